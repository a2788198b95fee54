/-
  No cell of these rows narrows 'for every input' (looked for: loops, veiled, ifaces, maps, wideKeys, modest, calm, conditions, laid).
  DERIVED. THE GIVEN ROWS OF THIS SEAT. 12 by the template 'for every input the law returns true; each argument reads behind the call as it read before'; 0 by the template 'total and deterministic' (their statements: YtkcodmafakjkfaaGreatTotals.lean).
  GIVEN WITH THE SEED: the statements are not yours to turn. If you find one false, say at which input.
  Laid BY PROGRAM, IN A SANDBOX (cutbox-rows.mjs): the forced cells as the released guide's own fill.sh prints them over the translation 6bb62b31c15af8ad… (all of the seat's roots in one cut). By AI agents, Wed Nov 11 2026. No macro, syntax, notation, axiom, sorry.
-/
import Derived.Test.YtkcodmafakjkfaaGreatChecked
import GoSem.Claim
import GoSem.ClaimJoined
import GoSem.ClaimMapViews
import Derived.JoinedTies
import Derived.KernelRfl
namespace Go.Proofs.YtkcodmafakjkfaaGreat
/- THE CELL 'sum', in the pinned program and in every row, IS THE sha256 OF THE DUMP (.gsa) THAT YtkcodmafakjkfaaGreatProg.lean LOADS. Nothing in Lean hashes anything: it is a label: what it is worth is what the hold of that sum in a sandbox is worth. -/
noncomputable def Tryz.pinned : Pinned := { name := "ytkcodmafakjkfaagreat", sum := "6bb62b31c15af8ada51f3386007d2d1802b3dfe37ef5fad05e5121c0bc1047bb", checked := Tryz.checked }
namespace Rows
def none {H : Type} : Left H := { results := [], args := [] }

/-- 'laws.FnExactTrianglesOf': WHATEVER THE INPUT: true; the input reads as it did. -/
def fnExactTrianglesOfSpec : ChangeSpec := { name := "fnExactTrianglesOf", fn := fun _ => fun
  | [d] => { results := [.lit (.bool true)], args := [d] }
  | _ => none }
def fnExactTrianglesOfRow : OpenClaim := { program := "ytkcodmafakjkfaagreat", sum := "6bb62b31c15af8ada51f3386007d2d1802b3dfe37ef5fad05e5121c0bc1047bb", func := "loop.example/g00991/laws.FnExactTrianglesOf", spec := "fnExactTrianglesOf", unfollowed := true, recurses := true, apart := false }
def FnExactTrianglesOfSaid : Prop := fnExactTrianglesOfRow.holds Tryz.pinned (OpenSpec.ofChange fnExactTrianglesOfSpec)

/-- ITS FALSE NEIGHBOUR: 'it returns false'. Refute it at one input. -/
def fnExactTrianglesOfWrong : ChangeSpec := { name := "fnExactTrianglesOf", fn := fun _ => fun
  | [d] => { results := [.lit (.bool false)], args := [d] }
  | _ => none }
def FnExactTrianglesOfWrongFalsely : Prop := fnExactTrianglesOfRow.holds Tryz.pinned (OpenSpec.ofChange fnExactTrianglesOfWrong)

/-- 'laws.FnExactTriangleOf': WHATEVER THE INPUT: true; the input reads as it did. -/
def fnExactTriangleOfSpec : ChangeSpec := { name := "fnExactTriangleOf", fn := fun _ => fun
  | [d1, d2] => { results := [.lit (.bool true)], args := [d1, d2] }
  | _ => none }
def fnExactTriangleOfRow : OpenClaim := { program := "ytkcodmafakjkfaagreat", sum := "6bb62b31c15af8ada51f3386007d2d1802b3dfe37ef5fad05e5121c0bc1047bb", func := "loop.example/g00991/laws.FnExactTriangleOf", spec := "fnExactTriangleOf", unfollowed := true, recurses := true, apart := false }
def FnExactTriangleOfSaid : Prop := fnExactTriangleOfRow.holds Tryz.pinned (OpenSpec.ofChange fnExactTriangleOfSpec)

/-- ITS FALSE NEIGHBOUR: 'it returns false'. Refute it at one input. -/
def fnExactTriangleOfWrong : ChangeSpec := { name := "fnExactTriangleOf", fn := fun _ => fun
  | [d1, d2] => { results := [.lit (.bool false)], args := [d1, d2] }
  | _ => none }
def FnExactTriangleOfWrongFalsely : Prop := fnExactTriangleOfRow.holds Tryz.pinned (OpenSpec.ofChange fnExactTriangleOfWrong)

/-- 'laws.FnExactColorsOf': WHATEVER THE INPUT: true; the input reads as it did. -/
def fnExactColorsOfSpec : ChangeSpec := { name := "fnExactColorsOf", fn := fun _ => fun
  | [d] => { results := [.lit (.bool true)], args := [d] }
  | _ => none }
def fnExactColorsOfRow : OpenClaim := { program := "ytkcodmafakjkfaagreat", sum := "6bb62b31c15af8ada51f3386007d2d1802b3dfe37ef5fad05e5121c0bc1047bb", func := "loop.example/g00991/laws.FnExactColorsOf", spec := "fnExactColorsOf", unfollowed := true, recurses := true, apart := false }
def FnExactColorsOfSaid : Prop := fnExactColorsOfRow.holds Tryz.pinned (OpenSpec.ofChange fnExactColorsOfSpec)

/-- ITS FALSE NEIGHBOUR: 'it returns false'. Refute it at one input. -/
def fnExactColorsOfWrong : ChangeSpec := { name := "fnExactColorsOf", fn := fun _ => fun
  | [d] => { results := [.lit (.bool false)], args := [d] }
  | _ => none }
def FnExactColorsOfWrongFalsely : Prop := fnExactColorsOfRow.holds Tryz.pinned (OpenSpec.ofChange fnExactColorsOfWrong)

/-- 'laws.FnExactColorCounts': WHATEVER THE INPUT: true; the input reads as it did. -/
def fnExactColorCountsSpec : ChangeSpec := { name := "fnExactColorCounts", fn := fun _ => fun
  | [d] => { results := [.lit (.bool true)], args := [d] }
  | _ => none }
def fnExactColorCountsRow : OpenClaim := { program := "ytkcodmafakjkfaagreat", sum := "6bb62b31c15af8ada51f3386007d2d1802b3dfe37ef5fad05e5121c0bc1047bb", func := "loop.example/g00991/laws.FnExactColorCounts", spec := "fnExactColorCounts", unfollowed := true, recurses := true, apart := false }
def FnExactColorCountsSaid : Prop := fnExactColorCountsRow.holds Tryz.pinned (OpenSpec.ofChange fnExactColorCountsSpec)

/-- ITS FALSE NEIGHBOUR: 'it returns false'. Refute it at one input. -/
def fnExactColorCountsWrong : ChangeSpec := { name := "fnExactColorCounts", fn := fun _ => fun
  | [d] => { results := [.lit (.bool false)], args := [d] }
  | _ => none }
def FnExactColorCountsWrongFalsely : Prop := fnExactColorCountsRow.holds Tryz.pinned (OpenSpec.ofChange fnExactColorCountsWrong)

/-- 'laws.FnExactRarestColor': WHATEVER THE INPUT: true; the input reads as it did. -/
def fnExactRarestColorSpec : ChangeSpec := { name := "fnExactRarestColor", fn := fun _ => fun
  | [d] => { results := [.lit (.bool true)], args := [d] }
  | _ => none }
def fnExactRarestColorRow : OpenClaim := { program := "ytkcodmafakjkfaagreat", sum := "6bb62b31c15af8ada51f3386007d2d1802b3dfe37ef5fad05e5121c0bc1047bb", func := "loop.example/g00991/laws.FnExactRarestColor", spec := "fnExactRarestColor", unfollowed := true, recurses := true, apart := false }
def FnExactRarestColorSaid : Prop := fnExactRarestColorRow.holds Tryz.pinned (OpenSpec.ofChange fnExactRarestColorSpec)

/-- ITS FALSE NEIGHBOUR: 'it returns false'. Refute it at one input. -/
def fnExactRarestColorWrong : ChangeSpec := { name := "fnExactRarestColor", fn := fun _ => fun
  | [d] => { results := [.lit (.bool false)], args := [d] }
  | _ => none }
def FnExactRarestColorWrongFalsely : Prop := fnExactRarestColorRow.holds Tryz.pinned (OpenSpec.ofChange fnExactRarestColorWrong)

/-- 'laws.FnExactAreColors': WHATEVER THE INPUT: true; the input reads as it did. -/
def fnExactAreColorsSpec : ChangeSpec := { name := "fnExactAreColors", fn := fun _ => fun
  | [d1, d2] => { results := [.lit (.bool true)], args := [d1, d2] }
  | _ => none }
def fnExactAreColorsRow : OpenClaim := { program := "ytkcodmafakjkfaagreat", sum := "6bb62b31c15af8ada51f3386007d2d1802b3dfe37ef5fad05e5121c0bc1047bb", func := "loop.example/g00991/laws.FnExactAreColors", spec := "fnExactAreColors", unfollowed := true, recurses := true, apart := false }
def FnExactAreColorsSaid : Prop := fnExactAreColorsRow.holds Tryz.pinned (OpenSpec.ofChange fnExactAreColorsSpec)

/-- ITS FALSE NEIGHBOUR: 'it returns false'. Refute it at one input. -/
def fnExactAreColorsWrong : ChangeSpec := { name := "fnExactAreColors", fn := fun _ => fun
  | [d1, d2] => { results := [.lit (.bool false)], args := [d1, d2] }
  | _ => none }
def FnExactAreColorsWrongFalsely : Prop := fnExactAreColorsRow.holds Tryz.pinned (OpenSpec.ofChange fnExactAreColorsWrong)

/-- 'laws.FnExactColorGuards': WHATEVER THE INPUT: true; the input reads as it did. -/
def fnExactColorGuardsSpec : ChangeSpec := { name := "fnExactColorGuards", fn := fun _ => fun
  | [d] => { results := [.lit (.bool true)], args := [d] }
  | _ => none }
def fnExactColorGuardsRow : OpenClaim := { program := "ytkcodmafakjkfaagreat", sum := "6bb62b31c15af8ada51f3386007d2d1802b3dfe37ef5fad05e5121c0bc1047bb", func := "loop.example/g00991/laws.FnExactColorGuards", spec := "fnExactColorGuards", unfollowed := true, recurses := true, apart := false }
def FnExactColorGuardsSaid : Prop := fnExactColorGuardsRow.holds Tryz.pinned (OpenSpec.ofChange fnExactColorGuardsSpec)

/-- ITS FALSE NEIGHBOUR: 'it returns false'. Refute it at one input. -/
def fnExactColorGuardsWrong : ChangeSpec := { name := "fnExactColorGuards", fn := fun _ => fun
  | [d] => { results := [.lit (.bool false)], args := [d] }
  | _ => none }
def FnExactColorGuardsWrongFalsely : Prop := fnExactColorGuardsRow.holds Tryz.pinned (OpenSpec.ofChange fnExactColorGuardsWrong)

/-- 'laws.FnExactNeighborsOf': WHATEVER THE INPUT: true; the input reads as it did. -/
def fnExactNeighborsOfSpec : ChangeSpec := { name := "fnExactNeighborsOf", fn := fun _ => fun
  | [d1, d2] => { results := [.lit (.bool true)], args := [d1, d2] }
  | _ => none }
def fnExactNeighborsOfRow : OpenClaim := { program := "ytkcodmafakjkfaagreat", sum := "6bb62b31c15af8ada51f3386007d2d1802b3dfe37ef5fad05e5121c0bc1047bb", func := "loop.example/g00991/laws.FnExactNeighborsOf", spec := "fnExactNeighborsOf", unfollowed := true, recurses := true, apart := false }
def FnExactNeighborsOfSaid : Prop := fnExactNeighborsOfRow.holds Tryz.pinned (OpenSpec.ofChange fnExactNeighborsOfSpec)

/-- ITS FALSE NEIGHBOUR: 'it returns false'. Refute it at one input. -/
def fnExactNeighborsOfWrong : ChangeSpec := { name := "fnExactNeighborsOf", fn := fun _ => fun
  | [d1, d2] => { results := [.lit (.bool false)], args := [d1, d2] }
  | _ => none }
def FnExactNeighborsOfWrongFalsely : Prop := fnExactNeighborsOfRow.holds Tryz.pinned (OpenSpec.ofChange fnExactNeighborsOfWrong)

/-- 'laws.FnExactTreeEdges': WHATEVER THE INPUT: true; the input reads as it did. -/
def fnExactTreeEdgesSpec : ChangeSpec := { name := "fnExactTreeEdges", fn := fun _ => fun
  | [d] => { results := [.lit (.bool true)], args := [d] }
  | _ => none }
def fnExactTreeEdgesRow : OpenClaim := { program := "ytkcodmafakjkfaagreat", sum := "6bb62b31c15af8ada51f3386007d2d1802b3dfe37ef5fad05e5121c0bc1047bb", func := "loop.example/g00991/laws.FnExactTreeEdges", spec := "fnExactTreeEdges", unfollowed := true, recurses := true, apart := false }
def FnExactTreeEdgesSaid : Prop := fnExactTreeEdgesRow.holds Tryz.pinned (OpenSpec.ofChange fnExactTreeEdgesSpec)

/-- ITS FALSE NEIGHBOUR: 'it returns false'. Refute it at one input. -/
def fnExactTreeEdgesWrong : ChangeSpec := { name := "fnExactTreeEdges", fn := fun _ => fun
  | [d] => { results := [.lit (.bool false)], args := [d] }
  | _ => none }
def FnExactTreeEdgesWrongFalsely : Prop := fnExactTreeEdgesRow.holds Tryz.pinned (OpenSpec.ofChange fnExactTreeEdgesWrong)

/-- 'laws.FnExactLeafTriangles': WHATEVER THE INPUT: true; the input reads as it did. -/
def fnExactLeafTrianglesSpec : ChangeSpec := { name := "fnExactLeafTriangles", fn := fun _ => fun
  | [d] => { results := [.lit (.bool true)], args := [d] }
  | _ => none }
def fnExactLeafTrianglesRow : OpenClaim := { program := "ytkcodmafakjkfaagreat", sum := "6bb62b31c15af8ada51f3386007d2d1802b3dfe37ef5fad05e5121c0bc1047bb", func := "loop.example/g00991/laws.FnExactLeafTriangles", spec := "fnExactLeafTriangles", unfollowed := true, recurses := true, apart := false }
def FnExactLeafTrianglesSaid : Prop := fnExactLeafTrianglesRow.holds Tryz.pinned (OpenSpec.ofChange fnExactLeafTrianglesSpec)

/-- ITS FALSE NEIGHBOUR: 'it returns false'. Refute it at one input. -/
def fnExactLeafTrianglesWrong : ChangeSpec := { name := "fnExactLeafTriangles", fn := fun _ => fun
  | [d] => { results := [.lit (.bool false)], args := [d] }
  | _ => none }
def FnExactLeafTrianglesWrongFalsely : Prop := fnExactLeafTrianglesRow.holds Tryz.pinned (OpenSpec.ofChange fnExactLeafTrianglesWrong)

/-- 'laws.FnExactTreeWay': WHATEVER THE INPUT: true; the input reads as it did. -/
def fnExactTreeWaySpec : ChangeSpec := { name := "fnExactTreeWay", fn := fun _ => fun
  | [d1, d2, d3] => { results := [.lit (.bool true)], args := [d1, d2, d3] }
  | _ => none }
def fnExactTreeWayRow : OpenClaim := { program := "ytkcodmafakjkfaagreat", sum := "6bb62b31c15af8ada51f3386007d2d1802b3dfe37ef5fad05e5121c0bc1047bb", func := "loop.example/g00991/laws.FnExactTreeWay", spec := "fnExactTreeWay", unfollowed := true, recurses := true, apart := false }
def FnExactTreeWaySaid : Prop := fnExactTreeWayRow.holds Tryz.pinned (OpenSpec.ofChange fnExactTreeWaySpec)

/-- ITS FALSE NEIGHBOUR: 'it returns false'. Refute it at one input. -/
def fnExactTreeWayWrong : ChangeSpec := { name := "fnExactTreeWay", fn := fun _ => fun
  | [d1, d2, d3] => { results := [.lit (.bool false)], args := [d1, d2, d3] }
  | _ => none }
def FnExactTreeWayWrongFalsely : Prop := fnExactTreeWayRow.holds Tryz.pinned (OpenSpec.ofChange fnExactTreeWayWrong)

/-- 'laws.FnExactWalkBetween': WHATEVER THE INPUT: true; the input reads as it did. -/
def fnExactWalkBetweenSpec : ChangeSpec := { name := "fnExactWalkBetween", fn := fun _ => fun
  | [d1, d2, d3] => { results := [.lit (.bool true)], args := [d1, d2, d3] }
  | _ => none }
def fnExactWalkBetweenRow : OpenClaim := { program := "ytkcodmafakjkfaagreat", sum := "6bb62b31c15af8ada51f3386007d2d1802b3dfe37ef5fad05e5121c0bc1047bb", func := "loop.example/g00991/laws.FnExactWalkBetween", spec := "fnExactWalkBetween", unfollowed := true, recurses := true, apart := false }
def FnExactWalkBetweenSaid : Prop := fnExactWalkBetweenRow.holds Tryz.pinned (OpenSpec.ofChange fnExactWalkBetweenSpec)

/-- ITS FALSE NEIGHBOUR: 'it returns false'. Refute it at one input. -/
def fnExactWalkBetweenWrong : ChangeSpec := { name := "fnExactWalkBetween", fn := fun _ => fun
  | [d1, d2, d3] => { results := [.lit (.bool false)], args := [d1, d2, d3] }
  | _ => none }
def FnExactWalkBetweenWrongFalsely : Prop := fnExactWalkBetweenRow.holds Tryz.pinned (OpenSpec.ofChange fnExactWalkBetweenWrong)

/- THE SECOND FORM. 'bulk': how many values and letters a reading holds, each counted each time it is reached (what is shared counts as often as it is met; a slice's spare places count too). A statement '..UptoSaid' is the law's where the arguments, and the package variables that the reading takes, are together of bulk at most 1048576: NARROWER than '..Said'. Prove '..Said' where nothing that the law and all that it calls make is longer than what came in: it says more and counts as full. Else prove '..UptoSaid'. A law counts once. -/
mutual
def uptoBulk {H : Type} : DataW H → Nat
  | .lit (.string bytes) => bytes.length + 1
  | .lit _ => 1
  | .nil => 1
  | .ptr d => uptoBulk d + 1
  | .slice elems spare => uptoBulkAll elems + uptoBulkAll spare + 1
  | .agg parts => uptoBulkAll parts + 1
  | .iface _ d => uptoBulk d + 1
  | .map entries => uptoBulkEntries entries + 1
  | .held _ => 1
def uptoBulkAll {H : Type} : List (DataW H) → Nat
  | [] => 0
  | d :: r => uptoBulk d + uptoBulkAll r
def uptoBulkEntries {H : Type} : List (Lit × DataW H) → Nat
  | [] => 0
  | x :: r => uptoBulkEntry x + uptoBulkEntries r
def uptoBulkEntry {H : Type} : Lit × DataW H → Nat
  | (.string bytes, d) => bytes.length + uptoBulk d + 1
  | (_, d) => uptoBulk d + 1
 end
def uptoSmall : (H : Type) → List (DataW H) → Bool := fun _ ds => decide (uptoBulkAll ds ≤ 1048576)
def OpenSpec.upto (s : _root_.Go.ChangeSpec) : _root_.Go.OpenSpec := { _root_.Go.OpenSpec.ofChange s with cond := some uptoSmall }

/-- 'laws.FnExactTrianglesOf', WHERE WHAT IT READS IS OF BULK AT MOST 1048576: true; the input reads as it did. -/
def fnExactTrianglesOfUptoRow : OpenClaim := { program := "ytkcodmafakjkfaagreat", sum := "6bb62b31c15af8ada51f3386007d2d1802b3dfe37ef5fad05e5121c0bc1047bb", func := "loop.example/g00991/laws.FnExactTrianglesOf", spec := "fnExactTrianglesOf", unfollowed := true, recurses := true, apart := false, narrowed := true }
def FnExactTrianglesOfUptoSaid : Prop := fnExactTrianglesOfUptoRow.holds Tryz.pinned (OpenSpec.upto fnExactTrianglesOfSpec)

/-- 'laws.FnExactTriangleOf', WHERE WHAT IT READS IS OF BULK AT MOST 1048576: true; the input reads as it did. -/
def fnExactTriangleOfUptoRow : OpenClaim := { program := "ytkcodmafakjkfaagreat", sum := "6bb62b31c15af8ada51f3386007d2d1802b3dfe37ef5fad05e5121c0bc1047bb", func := "loop.example/g00991/laws.FnExactTriangleOf", spec := "fnExactTriangleOf", unfollowed := true, recurses := true, apart := false, narrowed := true }
def FnExactTriangleOfUptoSaid : Prop := fnExactTriangleOfUptoRow.holds Tryz.pinned (OpenSpec.upto fnExactTriangleOfSpec)

/-- 'laws.FnExactColorsOf', WHERE WHAT IT READS IS OF BULK AT MOST 1048576: true; the input reads as it did. -/
def fnExactColorsOfUptoRow : OpenClaim := { program := "ytkcodmafakjkfaagreat", sum := "6bb62b31c15af8ada51f3386007d2d1802b3dfe37ef5fad05e5121c0bc1047bb", func := "loop.example/g00991/laws.FnExactColorsOf", spec := "fnExactColorsOf", unfollowed := true, recurses := true, apart := false, narrowed := true }
def FnExactColorsOfUptoSaid : Prop := fnExactColorsOfUptoRow.holds Tryz.pinned (OpenSpec.upto fnExactColorsOfSpec)

/-- 'laws.FnExactColorCounts', WHERE WHAT IT READS IS OF BULK AT MOST 1048576: true; the input reads as it did. -/
def fnExactColorCountsUptoRow : OpenClaim := { program := "ytkcodmafakjkfaagreat", sum := "6bb62b31c15af8ada51f3386007d2d1802b3dfe37ef5fad05e5121c0bc1047bb", func := "loop.example/g00991/laws.FnExactColorCounts", spec := "fnExactColorCounts", unfollowed := true, recurses := true, apart := false, narrowed := true }
def FnExactColorCountsUptoSaid : Prop := fnExactColorCountsUptoRow.holds Tryz.pinned (OpenSpec.upto fnExactColorCountsSpec)

/-- 'laws.FnExactRarestColor', WHERE WHAT IT READS IS OF BULK AT MOST 1048576: true; the input reads as it did. -/
def fnExactRarestColorUptoRow : OpenClaim := { program := "ytkcodmafakjkfaagreat", sum := "6bb62b31c15af8ada51f3386007d2d1802b3dfe37ef5fad05e5121c0bc1047bb", func := "loop.example/g00991/laws.FnExactRarestColor", spec := "fnExactRarestColor", unfollowed := true, recurses := true, apart := false, narrowed := true }
def FnExactRarestColorUptoSaid : Prop := fnExactRarestColorUptoRow.holds Tryz.pinned (OpenSpec.upto fnExactRarestColorSpec)

/-- 'laws.FnExactAreColors', WHERE WHAT IT READS IS OF BULK AT MOST 1048576: true; the input reads as it did. -/
def fnExactAreColorsUptoRow : OpenClaim := { program := "ytkcodmafakjkfaagreat", sum := "6bb62b31c15af8ada51f3386007d2d1802b3dfe37ef5fad05e5121c0bc1047bb", func := "loop.example/g00991/laws.FnExactAreColors", spec := "fnExactAreColors", unfollowed := true, recurses := true, apart := false, narrowed := true }
def FnExactAreColorsUptoSaid : Prop := fnExactAreColorsUptoRow.holds Tryz.pinned (OpenSpec.upto fnExactAreColorsSpec)

/-- 'laws.FnExactColorGuards', WHERE WHAT IT READS IS OF BULK AT MOST 1048576: true; the input reads as it did. -/
def fnExactColorGuardsUptoRow : OpenClaim := { program := "ytkcodmafakjkfaagreat", sum := "6bb62b31c15af8ada51f3386007d2d1802b3dfe37ef5fad05e5121c0bc1047bb", func := "loop.example/g00991/laws.FnExactColorGuards", spec := "fnExactColorGuards", unfollowed := true, recurses := true, apart := false, narrowed := true }
def FnExactColorGuardsUptoSaid : Prop := fnExactColorGuardsUptoRow.holds Tryz.pinned (OpenSpec.upto fnExactColorGuardsSpec)

/-- 'laws.FnExactNeighborsOf', WHERE WHAT IT READS IS OF BULK AT MOST 1048576: true; the input reads as it did. -/
def fnExactNeighborsOfUptoRow : OpenClaim := { program := "ytkcodmafakjkfaagreat", sum := "6bb62b31c15af8ada51f3386007d2d1802b3dfe37ef5fad05e5121c0bc1047bb", func := "loop.example/g00991/laws.FnExactNeighborsOf", spec := "fnExactNeighborsOf", unfollowed := true, recurses := true, apart := false, narrowed := true }
def FnExactNeighborsOfUptoSaid : Prop := fnExactNeighborsOfUptoRow.holds Tryz.pinned (OpenSpec.upto fnExactNeighborsOfSpec)

/-- 'laws.FnExactTreeEdges', WHERE WHAT IT READS IS OF BULK AT MOST 1048576: true; the input reads as it did. -/
def fnExactTreeEdgesUptoRow : OpenClaim := { program := "ytkcodmafakjkfaagreat", sum := "6bb62b31c15af8ada51f3386007d2d1802b3dfe37ef5fad05e5121c0bc1047bb", func := "loop.example/g00991/laws.FnExactTreeEdges", spec := "fnExactTreeEdges", unfollowed := true, recurses := true, apart := false, narrowed := true }
def FnExactTreeEdgesUptoSaid : Prop := fnExactTreeEdgesUptoRow.holds Tryz.pinned (OpenSpec.upto fnExactTreeEdgesSpec)

/-- 'laws.FnExactLeafTriangles', WHERE WHAT IT READS IS OF BULK AT MOST 1048576: true; the input reads as it did. -/
def fnExactLeafTrianglesUptoRow : OpenClaim := { program := "ytkcodmafakjkfaagreat", sum := "6bb62b31c15af8ada51f3386007d2d1802b3dfe37ef5fad05e5121c0bc1047bb", func := "loop.example/g00991/laws.FnExactLeafTriangles", spec := "fnExactLeafTriangles", unfollowed := true, recurses := true, apart := false, narrowed := true }
def FnExactLeafTrianglesUptoSaid : Prop := fnExactLeafTrianglesUptoRow.holds Tryz.pinned (OpenSpec.upto fnExactLeafTrianglesSpec)

/-- 'laws.FnExactTreeWay', WHERE WHAT IT READS IS OF BULK AT MOST 1048576: true; the input reads as it did. -/
def fnExactTreeWayUptoRow : OpenClaim := { program := "ytkcodmafakjkfaagreat", sum := "6bb62b31c15af8ada51f3386007d2d1802b3dfe37ef5fad05e5121c0bc1047bb", func := "loop.example/g00991/laws.FnExactTreeWay", spec := "fnExactTreeWay", unfollowed := true, recurses := true, apart := false, narrowed := true }
def FnExactTreeWayUptoSaid : Prop := fnExactTreeWayUptoRow.holds Tryz.pinned (OpenSpec.upto fnExactTreeWaySpec)

/-- 'laws.FnExactWalkBetween', WHERE WHAT IT READS IS OF BULK AT MOST 1048576: true; the input reads as it did. -/
def fnExactWalkBetweenUptoRow : OpenClaim := { program := "ytkcodmafakjkfaagreat", sum := "6bb62b31c15af8ada51f3386007d2d1802b3dfe37ef5fad05e5121c0bc1047bb", func := "loop.example/g00991/laws.FnExactWalkBetween", spec := "fnExactWalkBetween", unfollowed := true, recurses := true, apart := false, narrowed := true }
def FnExactWalkBetweenUptoSaid : Prop := fnExactWalkBetweenUptoRow.holds Tryz.pinned (OpenSpec.upto fnExactWalkBetweenSpec)

end Rows
end Go.Proofs.YtkcodmafakjkfaaGreat
