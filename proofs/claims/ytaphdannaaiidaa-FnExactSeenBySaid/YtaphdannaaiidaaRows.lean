/-
  No cell of these rows narrows 'for every input' (looked for: loops, veiled, ifaces, maps, wideKeys, modest, calm, conditions, laid).
  DERIVED. THE GIVEN ROWS OF THIS SEAT. 12 by the template 'for every input the law returns true; each argument reads behind the call as it read before'; 0 by the template 'total and deterministic' (their statements: YtaphdannaaiidaaTotals.lean).
  GIVEN WITH THE SEED: the statements are not yours to turn. If you find one false, say at which input.
  Laid BY PROGRAM, IN A SANDBOX (cutbox-rows.mjs): the forced cells as the released guide's own fill.sh prints them over the translation e6e06cb300b3c819… (all of the seat's roots in one cut). By AI agents, Wed Nov 11 2026. No macro, syntax, notation, axiom, sorry.
-/
import Derived.Test.YtaphdannaaiidaaChecked
import GoSem.Claim
import GoSem.ClaimJoined
import GoSem.ClaimMapViews
import Derived.JoinedTies
import Derived.KernelRfl
namespace Go.Proofs.Ytaphdannaaiidaa
/- THE CELL 'sum', in the pinned program and in every row, IS THE sha256 OF THE DUMP (.gsa) THAT YtaphdannaaiidaaProg.lean LOADS. Nothing in Lean hashes anything: it is a label: what it is worth is what the hold of that sum in a sandbox is worth. -/
noncomputable def Try.pinned : Pinned := { name := "ytaphdannaaiidaa", sum := "e6e06cb300b3c819e36b27fea71b6f215cb65179c2632fa2d3de0adf65e4a0f6", checked := Try.checked }
namespace Rows
def none {H : Type} : Left H := { results := [], args := [] }

/-- 'laws.FnExactWallOf': WHATEVER THE INPUT: true; the input reads as it did. -/
def fnExactWallOfSpec : ChangeSpec := { name := "fnExactWallOf", fn := fun _ => fun
  | [d1, d2] => { results := [.lit (.bool true)], args := [d1, d2] }
  | _ => none }
def fnExactWallOfRow : OpenClaim := { program := "ytaphdannaaiidaa", sum := "e6e06cb300b3c819e36b27fea71b6f215cb65179c2632fa2d3de0adf65e4a0f6", func := "loop.example/g00991/laws.FnExactWallOf", spec := "fnExactWallOf", apart := false }
def FnExactWallOfSaid : Prop := fnExactWallOfRow.holds Try.pinned (OpenSpec.ofChange fnExactWallOfSpec)

/-- ITS FALSE NEIGHBOUR: 'it returns false'. Refute it at one input. -/
def fnExactWallOfWrong : ChangeSpec := { name := "fnExactWallOf", fn := fun _ => fun
  | [d1, d2] => { results := [.lit (.bool false)], args := [d1, d2] }
  | _ => none }
def FnExactWallOfWrongFalsely : Prop := fnExactWallOfRow.holds Try.pinned (OpenSpec.ofChange fnExactWallOfWrong)

/-- 'laws.FnExactWallAt': WHATEVER THE INPUT: true; the input reads as it did. -/
def fnExactWallAtSpec : ChangeSpec := { name := "fnExactWallAt", fn := fun _ => fun
  | [d1, d2] => { results := [.lit (.bool true)], args := [d1, d2] }
  | _ => none }
def fnExactWallAtRow : OpenClaim := { program := "ytaphdannaaiidaa", sum := "e6e06cb300b3c819e36b27fea71b6f215cb65179c2632fa2d3de0adf65e4a0f6", func := "loop.example/g00991/laws.FnExactWallAt", spec := "fnExactWallAt", unfollowed := true, recurses := true, apart := false }
def FnExactWallAtSaid : Prop := fnExactWallAtRow.holds Try.pinned (OpenSpec.ofChange fnExactWallAtSpec)

/-- ITS FALSE NEIGHBOUR: 'it returns false'. Refute it at one input. -/
def fnExactWallAtWrong : ChangeSpec := { name := "fnExactWallAt", fn := fun _ => fun
  | [d1, d2] => { results := [.lit (.bool false)], args := [d1, d2] }
  | _ => none }
def FnExactWallAtWrongFalsely : Prop := fnExactWallAtRow.holds Try.pinned (OpenSpec.ofChange fnExactWallAtWrong)

/-- 'laws.FnExactAreApart': WHATEVER THE INPUT: true; the input reads as it did. -/
def fnExactAreApartSpec : ChangeSpec := { name := "fnExactAreApart", fn := fun _ => fun
  | [d1, d2] => { results := [.lit (.bool true)], args := [d1, d2] }
  | _ => none }
def fnExactAreApartRow : OpenClaim := { program := "ytaphdannaaiidaa", sum := "e6e06cb300b3c819e36b27fea71b6f215cb65179c2632fa2d3de0adf65e4a0f6", func := "loop.example/g00991/laws.FnExactAreApart", spec := "fnExactAreApart", unfollowed := true, recurses := true, apart := false }
def FnExactAreApartSaid : Prop := fnExactAreApartRow.holds Try.pinned (OpenSpec.ofChange fnExactAreApartSpec)

/-- ITS FALSE NEIGHBOUR: 'it returns false'. Refute it at one input. -/
def fnExactAreApartWrong : ChangeSpec := { name := "fnExactAreApart", fn := fun _ => fun
  | [d1, d2] => { results := [.lit (.bool false)], args := [d1, d2] }
  | _ => none }
def FnExactAreApartWrongFalsely : Prop := fnExactAreApartRow.holds Try.pinned (OpenSpec.ofChange fnExactAreApartWrong)

/-- 'laws.FnExactIsReflex': WHATEVER THE INPUT: true; the input reads as it did. -/
def fnExactIsReflexSpec : ChangeSpec := { name := "fnExactIsReflex", fn := fun _ => fun
  | [d1, d2] => { results := [.lit (.bool true)], args := [d1, d2] }
  | _ => none }
def fnExactIsReflexRow : OpenClaim := { program := "ytaphdannaaiidaa", sum := "e6e06cb300b3c819e36b27fea71b6f215cb65179c2632fa2d3de0adf65e4a0f6", func := "loop.example/g00991/laws.FnExactIsReflex", spec := "fnExactIsReflex", apart := false }
def FnExactIsReflexSaid : Prop := fnExactIsReflexRow.holds Try.pinned (OpenSpec.ofChange fnExactIsReflexSpec)

/-- ITS FALSE NEIGHBOUR: 'it returns false'. Refute it at one input. -/
def fnExactIsReflexWrong : ChangeSpec := { name := "fnExactIsReflex", fn := fun _ => fun
  | [d1, d2] => { results := [.lit (.bool false)], args := [d1, d2] }
  | _ => none }
def FnExactIsReflexWrongFalsely : Prop := fnExactIsReflexRow.holds Try.pinned (OpenSpec.ofChange fnExactIsReflexWrong)

/-- 'laws.FnExactIsConvex': WHATEVER THE INPUT: true; the input reads as it did. -/
def fnExactIsConvexSpec : ChangeSpec := { name := "fnExactIsConvex", fn := fun _ => fun
  | [d] => { results := [.lit (.bool true)], args := [d] }
  | _ => none }
def fnExactIsConvexRow : OpenClaim := { program := "ytaphdannaaiidaa", sum := "e6e06cb300b3c819e36b27fea71b6f215cb65179c2632fa2d3de0adf65e4a0f6", func := "loop.example/g00991/laws.FnExactIsConvex", spec := "fnExactIsConvex", unfollowed := true, recurses := true, apart := false }
def FnExactIsConvexSaid : Prop := fnExactIsConvexRow.holds Try.pinned (OpenSpec.ofChange fnExactIsConvexSpec)

/-- ITS FALSE NEIGHBOUR: 'it returns false'. Refute it at one input. -/
def fnExactIsConvexWrong : ChangeSpec := { name := "fnExactIsConvex", fn := fun _ => fun
  | [d] => { results := [.lit (.bool false)], args := [d] }
  | _ => none }
def FnExactIsConvexWrongFalsely : Prop := fnExactIsConvexRow.holds Try.pinned (OpenSpec.ofChange fnExactIsConvexWrong)

/-- 'laws.FnExactTurnSum': WHATEVER THE INPUT: true; the input reads as it did. -/
def fnExactTurnSumSpec : ChangeSpec := { name := "fnExactTurnSum", fn := fun _ => fun
  | [d] => { results := [.lit (.bool true)], args := [d] }
  | _ => none }
def fnExactTurnSumRow : OpenClaim := { program := "ytaphdannaaiidaa", sum := "e6e06cb300b3c819e36b27fea71b6f215cb65179c2632fa2d3de0adf65e4a0f6", func := "loop.example/g00991/laws.FnExactTurnSum", spec := "fnExactTurnSum", unfollowed := true, recurses := true, apart := false }
def FnExactTurnSumSaid : Prop := fnExactTurnSumRow.holds Try.pinned (OpenSpec.ofChange fnExactTurnSumSpec)

/-- ITS FALSE NEIGHBOUR: 'it returns false'. Refute it at one input. -/
def fnExactTurnSumWrong : ChangeSpec := { name := "fnExactTurnSum", fn := fun _ => fun
  | [d] => { results := [.lit (.bool false)], args := [d] }
  | _ => none }
def FnExactTurnSumWrongFalsely : Prop := fnExactTurnSumRow.holds Try.pinned (OpenSpec.ofChange fnExactTurnSumWrong)

/-- 'laws.FnExactIsRectangular': WHATEVER THE INPUT: true; the input reads as it did. -/
def fnExactIsRectangularSpec : ChangeSpec := { name := "fnExactIsRectangular", fn := fun _ => fun
  | [d] => { results := [.lit (.bool true)], args := [d] }
  | _ => none }
def fnExactIsRectangularRow : OpenClaim := { program := "ytaphdannaaiidaa", sum := "e6e06cb300b3c819e36b27fea71b6f215cb65179c2632fa2d3de0adf65e4a0f6", func := "loop.example/g00991/laws.FnExactIsRectangular", spec := "fnExactIsRectangular", apart := false }
def FnExactIsRectangularSaid : Prop := fnExactIsRectangularRow.holds Try.pinned (OpenSpec.ofChange fnExactIsRectangularSpec)

/-- ITS FALSE NEIGHBOUR: 'it returns false'. Refute it at one input. -/
def fnExactIsRectangularWrong : ChangeSpec := { name := "fnExactIsRectangular", fn := fun _ => fun
  | [d] => { results := [.lit (.bool false)], args := [d] }
  | _ => none }
def FnExactIsRectangularWrongFalsely : Prop := fnExactIsRectangularRow.holds Try.pinned (OpenSpec.ofChange fnExactIsRectangularWrong)

/-- 'laws.FnExactSees': WHATEVER THE INPUT: true; the input reads as it did. -/
def fnExactSeesSpec : ChangeSpec := { name := "fnExactSees", fn := fun _ => fun
  | [d1, d2, d3] => { results := [.lit (.bool true)], args := [d1, d2, d3] }
  | _ => none }
def fnExactSeesRow : OpenClaim := { program := "ytaphdannaaiidaa", sum := "e6e06cb300b3c819e36b27fea71b6f215cb65179c2632fa2d3de0adf65e4a0f6", func := "loop.example/g00991/laws.FnExactSees", spec := "fnExactSees", unfollowed := true, recurses := true, apart := false }
def FnExactSeesSaid : Prop := fnExactSeesRow.holds Try.pinned (OpenSpec.ofChange fnExactSeesSpec)

/-- ITS FALSE NEIGHBOUR: 'it returns false'. Refute it at one input. -/
def fnExactSeesWrong : ChangeSpec := { name := "fnExactSees", fn := fun _ => fun
  | [d1, d2, d3] => { results := [.lit (.bool false)], args := [d1, d2, d3] }
  | _ => none }
def FnExactSeesWrongFalsely : Prop := fnExactSeesRow.holds Try.pinned (OpenSpec.ofChange fnExactSeesWrong)

/-- 'laws.FnExactBlockingWall': WHATEVER THE INPUT: true; the input reads as it did. -/
def fnExactBlockingWallSpec : ChangeSpec := { name := "fnExactBlockingWall", fn := fun _ => fun
  | [d1, d2, d3] => { results := [.lit (.bool true)], args := [d1, d2, d3] }
  | _ => none }
def fnExactBlockingWallRow : OpenClaim := { program := "ytaphdannaaiidaa", sum := "e6e06cb300b3c819e36b27fea71b6f215cb65179c2632fa2d3de0adf65e4a0f6", func := "loop.example/g00991/laws.FnExactBlockingWall", spec := "fnExactBlockingWall", unfollowed := true, recurses := true, apart := false }
def FnExactBlockingWallSaid : Prop := fnExactBlockingWallRow.holds Try.pinned (OpenSpec.ofChange fnExactBlockingWallSpec)

/-- ITS FALSE NEIGHBOUR: 'it returns false'. Refute it at one input. -/
def fnExactBlockingWallWrong : ChangeSpec := { name := "fnExactBlockingWall", fn := fun _ => fun
  | [d1, d2, d3] => { results := [.lit (.bool false)], args := [d1, d2, d3] }
  | _ => none }
def FnExactBlockingWallWrongFalsely : Prop := fnExactBlockingWallRow.holds Try.pinned (OpenSpec.ofChange fnExactBlockingWallWrong)

/-- 'laws.FnExactSeenBy': WHATEVER THE INPUT: true; the input reads as it did. -/
def fnExactSeenBySpec : ChangeSpec := { name := "fnExactSeenBy", fn := fun _ => fun
  | [d1, d2] => { results := [.lit (.bool true)], args := [d1, d2] }
  | _ => none }
def fnExactSeenByRow : OpenClaim := { program := "ytaphdannaaiidaa", sum := "e6e06cb300b3c819e36b27fea71b6f215cb65179c2632fa2d3de0adf65e4a0f6", func := "loop.example/g00991/laws.FnExactSeenBy", spec := "fnExactSeenBy", unfollowed := true, recurses := true, apart := false }
def FnExactSeenBySaid : Prop := fnExactSeenByRow.holds Try.pinned (OpenSpec.ofChange fnExactSeenBySpec)

/-- ITS FALSE NEIGHBOUR: 'it returns false'. Refute it at one input. -/
def fnExactSeenByWrong : ChangeSpec := { name := "fnExactSeenBy", fn := fun _ => fun
  | [d1, d2] => { results := [.lit (.bool false)], args := [d1, d2] }
  | _ => none }
def FnExactSeenByWrongFalsely : Prop := fnExactSeenByRow.holds Try.pinned (OpenSpec.ofChange fnExactSeenByWrong)

/-- 'laws.FnExactCornersSeen': WHATEVER THE INPUT: true; the input reads as it did. -/
def fnExactCornersSeenSpec : ChangeSpec := { name := "fnExactCornersSeen", fn := fun _ => fun
  | [d1, d2] => { results := [.lit (.bool true)], args := [d1, d2] }
  | _ => none }
def fnExactCornersSeenRow : OpenClaim := { program := "ytaphdannaaiidaa", sum := "e6e06cb300b3c819e36b27fea71b6f215cb65179c2632fa2d3de0adf65e4a0f6", func := "loop.example/g00991/laws.FnExactCornersSeen", spec := "fnExactCornersSeen", unfollowed := true, recurses := true, apart := false }
def FnExactCornersSeenSaid : Prop := fnExactCornersSeenRow.holds Try.pinned (OpenSpec.ofChange fnExactCornersSeenSpec)

/-- ITS FALSE NEIGHBOUR: 'it returns false'. Refute it at one input. -/
def fnExactCornersSeenWrong : ChangeSpec := { name := "fnExactCornersSeen", fn := fun _ => fun
  | [d1, d2] => { results := [.lit (.bool false)], args := [d1, d2] }
  | _ => none }
def FnExactCornersSeenWrongFalsely : Prop := fnExactCornersSeenRow.holds Try.pinned (OpenSpec.ofChange fnExactCornersSeenWrong)

/-- 'laws.FnExactReflexCorners': WHATEVER THE INPUT: true; the input reads as it did. -/
def fnExactReflexCornersSpec : ChangeSpec := { name := "fnExactReflexCorners", fn := fun _ => fun
  | [d] => { results := [.lit (.bool true)], args := [d] }
  | _ => none }
def fnExactReflexCornersRow : OpenClaim := { program := "ytaphdannaaiidaa", sum := "e6e06cb300b3c819e36b27fea71b6f215cb65179c2632fa2d3de0adf65e4a0f6", func := "loop.example/g00991/laws.FnExactReflexCorners", spec := "fnExactReflexCorners", unfollowed := true, recurses := true, apart := false }
def FnExactReflexCornersSaid : Prop := fnExactReflexCornersRow.holds Try.pinned (OpenSpec.ofChange fnExactReflexCornersSpec)

/-- ITS FALSE NEIGHBOUR: 'it returns false'. Refute it at one input. -/
def fnExactReflexCornersWrong : ChangeSpec := { name := "fnExactReflexCorners", fn := fun _ => fun
  | [d] => { results := [.lit (.bool false)], args := [d] }
  | _ => none }
def FnExactReflexCornersWrongFalsely : Prop := fnExactReflexCornersRow.holds Try.pinned (OpenSpec.ofChange fnExactReflexCornersWrong)

/- THE SECOND FORM. 'bulk': how many values and letters a reading holds, each counted each time it is reached (what is shared counts as often as it is met; a slice's spare places count too). A statement '..UptoSaid' is the law's where the arguments, and the package variables that the reading takes, are together of bulk at most 1048576: NARROWER than '..Said'. Prove '..Said' where nothing that the law and all that it calls make is longer than what came in: it says more and counts as full. Else prove '..UptoSaid'. A law counts once. -/
mutual
def uptoBulk {H : Type} : DataW H → Nat
  | .lit (.string bytes) => bytes.length + 1
  | .lit _ => 1
  | .nil => 1
  | .ptr d => uptoBulk d + 1
  | .slice elems spare => uptoBulkAll elems + uptoBulkAll spare + 1
  | .agg parts => uptoBulkAll parts + 1
  | .iface _ d => uptoBulk d + 1
  | .map entries => uptoBulkEntries entries + 1
  | .held _ => 1
def uptoBulkAll {H : Type} : List (DataW H) → Nat
  | [] => 0
  | d :: r => uptoBulk d + uptoBulkAll r
def uptoBulkEntries {H : Type} : List (Lit × DataW H) → Nat
  | [] => 0
  | x :: r => uptoBulkEntry x + uptoBulkEntries r
def uptoBulkEntry {H : Type} : Lit × DataW H → Nat
  | (.string bytes, d) => bytes.length + uptoBulk d + 1
  | (_, d) => uptoBulk d + 1
 end
def uptoSmall : (H : Type) → List (DataW H) → Bool := fun _ ds => decide (uptoBulkAll ds ≤ 1048576)
def OpenSpec.upto (s : _root_.Go.ChangeSpec) : _root_.Go.OpenSpec := { _root_.Go.OpenSpec.ofChange s with cond := some uptoSmall }

/-- 'laws.FnExactWallOf', WHERE WHAT IT READS IS OF BULK AT MOST 1048576: true; the input reads as it did. -/
def fnExactWallOfUptoRow : OpenClaim := { program := "ytaphdannaaiidaa", sum := "e6e06cb300b3c819e36b27fea71b6f215cb65179c2632fa2d3de0adf65e4a0f6", func := "loop.example/g00991/laws.FnExactWallOf", spec := "fnExactWallOf", apart := false, narrowed := true }
def FnExactWallOfUptoSaid : Prop := fnExactWallOfUptoRow.holds Try.pinned (OpenSpec.upto fnExactWallOfSpec)

/-- 'laws.FnExactWallAt', WHERE WHAT IT READS IS OF BULK AT MOST 1048576: true; the input reads as it did. -/
def fnExactWallAtUptoRow : OpenClaim := { program := "ytaphdannaaiidaa", sum := "e6e06cb300b3c819e36b27fea71b6f215cb65179c2632fa2d3de0adf65e4a0f6", func := "loop.example/g00991/laws.FnExactWallAt", spec := "fnExactWallAt", unfollowed := true, recurses := true, apart := false, narrowed := true }
def FnExactWallAtUptoSaid : Prop := fnExactWallAtUptoRow.holds Try.pinned (OpenSpec.upto fnExactWallAtSpec)

/-- 'laws.FnExactAreApart', WHERE WHAT IT READS IS OF BULK AT MOST 1048576: true; the input reads as it did. -/
def fnExactAreApartUptoRow : OpenClaim := { program := "ytaphdannaaiidaa", sum := "e6e06cb300b3c819e36b27fea71b6f215cb65179c2632fa2d3de0adf65e4a0f6", func := "loop.example/g00991/laws.FnExactAreApart", spec := "fnExactAreApart", unfollowed := true, recurses := true, apart := false, narrowed := true }
def FnExactAreApartUptoSaid : Prop := fnExactAreApartUptoRow.holds Try.pinned (OpenSpec.upto fnExactAreApartSpec)

/-- 'laws.FnExactIsReflex', WHERE WHAT IT READS IS OF BULK AT MOST 1048576: true; the input reads as it did. -/
def fnExactIsReflexUptoRow : OpenClaim := { program := "ytaphdannaaiidaa", sum := "e6e06cb300b3c819e36b27fea71b6f215cb65179c2632fa2d3de0adf65e4a0f6", func := "loop.example/g00991/laws.FnExactIsReflex", spec := "fnExactIsReflex", apart := false, narrowed := true }
def FnExactIsReflexUptoSaid : Prop := fnExactIsReflexUptoRow.holds Try.pinned (OpenSpec.upto fnExactIsReflexSpec)

/-- 'laws.FnExactIsConvex', WHERE WHAT IT READS IS OF BULK AT MOST 1048576: true; the input reads as it did. -/
def fnExactIsConvexUptoRow : OpenClaim := { program := "ytaphdannaaiidaa", sum := "e6e06cb300b3c819e36b27fea71b6f215cb65179c2632fa2d3de0adf65e4a0f6", func := "loop.example/g00991/laws.FnExactIsConvex", spec := "fnExactIsConvex", unfollowed := true, recurses := true, apart := false, narrowed := true }
def FnExactIsConvexUptoSaid : Prop := fnExactIsConvexUptoRow.holds Try.pinned (OpenSpec.upto fnExactIsConvexSpec)

/-- 'laws.FnExactTurnSum', WHERE WHAT IT READS IS OF BULK AT MOST 1048576: true; the input reads as it did. -/
def fnExactTurnSumUptoRow : OpenClaim := { program := "ytaphdannaaiidaa", sum := "e6e06cb300b3c819e36b27fea71b6f215cb65179c2632fa2d3de0adf65e4a0f6", func := "loop.example/g00991/laws.FnExactTurnSum", spec := "fnExactTurnSum", unfollowed := true, recurses := true, apart := false, narrowed := true }
def FnExactTurnSumUptoSaid : Prop := fnExactTurnSumUptoRow.holds Try.pinned (OpenSpec.upto fnExactTurnSumSpec)

/-- 'laws.FnExactIsRectangular', WHERE WHAT IT READS IS OF BULK AT MOST 1048576: true; the input reads as it did. -/
def fnExactIsRectangularUptoRow : OpenClaim := { program := "ytaphdannaaiidaa", sum := "e6e06cb300b3c819e36b27fea71b6f215cb65179c2632fa2d3de0adf65e4a0f6", func := "loop.example/g00991/laws.FnExactIsRectangular", spec := "fnExactIsRectangular", apart := false, narrowed := true }
def FnExactIsRectangularUptoSaid : Prop := fnExactIsRectangularUptoRow.holds Try.pinned (OpenSpec.upto fnExactIsRectangularSpec)

/-- 'laws.FnExactSees', WHERE WHAT IT READS IS OF BULK AT MOST 1048576: true; the input reads as it did. -/
def fnExactSeesUptoRow : OpenClaim := { program := "ytaphdannaaiidaa", sum := "e6e06cb300b3c819e36b27fea71b6f215cb65179c2632fa2d3de0adf65e4a0f6", func := "loop.example/g00991/laws.FnExactSees", spec := "fnExactSees", unfollowed := true, recurses := true, apart := false, narrowed := true }
def FnExactSeesUptoSaid : Prop := fnExactSeesUptoRow.holds Try.pinned (OpenSpec.upto fnExactSeesSpec)

/-- 'laws.FnExactBlockingWall', WHERE WHAT IT READS IS OF BULK AT MOST 1048576: true; the input reads as it did. -/
def fnExactBlockingWallUptoRow : OpenClaim := { program := "ytaphdannaaiidaa", sum := "e6e06cb300b3c819e36b27fea71b6f215cb65179c2632fa2d3de0adf65e4a0f6", func := "loop.example/g00991/laws.FnExactBlockingWall", spec := "fnExactBlockingWall", unfollowed := true, recurses := true, apart := false, narrowed := true }
def FnExactBlockingWallUptoSaid : Prop := fnExactBlockingWallUptoRow.holds Try.pinned (OpenSpec.upto fnExactBlockingWallSpec)

/-- 'laws.FnExactSeenBy', WHERE WHAT IT READS IS OF BULK AT MOST 1048576: true; the input reads as it did. -/
def fnExactSeenByUptoRow : OpenClaim := { program := "ytaphdannaaiidaa", sum := "e6e06cb300b3c819e36b27fea71b6f215cb65179c2632fa2d3de0adf65e4a0f6", func := "loop.example/g00991/laws.FnExactSeenBy", spec := "fnExactSeenBy", unfollowed := true, recurses := true, apart := false, narrowed := true }
def FnExactSeenByUptoSaid : Prop := fnExactSeenByUptoRow.holds Try.pinned (OpenSpec.upto fnExactSeenBySpec)

/-- 'laws.FnExactCornersSeen', WHERE WHAT IT READS IS OF BULK AT MOST 1048576: true; the input reads as it did. -/
def fnExactCornersSeenUptoRow : OpenClaim := { program := "ytaphdannaaiidaa", sum := "e6e06cb300b3c819e36b27fea71b6f215cb65179c2632fa2d3de0adf65e4a0f6", func := "loop.example/g00991/laws.FnExactCornersSeen", spec := "fnExactCornersSeen", unfollowed := true, recurses := true, apart := false, narrowed := true }
def FnExactCornersSeenUptoSaid : Prop := fnExactCornersSeenUptoRow.holds Try.pinned (OpenSpec.upto fnExactCornersSeenSpec)

/-- 'laws.FnExactReflexCorners', WHERE WHAT IT READS IS OF BULK AT MOST 1048576: true; the input reads as it did. -/
def fnExactReflexCornersUptoRow : OpenClaim := { program := "ytaphdannaaiidaa", sum := "e6e06cb300b3c819e36b27fea71b6f215cb65179c2632fa2d3de0adf65e4a0f6", func := "loop.example/g00991/laws.FnExactReflexCorners", spec := "fnExactReflexCorners", unfollowed := true, recurses := true, apart := false, narrowed := true }
def FnExactReflexCornersUptoSaid : Prop := fnExactReflexCornersUptoRow.holds Try.pinned (OpenSpec.upto fnExactReflexCornersSpec)

end Rows
end Go.Proofs.Ytaphdannaaiidaa
