/-
  No cell of these rows narrows 'for every input' (looked for: loops, veiled, ifaces, maps, wideKeys, modest, calm, conditions, laid).
  DERIVED. THE GIVEN ROWS OF THIS SEAT. 11 by the template 'for every input the law returns true; each argument reads behind the call as it read before'; 0 by the template 'total and deterministic' (their statements: YtkohfbffmljmcabTotals.lean).
  GIVEN WITH THE SEED: the statements are not yours to turn. If you find one false, say at which input.
  Laid BY PROGRAM, IN A SANDBOX (cutbox-rows.mjs): the forced cells as the released guide's own fill.sh prints them over the translation 009afbc98ba6b151… (all of the seat's roots in one cut). By AI agents, Wed Nov 11 2026. No macro, syntax, notation, axiom, sorry.
-/
import Derived.Test.YtkohfbffmljmcabChecked
import GoSem.Claim
import GoSem.ClaimJoined
import GoSem.ClaimMapViews
import Derived.JoinedTies
import Derived.KernelRfl
namespace Go.Proofs.Ytkohfbffmljmcab
/- THE CELL 'sum', in the pinned program and in every row, IS THE sha256 OF THE DUMP (.gsa) THAT YtkohfbffmljmcabProg.lean LOADS. Nothing in Lean hashes anything: it is a label: what it is worth is what the hold of that sum in a sandbox is worth. -/
noncomputable def Try.pinned : Pinned := { name := "ytkohfbffmljmcab", sum := "009afbc98ba6b15164cac3ed042f47c3171535646da26224ddfa23aa0515a5d3", checked := Try.checked }
namespace Rows
def none {H : Type} : Left H := { results := [], args := [] }

/-- 'laws.FnExactIsRectangular': WHATEVER THE INPUT: true; the input reads as it did. -/
def fnExactIsRectangularSpec : ChangeSpec := { name := "fnExactIsRectangular", fn := fun _ => fun
  | [d] => { results := [.lit (.bool true)], args := [d] }
  | _ => none }
def fnExactIsRectangularRow : OpenClaim := { program := "ytkohfbffmljmcab", sum := "009afbc98ba6b15164cac3ed042f47c3171535646da26224ddfa23aa0515a5d3", func := "loop.example/g00991/laws.FnExactIsRectangular", spec := "fnExactIsRectangular", apart := false }
def FnExactIsRectangularSaid : Prop := fnExactIsRectangularRow.holds Try.pinned (OpenSpec.ofChange fnExactIsRectangularSpec)

/-- ITS FALSE NEIGHBOUR: 'it returns false'. Refute it at one input. -/
def fnExactIsRectangularWrong : ChangeSpec := { name := "fnExactIsRectangular", fn := fun _ => fun
  | [d] => { results := [.lit (.bool false)], args := [d] }
  | _ => none }
def FnExactIsRectangularWrongFalsely : Prop := fnExactIsRectangularRow.holds Try.pinned (OpenSpec.ofChange fnExactIsRectangularWrong)

/-- 'laws.FnExactFloorPoints': WHATEVER THE INPUT: true; the input reads as it did. -/
def fnExactFloorPointsSpec : ChangeSpec := { name := "fnExactFloorPoints", fn := fun _ => fun
  | [d] => { results := [.lit (.bool true)], args := [d] }
  | _ => none }
def fnExactFloorPointsRow : OpenClaim := { program := "ytkohfbffmljmcab", sum := "009afbc98ba6b15164cac3ed042f47c3171535646da26224ddfa23aa0515a5d3", func := "loop.example/g00991/laws.FnExactFloorPoints", spec := "fnExactFloorPoints", unfollowed := true, recurses := true, apart := false }
def FnExactFloorPointsSaid : Prop := fnExactFloorPointsRow.holds Try.pinned (OpenSpec.ofChange fnExactFloorPointsSpec)

/-- ITS FALSE NEIGHBOUR: 'it returns false'. Refute it at one input. -/
def fnExactFloorPointsWrong : ChangeSpec := { name := "fnExactFloorPoints", fn := fun _ => fun
  | [d] => { results := [.lit (.bool false)], args := [d] }
  | _ => none }
def FnExactFloorPointsWrongFalsely : Prop := fnExactFloorPointsRow.holds Try.pinned (OpenSpec.ofChange fnExactFloorPointsWrong)

/-- 'laws.FnExactPlaceIn': WHATEVER THE INPUT: true; the input reads as it did. -/
def fnExactPlaceInSpec : ChangeSpec := { name := "fnExactPlaceIn", fn := fun _ => fun
  | [d1, d2] => { results := [.lit (.bool true)], args := [d1, d2] }
  | _ => none }
def fnExactPlaceInRow : OpenClaim := { program := "ytkohfbffmljmcab", sum := "009afbc98ba6b15164cac3ed042f47c3171535646da26224ddfa23aa0515a5d3", func := "loop.example/g00991/laws.FnExactPlaceIn", spec := "fnExactPlaceIn", unfollowed := true, recurses := true, apart := false }
def FnExactPlaceInSaid : Prop := fnExactPlaceInRow.holds Try.pinned (OpenSpec.ofChange fnExactPlaceInSpec)

/-- ITS FALSE NEIGHBOUR: 'it returns false'. Refute it at one input. -/
def fnExactPlaceInWrong : ChangeSpec := { name := "fnExactPlaceIn", fn := fun _ => fun
  | [d1, d2] => { results := [.lit (.bool false)], args := [d1, d2] }
  | _ => none }
def FnExactPlaceInWrongFalsely : Prop := fnExactPlaceInRow.holds Try.pinned (OpenSpec.ofChange fnExactPlaceInWrong)

/-- 'laws.FnExactIsIn': WHATEVER THE INPUT: true; the input reads as it did. -/
def fnExactIsInSpec : ChangeSpec := { name := "fnExactIsIn", fn := fun _ => fun
  | [d1, d2] => { results := [.lit (.bool true)], args := [d1, d2] }
  | _ => none }
def fnExactIsInRow : OpenClaim := { program := "ytkohfbffmljmcab", sum := "009afbc98ba6b15164cac3ed042f47c3171535646da26224ddfa23aa0515a5d3", func := "loop.example/g00991/laws.FnExactIsIn", spec := "fnExactIsIn", unfollowed := true, recurses := true, apart := false }
def FnExactIsInSaid : Prop := fnExactIsInRow.holds Try.pinned (OpenSpec.ofChange fnExactIsInSpec)

/-- ITS FALSE NEIGHBOUR: 'it returns false'. Refute it at one input. -/
def fnExactIsInWrong : ChangeSpec := { name := "fnExactIsIn", fn := fun _ => fun
  | [d1, d2] => { results := [.lit (.bool false)], args := [d1, d2] }
  | _ => none }
def FnExactIsInWrongFalsely : Prop := fnExactIsInRow.holds Try.pinned (OpenSpec.ofChange fnExactIsInWrong)

/-- 'laws.FnExactWallAt': WHATEVER THE INPUT: true; the input reads as it did. -/
def fnExactWallAtSpec : ChangeSpec := { name := "fnExactWallAt", fn := fun _ => fun
  | [d1, d2] => { results := [.lit (.bool true)], args := [d1, d2] }
  | _ => none }
def fnExactWallAtRow : OpenClaim := { program := "ytkohfbffmljmcab", sum := "009afbc98ba6b15164cac3ed042f47c3171535646da26224ddfa23aa0515a5d3", func := "loop.example/g00991/laws.FnExactWallAt", spec := "fnExactWallAt", unfollowed := true, recurses := true, apart := false }
def FnExactWallAtSaid : Prop := fnExactWallAtRow.holds Try.pinned (OpenSpec.ofChange fnExactWallAtSpec)

/-- ITS FALSE NEIGHBOUR: 'it returns false'. Refute it at one input. -/
def fnExactWallAtWrong : ChangeSpec := { name := "fnExactWallAt", fn := fun _ => fun
  | [d1, d2] => { results := [.lit (.bool false)], args := [d1, d2] }
  | _ => none }
def FnExactWallAtWrongFalsely : Prop := fnExactWallAtRow.holds Try.pinned (OpenSpec.ofChange fnExactWallAtWrong)

/-- 'laws.FnExactCountIn': WHATEVER THE INPUT: true; the input reads as it did. -/
def fnExactCountInSpec : ChangeSpec := { name := "fnExactCountIn", fn := fun _ => fun
  | [d1, d2] => { results := [.lit (.bool true)], args := [d1, d2] }
  | _ => none }
def fnExactCountInRow : OpenClaim := { program := "ytkohfbffmljmcab", sum := "009afbc98ba6b15164cac3ed042f47c3171535646da26224ddfa23aa0515a5d3", func := "loop.example/g00991/laws.FnExactCountIn", spec := "fnExactCountIn", unfollowed := true, recurses := true, apart := false }
def FnExactCountInSaid : Prop := fnExactCountInRow.holds Try.pinned (OpenSpec.ofChange fnExactCountInSpec)

/-- ITS FALSE NEIGHBOUR: 'it returns false'. Refute it at one input. -/
def fnExactCountInWrong : ChangeSpec := { name := "fnExactCountIn", fn := fun _ => fun
  | [d1, d2] => { results := [.lit (.bool false)], args := [d1, d2] }
  | _ => none }
def FnExactCountInWrongFalsely : Prop := fnExactCountInRow.holds Try.pinned (OpenSpec.ofChange fnExactCountInWrong)

/-- 'laws.FnExactAreApart': WHATEVER THE INPUT: true; the input reads as it did. -/
def fnExactAreApartSpec : ChangeSpec := { name := "fnExactAreApart", fn := fun _ => fun
  | [d1, d2] => { results := [.lit (.bool true)], args := [d1, d2] }
  | _ => none }
def fnExactAreApartRow : OpenClaim := { program := "ytkohfbffmljmcab", sum := "009afbc98ba6b15164cac3ed042f47c3171535646da26224ddfa23aa0515a5d3", func := "loop.example/g00991/laws.FnExactAreApart", spec := "fnExactAreApart", unfollowed := true, recurses := true, apart := false }
def FnExactAreApartSaid : Prop := fnExactAreApartRow.holds Try.pinned (OpenSpec.ofChange fnExactAreApartSpec)

/-- ITS FALSE NEIGHBOUR: 'it returns false'. Refute it at one input. -/
def fnExactAreApartWrong : ChangeSpec := { name := "fnExactAreApart", fn := fun _ => fun
  | [d1, d2] => { results := [.lit (.bool false)], args := [d1, d2] }
  | _ => none }
def FnExactAreApartWrongFalsely : Prop := fnExactAreApartRow.holds Try.pinned (OpenSpec.ofChange fnExactAreApartWrong)

/-- 'laws.FnExactSees': WHATEVER THE INPUT: true; the input reads as it did. -/
def fnExactSeesSpec : ChangeSpec := { name := "fnExactSees", fn := fun _ => fun
  | [d1, d2, d3] => { results := [.lit (.bool true)], args := [d1, d2, d3] }
  | _ => none }
def fnExactSeesRow : OpenClaim := { program := "ytkohfbffmljmcab", sum := "009afbc98ba6b15164cac3ed042f47c3171535646da26224ddfa23aa0515a5d3", func := "loop.example/g00991/laws.FnExactSees", spec := "fnExactSees", unfollowed := true, recurses := true, apart := false }
def FnExactSeesSaid : Prop := fnExactSeesRow.holds Try.pinned (OpenSpec.ofChange fnExactSeesSpec)

/-- ITS FALSE NEIGHBOUR: 'it returns false'. Refute it at one input. -/
def fnExactSeesWrong : ChangeSpec := { name := "fnExactSees", fn := fun _ => fun
  | [d1, d2, d3] => { results := [.lit (.bool false)], args := [d1, d2, d3] }
  | _ => none }
def FnExactSeesWrongFalsely : Prop := fnExactSeesRow.holds Try.pinned (OpenSpec.ofChange fnExactSeesWrong)

/-- 'laws.FnExactSeenBy': WHATEVER THE INPUT: true; the input reads as it did. -/
def fnExactSeenBySpec : ChangeSpec := { name := "fnExactSeenBy", fn := fun _ => fun
  | [d1, d2] => { results := [.lit (.bool true)], args := [d1, d2] }
  | _ => none }
def fnExactSeenByRow : OpenClaim := { program := "ytkohfbffmljmcab", sum := "009afbc98ba6b15164cac3ed042f47c3171535646da26224ddfa23aa0515a5d3", func := "loop.example/g00991/laws.FnExactSeenBy", spec := "fnExactSeenBy", unfollowed := true, recurses := true, apart := false }
def FnExactSeenBySaid : Prop := fnExactSeenByRow.holds Try.pinned (OpenSpec.ofChange fnExactSeenBySpec)

/-- ITS FALSE NEIGHBOUR: 'it returns false'. Refute it at one input. -/
def fnExactSeenByWrong : ChangeSpec := { name := "fnExactSeenBy", fn := fun _ => fun
  | [d1, d2] => { results := [.lit (.bool false)], args := [d1, d2] }
  | _ => none }
def FnExactSeenByWrongFalsely : Prop := fnExactSeenByRow.holds Try.pinned (OpenSpec.ofChange fnExactSeenByWrong)

/-- 'laws.FnExactCornersSeen': WHATEVER THE INPUT: true; the input reads as it did. -/
def fnExactCornersSeenSpec : ChangeSpec := { name := "fnExactCornersSeen", fn := fun _ => fun
  | [d1, d2] => { results := [.lit (.bool true)], args := [d1, d2] }
  | _ => none }
def fnExactCornersSeenRow : OpenClaim := { program := "ytkohfbffmljmcab", sum := "009afbc98ba6b15164cac3ed042f47c3171535646da26224ddfa23aa0515a5d3", func := "loop.example/g00991/laws.FnExactCornersSeen", spec := "fnExactCornersSeen", unfollowed := true, recurses := true, apart := false }
def FnExactCornersSeenSaid : Prop := fnExactCornersSeenRow.holds Try.pinned (OpenSpec.ofChange fnExactCornersSeenSpec)

/-- ITS FALSE NEIGHBOUR: 'it returns false'. Refute it at one input. -/
def fnExactCornersSeenWrong : ChangeSpec := { name := "fnExactCornersSeen", fn := fun _ => fun
  | [d1, d2] => { results := [.lit (.bool false)], args := [d1, d2] }
  | _ => none }
def FnExactCornersSeenWrongFalsely : Prop := fnExactCornersSeenRow.holds Try.pinned (OpenSpec.ofChange fnExactCornersSeenWrong)

/-- 'laws.FnExactBlockingWall': WHATEVER THE INPUT: true; the input reads as it did. -/
def fnExactBlockingWallSpec : ChangeSpec := { name := "fnExactBlockingWall", fn := fun _ => fun
  | [d1, d2, d3] => { results := [.lit (.bool true)], args := [d1, d2, d3] }
  | _ => none }
def fnExactBlockingWallRow : OpenClaim := { program := "ytkohfbffmljmcab", sum := "009afbc98ba6b15164cac3ed042f47c3171535646da26224ddfa23aa0515a5d3", func := "loop.example/g00991/laws.FnExactBlockingWall", spec := "fnExactBlockingWall", unfollowed := true, recurses := true, apart := false }
def FnExactBlockingWallSaid : Prop := fnExactBlockingWallRow.holds Try.pinned (OpenSpec.ofChange fnExactBlockingWallSpec)

/-- ITS FALSE NEIGHBOUR: 'it returns false'. Refute it at one input. -/
def fnExactBlockingWallWrong : ChangeSpec := { name := "fnExactBlockingWall", fn := fun _ => fun
  | [d1, d2, d3] => { results := [.lit (.bool false)], args := [d1, d2, d3] }
  | _ => none }
def FnExactBlockingWallWrongFalsely : Prop := fnExactBlockingWallRow.holds Try.pinned (OpenSpec.ofChange fnExactBlockingWallWrong)

/- THE SECOND FORM. 'bulk': how many values and letters a reading holds, each counted each time it is reached (what is shared counts as often as it is met; a slice's spare places count too). A statement '..UptoSaid' is the law's where the arguments, and the package variables that the reading takes, are together of bulk at most 1048576: NARROWER than '..Said'. Prove '..Said' where nothing that the law and all that it calls make is longer than what came in: it says more and counts as full. Else prove '..UptoSaid'. A law counts once. -/
mutual
def uptoBulk {H : Type} : DataW H → Nat
  | .lit (.string bytes) => bytes.length + 1
  | .lit _ => 1
  | .nil => 1
  | .ptr d => uptoBulk d + 1
  | .slice elems spare => uptoBulkAll elems + uptoBulkAll spare + 1
  | .agg parts => uptoBulkAll parts + 1
  | .iface _ d => uptoBulk d + 1
  | .map entries => uptoBulkEntries entries + 1
  | .held _ => 1
def uptoBulkAll {H : Type} : List (DataW H) → Nat
  | [] => 0
  | d :: r => uptoBulk d + uptoBulkAll r
def uptoBulkEntries {H : Type} : List (Lit × DataW H) → Nat
  | [] => 0
  | x :: r => uptoBulkEntry x + uptoBulkEntries r
def uptoBulkEntry {H : Type} : Lit × DataW H → Nat
  | (.string bytes, d) => bytes.length + uptoBulk d + 1
  | (_, d) => uptoBulk d + 1
 end
def uptoSmall : (H : Type) → List (DataW H) → Bool := fun _ ds => decide (uptoBulkAll ds ≤ 1048576)
def OpenSpec.upto (s : _root_.Go.ChangeSpec) : _root_.Go.OpenSpec := { _root_.Go.OpenSpec.ofChange s with cond := some uptoSmall }

/-- 'laws.FnExactIsRectangular', WHERE WHAT IT READS IS OF BULK AT MOST 1048576: true; the input reads as it did. -/
def fnExactIsRectangularUptoRow : OpenClaim := { program := "ytkohfbffmljmcab", sum := "009afbc98ba6b15164cac3ed042f47c3171535646da26224ddfa23aa0515a5d3", func := "loop.example/g00991/laws.FnExactIsRectangular", spec := "fnExactIsRectangular", apart := false, narrowed := true }
def FnExactIsRectangularUptoSaid : Prop := fnExactIsRectangularUptoRow.holds Try.pinned (OpenSpec.upto fnExactIsRectangularSpec)

/-- 'laws.FnExactFloorPoints', WHERE WHAT IT READS IS OF BULK AT MOST 1048576: true; the input reads as it did. -/
def fnExactFloorPointsUptoRow : OpenClaim := { program := "ytkohfbffmljmcab", sum := "009afbc98ba6b15164cac3ed042f47c3171535646da26224ddfa23aa0515a5d3", func := "loop.example/g00991/laws.FnExactFloorPoints", spec := "fnExactFloorPoints", unfollowed := true, recurses := true, apart := false, narrowed := true }
def FnExactFloorPointsUptoSaid : Prop := fnExactFloorPointsUptoRow.holds Try.pinned (OpenSpec.upto fnExactFloorPointsSpec)

/-- 'laws.FnExactPlaceIn', WHERE WHAT IT READS IS OF BULK AT MOST 1048576: true; the input reads as it did. -/
def fnExactPlaceInUptoRow : OpenClaim := { program := "ytkohfbffmljmcab", sum := "009afbc98ba6b15164cac3ed042f47c3171535646da26224ddfa23aa0515a5d3", func := "loop.example/g00991/laws.FnExactPlaceIn", spec := "fnExactPlaceIn", unfollowed := true, recurses := true, apart := false, narrowed := true }
def FnExactPlaceInUptoSaid : Prop := fnExactPlaceInUptoRow.holds Try.pinned (OpenSpec.upto fnExactPlaceInSpec)

/-- 'laws.FnExactIsIn', WHERE WHAT IT READS IS OF BULK AT MOST 1048576: true; the input reads as it did. -/
def fnExactIsInUptoRow : OpenClaim := { program := "ytkohfbffmljmcab", sum := "009afbc98ba6b15164cac3ed042f47c3171535646da26224ddfa23aa0515a5d3", func := "loop.example/g00991/laws.FnExactIsIn", spec := "fnExactIsIn", unfollowed := true, recurses := true, apart := false, narrowed := true }
def FnExactIsInUptoSaid : Prop := fnExactIsInUptoRow.holds Try.pinned (OpenSpec.upto fnExactIsInSpec)

/-- 'laws.FnExactWallAt', WHERE WHAT IT READS IS OF BULK AT MOST 1048576: true; the input reads as it did. -/
def fnExactWallAtUptoRow : OpenClaim := { program := "ytkohfbffmljmcab", sum := "009afbc98ba6b15164cac3ed042f47c3171535646da26224ddfa23aa0515a5d3", func := "loop.example/g00991/laws.FnExactWallAt", spec := "fnExactWallAt", unfollowed := true, recurses := true, apart := false, narrowed := true }
def FnExactWallAtUptoSaid : Prop := fnExactWallAtUptoRow.holds Try.pinned (OpenSpec.upto fnExactWallAtSpec)

/-- 'laws.FnExactCountIn', WHERE WHAT IT READS IS OF BULK AT MOST 1048576: true; the input reads as it did. -/
def fnExactCountInUptoRow : OpenClaim := { program := "ytkohfbffmljmcab", sum := "009afbc98ba6b15164cac3ed042f47c3171535646da26224ddfa23aa0515a5d3", func := "loop.example/g00991/laws.FnExactCountIn", spec := "fnExactCountIn", unfollowed := true, recurses := true, apart := false, narrowed := true }
def FnExactCountInUptoSaid : Prop := fnExactCountInUptoRow.holds Try.pinned (OpenSpec.upto fnExactCountInSpec)

/-- 'laws.FnExactAreApart', WHERE WHAT IT READS IS OF BULK AT MOST 1048576: true; the input reads as it did. -/
def fnExactAreApartUptoRow : OpenClaim := { program := "ytkohfbffmljmcab", sum := "009afbc98ba6b15164cac3ed042f47c3171535646da26224ddfa23aa0515a5d3", func := "loop.example/g00991/laws.FnExactAreApart", spec := "fnExactAreApart", unfollowed := true, recurses := true, apart := false, narrowed := true }
def FnExactAreApartUptoSaid : Prop := fnExactAreApartUptoRow.holds Try.pinned (OpenSpec.upto fnExactAreApartSpec)

/-- 'laws.FnExactSees', WHERE WHAT IT READS IS OF BULK AT MOST 1048576: true; the input reads as it did. -/
def fnExactSeesUptoRow : OpenClaim := { program := "ytkohfbffmljmcab", sum := "009afbc98ba6b15164cac3ed042f47c3171535646da26224ddfa23aa0515a5d3", func := "loop.example/g00991/laws.FnExactSees", spec := "fnExactSees", unfollowed := true, recurses := true, apart := false, narrowed := true }
def FnExactSeesUptoSaid : Prop := fnExactSeesUptoRow.holds Try.pinned (OpenSpec.upto fnExactSeesSpec)

/-- 'laws.FnExactSeenBy', WHERE WHAT IT READS IS OF BULK AT MOST 1048576: true; the input reads as it did. -/
def fnExactSeenByUptoRow : OpenClaim := { program := "ytkohfbffmljmcab", sum := "009afbc98ba6b15164cac3ed042f47c3171535646da26224ddfa23aa0515a5d3", func := "loop.example/g00991/laws.FnExactSeenBy", spec := "fnExactSeenBy", unfollowed := true, recurses := true, apart := false, narrowed := true }
def FnExactSeenByUptoSaid : Prop := fnExactSeenByUptoRow.holds Try.pinned (OpenSpec.upto fnExactSeenBySpec)

/-- 'laws.FnExactCornersSeen', WHERE WHAT IT READS IS OF BULK AT MOST 1048576: true; the input reads as it did. -/
def fnExactCornersSeenUptoRow : OpenClaim := { program := "ytkohfbffmljmcab", sum := "009afbc98ba6b15164cac3ed042f47c3171535646da26224ddfa23aa0515a5d3", func := "loop.example/g00991/laws.FnExactCornersSeen", spec := "fnExactCornersSeen", unfollowed := true, recurses := true, apart := false, narrowed := true }
def FnExactCornersSeenUptoSaid : Prop := fnExactCornersSeenUptoRow.holds Try.pinned (OpenSpec.upto fnExactCornersSeenSpec)

/-- 'laws.FnExactBlockingWall', WHERE WHAT IT READS IS OF BULK AT MOST 1048576: true; the input reads as it did. -/
def fnExactBlockingWallUptoRow : OpenClaim := { program := "ytkohfbffmljmcab", sum := "009afbc98ba6b15164cac3ed042f47c3171535646da26224ddfa23aa0515a5d3", func := "loop.example/g00991/laws.FnExactBlockingWall", spec := "fnExactBlockingWall", unfollowed := true, recurses := true, apart := false, narrowed := true }
def FnExactBlockingWallUptoSaid : Prop := fnExactBlockingWallUptoRow.holds Try.pinned (OpenSpec.upto fnExactBlockingWallSpec)

end Rows
end Go.Proofs.Ytkohfbffmljmcab
