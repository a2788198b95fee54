/-
  No cell of these rows narrows 'for every input' (looked for: loops, veiled, ifaces, maps, wideKeys, modest, calm, conditions, laid).
  DERIVED. THE GIVEN ROWS OF THIS SEAT. 10 by the template 'for every input the law returns true; each argument reads behind the call as it read before'; 0 by the template 'total and deterministic' (their statements: YtkoogklakacphaaTotals.lean).
  GIVEN WITH THE SEED: the statements are not yours to turn. If you find one false, say at which input.
  Laid BY PROGRAM, IN A SANDBOX (cutbox-rows.mjs): the forced cells as the released guide's own fill.sh prints them over the translation 741ba19e8890d66d… (all of the seat's roots in one cut). By AI agents, Wed Nov 11 2026. No macro, syntax, notation, axiom, sorry.
-/
import Derived.Test.YtkoogklakacphaaChecked
import GoSem.Claim
import GoSem.ClaimJoined
import GoSem.ClaimMapViews
import Derived.JoinedTies
import Derived.KernelRfl
namespace Go.Proofs.Ytkoogklakacphaa
/- THE CELL 'sum', in the pinned program and in every row, IS THE sha256 OF THE DUMP (.gsa) THAT YtkoogklakacphaaProg.lean LOADS. Nothing in Lean hashes anything: it is a label: what it is worth is what the hold of that sum in a sandbox is worth. -/
noncomputable def Try.pinned : Pinned := { name := "ytkoogklakacphaa", sum := "741ba19e8890d66d8bbe9a2e953cc2bc9ad87729613be19681c41f2ea0cfe98d", checked := Try.checked }
namespace Rows
def none {H : Type} : Left H := { results := [], args := [] }

/-- 'laws.FnExactIsDiagonal': WHATEVER THE INPUT: true; the input reads as it did. -/
def fnExactIsDiagonalSpec : ChangeSpec := { name := "fnExactIsDiagonal", fn := fun _ => fun
  | [d1, d2, d3] => { results := [.lit (.bool true)], args := [d1, d2, d3] }
  | _ => none }
def fnExactIsDiagonalRow : OpenClaim := { program := "ytkoogklakacphaa", sum := "741ba19e8890d66d8bbe9a2e953cc2bc9ad87729613be19681c41f2ea0cfe98d", func := "loop.example/g00991/laws.FnExactIsDiagonal", spec := "fnExactIsDiagonal", unfollowed := true, recurses := true, apart := false }
def FnExactIsDiagonalSaid : Prop := fnExactIsDiagonalRow.holds Try.pinned (OpenSpec.ofChange fnExactIsDiagonalSpec)

/-- ITS FALSE NEIGHBOUR: 'it returns false'. Refute it at one input. -/
def fnExactIsDiagonalWrong : ChangeSpec := { name := "fnExactIsDiagonal", fn := fun _ => fun
  | [d1, d2, d3] => { results := [.lit (.bool false)], args := [d1, d2, d3] }
  | _ => none }
def FnExactIsDiagonalWrongFalsely : Prop := fnExactIsDiagonalRow.holds Try.pinned (OpenSpec.ofChange fnExactIsDiagonalWrong)

/-- 'laws.FnExactDiagonalsOf': WHATEVER THE INPUT: true; the input reads as it did. -/
def fnExactDiagonalsOfSpec : ChangeSpec := { name := "fnExactDiagonalsOf", fn := fun _ => fun
  | [d] => { results := [.lit (.bool true)], args := [d] }
  | _ => none }
def fnExactDiagonalsOfRow : OpenClaim := { program := "ytkoogklakacphaa", sum := "741ba19e8890d66d8bbe9a2e953cc2bc9ad87729613be19681c41f2ea0cfe98d", func := "loop.example/g00991/laws.FnExactDiagonalsOf", spec := "fnExactDiagonalsOf", unfollowed := true, recurses := true, apart := false }
def FnExactDiagonalsOfSaid : Prop := fnExactDiagonalsOfRow.holds Try.pinned (OpenSpec.ofChange fnExactDiagonalsOfSpec)

/-- ITS FALSE NEIGHBOUR: 'it returns false'. Refute it at one input. -/
def fnExactDiagonalsOfWrong : ChangeSpec := { name := "fnExactDiagonalsOf", fn := fun _ => fun
  | [d] => { results := [.lit (.bool false)], args := [d] }
  | _ => none }
def FnExactDiagonalsOfWrongFalsely : Prop := fnExactDiagonalsOfRow.holds Try.pinned (OpenSpec.ofChange fnExactDiagonalsOfWrong)

/-- 'laws.FnExactCutRoom': WHATEVER THE INPUT: true; the input reads as it did. -/
def fnExactCutRoomSpec : ChangeSpec := { name := "fnExactCutRoom", fn := fun _ => fun
  | [d1, d2, d3] => { results := [.lit (.bool true)], args := [d1, d2, d3] }
  | _ => none }
def fnExactCutRoomRow : OpenClaim := { program := "ytkoogklakacphaa", sum := "741ba19e8890d66d8bbe9a2e953cc2bc9ad87729613be19681c41f2ea0cfe98d", func := "loop.example/g00991/laws.FnExactCutRoom", spec := "fnExactCutRoom", unfollowed := true, recurses := true, apart := false }
def FnExactCutRoomSaid : Prop := fnExactCutRoomRow.holds Try.pinned (OpenSpec.ofChange fnExactCutRoomSpec)

/-- ITS FALSE NEIGHBOUR: 'it returns false'. Refute it at one input. -/
def fnExactCutRoomWrong : ChangeSpec := { name := "fnExactCutRoom", fn := fun _ => fun
  | [d1, d2, d3] => { results := [.lit (.bool false)], args := [d1, d2, d3] }
  | _ => none }
def FnExactCutRoomWrongFalsely : Prop := fnExactCutRoomRow.holds Try.pinned (OpenSpec.ofChange fnExactCutRoomWrong)

/-- 'laws.FnExactDoDiagonalsCross': WHATEVER THE INPUT: true; the input reads as it did. -/
def fnExactDoDiagonalsCrossSpec : ChangeSpec := { name := "fnExactDoDiagonalsCross", fn := fun _ => fun
  | [d1, d2, d3] => { results := [.lit (.bool true)], args := [d1, d2, d3] }
  | _ => none }
def fnExactDoDiagonalsCrossRow : OpenClaim := { program := "ytkoogklakacphaa", sum := "741ba19e8890d66d8bbe9a2e953cc2bc9ad87729613be19681c41f2ea0cfe98d", func := "loop.example/g00991/laws.FnExactDoDiagonalsCross", spec := "fnExactDoDiagonalsCross", unfollowed := true, recurses := true, apart := false }
def FnExactDoDiagonalsCrossSaid : Prop := fnExactDoDiagonalsCrossRow.holds Try.pinned (OpenSpec.ofChange fnExactDoDiagonalsCrossSpec)

/-- ITS FALSE NEIGHBOUR: 'it returns false'. Refute it at one input. -/
def fnExactDoDiagonalsCrossWrong : ChangeSpec := { name := "fnExactDoDiagonalsCross", fn := fun _ => fun
  | [d1, d2, d3] => { results := [.lit (.bool false)], args := [d1, d2, d3] }
  | _ => none }
def FnExactDoDiagonalsCrossWrongFalsely : Prop := fnExactDoDiagonalsCrossRow.holds Try.pinned (OpenSpec.ofChange fnExactDoDiagonalsCrossWrong)

/-- 'laws.FnExactIsEar': WHATEVER THE INPUT: true; the input reads as it did. -/
def fnExactIsEarSpec : ChangeSpec := { name := "fnExactIsEar", fn := fun _ => fun
  | [d1, d2] => { results := [.lit (.bool true)], args := [d1, d2] }
  | _ => none }
def fnExactIsEarRow : OpenClaim := { program := "ytkoogklakacphaa", sum := "741ba19e8890d66d8bbe9a2e953cc2bc9ad87729613be19681c41f2ea0cfe98d", func := "loop.example/g00991/laws.FnExactIsEar", spec := "fnExactIsEar", unfollowed := true, recurses := true, apart := false }
def FnExactIsEarSaid : Prop := fnExactIsEarRow.holds Try.pinned (OpenSpec.ofChange fnExactIsEarSpec)

/-- ITS FALSE NEIGHBOUR: 'it returns false'. Refute it at one input. -/
def fnExactIsEarWrong : ChangeSpec := { name := "fnExactIsEar", fn := fun _ => fun
  | [d1, d2] => { results := [.lit (.bool false)], args := [d1, d2] }
  | _ => none }
def FnExactIsEarWrongFalsely : Prop := fnExactIsEarRow.holds Try.pinned (OpenSpec.ofChange fnExactIsEarWrong)

/-- 'laws.FnExactEarsOf': WHATEVER THE INPUT: true; the input reads as it did. -/
def fnExactEarsOfSpec : ChangeSpec := { name := "fnExactEarsOf", fn := fun _ => fun
  | [d] => { results := [.lit (.bool true)], args := [d] }
  | _ => none }
def fnExactEarsOfRow : OpenClaim := { program := "ytkoogklakacphaa", sum := "741ba19e8890d66d8bbe9a2e953cc2bc9ad87729613be19681c41f2ea0cfe98d", func := "loop.example/g00991/laws.FnExactEarsOf", spec := "fnExactEarsOf", unfollowed := true, recurses := true, apart := false }
def FnExactEarsOfSaid : Prop := fnExactEarsOfRow.holds Try.pinned (OpenSpec.ofChange fnExactEarsOfSpec)

/-- ITS FALSE NEIGHBOUR: 'it returns false'. Refute it at one input. -/
def fnExactEarsOfWrong : ChangeSpec := { name := "fnExactEarsOf", fn := fun _ => fun
  | [d] => { results := [.lit (.bool false)], args := [d] }
  | _ => none }
def FnExactEarsOfWrongFalsely : Prop := fnExactEarsOfRow.holds Try.pinned (OpenSpec.ofChange fnExactEarsOfWrong)

/-- 'laws.FnExactCutEar': WHATEVER THE INPUT: true; the input reads as it did. -/
def fnExactCutEarSpec : ChangeSpec := { name := "fnExactCutEar", fn := fun _ => fun
  | [d1, d2] => { results := [.lit (.bool true)], args := [d1, d2] }
  | _ => none }
def fnExactCutEarRow : OpenClaim := { program := "ytkoogklakacphaa", sum := "741ba19e8890d66d8bbe9a2e953cc2bc9ad87729613be19681c41f2ea0cfe98d", func := "loop.example/g00991/laws.FnExactCutEar", spec := "fnExactCutEar", unfollowed := true, recurses := true, apart := false }
def FnExactCutEarSaid : Prop := fnExactCutEarRow.holds Try.pinned (OpenSpec.ofChange fnExactCutEarSpec)

/-- ITS FALSE NEIGHBOUR: 'it returns false'. Refute it at one input. -/
def fnExactCutEarWrong : ChangeSpec := { name := "fnExactCutEar", fn := fun _ => fun
  | [d1, d2] => { results := [.lit (.bool false)], args := [d1, d2] }
  | _ => none }
def FnExactCutEarWrongFalsely : Prop := fnExactCutEarRow.holds Try.pinned (OpenSpec.ofChange fnExactCutEarWrong)

/-- 'laws.FnExactEarArea': WHATEVER THE INPUT: true; the input reads as it did. -/
def fnExactEarAreaSpec : ChangeSpec := { name := "fnExactEarArea", fn := fun _ => fun
  | [d1, d2] => { results := [.lit (.bool true)], args := [d1, d2] }
  | _ => none }
def fnExactEarAreaRow : OpenClaim := { program := "ytkoogklakacphaa", sum := "741ba19e8890d66d8bbe9a2e953cc2bc9ad87729613be19681c41f2ea0cfe98d", func := "loop.example/g00991/laws.FnExactEarArea", spec := "fnExactEarArea", unfollowed := true, recurses := true, apart := false }
def FnExactEarAreaSaid : Prop := fnExactEarAreaRow.holds Try.pinned (OpenSpec.ofChange fnExactEarAreaSpec)

/-- ITS FALSE NEIGHBOUR: 'it returns false'. Refute it at one input. -/
def fnExactEarAreaWrong : ChangeSpec := { name := "fnExactEarArea", fn := fun _ => fun
  | [d1, d2] => { results := [.lit (.bool false)], args := [d1, d2] }
  | _ => none }
def FnExactEarAreaWrongFalsely : Prop := fnExactEarAreaRow.holds Try.pinned (OpenSpec.ofChange fnExactEarAreaWrong)

/-- 'laws.FnExactTriangleArea': WHATEVER THE INPUT: true; the input reads as it did. -/
def fnExactTriangleAreaSpec : ChangeSpec := { name := "fnExactTriangleArea", fn := fun _ => fun
  | [d1, d2] => { results := [.lit (.bool true)], args := [d1, d2] }
  | _ => none }
def fnExactTriangleAreaRow : OpenClaim := { program := "ytkoogklakacphaa", sum := "741ba19e8890d66d8bbe9a2e953cc2bc9ad87729613be19681c41f2ea0cfe98d", func := "loop.example/g00991/laws.FnExactTriangleArea", spec := "fnExactTriangleArea", apart := false }
def FnExactTriangleAreaSaid : Prop := fnExactTriangleAreaRow.holds Try.pinned (OpenSpec.ofChange fnExactTriangleAreaSpec)

/-- ITS FALSE NEIGHBOUR: 'it returns false'. Refute it at one input. -/
def fnExactTriangleAreaWrong : ChangeSpec := { name := "fnExactTriangleArea", fn := fun _ => fun
  | [d1, d2] => { results := [.lit (.bool false)], args := [d1, d2] }
  | _ => none }
def FnExactTriangleAreaWrongFalsely : Prop := fnExactTriangleAreaRow.holds Try.pinned (OpenSpec.ofChange fnExactTriangleAreaWrong)

/-- 'laws.FnExactInTriangle': WHATEVER THE INPUT: true; the input reads as it did. -/
def fnExactInTriangleSpec : ChangeSpec := { name := "fnExactInTriangle", fn := fun _ => fun
  | [d1, d2, d3] => { results := [.lit (.bool true)], args := [d1, d2, d3] }
  | _ => none }
def fnExactInTriangleRow : OpenClaim := { program := "ytkoogklakacphaa", sum := "741ba19e8890d66d8bbe9a2e953cc2bc9ad87729613be19681c41f2ea0cfe98d", func := "loop.example/g00991/laws.FnExactInTriangle", spec := "fnExactInTriangle", apart := false }
def FnExactInTriangleSaid : Prop := fnExactInTriangleRow.holds Try.pinned (OpenSpec.ofChange fnExactInTriangleSpec)

/-- ITS FALSE NEIGHBOUR: 'it returns false'. Refute it at one input. -/
def fnExactInTriangleWrong : ChangeSpec := { name := "fnExactInTriangle", fn := fun _ => fun
  | [d1, d2, d3] => { results := [.lit (.bool false)], args := [d1, d2, d3] }
  | _ => none }
def FnExactInTriangleWrongFalsely : Prop := fnExactInTriangleRow.holds Try.pinned (OpenSpec.ofChange fnExactInTriangleWrong)

/- THE SECOND FORM. 'bulk': how many values and letters a reading holds, each counted each time it is reached (what is shared counts as often as it is met; a slice's spare places count too). A statement '..UptoSaid' is the law's where the arguments, and the package variables that the reading takes, are together of bulk at most 1048576: NARROWER than '..Said'. Prove '..Said' where nothing that the law and all that it calls make is longer than what came in: it says more and counts as full. Else prove '..UptoSaid'. A law counts once. -/
mutual
def uptoBulk {H : Type} : DataW H → Nat
  | .lit (.string bytes) => bytes.length + 1
  | .lit _ => 1
  | .nil => 1
  | .ptr d => uptoBulk d + 1
  | .slice elems spare => uptoBulkAll elems + uptoBulkAll spare + 1
  | .agg parts => uptoBulkAll parts + 1
  | .iface _ d => uptoBulk d + 1
  | .map entries => uptoBulkEntries entries + 1
  | .held _ => 1
def uptoBulkAll {H : Type} : List (DataW H) → Nat
  | [] => 0
  | d :: r => uptoBulk d + uptoBulkAll r
def uptoBulkEntries {H : Type} : List (Lit × DataW H) → Nat
  | [] => 0
  | x :: r => uptoBulkEntry x + uptoBulkEntries r
def uptoBulkEntry {H : Type} : Lit × DataW H → Nat
  | (.string bytes, d) => bytes.length + uptoBulk d + 1
  | (_, d) => uptoBulk d + 1
 end
def uptoSmall : (H : Type) → List (DataW H) → Bool := fun _ ds => decide (uptoBulkAll ds ≤ 1048576)
def OpenSpec.upto (s : _root_.Go.ChangeSpec) : _root_.Go.OpenSpec := { _root_.Go.OpenSpec.ofChange s with cond := some uptoSmall }

/-- 'laws.FnExactIsDiagonal', WHERE WHAT IT READS IS OF BULK AT MOST 1048576: true; the input reads as it did. -/
def fnExactIsDiagonalUptoRow : OpenClaim := { program := "ytkoogklakacphaa", sum := "741ba19e8890d66d8bbe9a2e953cc2bc9ad87729613be19681c41f2ea0cfe98d", func := "loop.example/g00991/laws.FnExactIsDiagonal", spec := "fnExactIsDiagonal", unfollowed := true, recurses := true, apart := false, narrowed := true }
def FnExactIsDiagonalUptoSaid : Prop := fnExactIsDiagonalUptoRow.holds Try.pinned (OpenSpec.upto fnExactIsDiagonalSpec)

/-- 'laws.FnExactDiagonalsOf', WHERE WHAT IT READS IS OF BULK AT MOST 1048576: true; the input reads as it did. -/
def fnExactDiagonalsOfUptoRow : OpenClaim := { program := "ytkoogklakacphaa", sum := "741ba19e8890d66d8bbe9a2e953cc2bc9ad87729613be19681c41f2ea0cfe98d", func := "loop.example/g00991/laws.FnExactDiagonalsOf", spec := "fnExactDiagonalsOf", unfollowed := true, recurses := true, apart := false, narrowed := true }
def FnExactDiagonalsOfUptoSaid : Prop := fnExactDiagonalsOfUptoRow.holds Try.pinned (OpenSpec.upto fnExactDiagonalsOfSpec)

/-- 'laws.FnExactCutRoom', WHERE WHAT IT READS IS OF BULK AT MOST 1048576: true; the input reads as it did. -/
def fnExactCutRoomUptoRow : OpenClaim := { program := "ytkoogklakacphaa", sum := "741ba19e8890d66d8bbe9a2e953cc2bc9ad87729613be19681c41f2ea0cfe98d", func := "loop.example/g00991/laws.FnExactCutRoom", spec := "fnExactCutRoom", unfollowed := true, recurses := true, apart := false, narrowed := true }
def FnExactCutRoomUptoSaid : Prop := fnExactCutRoomUptoRow.holds Try.pinned (OpenSpec.upto fnExactCutRoomSpec)

/-- 'laws.FnExactDoDiagonalsCross', WHERE WHAT IT READS IS OF BULK AT MOST 1048576: true; the input reads as it did. -/
def fnExactDoDiagonalsCrossUptoRow : OpenClaim := { program := "ytkoogklakacphaa", sum := "741ba19e8890d66d8bbe9a2e953cc2bc9ad87729613be19681c41f2ea0cfe98d", func := "loop.example/g00991/laws.FnExactDoDiagonalsCross", spec := "fnExactDoDiagonalsCross", unfollowed := true, recurses := true, apart := false, narrowed := true }
def FnExactDoDiagonalsCrossUptoSaid : Prop := fnExactDoDiagonalsCrossUptoRow.holds Try.pinned (OpenSpec.upto fnExactDoDiagonalsCrossSpec)

/-- 'laws.FnExactIsEar', WHERE WHAT IT READS IS OF BULK AT MOST 1048576: true; the input reads as it did. -/
def fnExactIsEarUptoRow : OpenClaim := { program := "ytkoogklakacphaa", sum := "741ba19e8890d66d8bbe9a2e953cc2bc9ad87729613be19681c41f2ea0cfe98d", func := "loop.example/g00991/laws.FnExactIsEar", spec := "fnExactIsEar", unfollowed := true, recurses := true, apart := false, narrowed := true }
def FnExactIsEarUptoSaid : Prop := fnExactIsEarUptoRow.holds Try.pinned (OpenSpec.upto fnExactIsEarSpec)

/-- 'laws.FnExactEarsOf', WHERE WHAT IT READS IS OF BULK AT MOST 1048576: true; the input reads as it did. -/
def fnExactEarsOfUptoRow : OpenClaim := { program := "ytkoogklakacphaa", sum := "741ba19e8890d66d8bbe9a2e953cc2bc9ad87729613be19681c41f2ea0cfe98d", func := "loop.example/g00991/laws.FnExactEarsOf", spec := "fnExactEarsOf", unfollowed := true, recurses := true, apart := false, narrowed := true }
def FnExactEarsOfUptoSaid : Prop := fnExactEarsOfUptoRow.holds Try.pinned (OpenSpec.upto fnExactEarsOfSpec)

/-- 'laws.FnExactCutEar', WHERE WHAT IT READS IS OF BULK AT MOST 1048576: true; the input reads as it did. -/
def fnExactCutEarUptoRow : OpenClaim := { program := "ytkoogklakacphaa", sum := "741ba19e8890d66d8bbe9a2e953cc2bc9ad87729613be19681c41f2ea0cfe98d", func := "loop.example/g00991/laws.FnExactCutEar", spec := "fnExactCutEar", unfollowed := true, recurses := true, apart := false, narrowed := true }
def FnExactCutEarUptoSaid : Prop := fnExactCutEarUptoRow.holds Try.pinned (OpenSpec.upto fnExactCutEarSpec)

/-- 'laws.FnExactEarArea', WHERE WHAT IT READS IS OF BULK AT MOST 1048576: true; the input reads as it did. -/
def fnExactEarAreaUptoRow : OpenClaim := { program := "ytkoogklakacphaa", sum := "741ba19e8890d66d8bbe9a2e953cc2bc9ad87729613be19681c41f2ea0cfe98d", func := "loop.example/g00991/laws.FnExactEarArea", spec := "fnExactEarArea", unfollowed := true, recurses := true, apart := false, narrowed := true }
def FnExactEarAreaUptoSaid : Prop := fnExactEarAreaUptoRow.holds Try.pinned (OpenSpec.upto fnExactEarAreaSpec)

/-- 'laws.FnExactTriangleArea', WHERE WHAT IT READS IS OF BULK AT MOST 1048576: true; the input reads as it did. -/
def fnExactTriangleAreaUptoRow : OpenClaim := { program := "ytkoogklakacphaa", sum := "741ba19e8890d66d8bbe9a2e953cc2bc9ad87729613be19681c41f2ea0cfe98d", func := "loop.example/g00991/laws.FnExactTriangleArea", spec := "fnExactTriangleArea", apart := false, narrowed := true }
def FnExactTriangleAreaUptoSaid : Prop := fnExactTriangleAreaUptoRow.holds Try.pinned (OpenSpec.upto fnExactTriangleAreaSpec)

/-- 'laws.FnExactInTriangle', WHERE WHAT IT READS IS OF BULK AT MOST 1048576: true; the input reads as it did. -/
def fnExactInTriangleUptoRow : OpenClaim := { program := "ytkoogklakacphaa", sum := "741ba19e8890d66d8bbe9a2e953cc2bc9ad87729613be19681c41f2ea0cfe98d", func := "loop.example/g00991/laws.FnExactInTriangle", spec := "fnExactInTriangle", apart := false, narrowed := true }
def FnExactInTriangleUptoSaid : Prop := fnExactInTriangleUptoRow.holds Try.pinned (OpenSpec.upto fnExactInTriangleSpec)

end Rows
end Go.Proofs.Ytkoogklakacphaa
