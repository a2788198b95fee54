/-
  No cell of these rows narrows 'for every input' (looked for: loops, veiled, ifaces, maps, wideKeys, modest, calm, conditions, laid).
  DERIVED. THE GIVEN ROWS OF THIS SEAT. 8 by the template 'for every input the law returns true; each argument reads behind the call as it read before'; 0 by the template 'total and deterministic' (their statements: YtgampbjdoncdoaaTotals.lean).
  GIVEN WITH THE SEED: the statements are not yours to turn. If you find one false, say at which input.
  Laid BY PROGRAM, IN A SANDBOX (cutbox-rows.mjs): the forced cells as the released guide's own fill.sh prints them over the translation 758ffd6be07811df… (all of the seat's roots in one cut). By AI agents, Wed Nov 11 2026. No macro, syntax, notation, axiom, sorry.
-/
import Derived.Test.YtgampbjdoncdoaaChecked
import GoSem.Claim
import GoSem.ClaimJoined
import GoSem.ClaimMapViews
import Derived.JoinedTies
import Derived.KernelRfl
namespace Go.Proofs.Ytgampbjdoncdoaa
/- THE CELL 'sum', in the pinned program and in every row, IS THE sha256 OF THE DUMP (.gsa) THAT YtgampbjdoncdoaaProg.lean LOADS. Nothing in Lean hashes anything: it is a label: what it is worth is what the hold of that sum in a sandbox is worth. -/
noncomputable def Try.pinned : Pinned := { name := "ytgampbjdoncdoaa", sum := "758ffd6be07811df32cc03c6a9242611765fba5075a2d920427dd02bd01c113d", checked := Try.checked }
namespace Rows
def none {H : Type} : Left H := { results := [], args := [] }

/-- 'laws.FnExactFirstPlan': WHATEVER THE INPUT: true; the input reads as it did. -/
def fnExactFirstPlanSpec : ChangeSpec := { name := "fnExactFirstPlan", fn := fun _ => fun
  | [d1, d2, d3] => { results := [.lit (.bool true)], args := [d1, d2, d3] }
  | _ => none }
def fnExactFirstPlanRow : OpenClaim := { program := "ytgampbjdoncdoaa", sum := "758ffd6be07811df32cc03c6a9242611765fba5075a2d920427dd02bd01c113d", func := "loop.example/g00991/laws.FnExactFirstPlan", spec := "fnExactFirstPlan", unfollowed := true, recurses := true, apart := false }
def FnExactFirstPlanSaid : Prop := fnExactFirstPlanRow.holds Try.pinned (OpenSpec.ofChange fnExactFirstPlanSpec)

/-- ITS FALSE NEIGHBOUR: 'it returns false'. Refute it at one input. -/
def fnExactFirstPlanWrong : ChangeSpec := { name := "fnExactFirstPlan", fn := fun _ => fun
  | [d1, d2, d3] => { results := [.lit (.bool false)], args := [d1, d2, d3] }
  | _ => none }
def FnExactFirstPlanWrongFalsely : Prop := fnExactFirstPlanRow.holds Try.pinned (OpenSpec.ofChange fnExactFirstPlanWrong)

/-- 'laws.FnExactCountPlans': WHATEVER THE INPUT: true; the input reads as it did. -/
def fnExactCountPlansSpec : ChangeSpec := { name := "fnExactCountPlans", fn := fun _ => fun
  | [d1, d2, d3] => { results := [.lit (.bool true)], args := [d1, d2, d3] }
  | _ => none }
def fnExactCountPlansRow : OpenClaim := { program := "ytgampbjdoncdoaa", sum := "758ffd6be07811df32cc03c6a9242611765fba5075a2d920427dd02bd01c113d", func := "loop.example/g00991/laws.FnExactCountPlans", spec := "fnExactCountPlans", unfollowed := true, recurses := true, apart := false }
def FnExactCountPlansSaid : Prop := fnExactCountPlansRow.holds Try.pinned (OpenSpec.ofChange fnExactCountPlansSpec)

/-- ITS FALSE NEIGHBOUR: 'it returns false'. Refute it at one input. -/
def fnExactCountPlansWrong : ChangeSpec := { name := "fnExactCountPlans", fn := fun _ => fun
  | [d1, d2, d3] => { results := [.lit (.bool false)], args := [d1, d2, d3] }
  | _ => none }
def FnExactCountPlansWrongFalsely : Prop := fnExactCountPlansRow.holds Try.pinned (OpenSpec.ofChange fnExactCountPlansWrong)

/-- 'laws.FnExactLeastConflict': WHATEVER THE INPUT: true; the input reads as it did. -/
def fnExactLeastConflictSpec : ChangeSpec := { name := "fnExactLeastConflict", fn := fun _ => fun
  | [d1, d2, d3] => { results := [.lit (.bool true)], args := [d1, d2, d3] }
  | _ => none }
def fnExactLeastConflictRow : OpenClaim := { program := "ytgampbjdoncdoaa", sum := "758ffd6be07811df32cc03c6a9242611765fba5075a2d920427dd02bd01c113d", func := "loop.example/g00991/laws.FnExactLeastConflict", spec := "fnExactLeastConflict", unfollowed := true, recurses := true, apart := false }
def FnExactLeastConflictSaid : Prop := fnExactLeastConflictRow.holds Try.pinned (OpenSpec.ofChange fnExactLeastConflictSpec)

/-- ITS FALSE NEIGHBOUR: 'it returns false'. Refute it at one input. -/
def fnExactLeastConflictWrong : ChangeSpec := { name := "fnExactLeastConflict", fn := fun _ => fun
  | [d1, d2, d3] => { results := [.lit (.bool false)], args := [d1, d2, d3] }
  | _ => none }
def FnExactLeastConflictWrongFalsely : Prop := fnExactLeastConflictRow.holds Try.pinned (OpenSpec.ofChange fnExactLeastConflictWrong)

/-- 'laws.FnExactAppendEntry': WHATEVER THE INPUT: true; the input reads as it did. -/
def fnExactAppendEntrySpec : ChangeSpec := { name := "fnExactAppendEntry", fn := fun _ => fun
  | [d1, d2, d3] => { results := [.lit (.bool true)], args := [d1, d2, d3] }
  | _ => none }
def fnExactAppendEntryRow : OpenClaim := { program := "ytgampbjdoncdoaa", sum := "758ffd6be07811df32cc03c6a9242611765fba5075a2d920427dd02bd01c113d", func := "loop.example/g00991/laws.FnExactAppendEntry", spec := "fnExactAppendEntry", apart := false }
def FnExactAppendEntrySaid : Prop := fnExactAppendEntryRow.holds Try.pinned (OpenSpec.ofChange fnExactAppendEntrySpec)

/-- ITS FALSE NEIGHBOUR: 'it returns false'. Refute it at one input. -/
def fnExactAppendEntryWrong : ChangeSpec := { name := "fnExactAppendEntry", fn := fun _ => fun
  | [d1, d2, d3] => { results := [.lit (.bool false)], args := [d1, d2, d3] }
  | _ => none }
def FnExactAppendEntryWrongFalsely : Prop := fnExactAppendEntryRow.holds Try.pinned (OpenSpec.ofChange fnExactAppendEntryWrong)

/-- 'laws.FnExactFilmedBy': WHATEVER THE INPUT: true; the input reads as it did. -/
def fnExactFilmedBySpec : ChangeSpec := { name := "fnExactFilmedBy", fn := fun _ => fun
  | [d1, d2] => { results := [.lit (.bool true)], args := [d1, d2] }
  | _ => none }
def fnExactFilmedByRow : OpenClaim := { program := "ytgampbjdoncdoaa", sum := "758ffd6be07811df32cc03c6a9242611765fba5075a2d920427dd02bd01c113d", func := "loop.example/g00991/laws.FnExactFilmedBy", spec := "fnExactFilmedBy", unfollowed := true, recurses := true, apart := false }
def FnExactFilmedBySaid : Prop := fnExactFilmedByRow.holds Try.pinned (OpenSpec.ofChange fnExactFilmedBySpec)

/-- ITS FALSE NEIGHBOUR: 'it returns false'. Refute it at one input. -/
def fnExactFilmedByWrong : ChangeSpec := { name := "fnExactFilmedBy", fn := fun _ => fun
  | [d1, d2] => { results := [.lit (.bool false)], args := [d1, d2] }
  | _ => none }
def FnExactFilmedByWrongFalsely : Prop := fnExactFilmedByRow.holds Try.pinned (OpenSpec.ofChange fnExactFilmedByWrong)

/-- 'laws.FnExactHiddenCorners': WHATEVER THE INPUT: true; the input reads as it did. -/
def fnExactHiddenCornersSpec : ChangeSpec := { name := "fnExactHiddenCorners", fn := fun _ => fun
  | [d] => { results := [.lit (.bool true)], args := [d] }
  | _ => none }
def fnExactHiddenCornersRow : OpenClaim := { program := "ytgampbjdoncdoaa", sum := "758ffd6be07811df32cc03c6a9242611765fba5075a2d920427dd02bd01c113d", func := "loop.example/g00991/laws.FnExactHiddenCorners", spec := "fnExactHiddenCorners", unfollowed := true, recurses := true, apart := false }
def FnExactHiddenCornersSaid : Prop := fnExactHiddenCornersRow.holds Try.pinned (OpenSpec.ofChange fnExactHiddenCornersSpec)

/-- ITS FALSE NEIGHBOUR: 'it returns false'. Refute it at one input. -/
def fnExactHiddenCornersWrong : ChangeSpec := { name := "fnExactHiddenCorners", fn := fun _ => fun
  | [d] => { results := [.lit (.bool false)], args := [d] }
  | _ => none }
def FnExactHiddenCornersWrongFalsely : Prop := fnExactHiddenCornersRow.holds Try.pinned (OpenSpec.ofChange fnExactHiddenCornersWrong)

/-- 'laws.FnExactDiagonalsOf': WHATEVER THE INPUT: true; the input reads as it did. -/
def fnExactDiagonalsOfSpec : ChangeSpec := { name := "fnExactDiagonalsOf", fn := fun _ => fun
  | [d] => { results := [.lit (.bool true)], args := [d] }
  | _ => none }
def fnExactDiagonalsOfRow : OpenClaim := { program := "ytgampbjdoncdoaa", sum := "758ffd6be07811df32cc03c6a9242611765fba5075a2d920427dd02bd01c113d", func := "loop.example/g00991/laws.FnExactDiagonalsOf", spec := "fnExactDiagonalsOf", unfollowed := true, recurses := true, apart := false }
def FnExactDiagonalsOfSaid : Prop := fnExactDiagonalsOfRow.holds Try.pinned (OpenSpec.ofChange fnExactDiagonalsOfSpec)

/-- ITS FALSE NEIGHBOUR: 'it returns false'. Refute it at one input. -/
def fnExactDiagonalsOfWrong : ChangeSpec := { name := "fnExactDiagonalsOf", fn := fun _ => fun
  | [d] => { results := [.lit (.bool false)], args := [d] }
  | _ => none }
def FnExactDiagonalsOfWrongFalsely : Prop := fnExactDiagonalsOfRow.holds Try.pinned (OpenSpec.ofChange fnExactDiagonalsOfWrong)

/-- 'laws.FnExactAreWitnesses': WHATEVER THE INPUT: true; the input reads as it did. -/
def fnExactAreWitnessesSpec : ChangeSpec := { name := "fnExactAreWitnesses", fn := fun _ => fun
  | [d1, d2] => { results := [.lit (.bool true)], args := [d1, d2] }
  | _ => none }
def fnExactAreWitnessesRow : OpenClaim := { program := "ytgampbjdoncdoaa", sum := "758ffd6be07811df32cc03c6a9242611765fba5075a2d920427dd02bd01c113d", func := "loop.example/g00991/laws.FnExactAreWitnesses", spec := "fnExactAreWitnesses", unfollowed := true, recurses := true, apart := false }
def FnExactAreWitnessesSaid : Prop := fnExactAreWitnessesRow.holds Try.pinned (OpenSpec.ofChange fnExactAreWitnessesSpec)

/-- ITS FALSE NEIGHBOUR: 'it returns false'. Refute it at one input. -/
def fnExactAreWitnessesWrong : ChangeSpec := { name := "fnExactAreWitnesses", fn := fun _ => fun
  | [d1, d2] => { results := [.lit (.bool false)], args := [d1, d2] }
  | _ => none }
def FnExactAreWitnessesWrongFalsely : Prop := fnExactAreWitnessesRow.holds Try.pinned (OpenSpec.ofChange fnExactAreWitnessesWrong)

/- THE SECOND FORM. 'bulk': how many values and letters a reading holds, each counted each time it is reached (what is shared counts as often as it is met; a slice's spare places count too). A statement '..UptoSaid' is the law's where the arguments, and the package variables that the reading takes, are together of bulk at most 1048576: NARROWER than '..Said'. Prove '..Said' where nothing that the law and all that it calls make is longer than what came in: it says more and counts as full. Else prove '..UptoSaid'. A law counts once. -/
mutual
def uptoBulk {H : Type} : DataW H → Nat
  | .lit (.string bytes) => bytes.length + 1
  | .lit _ => 1
  | .nil => 1
  | .ptr d => uptoBulk d + 1
  | .slice elems spare => uptoBulkAll elems + uptoBulkAll spare + 1
  | .agg parts => uptoBulkAll parts + 1
  | .iface _ d => uptoBulk d + 1
  | .map entries => uptoBulkEntries entries + 1
  | .held _ => 1
def uptoBulkAll {H : Type} : List (DataW H) → Nat
  | [] => 0
  | d :: r => uptoBulk d + uptoBulkAll r
def uptoBulkEntries {H : Type} : List (Lit × DataW H) → Nat
  | [] => 0
  | x :: r => uptoBulkEntry x + uptoBulkEntries r
def uptoBulkEntry {H : Type} : Lit × DataW H → Nat
  | (.string bytes, d) => bytes.length + uptoBulk d + 1
  | (_, d) => uptoBulk d + 1
 end
def uptoSmall : (H : Type) → List (DataW H) → Bool := fun _ ds => decide (uptoBulkAll ds ≤ 1048576)
def OpenSpec.upto (s : _root_.Go.ChangeSpec) : _root_.Go.OpenSpec := { _root_.Go.OpenSpec.ofChange s with cond := some uptoSmall }

/-- 'laws.FnExactFirstPlan', WHERE WHAT IT READS IS OF BULK AT MOST 1048576: true; the input reads as it did. -/
def fnExactFirstPlanUptoRow : OpenClaim := { program := "ytgampbjdoncdoaa", sum := "758ffd6be07811df32cc03c6a9242611765fba5075a2d920427dd02bd01c113d", func := "loop.example/g00991/laws.FnExactFirstPlan", spec := "fnExactFirstPlan", unfollowed := true, recurses := true, apart := false, narrowed := true }
def FnExactFirstPlanUptoSaid : Prop := fnExactFirstPlanUptoRow.holds Try.pinned (OpenSpec.upto fnExactFirstPlanSpec)

/-- 'laws.FnExactCountPlans', WHERE WHAT IT READS IS OF BULK AT MOST 1048576: true; the input reads as it did. -/
def fnExactCountPlansUptoRow : OpenClaim := { program := "ytgampbjdoncdoaa", sum := "758ffd6be07811df32cc03c6a9242611765fba5075a2d920427dd02bd01c113d", func := "loop.example/g00991/laws.FnExactCountPlans", spec := "fnExactCountPlans", unfollowed := true, recurses := true, apart := false, narrowed := true }
def FnExactCountPlansUptoSaid : Prop := fnExactCountPlansUptoRow.holds Try.pinned (OpenSpec.upto fnExactCountPlansSpec)

/-- 'laws.FnExactLeastConflict', WHERE WHAT IT READS IS OF BULK AT MOST 1048576: true; the input reads as it did. -/
def fnExactLeastConflictUptoRow : OpenClaim := { program := "ytgampbjdoncdoaa", sum := "758ffd6be07811df32cc03c6a9242611765fba5075a2d920427dd02bd01c113d", func := "loop.example/g00991/laws.FnExactLeastConflict", spec := "fnExactLeastConflict", unfollowed := true, recurses := true, apart := false, narrowed := true }
def FnExactLeastConflictUptoSaid : Prop := fnExactLeastConflictUptoRow.holds Try.pinned (OpenSpec.upto fnExactLeastConflictSpec)

/-- 'laws.FnExactAppendEntry', WHERE WHAT IT READS IS OF BULK AT MOST 1048576: true; the input reads as it did. -/
def fnExactAppendEntryUptoRow : OpenClaim := { program := "ytgampbjdoncdoaa", sum := "758ffd6be07811df32cc03c6a9242611765fba5075a2d920427dd02bd01c113d", func := "loop.example/g00991/laws.FnExactAppendEntry", spec := "fnExactAppendEntry", apart := false, narrowed := true }
def FnExactAppendEntryUptoSaid : Prop := fnExactAppendEntryUptoRow.holds Try.pinned (OpenSpec.upto fnExactAppendEntrySpec)

/-- 'laws.FnExactFilmedBy', WHERE WHAT IT READS IS OF BULK AT MOST 1048576: true; the input reads as it did. -/
def fnExactFilmedByUptoRow : OpenClaim := { program := "ytgampbjdoncdoaa", sum := "758ffd6be07811df32cc03c6a9242611765fba5075a2d920427dd02bd01c113d", func := "loop.example/g00991/laws.FnExactFilmedBy", spec := "fnExactFilmedBy", unfollowed := true, recurses := true, apart := false, narrowed := true }
def FnExactFilmedByUptoSaid : Prop := fnExactFilmedByUptoRow.holds Try.pinned (OpenSpec.upto fnExactFilmedBySpec)

/-- 'laws.FnExactHiddenCorners', WHERE WHAT IT READS IS OF BULK AT MOST 1048576: true; the input reads as it did. -/
def fnExactHiddenCornersUptoRow : OpenClaim := { program := "ytgampbjdoncdoaa", sum := "758ffd6be07811df32cc03c6a9242611765fba5075a2d920427dd02bd01c113d", func := "loop.example/g00991/laws.FnExactHiddenCorners", spec := "fnExactHiddenCorners", unfollowed := true, recurses := true, apart := false, narrowed := true }
def FnExactHiddenCornersUptoSaid : Prop := fnExactHiddenCornersUptoRow.holds Try.pinned (OpenSpec.upto fnExactHiddenCornersSpec)

/-- 'laws.FnExactDiagonalsOf', WHERE WHAT IT READS IS OF BULK AT MOST 1048576: true; the input reads as it did. -/
def fnExactDiagonalsOfUptoRow : OpenClaim := { program := "ytgampbjdoncdoaa", sum := "758ffd6be07811df32cc03c6a9242611765fba5075a2d920427dd02bd01c113d", func := "loop.example/g00991/laws.FnExactDiagonalsOf", spec := "fnExactDiagonalsOf", unfollowed := true, recurses := true, apart := false, narrowed := true }
def FnExactDiagonalsOfUptoSaid : Prop := fnExactDiagonalsOfUptoRow.holds Try.pinned (OpenSpec.upto fnExactDiagonalsOfSpec)

/-- 'laws.FnExactAreWitnesses', WHERE WHAT IT READS IS OF BULK AT MOST 1048576: true; the input reads as it did. -/
def fnExactAreWitnessesUptoRow : OpenClaim := { program := "ytgampbjdoncdoaa", sum := "758ffd6be07811df32cc03c6a9242611765fba5075a2d920427dd02bd01c113d", func := "loop.example/g00991/laws.FnExactAreWitnesses", spec := "fnExactAreWitnesses", unfollowed := true, recurses := true, apart := false, narrowed := true }
def FnExactAreWitnessesUptoSaid : Prop := fnExactAreWitnessesUptoRow.holds Try.pinned (OpenSpec.upto fnExactAreWitnessesSpec)

end Rows
end Go.Proofs.Ytgampbjdoncdoaa
