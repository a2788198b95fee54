/-
  No cell of these rows narrows 'for every input' (looked for: loops, veiled, ifaces, maps, wideKeys, modest, calm, conditions, laid).
  DERIVED. THE GIVEN ROWS OF THIS SEAT. 7 by the template 'for every input the law returns true; each argument reads behind the call as it read before'; 0 by the template 'total and deterministic' (their statements: YthokeedmccfalaaTotals.lean).
  GIVEN WITH THE SEED: the statements are not yours to turn. If you find one false, say at which input.
  Laid BY PROGRAM, IN A SANDBOX (cutbox-rows.mjs): the forced cells as the released guide's own fill.sh prints them over the translation f1af1eb1f68f7603… (all of the seat's roots in one cut). By AI agents, Wed Nov 11 2026. No macro, syntax, notation, axiom, sorry.
-/
import Derived.Test.YthokeedmccfalaaChecked
import GoSem.Claim
import GoSem.ClaimJoined
import GoSem.ClaimMapViews
import Derived.JoinedTies
import Derived.KernelRfl
namespace Go.Proofs.Ythokeedmccfalaa
/- THE CELL 'sum', in the pinned program and in every row, IS THE sha256 OF THE DUMP (.gsa) THAT YthokeedmccfalaaProg.lean LOADS. Nothing in Lean hashes anything: it is a label: what it is worth is what the hold of that sum in a sandbox is worth. -/
noncomputable def Try.pinned : Pinned := { name := "ythokeedmccfalaa", sum := "f1af1eb1f68f76039e4647b7aa3288e8aa23b8b40f43d2e69c3fad0e313f711c", checked := Try.checked }
namespace Rows
def none {H : Type} : Left H := { results := [], args := [] }

/-- 'laws.FnExactAppendEntry': WHATEVER THE INPUT: true; the input reads as it did. -/
def fnExactAppendEntrySpec : ChangeSpec := { name := "fnExactAppendEntry", fn := fun _ => fun
  | [d1, d2, d3] => { results := [.lit (.bool true)], args := [d1, d2, d3] }
  | _ => none }
def fnExactAppendEntryRow : OpenClaim := { program := "ythokeedmccfalaa", sum := "f1af1eb1f68f76039e4647b7aa3288e8aa23b8b40f43d2e69c3fad0e313f711c", func := "loop.example/g00991/laws.FnExactAppendEntry", spec := "fnExactAppendEntry", apart := false }
def FnExactAppendEntrySaid : Prop := fnExactAppendEntryRow.holds Try.pinned (OpenSpec.ofChange fnExactAppendEntrySpec)

/-- ITS FALSE NEIGHBOUR: 'it returns false'. Refute it at one input. -/
def fnExactAppendEntryWrong : ChangeSpec := { name := "fnExactAppendEntry", fn := fun _ => fun
  | [d1, d2, d3] => { results := [.lit (.bool false)], args := [d1, d2, d3] }
  | _ => none }
def FnExactAppendEntryWrongFalsely : Prop := fnExactAppendEntryRow.holds Try.pinned (OpenSpec.ofChange fnExactAppendEntryWrong)

/-- 'laws.FnExactCutEar': WHATEVER THE INPUT: true; the input reads as it did. -/
def fnExactCutEarSpec : ChangeSpec := { name := "fnExactCutEar", fn := fun _ => fun
  | [d1, d2] => { results := [.lit (.bool true)], args := [d1, d2] }
  | _ => none }
def fnExactCutEarRow : OpenClaim := { program := "ythokeedmccfalaa", sum := "f1af1eb1f68f76039e4647b7aa3288e8aa23b8b40f43d2e69c3fad0e313f711c", func := "loop.example/g00991/laws.FnExactCutEar", spec := "fnExactCutEar", unfollowed := true, recurses := true, apart := false }
def FnExactCutEarSaid : Prop := fnExactCutEarRow.holds Try.pinned (OpenSpec.ofChange fnExactCutEarSpec)

/-- ITS FALSE NEIGHBOUR: 'it returns false'. Refute it at one input. -/
def fnExactCutEarWrong : ChangeSpec := { name := "fnExactCutEar", fn := fun _ => fun
  | [d1, d2] => { results := [.lit (.bool false)], args := [d1, d2] }
  | _ => none }
def FnExactCutEarWrongFalsely : Prop := fnExactCutEarRow.holds Try.pinned (OpenSpec.ofChange fnExactCutEarWrong)

/-- 'laws.FnExactFilmedBy': WHATEVER THE INPUT: true; the input reads as it did. -/
def fnExactFilmedBySpec : ChangeSpec := { name := "fnExactFilmedBy", fn := fun _ => fun
  | [d1, d2] => { results := [.lit (.bool true)], args := [d1, d2] }
  | _ => none }
def fnExactFilmedByRow : OpenClaim := { program := "ythokeedmccfalaa", sum := "f1af1eb1f68f76039e4647b7aa3288e8aa23b8b40f43d2e69c3fad0e313f711c", func := "loop.example/g00991/laws.FnExactFilmedBy", spec := "fnExactFilmedBy", unfollowed := true, recurses := true, apart := false }
def FnExactFilmedBySaid : Prop := fnExactFilmedByRow.holds Try.pinned (OpenSpec.ofChange fnExactFilmedBySpec)

/-- ITS FALSE NEIGHBOUR: 'it returns false'. Refute it at one input. -/
def fnExactFilmedByWrong : ChangeSpec := { name := "fnExactFilmedBy", fn := fun _ => fun
  | [d1, d2] => { results := [.lit (.bool false)], args := [d1, d2] }
  | _ => none }
def FnExactFilmedByWrongFalsely : Prop := fnExactFilmedByRow.holds Try.pinned (OpenSpec.ofChange fnExactFilmedByWrong)

/-- 'laws.FnExactArePlans': WHATEVER THE INPUT: true; the input reads as it did. -/
def fnExactArePlansSpec : ChangeSpec := { name := "fnExactArePlans", fn := fun _ => fun
  | [d1, d2] => { results := [.lit (.bool true)], args := [d1, d2] }
  | _ => none }
def fnExactArePlansRow : OpenClaim := { program := "ythokeedmccfalaa", sum := "f1af1eb1f68f76039e4647b7aa3288e8aa23b8b40f43d2e69c3fad0e313f711c", func := "loop.example/g00991/laws.FnExactArePlans", spec := "fnExactArePlans", unfollowed := true, recurses := true, apart := false }
def FnExactArePlansSaid : Prop := fnExactArePlansRow.holds Try.pinned (OpenSpec.ofChange fnExactArePlansSpec)

/-- ITS FALSE NEIGHBOUR: 'it returns false'. Refute it at one input. -/
def fnExactArePlansWrong : ChangeSpec := { name := "fnExactArePlans", fn := fun _ => fun
  | [d1, d2] => { results := [.lit (.bool false)], args := [d1, d2] }
  | _ => none }
def FnExactArePlansWrongFalsely : Prop := fnExactArePlansRow.holds Try.pinned (OpenSpec.ofChange fnExactArePlansWrong)

/-- 'laws.FnExactFirstPlan': WHATEVER THE INPUT: true; the input reads as it did. -/
def fnExactFirstPlanSpec : ChangeSpec := { name := "fnExactFirstPlan", fn := fun _ => fun
  | [d1, d2, d3] => { results := [.lit (.bool true)], args := [d1, d2, d3] }
  | _ => none }
def fnExactFirstPlanRow : OpenClaim := { program := "ythokeedmccfalaa", sum := "f1af1eb1f68f76039e4647b7aa3288e8aa23b8b40f43d2e69c3fad0e313f711c", func := "loop.example/g00991/laws.FnExactFirstPlan", spec := "fnExactFirstPlan", unfollowed := true, recurses := true, apart := false }
def FnExactFirstPlanSaid : Prop := fnExactFirstPlanRow.holds Try.pinned (OpenSpec.ofChange fnExactFirstPlanSpec)

/-- ITS FALSE NEIGHBOUR: 'it returns false'. Refute it at one input. -/
def fnExactFirstPlanWrong : ChangeSpec := { name := "fnExactFirstPlan", fn := fun _ => fun
  | [d1, d2, d3] => { results := [.lit (.bool false)], args := [d1, d2, d3] }
  | _ => none }
def FnExactFirstPlanWrongFalsely : Prop := fnExactFirstPlanRow.holds Try.pinned (OpenSpec.ofChange fnExactFirstPlanWrong)

/-- 'laws.FnExactCountPlans': WHATEVER THE INPUT: true; the input reads as it did. -/
def fnExactCountPlansSpec : ChangeSpec := { name := "fnExactCountPlans", fn := fun _ => fun
  | [d1, d2, d3] => { results := [.lit (.bool true)], args := [d1, d2, d3] }
  | _ => none }
def fnExactCountPlansRow : OpenClaim := { program := "ythokeedmccfalaa", sum := "f1af1eb1f68f76039e4647b7aa3288e8aa23b8b40f43d2e69c3fad0e313f711c", func := "loop.example/g00991/laws.FnExactCountPlans", spec := "fnExactCountPlans", unfollowed := true, recurses := true, apart := false }
def FnExactCountPlansSaid : Prop := fnExactCountPlansRow.holds Try.pinned (OpenSpec.ofChange fnExactCountPlansSpec)

/-- ITS FALSE NEIGHBOUR: 'it returns false'. Refute it at one input. -/
def fnExactCountPlansWrong : ChangeSpec := { name := "fnExactCountPlans", fn := fun _ => fun
  | [d1, d2, d3] => { results := [.lit (.bool false)], args := [d1, d2, d3] }
  | _ => none }
def FnExactCountPlansWrongFalsely : Prop := fnExactCountPlansRow.holds Try.pinned (OpenSpec.ofChange fnExactCountPlansWrong)

/-- 'laws.FnExactLeastConflict': WHATEVER THE INPUT: true; the input reads as it did. -/
def fnExactLeastConflictSpec : ChangeSpec := { name := "fnExactLeastConflict", fn := fun _ => fun
  | [d1, d2, d3] => { results := [.lit (.bool true)], args := [d1, d2, d3] }
  | _ => none }
def fnExactLeastConflictRow : OpenClaim := { program := "ythokeedmccfalaa", sum := "f1af1eb1f68f76039e4647b7aa3288e8aa23b8b40f43d2e69c3fad0e313f711c", func := "loop.example/g00991/laws.FnExactLeastConflict", spec := "fnExactLeastConflict", unfollowed := true, recurses := true, apart := false }
def FnExactLeastConflictSaid : Prop := fnExactLeastConflictRow.holds Try.pinned (OpenSpec.ofChange fnExactLeastConflictSpec)

/-- ITS FALSE NEIGHBOUR: 'it returns false'. Refute it at one input. -/
def fnExactLeastConflictWrong : ChangeSpec := { name := "fnExactLeastConflict", fn := fun _ => fun
  | [d1, d2, d3] => { results := [.lit (.bool false)], args := [d1, d2, d3] }
  | _ => none }
def FnExactLeastConflictWrongFalsely : Prop := fnExactLeastConflictRow.holds Try.pinned (OpenSpec.ofChange fnExactLeastConflictWrong)

/- THE SECOND FORM. 'bulk': how many values and letters a reading holds, each counted each time it is reached (what is shared counts as often as it is met; a slice's spare places count too). A statement '..UptoSaid' is the law's where the arguments, and the package variables that the reading takes, are together of bulk at most 1048576: NARROWER than '..Said'. Prove '..Said' where nothing that the law and all that it calls make is longer than what came in: it says more and counts as full. Else prove '..UptoSaid'. A law counts once. -/
mutual
def uptoBulk {H : Type} : DataW H → Nat
  | .lit (.string bytes) => bytes.length + 1
  | .lit _ => 1
  | .nil => 1
  | .ptr d => uptoBulk d + 1
  | .slice elems spare => uptoBulkAll elems + uptoBulkAll spare + 1
  | .agg parts => uptoBulkAll parts + 1
  | .iface _ d => uptoBulk d + 1
  | .map entries => uptoBulkEntries entries + 1
  | .held _ => 1
def uptoBulkAll {H : Type} : List (DataW H) → Nat
  | [] => 0
  | d :: r => uptoBulk d + uptoBulkAll r
def uptoBulkEntries {H : Type} : List (Lit × DataW H) → Nat
  | [] => 0
  | x :: r => uptoBulkEntry x + uptoBulkEntries r
def uptoBulkEntry {H : Type} : Lit × DataW H → Nat
  | (.string bytes, d) => bytes.length + uptoBulk d + 1
  | (_, d) => uptoBulk d + 1
 end
def uptoSmall : (H : Type) → List (DataW H) → Bool := fun _ ds => decide (uptoBulkAll ds ≤ 1048576)
def OpenSpec.upto (s : _root_.Go.ChangeSpec) : _root_.Go.OpenSpec := { _root_.Go.OpenSpec.ofChange s with cond := some uptoSmall }

/-- 'laws.FnExactAppendEntry', WHERE WHAT IT READS IS OF BULK AT MOST 1048576: true; the input reads as it did. -/
def fnExactAppendEntryUptoRow : OpenClaim := { program := "ythokeedmccfalaa", sum := "f1af1eb1f68f76039e4647b7aa3288e8aa23b8b40f43d2e69c3fad0e313f711c", func := "loop.example/g00991/laws.FnExactAppendEntry", spec := "fnExactAppendEntry", apart := false, narrowed := true }
def FnExactAppendEntryUptoSaid : Prop := fnExactAppendEntryUptoRow.holds Try.pinned (OpenSpec.upto fnExactAppendEntrySpec)

/-- 'laws.FnExactCutEar', WHERE WHAT IT READS IS OF BULK AT MOST 1048576: true; the input reads as it did. -/
def fnExactCutEarUptoRow : OpenClaim := { program := "ythokeedmccfalaa", sum := "f1af1eb1f68f76039e4647b7aa3288e8aa23b8b40f43d2e69c3fad0e313f711c", func := "loop.example/g00991/laws.FnExactCutEar", spec := "fnExactCutEar", unfollowed := true, recurses := true, apart := false, narrowed := true }
def FnExactCutEarUptoSaid : Prop := fnExactCutEarUptoRow.holds Try.pinned (OpenSpec.upto fnExactCutEarSpec)

/-- 'laws.FnExactFilmedBy', WHERE WHAT IT READS IS OF BULK AT MOST 1048576: true; the input reads as it did. -/
def fnExactFilmedByUptoRow : OpenClaim := { program := "ythokeedmccfalaa", sum := "f1af1eb1f68f76039e4647b7aa3288e8aa23b8b40f43d2e69c3fad0e313f711c", func := "loop.example/g00991/laws.FnExactFilmedBy", spec := "fnExactFilmedBy", unfollowed := true, recurses := true, apart := false, narrowed := true }
def FnExactFilmedByUptoSaid : Prop := fnExactFilmedByUptoRow.holds Try.pinned (OpenSpec.upto fnExactFilmedBySpec)

/-- 'laws.FnExactArePlans', WHERE WHAT IT READS IS OF BULK AT MOST 1048576: true; the input reads as it did. -/
def fnExactArePlansUptoRow : OpenClaim := { program := "ythokeedmccfalaa", sum := "f1af1eb1f68f76039e4647b7aa3288e8aa23b8b40f43d2e69c3fad0e313f711c", func := "loop.example/g00991/laws.FnExactArePlans", spec := "fnExactArePlans", unfollowed := true, recurses := true, apart := false, narrowed := true }
def FnExactArePlansUptoSaid : Prop := fnExactArePlansUptoRow.holds Try.pinned (OpenSpec.upto fnExactArePlansSpec)

/-- 'laws.FnExactFirstPlan', WHERE WHAT IT READS IS OF BULK AT MOST 1048576: true; the input reads as it did. -/
def fnExactFirstPlanUptoRow : OpenClaim := { program := "ythokeedmccfalaa", sum := "f1af1eb1f68f76039e4647b7aa3288e8aa23b8b40f43d2e69c3fad0e313f711c", func := "loop.example/g00991/laws.FnExactFirstPlan", spec := "fnExactFirstPlan", unfollowed := true, recurses := true, apart := false, narrowed := true }
def FnExactFirstPlanUptoSaid : Prop := fnExactFirstPlanUptoRow.holds Try.pinned (OpenSpec.upto fnExactFirstPlanSpec)

/-- 'laws.FnExactCountPlans', WHERE WHAT IT READS IS OF BULK AT MOST 1048576: true; the input reads as it did. -/
def fnExactCountPlansUptoRow : OpenClaim := { program := "ythokeedmccfalaa", sum := "f1af1eb1f68f76039e4647b7aa3288e8aa23b8b40f43d2e69c3fad0e313f711c", func := "loop.example/g00991/laws.FnExactCountPlans", spec := "fnExactCountPlans", unfollowed := true, recurses := true, apart := false, narrowed := true }
def FnExactCountPlansUptoSaid : Prop := fnExactCountPlansUptoRow.holds Try.pinned (OpenSpec.upto fnExactCountPlansSpec)

/-- 'laws.FnExactLeastConflict', WHERE WHAT IT READS IS OF BULK AT MOST 1048576: true; the input reads as it did. -/
def fnExactLeastConflictUptoRow : OpenClaim := { program := "ythokeedmccfalaa", sum := "f1af1eb1f68f76039e4647b7aa3288e8aa23b8b40f43d2e69c3fad0e313f711c", func := "loop.example/g00991/laws.FnExactLeastConflict", spec := "fnExactLeastConflict", unfollowed := true, recurses := true, apart := false, narrowed := true }
def FnExactLeastConflictUptoSaid : Prop := fnExactLeastConflictUptoRow.holds Try.pinned (OpenSpec.upto fnExactLeastConflictSpec)

end Rows
end Go.Proofs.Ythokeedmccfalaa
