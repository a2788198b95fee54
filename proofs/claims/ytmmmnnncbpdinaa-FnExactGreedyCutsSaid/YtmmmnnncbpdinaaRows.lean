/-
  No cell of these rows narrows 'for every input' (looked for: loops, veiled, ifaces, maps, wideKeys, modest, calm, conditions, laid).
  DERIVED. THE GIVEN ROWS OF THIS SEAT. 4 by the template 'for every input the law returns true; each argument reads behind the call as it read before'; 0 by the template 'total and deterministic' (their statements: YtmmmnnncbpdinaaTotals.lean).
  GIVEN WITH THE SEED: the statements are not yours to turn. If you find one false, say at which input.
  Laid BY PROGRAM, IN A SANDBOX (cutbox-rows.mjs): the forced cells as the released guide's own fill.sh prints them over the translation ca6c3e98e90bfc26… (all of the seat's roots in one cut). By AI agents, Wed Nov 11 2026. No macro, syntax, notation, axiom, sorry.
-/
import Derived.Test.YtmmmnnncbpdinaaChecked
import GoSem.Claim
import GoSem.ClaimJoined
import GoSem.ClaimMapViews
import Derived.JoinedTies
import Derived.KernelRfl
namespace Go.Proofs.Ytmmmnnncbpdinaa
/- THE CELL 'sum', in the pinned program and in every row, IS THE sha256 OF THE DUMP (.gsa) THAT YtmmmnnncbpdinaaProg.lean LOADS. Nothing in Lean hashes anything: it is a label: what it is worth is what the hold of that sum in a sandbox is worth. -/
noncomputable def Try.pinned : Pinned := { name := "ytmmmnnncbpdinaa", sum := "ca6c3e98e90bfc26297e03127203449045984390e07f17e22f7e7e7c384c4784", checked := Try.checked }
namespace Rows
def none {H : Type} : Left H := { results := [], args := [] }

/-- 'laws.FnExactCutRoom': WHATEVER THE INPUT: true; the input reads as it did. -/
def fnExactCutRoomSpec : ChangeSpec := { name := "fnExactCutRoom", fn := fun _ => fun
  | [d1, d2, d3] => { results := [.lit (.bool true)], args := [d1, d2, d3] }
  | _ => none }
def fnExactCutRoomRow : OpenClaim := { program := "ytmmmnnncbpdinaa", sum := "ca6c3e98e90bfc26297e03127203449045984390e07f17e22f7e7e7c384c4784", func := "loop.example/g00991/laws.FnExactCutRoom", spec := "fnExactCutRoom", unfollowed := true, recurses := true, apart := false }
def FnExactCutRoomSaid : Prop := fnExactCutRoomRow.holds Try.pinned (OpenSpec.ofChange fnExactCutRoomSpec)

/-- ITS FALSE NEIGHBOUR: 'it returns false'. Refute it at one input. -/
def fnExactCutRoomWrong : ChangeSpec := { name := "fnExactCutRoom", fn := fun _ => fun
  | [d1, d2, d3] => { results := [.lit (.bool false)], args := [d1, d2, d3] }
  | _ => none }
def FnExactCutRoomWrongFalsely : Prop := fnExactCutRoomRow.holds Try.pinned (OpenSpec.ofChange fnExactCutRoomWrong)

/-- 'laws.FnExactCutEar': WHATEVER THE INPUT: true; the input reads as it did. -/
def fnExactCutEarSpec : ChangeSpec := { name := "fnExactCutEar", fn := fun _ => fun
  | [d1, d2] => { results := [.lit (.bool true)], args := [d1, d2] }
  | _ => none }
def fnExactCutEarRow : OpenClaim := { program := "ytmmmnnncbpdinaa", sum := "ca6c3e98e90bfc26297e03127203449045984390e07f17e22f7e7e7c384c4784", func := "loop.example/g00991/laws.FnExactCutEar", spec := "fnExactCutEar", unfollowed := true, recurses := true, apart := false }
def FnExactCutEarSaid : Prop := fnExactCutEarRow.holds Try.pinned (OpenSpec.ofChange fnExactCutEarSpec)

/-- ITS FALSE NEIGHBOUR: 'it returns false'. Refute it at one input. -/
def fnExactCutEarWrong : ChangeSpec := { name := "fnExactCutEar", fn := fun _ => fun
  | [d1, d2] => { results := [.lit (.bool false)], args := [d1, d2] }
  | _ => none }
def FnExactCutEarWrongFalsely : Prop := fnExactCutEarRow.holds Try.pinned (OpenSpec.ofChange fnExactCutEarWrong)

/-- 'laws.FnExactGreedyCuts': WHATEVER THE INPUT: true; the input reads as it did. -/
def fnExactGreedyCutsSpec : ChangeSpec := { name := "fnExactGreedyCuts", fn := fun _ => fun
  | [d] => { results := [.lit (.bool true)], args := [d] }
  | _ => none }
def fnExactGreedyCutsRow : OpenClaim := { program := "ytmmmnnncbpdinaa", sum := "ca6c3e98e90bfc26297e03127203449045984390e07f17e22f7e7e7c384c4784", func := "loop.example/g00991/laws.FnExactGreedyCuts", spec := "fnExactGreedyCuts", unfollowed := true, recurses := true, apart := false }
def FnExactGreedyCutsSaid : Prop := fnExactGreedyCutsRow.holds Try.pinned (OpenSpec.ofChange fnExactGreedyCutsSpec)

/-- ITS FALSE NEIGHBOUR: 'it returns false'. Refute it at one input. -/
def fnExactGreedyCutsWrong : ChangeSpec := { name := "fnExactGreedyCuts", fn := fun _ => fun
  | [d] => { results := [.lit (.bool false)], args := [d] }
  | _ => none }
def FnExactGreedyCutsWrongFalsely : Prop := fnExactGreedyCutsRow.holds Try.pinned (OpenSpec.ofChange fnExactGreedyCutsWrong)

/-- 'laws.FnExactArePlans': WHATEVER THE INPUT: true; the input reads as it did. -/
def fnExactArePlansSpec : ChangeSpec := { name := "fnExactArePlans", fn := fun _ => fun
  | [d1, d2] => { results := [.lit (.bool true)], args := [d1, d2] }
  | _ => none }
def fnExactArePlansRow : OpenClaim := { program := "ytmmmnnncbpdinaa", sum := "ca6c3e98e90bfc26297e03127203449045984390e07f17e22f7e7e7c384c4784", func := "loop.example/g00991/laws.FnExactArePlans", spec := "fnExactArePlans", unfollowed := true, recurses := true, apart := false }
def FnExactArePlansSaid : Prop := fnExactArePlansRow.holds Try.pinned (OpenSpec.ofChange fnExactArePlansSpec)

/-- ITS FALSE NEIGHBOUR: 'it returns false'. Refute it at one input. -/
def fnExactArePlansWrong : ChangeSpec := { name := "fnExactArePlans", fn := fun _ => fun
  | [d1, d2] => { results := [.lit (.bool false)], args := [d1, d2] }
  | _ => none }
def FnExactArePlansWrongFalsely : Prop := fnExactArePlansRow.holds Try.pinned (OpenSpec.ofChange fnExactArePlansWrong)

/- THE SECOND FORM. 'bulk': how many values and letters a reading holds, each counted each time it is reached (what is shared counts as often as it is met; a slice's spare places count too). A statement '..UptoSaid' is the law's where the arguments, and the package variables that the reading takes, are together of bulk at most 1048576: NARROWER than '..Said'. Prove '..Said' where nothing that the law and all that it calls make is longer than what came in: it says more and counts as full. Else prove '..UptoSaid'. A law counts once. -/
mutual
def uptoBulk {H : Type} : DataW H → Nat
  | .lit (.string bytes) => bytes.length + 1
  | .lit _ => 1
  | .nil => 1
  | .ptr d => uptoBulk d + 1
  | .slice elems spare => uptoBulkAll elems + uptoBulkAll spare + 1
  | .agg parts => uptoBulkAll parts + 1
  | .iface _ d => uptoBulk d + 1
  | .map entries => uptoBulkEntries entries + 1
  | .held _ => 1
def uptoBulkAll {H : Type} : List (DataW H) → Nat
  | [] => 0
  | d :: r => uptoBulk d + uptoBulkAll r
def uptoBulkEntries {H : Type} : List (Lit × DataW H) → Nat
  | [] => 0
  | x :: r => uptoBulkEntry x + uptoBulkEntries r
def uptoBulkEntry {H : Type} : Lit × DataW H → Nat
  | (.string bytes, d) => bytes.length + uptoBulk d + 1
  | (_, d) => uptoBulk d + 1
 end
def uptoSmall : (H : Type) → List (DataW H) → Bool := fun _ ds => decide (uptoBulkAll ds ≤ 1048576)
def OpenSpec.upto (s : _root_.Go.ChangeSpec) : _root_.Go.OpenSpec := { _root_.Go.OpenSpec.ofChange s with cond := some uptoSmall }

/-- 'laws.FnExactCutRoom', WHERE WHAT IT READS IS OF BULK AT MOST 1048576: true; the input reads as it did. -/
def fnExactCutRoomUptoRow : OpenClaim := { program := "ytmmmnnncbpdinaa", sum := "ca6c3e98e90bfc26297e03127203449045984390e07f17e22f7e7e7c384c4784", func := "loop.example/g00991/laws.FnExactCutRoom", spec := "fnExactCutRoom", unfollowed := true, recurses := true, apart := false, narrowed := true }
def FnExactCutRoomUptoSaid : Prop := fnExactCutRoomUptoRow.holds Try.pinned (OpenSpec.upto fnExactCutRoomSpec)

/-- 'laws.FnExactCutEar', WHERE WHAT IT READS IS OF BULK AT MOST 1048576: true; the input reads as it did. -/
def fnExactCutEarUptoRow : OpenClaim := { program := "ytmmmnnncbpdinaa", sum := "ca6c3e98e90bfc26297e03127203449045984390e07f17e22f7e7e7c384c4784", func := "loop.example/g00991/laws.FnExactCutEar", spec := "fnExactCutEar", unfollowed := true, recurses := true, apart := false, narrowed := true }
def FnExactCutEarUptoSaid : Prop := fnExactCutEarUptoRow.holds Try.pinned (OpenSpec.upto fnExactCutEarSpec)

/-- 'laws.FnExactGreedyCuts', WHERE WHAT IT READS IS OF BULK AT MOST 1048576: true; the input reads as it did. -/
def fnExactGreedyCutsUptoRow : OpenClaim := { program := "ytmmmnnncbpdinaa", sum := "ca6c3e98e90bfc26297e03127203449045984390e07f17e22f7e7e7c384c4784", func := "loop.example/g00991/laws.FnExactGreedyCuts", spec := "fnExactGreedyCuts", unfollowed := true, recurses := true, apart := false, narrowed := true }
def FnExactGreedyCutsUptoSaid : Prop := fnExactGreedyCutsUptoRow.holds Try.pinned (OpenSpec.upto fnExactGreedyCutsSpec)

/-- 'laws.FnExactArePlans', WHERE WHAT IT READS IS OF BULK AT MOST 1048576: true; the input reads as it did. -/
def fnExactArePlansUptoRow : OpenClaim := { program := "ytmmmnnncbpdinaa", sum := "ca6c3e98e90bfc26297e03127203449045984390e07f17e22f7e7e7c384c4784", func := "loop.example/g00991/laws.FnExactArePlans", spec := "fnExactArePlans", unfollowed := true, recurses := true, apart := false, narrowed := true }
def FnExactArePlansUptoSaid : Prop := fnExactArePlansUptoRow.holds Try.pinned (OpenSpec.upto fnExactArePlansSpec)

end Rows
end Go.Proofs.Ytmmmnnncbpdinaa
