/-
  No cell of these rows narrows 'for every input' (looked for: loops, veiled, ifaces, maps, wideKeys, modest, calm, conditions, laid).
  DERIVED. THE GIVEN ROWS OF THIS SEAT. 9 by the template 'for every input the law returns true; each argument reads behind the call as it read before'; 0 by the template 'total and deterministic' (their statements: YtgelkpaiabhklaaTotals.lean).
  GIVEN WITH THE SEED: the statements are not yours to turn. If you find one false, say at which input.
  Laid BY PROGRAM, IN A SANDBOX (cutbox-rows.mjs): the forced cells as the released guide's own fill.sh prints them over the translation 03e932aed361867b… (all of the seat's roots in one cut). By AI agents, Wed Nov 11 2026. No macro, syntax, notation, axiom, sorry.
-/
import Derived.Test.YtgelkpaiabhklaaChecked
import GoSem.Claim
import GoSem.ClaimJoined
import GoSem.ClaimMapViews
import Derived.JoinedTies
import Derived.KernelRfl
namespace Go.Proofs.Ytgelkpaiabhklaa
/- THE CELL 'sum', in the pinned program and in every row, IS THE sha256 OF THE DUMP (.gsa) THAT YtgelkpaiabhklaaProg.lean LOADS. Nothing in Lean hashes anything: it is a label: what it is worth is what the hold of that sum in a sandbox is worth. -/
noncomputable def Try.pinned : Pinned := { name := "ytgelkpaiabhklaa", sum := "03e932aed361867bdef524eb912a7698df90c6c0c3c8330a668202ed10568ae2", checked := Try.checked }
namespace Rows
def none {H : Type} : Left H := { results := [], args := [] }

/-- 'laws.FnExactActOk': WHATEVER THE INPUT: true; the input reads as it did. -/
def fnExactActOkSpec : ChangeSpec := { name := "fnExactActOk", fn := fun _ => fun
  | [d] => { results := [.lit (.bool true)], args := [d] }
  | _ => none }
def fnExactActOkRow : OpenClaim := { program := "ytgelkpaiabhklaa", sum := "03e932aed361867bdef524eb912a7698df90c6c0c3c8330a668202ed10568ae2", func := "loop.example/g00991/laws.FnExactActOk", spec := "fnExactActOk", unfollowed := true, recurses := true, apart := false }
def FnExactActOkSaid : Prop := fnExactActOkRow.holds Try.pinned (OpenSpec.ofChange fnExactActOkSpec)

/-- ITS FALSE NEIGHBOUR: 'it returns false'. Refute it at one input. -/
def fnExactActOkWrong : ChangeSpec := { name := "fnExactActOk", fn := fun _ => fun
  | [d] => { results := [.lit (.bool false)], args := [d] }
  | _ => none }
def FnExactActOkWrongFalsely : Prop := fnExactActOkRow.holds Try.pinned (OpenSpec.ofChange fnExactActOkWrong)

/-- 'laws.FnExactPlanOk': WHATEVER THE INPUT: true; the input reads as it did. -/
def fnExactPlanOkSpec : ChangeSpec := { name := "fnExactPlanOk", fn := fun _ => fun
  | [d1, d2, d3, d4] => { results := [.lit (.bool true)], args := [d1, d2, d3, d4] }
  | _ => none }
def fnExactPlanOkRow : OpenClaim := { program := "ytgelkpaiabhklaa", sum := "03e932aed361867bdef524eb912a7698df90c6c0c3c8330a668202ed10568ae2", func := "loop.example/g00991/laws.FnExactPlanOk", spec := "fnExactPlanOk", unfollowed := true, recurses := true, apart := false }
def FnExactPlanOkSaid : Prop := fnExactPlanOkRow.holds Try.pinned (OpenSpec.ofChange fnExactPlanOkSpec)

/-- ITS FALSE NEIGHBOUR: 'it returns false'. Refute it at one input. -/
def fnExactPlanOkWrong : ChangeSpec := { name := "fnExactPlanOk", fn := fun _ => fun
  | [d1, d2, d3, d4] => { results := [.lit (.bool false)], args := [d1, d2, d3, d4] }
  | _ => none }
def FnExactPlanOkWrongFalsely : Prop := fnExactPlanOkRow.holds Try.pinned (OpenSpec.ofChange fnExactPlanOkWrong)

/-- 'laws.FnExactLowestCorner': WHATEVER THE INPUT: true; the input reads as it did. -/
def fnExactLowestCornerSpec : ChangeSpec := { name := "fnExactLowestCorner", fn := fun _ => fun
  | [d] => { results := [.lit (.bool true)], args := [d] }
  | _ => none }
def fnExactLowestCornerRow : OpenClaim := { program := "ytgelkpaiabhklaa", sum := "03e932aed361867bdef524eb912a7698df90c6c0c3c8330a668202ed10568ae2", func := "loop.example/g00991/laws.FnExactLowestCorner", spec := "fnExactLowestCorner", apart := false }
def FnExactLowestCornerSaid : Prop := fnExactLowestCornerRow.holds Try.pinned (OpenSpec.ofChange fnExactLowestCornerSpec)

/-- ITS FALSE NEIGHBOUR: 'it returns false'. Refute it at one input. -/
def fnExactLowestCornerWrong : ChangeSpec := { name := "fnExactLowestCorner", fn := fun _ => fun
  | [d] => { results := [.lit (.bool false)], args := [d] }
  | _ => none }
def FnExactLowestCornerWrongFalsely : Prop := fnExactLowestCornerRow.holds Try.pinned (OpenSpec.ofChange fnExactLowestCornerWrong)

/-- 'laws.FnExactMirrorRoom': WHATEVER THE INPUT: true; the input reads as it did. -/
def fnExactMirrorRoomSpec : ChangeSpec := { name := "fnExactMirrorRoom", fn := fun _ => fun
  | [d] => { results := [.lit (.bool true)], args := [d] }
  | _ => none }
def fnExactMirrorRoomRow : OpenClaim := { program := "ytgelkpaiabhklaa", sum := "03e932aed361867bdef524eb912a7698df90c6c0c3c8330a668202ed10568ae2", func := "loop.example/g00991/laws.FnExactMirrorRoom", spec := "fnExactMirrorRoom", unfollowed := true, recurses := true, apart := false }
def FnExactMirrorRoomSaid : Prop := fnExactMirrorRoomRow.holds Try.pinned (OpenSpec.ofChange fnExactMirrorRoomSpec)

/-- ITS FALSE NEIGHBOUR: 'it returns false'. Refute it at one input. -/
def fnExactMirrorRoomWrong : ChangeSpec := { name := "fnExactMirrorRoom", fn := fun _ => fun
  | [d] => { results := [.lit (.bool false)], args := [d] }
  | _ => none }
def FnExactMirrorRoomWrongFalsely : Prop := fnExactMirrorRoomRow.holds Try.pinned (OpenSpec.ofChange fnExactMirrorRoomWrong)

/-- 'laws.FnExactMoveRoom': WHATEVER THE INPUT: true; the input reads as it did. -/
def fnExactMoveRoomSpec : ChangeSpec := { name := "fnExactMoveRoom", fn := fun _ => fun
  | [d1, d2, d3] => { results := [.lit (.bool true)], args := [d1, d2, d3] }
  | _ => none }
def fnExactMoveRoomRow : OpenClaim := { program := "ytgelkpaiabhklaa", sum := "03e932aed361867bdef524eb912a7698df90c6c0c3c8330a668202ed10568ae2", func := "loop.example/g00991/laws.FnExactMoveRoom", spec := "fnExactMoveRoom", unfollowed := true, recurses := true, apart := false }
def FnExactMoveRoomSaid : Prop := fnExactMoveRoomRow.holds Try.pinned (OpenSpec.ofChange fnExactMoveRoomSpec)

/-- ITS FALSE NEIGHBOUR: 'it returns false'. Refute it at one input. -/
def fnExactMoveRoomWrong : ChangeSpec := { name := "fnExactMoveRoom", fn := fun _ => fun
  | [d1, d2, d3] => { results := [.lit (.bool false)], args := [d1, d2, d3] }
  | _ => none }
def FnExactMoveRoomWrongFalsely : Prop := fnExactMoveRoomRow.holds Try.pinned (OpenSpec.ofChange fnExactMoveRoomWrong)

/-- 'laws.FnLoans': WHATEVER THE INPUT: true; the input reads as it did. -/
def fnLoansSpec : ChangeSpec := { name := "fnLoans", fn := fun _ => fun
  | [d] => { results := [.lit (.bool true)], args := [d] }
  | _ => none }
def fnLoansRow : OpenClaim := { program := "ytgelkpaiabhklaa", sum := "03e932aed361867bdef524eb912a7698df90c6c0c3c8330a668202ed10568ae2", func := "loop.example/g00991/laws.FnLoans", spec := "fnLoans", apart := false }
def FnLoansSaid : Prop := fnLoansRow.holds Try.pinned (OpenSpec.ofChange fnLoansSpec)

/-- ITS FALSE NEIGHBOUR: 'it returns false'. Refute it at one input. -/
def fnLoansWrong : ChangeSpec := { name := "fnLoans", fn := fun _ => fun
  | [d] => { results := [.lit (.bool false)], args := [d] }
  | _ => none }
def FnLoansWrongFalsely : Prop := fnLoansRow.holds Try.pinned (OpenSpec.ofChange fnLoansWrong)

/-- 'laws.FnSeals': WHATEVER THE INPUT: true; the input reads as it did. -/
def fnSealsSpec : ChangeSpec := { name := "fnSeals", fn := fun _ => fun
  | [d] => { results := [.lit (.bool true)], args := [d] }
  | _ => none }
def fnSealsRow : OpenClaim := { program := "ytgelkpaiabhklaa", sum := "03e932aed361867bdef524eb912a7698df90c6c0c3c8330a668202ed10568ae2", func := "loop.example/g00991/laws.FnSeals", spec := "fnSeals", apart := false }
def FnSealsSaid : Prop := fnSealsRow.holds Try.pinned (OpenSpec.ofChange fnSealsSpec)

/-- ITS FALSE NEIGHBOUR: 'it returns false'. Refute it at one input. -/
def fnSealsWrong : ChangeSpec := { name := "fnSeals", fn := fun _ => fun
  | [d] => { results := [.lit (.bool false)], args := [d] }
  | _ => none }
def FnSealsWrongFalsely : Prop := fnSealsRow.holds Try.pinned (OpenSpec.ofChange fnSealsWrong)

/-- 'laws.FnAlarms': WHATEVER THE INPUT: true; the input reads as it did. -/
def fnAlarmsSpec : ChangeSpec := { name := "fnAlarms", fn := fun _ => fun
  | [d] => { results := [.lit (.bool true)], args := [d] }
  | _ => none }
def fnAlarmsRow : OpenClaim := { program := "ytgelkpaiabhklaa", sum := "03e932aed361867bdef524eb912a7698df90c6c0c3c8330a668202ed10568ae2", func := "loop.example/g00991/laws.FnAlarms", spec := "fnAlarms", unfollowed := true, recurses := true, apart := false }
def FnAlarmsSaid : Prop := fnAlarmsRow.holds Try.pinned (OpenSpec.ofChange fnAlarmsSpec)

/-- ITS FALSE NEIGHBOUR: 'it returns false'. Refute it at one input. -/
def fnAlarmsWrong : ChangeSpec := { name := "fnAlarms", fn := fun _ => fun
  | [d] => { results := [.lit (.bool false)], args := [d] }
  | _ => none }
def FnAlarmsWrongFalsely : Prop := fnAlarmsRow.holds Try.pinned (OpenSpec.ofChange fnAlarmsWrong)

/-- 'laws.FnShifts': WHATEVER THE INPUT: true; the input reads as it did. -/
def fnShiftsSpec : ChangeSpec := { name := "fnShifts", fn := fun _ => fun
  | [d] => { results := [.lit (.bool true)], args := [d] }
  | _ => none }
def fnShiftsRow : OpenClaim := { program := "ytgelkpaiabhklaa", sum := "03e932aed361867bdef524eb912a7698df90c6c0c3c8330a668202ed10568ae2", func := "loop.example/g00991/laws.FnShifts", spec := "fnShifts", unfollowed := true, recurses := true, apart := false }
def FnShiftsSaid : Prop := fnShiftsRow.holds Try.pinned (OpenSpec.ofChange fnShiftsSpec)

/-- ITS FALSE NEIGHBOUR: 'it returns false'. Refute it at one input. -/
def fnShiftsWrong : ChangeSpec := { name := "fnShifts", fn := fun _ => fun
  | [d] => { results := [.lit (.bool false)], args := [d] }
  | _ => none }
def FnShiftsWrongFalsely : Prop := fnShiftsRow.holds Try.pinned (OpenSpec.ofChange fnShiftsWrong)

/- THE SECOND FORM. 'bulk': how many values and letters a reading holds, each counted each time it is reached (what is shared counts as often as it is met; a slice's spare places count too). A statement '..UptoSaid' is the law's where the arguments, and the package variables that the reading takes, are together of bulk at most 1048576: NARROWER than '..Said'. Prove '..Said' where nothing that the law and all that it calls make is longer than what came in: it says more and counts as full. Else prove '..UptoSaid'. A law counts once. -/
mutual
def uptoBulk {H : Type} : DataW H → Nat
  | .lit (.string bytes) => bytes.length + 1
  | .lit _ => 1
  | .nil => 1
  | .ptr d => uptoBulk d + 1
  | .slice elems spare => uptoBulkAll elems + uptoBulkAll spare + 1
  | .agg parts => uptoBulkAll parts + 1
  | .iface _ d => uptoBulk d + 1
  | .map entries => uptoBulkEntries entries + 1
  | .held _ => 1
def uptoBulkAll {H : Type} : List (DataW H) → Nat
  | [] => 0
  | d :: r => uptoBulk d + uptoBulkAll r
def uptoBulkEntries {H : Type} : List (Lit × DataW H) → Nat
  | [] => 0
  | x :: r => uptoBulkEntry x + uptoBulkEntries r
def uptoBulkEntry {H : Type} : Lit × DataW H → Nat
  | (.string bytes, d) => bytes.length + uptoBulk d + 1
  | (_, d) => uptoBulk d + 1
 end
def uptoSmall : (H : Type) → List (DataW H) → Bool := fun _ ds => decide (uptoBulkAll ds ≤ 1048576)
def OpenSpec.upto (s : _root_.Go.ChangeSpec) : _root_.Go.OpenSpec := { _root_.Go.OpenSpec.ofChange s with cond := some uptoSmall }

/-- 'laws.FnExactActOk', WHERE WHAT IT READS IS OF BULK AT MOST 1048576: true; the input reads as it did. -/
def fnExactActOkUptoRow : OpenClaim := { program := "ytgelkpaiabhklaa", sum := "03e932aed361867bdef524eb912a7698df90c6c0c3c8330a668202ed10568ae2", func := "loop.example/g00991/laws.FnExactActOk", spec := "fnExactActOk", unfollowed := true, recurses := true, apart := false, narrowed := true }
def FnExactActOkUptoSaid : Prop := fnExactActOkUptoRow.holds Try.pinned (OpenSpec.upto fnExactActOkSpec)

/-- 'laws.FnExactPlanOk', WHERE WHAT IT READS IS OF BULK AT MOST 1048576: true; the input reads as it did. -/
def fnExactPlanOkUptoRow : OpenClaim := { program := "ytgelkpaiabhklaa", sum := "03e932aed361867bdef524eb912a7698df90c6c0c3c8330a668202ed10568ae2", func := "loop.example/g00991/laws.FnExactPlanOk", spec := "fnExactPlanOk", unfollowed := true, recurses := true, apart := false, narrowed := true }
def FnExactPlanOkUptoSaid : Prop := fnExactPlanOkUptoRow.holds Try.pinned (OpenSpec.upto fnExactPlanOkSpec)

/-- 'laws.FnExactLowestCorner', WHERE WHAT IT READS IS OF BULK AT MOST 1048576: true; the input reads as it did. -/
def fnExactLowestCornerUptoRow : OpenClaim := { program := "ytgelkpaiabhklaa", sum := "03e932aed361867bdef524eb912a7698df90c6c0c3c8330a668202ed10568ae2", func := "loop.example/g00991/laws.FnExactLowestCorner", spec := "fnExactLowestCorner", apart := false, narrowed := true }
def FnExactLowestCornerUptoSaid : Prop := fnExactLowestCornerUptoRow.holds Try.pinned (OpenSpec.upto fnExactLowestCornerSpec)

/-- 'laws.FnExactMirrorRoom', WHERE WHAT IT READS IS OF BULK AT MOST 1048576: true; the input reads as it did. -/
def fnExactMirrorRoomUptoRow : OpenClaim := { program := "ytgelkpaiabhklaa", sum := "03e932aed361867bdef524eb912a7698df90c6c0c3c8330a668202ed10568ae2", func := "loop.example/g00991/laws.FnExactMirrorRoom", spec := "fnExactMirrorRoom", unfollowed := true, recurses := true, apart := false, narrowed := true }
def FnExactMirrorRoomUptoSaid : Prop := fnExactMirrorRoomUptoRow.holds Try.pinned (OpenSpec.upto fnExactMirrorRoomSpec)

/-- 'laws.FnExactMoveRoom', WHERE WHAT IT READS IS OF BULK AT MOST 1048576: true; the input reads as it did. -/
def fnExactMoveRoomUptoRow : OpenClaim := { program := "ytgelkpaiabhklaa", sum := "03e932aed361867bdef524eb912a7698df90c6c0c3c8330a668202ed10568ae2", func := "loop.example/g00991/laws.FnExactMoveRoom", spec := "fnExactMoveRoom", unfollowed := true, recurses := true, apart := false, narrowed := true }
def FnExactMoveRoomUptoSaid : Prop := fnExactMoveRoomUptoRow.holds Try.pinned (OpenSpec.upto fnExactMoveRoomSpec)

/-- 'laws.FnLoans', WHERE WHAT IT READS IS OF BULK AT MOST 1048576: true; the input reads as it did. -/
def fnLoansUptoRow : OpenClaim := { program := "ytgelkpaiabhklaa", sum := "03e932aed361867bdef524eb912a7698df90c6c0c3c8330a668202ed10568ae2", func := "loop.example/g00991/laws.FnLoans", spec := "fnLoans", apart := false, narrowed := true }
def FnLoansUptoSaid : Prop := fnLoansUptoRow.holds Try.pinned (OpenSpec.upto fnLoansSpec)

/-- 'laws.FnSeals', WHERE WHAT IT READS IS OF BULK AT MOST 1048576: true; the input reads as it did. -/
def fnSealsUptoRow : OpenClaim := { program := "ytgelkpaiabhklaa", sum := "03e932aed361867bdef524eb912a7698df90c6c0c3c8330a668202ed10568ae2", func := "loop.example/g00991/laws.FnSeals", spec := "fnSeals", apart := false, narrowed := true }
def FnSealsUptoSaid : Prop := fnSealsUptoRow.holds Try.pinned (OpenSpec.upto fnSealsSpec)

/-- 'laws.FnAlarms', WHERE WHAT IT READS IS OF BULK AT MOST 1048576: true; the input reads as it did. -/
def fnAlarmsUptoRow : OpenClaim := { program := "ytgelkpaiabhklaa", sum := "03e932aed361867bdef524eb912a7698df90c6c0c3c8330a668202ed10568ae2", func := "loop.example/g00991/laws.FnAlarms", spec := "fnAlarms", unfollowed := true, recurses := true, apart := false, narrowed := true }
def FnAlarmsUptoSaid : Prop := fnAlarmsUptoRow.holds Try.pinned (OpenSpec.upto fnAlarmsSpec)

/-- 'laws.FnShifts', WHERE WHAT IT READS IS OF BULK AT MOST 1048576: true; the input reads as it did. -/
def fnShiftsUptoRow : OpenClaim := { program := "ytgelkpaiabhklaa", sum := "03e932aed361867bdef524eb912a7698df90c6c0c3c8330a668202ed10568ae2", func := "loop.example/g00991/laws.FnShifts", spec := "fnShifts", unfollowed := true, recurses := true, apart := false, narrowed := true }
def FnShiftsUptoSaid : Prop := fnShiftsUptoRow.holds Try.pinned (OpenSpec.upto fnShiftsSpec)

end Rows
end Go.Proofs.Ytgelkpaiabhklaa
