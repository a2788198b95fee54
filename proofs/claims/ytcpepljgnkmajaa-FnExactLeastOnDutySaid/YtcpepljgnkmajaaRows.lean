/-
  No cell of these rows narrows 'for every input' (looked for: loops, veiled, ifaces, maps, wideKeys, modest, calm, conditions, laid).
  DERIVED. THE GIVEN ROWS OF THIS SEAT. 12 by the template 'for every input the law returns true; each argument reads behind the call as it read before'; 0 by the template 'total and deterministic' (their statements: YtcpepljgnkmajaaTotals.lean).
  GIVEN WITH THE SEED: the statements are not yours to turn. If you find one false, say at which input.
  Laid BY PROGRAM, IN A SANDBOX (cutbox-rows.mjs): the forced cells as the released guide's own fill.sh prints them over the translation f276bf6e56eee574… (all of the seat's roots in one cut). By AI agents, Wed Nov 11 2026. No macro, syntax, notation, axiom, sorry.
-/
import Derived.Test.YtcpepljgnkmajaaChecked
import GoSem.Claim
import GoSem.ClaimJoined
import GoSem.ClaimMapViews
import Derived.JoinedTies
import Derived.KernelRfl
namespace Go.Proofs.Ytcpepljgnkmajaa
/- THE CELL 'sum', in the pinned program and in every row, IS THE sha256 OF THE DUMP (.gsa) THAT YtcpepljgnkmajaaProg.lean LOADS. Nothing in Lean hashes anything: it is a label: what it is worth is what the hold of that sum in a sandbox is worth. -/
noncomputable def Try.pinned : Pinned := { name := "ytcpepljgnkmajaa", sum := "f276bf6e56eee574aa82a929d2122e026b17b13d8719bdacd855b760d2fb35fe", checked := Try.checked }
namespace Rows
def none {H : Type} : Left H := { results := [], args := [] }

/-- 'laws.FnExactZoneOk': WHATEVER THE INPUT: true; the input reads as it did. -/
def fnExactZoneOkSpec : ChangeSpec := { name := "fnExactZoneOk", fn := fun _ => fun
  | [d] => { results := [.lit (.bool true)], args := [d] }
  | _ => none }
def fnExactZoneOkRow : OpenClaim := { program := "ytcpepljgnkmajaa", sum := "f276bf6e56eee574aa82a929d2122e026b17b13d8719bdacd855b760d2fb35fe", func := "loop.example/g00991/laws.FnExactZoneOk", spec := "fnExactZoneOk", apart := false }
def FnExactZoneOkSaid : Prop := fnExactZoneOkRow.holds Try.pinned (OpenSpec.ofChange fnExactZoneOkSpec)

/-- ITS FALSE NEIGHBOUR: 'it returns false'. Refute it at one input. -/
def fnExactZoneOkWrong : ChangeSpec := { name := "fnExactZoneOk", fn := fun _ => fun
  | [d] => { results := [.lit (.bool false)], args := [d] }
  | _ => none }
def FnExactZoneOkWrongFalsely : Prop := fnExactZoneOkRow.holds Try.pinned (OpenSpec.ofChange fnExactZoneOkWrong)

/-- 'laws.FnExactRaises': WHATEVER THE INPUT: true; the input reads as it did. -/
def fnExactRaisesSpec : ChangeSpec := { name := "fnExactRaises", fn := fun _ => fun
  | [d1, d2] => { results := [.lit (.bool true)], args := [d1, d2] }
  | _ => none }
def fnExactRaisesRow : OpenClaim := { program := "ytcpepljgnkmajaa", sum := "f276bf6e56eee574aa82a929d2122e026b17b13d8719bdacd855b760d2fb35fe", func := "loop.example/g00991/laws.FnExactRaises", spec := "fnExactRaises", apart := false }
def FnExactRaisesSaid : Prop := fnExactRaisesRow.holds Try.pinned (OpenSpec.ofChange fnExactRaisesSpec)

/-- ITS FALSE NEIGHBOUR: 'it returns false'. Refute it at one input. -/
def fnExactRaisesWrong : ChangeSpec := { name := "fnExactRaises", fn := fun _ => fun
  | [d1, d2] => { results := [.lit (.bool false)], args := [d1, d2] }
  | _ => none }
def FnExactRaisesWrongFalsely : Prop := fnExactRaisesRow.holds Try.pinned (OpenSpec.ofChange fnExactRaisesWrong)

/-- 'laws.FnExactAlarmsOf': WHATEVER THE INPUT: true; the input reads as it did. -/
def fnExactAlarmsOfSpec : ChangeSpec := { name := "fnExactAlarmsOf", fn := fun _ => fun
  | [d1, d2] => { results := [.lit (.bool true)], args := [d1, d2] }
  | _ => none }
def fnExactAlarmsOfRow : OpenClaim := { program := "ytcpepljgnkmajaa", sum := "f276bf6e56eee574aa82a929d2122e026b17b13d8719bdacd855b760d2fb35fe", func := "loop.example/g00991/laws.FnExactAlarmsOf", spec := "fnExactAlarmsOf", apart := false }
def FnExactAlarmsOfSaid : Prop := fnExactAlarmsOfRow.holds Try.pinned (OpenSpec.ofChange fnExactAlarmsOfSpec)

/-- ITS FALSE NEIGHBOUR: 'it returns false'. Refute it at one input. -/
def fnExactAlarmsOfWrong : ChangeSpec := { name := "fnExactAlarmsOf", fn := fun _ => fun
  | [d1, d2] => { results := [.lit (.bool false)], args := [d1, d2] }
  | _ => none }
def FnExactAlarmsOfWrongFalsely : Prop := fnExactAlarmsOfRow.holds Try.pinned (OpenSpec.ofChange fnExactAlarmsOfWrong)

/-- 'laws.FnExactShiftOk': WHATEVER THE INPUT: true; the input reads as it did. -/
def fnExactShiftOkSpec : ChangeSpec := { name := "fnExactShiftOk", fn := fun _ => fun
  | [d] => { results := [.lit (.bool true)], args := [d] }
  | _ => none }
def fnExactShiftOkRow : OpenClaim := { program := "ytcpepljgnkmajaa", sum := "f276bf6e56eee574aa82a929d2122e026b17b13d8719bdacd855b760d2fb35fe", func := "loop.example/g00991/laws.FnExactShiftOk", spec := "fnExactShiftOk", apart := false }
def FnExactShiftOkSaid : Prop := fnExactShiftOkRow.holds Try.pinned (OpenSpec.ofChange fnExactShiftOkSpec)

/-- ITS FALSE NEIGHBOUR: 'it returns false'. Refute it at one input. -/
def fnExactShiftOkWrong : ChangeSpec := { name := "fnExactShiftOk", fn := fun _ => fun
  | [d] => { results := [.lit (.bool false)], args := [d] }
  | _ => none }
def FnExactShiftOkWrongFalsely : Prop := fnExactShiftOkRow.holds Try.pinned (OpenSpec.ofChange fnExactShiftOkWrong)

/-- 'laws.FnExactShiftsOk': WHATEVER THE INPUT: true; the input reads as it did. -/
def fnExactShiftsOkSpec : ChangeSpec := { name := "fnExactShiftsOk", fn := fun _ => fun
  | [d1, d2] => { results := [.lit (.bool true)], args := [d1, d2] }
  | _ => none }
def fnExactShiftsOkRow : OpenClaim := { program := "ytcpepljgnkmajaa", sum := "f276bf6e56eee574aa82a929d2122e026b17b13d8719bdacd855b760d2fb35fe", func := "loop.example/g00991/laws.FnExactShiftsOk", spec := "fnExactShiftsOk", unfollowed := true, recurses := true, apart := false }
def FnExactShiftsOkSaid : Prop := fnExactShiftsOkRow.holds Try.pinned (OpenSpec.ofChange fnExactShiftsOkSpec)

/-- ITS FALSE NEIGHBOUR: 'it returns false'. Refute it at one input. -/
def fnExactShiftsOkWrong : ChangeSpec := { name := "fnExactShiftsOk", fn := fun _ => fun
  | [d1, d2] => { results := [.lit (.bool false)], args := [d1, d2] }
  | _ => none }
def FnExactShiftsOkWrongFalsely : Prop := fnExactShiftsOkRow.holds Try.pinned (OpenSpec.ofChange fnExactShiftsOkWrong)

/-- 'laws.FnExactOnDuty': WHATEVER THE INPUT: true; the input reads as it did. -/
def fnExactOnDutySpec : ChangeSpec := { name := "fnExactOnDuty", fn := fun _ => fun
  | [d1, d2] => { results := [.lit (.bool true)], args := [d1, d2] }
  | _ => none }
def fnExactOnDutyRow : OpenClaim := { program := "ytcpepljgnkmajaa", sum := "f276bf6e56eee574aa82a929d2122e026b17b13d8719bdacd855b760d2fb35fe", func := "loop.example/g00991/laws.FnExactOnDuty", spec := "fnExactOnDuty", unfollowed := true, recurses := true, apart := false }
def FnExactOnDutySaid : Prop := fnExactOnDutyRow.holds Try.pinned (OpenSpec.ofChange fnExactOnDutySpec)

/-- ITS FALSE NEIGHBOUR: 'it returns false'. Refute it at one input. -/
def fnExactOnDutyWrong : ChangeSpec := { name := "fnExactOnDuty", fn := fun _ => fun
  | [d1, d2] => { results := [.lit (.bool false)], args := [d1, d2] }
  | _ => none }
def FnExactOnDutyWrongFalsely : Prop := fnExactOnDutyRow.holds Try.pinned (OpenSpec.ofChange fnExactOnDutyWrong)

/-- 'laws.FnExactLeastOnDuty': WHATEVER THE INPUT: true; the input reads as it did. -/
def fnExactLeastOnDutySpec : ChangeSpec := { name := "fnExactLeastOnDuty", fn := fun _ => fun
  | [d1, d2, d3] => { results := [.lit (.bool true)], args := [d1, d2, d3] }
  | _ => none }
def fnExactLeastOnDutyRow : OpenClaim := { program := "ytcpepljgnkmajaa", sum := "f276bf6e56eee574aa82a929d2122e026b17b13d8719bdacd855b760d2fb35fe", func := "loop.example/g00991/laws.FnExactLeastOnDuty", spec := "fnExactLeastOnDuty", unfollowed := true, recurses := true, apart := false }
def FnExactLeastOnDutySaid : Prop := fnExactLeastOnDutyRow.holds Try.pinned (OpenSpec.ofChange fnExactLeastOnDutySpec)

/-- ITS FALSE NEIGHBOUR: 'it returns false'. Refute it at one input. -/
def fnExactLeastOnDutyWrong : ChangeSpec := { name := "fnExactLeastOnDuty", fn := fun _ => fun
  | [d1, d2, d3] => { results := [.lit (.bool false)], args := [d1, d2, d3] }
  | _ => none }
def FnExactLeastOnDutyWrongFalsely : Prop := fnExactLeastOnDutyRow.holds Try.pinned (OpenSpec.ofChange fnExactLeastOnDutyWrong)

/-- 'laws.FnExactLoanOk': WHATEVER THE INPUT: true; the input reads as it did. -/
def fnExactLoanOkSpec : ChangeSpec := { name := "fnExactLoanOk", fn := fun _ => fun
  | [d] => { results := [.lit (.bool true)], args := [d] }
  | _ => none }
def fnExactLoanOkRow : OpenClaim := { program := "ytcpepljgnkmajaa", sum := "f276bf6e56eee574aa82a929d2122e026b17b13d8719bdacd855b760d2fb35fe", func := "loop.example/g00991/laws.FnExactLoanOk", spec := "fnExactLoanOk", apart := false }
def FnExactLoanOkSaid : Prop := fnExactLoanOkRow.holds Try.pinned (OpenSpec.ofChange fnExactLoanOkSpec)

/-- ITS FALSE NEIGHBOUR: 'it returns false'. Refute it at one input. -/
def fnExactLoanOkWrong : ChangeSpec := { name := "fnExactLoanOk", fn := fun _ => fun
  | [d] => { results := [.lit (.bool false)], args := [d] }
  | _ => none }
def FnExactLoanOkWrongFalsely : Prop := fnExactLoanOkRow.holds Try.pinned (OpenSpec.ofChange fnExactLoanOkWrong)

/-- 'laws.FnExactBreaches': WHATEVER THE INPUT: true; the input reads as it did. -/
def fnExactBreachesSpec : ChangeSpec := { name := "fnExactBreaches", fn := fun _ => fun
  | [d1, d2] => { results := [.lit (.bool true)], args := [d1, d2] }
  | _ => none }
def fnExactBreachesRow : OpenClaim := { program := "ytcpepljgnkmajaa", sum := "f276bf6e56eee574aa82a929d2122e026b17b13d8719bdacd855b760d2fb35fe", func := "loop.example/g00991/laws.FnExactBreaches", spec := "fnExactBreaches", apart := false }
def FnExactBreachesSaid : Prop := fnExactBreachesRow.holds Try.pinned (OpenSpec.ofChange fnExactBreachesSpec)

/-- ITS FALSE NEIGHBOUR: 'it returns false'. Refute it at one input. -/
def fnExactBreachesWrong : ChangeSpec := { name := "fnExactBreaches", fn := fun _ => fun
  | [d1, d2] => { results := [.lit (.bool false)], args := [d1, d2] }
  | _ => none }
def FnExactBreachesWrongFalsely : Prop := fnExactBreachesRow.holds Try.pinned (OpenSpec.ofChange fnExactBreachesWrong)

/-- 'laws.FnExactHallsFor': WHATEVER THE INPUT: true; the input reads as it did. -/
def fnExactHallsForSpec : ChangeSpec := { name := "fnExactHallsFor", fn := fun _ => fun
  | [d1, d2] => { results := [.lit (.bool true)], args := [d1, d2] }
  | _ => none }
def fnExactHallsForRow : OpenClaim := { program := "ytcpepljgnkmajaa", sum := "f276bf6e56eee574aa82a929d2122e026b17b13d8719bdacd855b760d2fb35fe", func := "loop.example/g00991/laws.FnExactHallsFor", spec := "fnExactHallsFor", apart := false }
def FnExactHallsForSaid : Prop := fnExactHallsForRow.holds Try.pinned (OpenSpec.ofChange fnExactHallsForSpec)

/-- ITS FALSE NEIGHBOUR: 'it returns false'. Refute it at one input. -/
def fnExactHallsForWrong : ChangeSpec := { name := "fnExactHallsFor", fn := fun _ => fun
  | [d1, d2] => { results := [.lit (.bool false)], args := [d1, d2] }
  | _ => none }
def FnExactHallsForWrongFalsely : Prop := fnExactHallsForRow.holds Try.pinned (OpenSpec.ofChange fnExactHallsForWrong)

/-- 'laws.FnExactStricter': WHATEVER THE INPUT: true; the input reads as it did. -/
def fnExactStricterSpec : ChangeSpec := { name := "fnExactStricter", fn := fun _ => fun
  | [d1, d2] => { results := [.lit (.bool true)], args := [d1, d2] }
  | _ => none }
def fnExactStricterRow : OpenClaim := { program := "ytcpepljgnkmajaa", sum := "f276bf6e56eee574aa82a929d2122e026b17b13d8719bdacd855b760d2fb35fe", func := "loop.example/g00991/laws.FnExactStricter", spec := "fnExactStricter", apart := false }
def FnExactStricterSaid : Prop := fnExactStricterRow.holds Try.pinned (OpenSpec.ofChange fnExactStricterSpec)

/-- ITS FALSE NEIGHBOUR: 'it returns false'. Refute it at one input. -/
def fnExactStricterWrong : ChangeSpec := { name := "fnExactStricter", fn := fun _ => fun
  | [d1, d2] => { results := [.lit (.bool false)], args := [d1, d2] }
  | _ => none }
def FnExactStricterWrongFalsely : Prop := fnExactStricterRow.holds Try.pinned (OpenSpec.ofChange fnExactStricterWrong)

/-- 'laws.FnExactJoinLoans': WHATEVER THE INPUT: true; the input reads as it did. -/
def fnExactJoinLoansSpec : ChangeSpec := { name := "fnExactJoinLoans", fn := fun _ => fun
  | [d1, d2] => { results := [.lit (.bool true)], args := [d1, d2] }
  | _ => none }
def fnExactJoinLoansRow : OpenClaim := { program := "ytcpepljgnkmajaa", sum := "f276bf6e56eee574aa82a929d2122e026b17b13d8719bdacd855b760d2fb35fe", func := "loop.example/g00991/laws.FnExactJoinLoans", spec := "fnExactJoinLoans", apart := false }
def FnExactJoinLoansSaid : Prop := fnExactJoinLoansRow.holds Try.pinned (OpenSpec.ofChange fnExactJoinLoansSpec)

/-- ITS FALSE NEIGHBOUR: 'it returns false'. Refute it at one input. -/
def fnExactJoinLoansWrong : ChangeSpec := { name := "fnExactJoinLoans", fn := fun _ => fun
  | [d1, d2] => { results := [.lit (.bool false)], args := [d1, d2] }
  | _ => none }
def FnExactJoinLoansWrongFalsely : Prop := fnExactJoinLoansRow.holds Try.pinned (OpenSpec.ofChange fnExactJoinLoansWrong)

/- THE SECOND FORM. 'bulk': how many values and letters a reading holds, each counted each time it is reached (what is shared counts as often as it is met; a slice's spare places count too). A statement '..UptoSaid' is the law's where the arguments, and the package variables that the reading takes, are together of bulk at most 1048576: NARROWER than '..Said'. Prove '..Said' where nothing that the law and all that it calls make is longer than what came in: it says more and counts as full. Else prove '..UptoSaid'. A law counts once. -/
mutual
def uptoBulk {H : Type} : DataW H → Nat
  | .lit (.string bytes) => bytes.length + 1
  | .lit _ => 1
  | .nil => 1
  | .ptr d => uptoBulk d + 1
  | .slice elems spare => uptoBulkAll elems + uptoBulkAll spare + 1
  | .agg parts => uptoBulkAll parts + 1
  | .iface _ d => uptoBulk d + 1
  | .map entries => uptoBulkEntries entries + 1
  | .held _ => 1
def uptoBulkAll {H : Type} : List (DataW H) → Nat
  | [] => 0
  | d :: r => uptoBulk d + uptoBulkAll r
def uptoBulkEntries {H : Type} : List (Lit × DataW H) → Nat
  | [] => 0
  | x :: r => uptoBulkEntry x + uptoBulkEntries r
def uptoBulkEntry {H : Type} : Lit × DataW H → Nat
  | (.string bytes, d) => bytes.length + uptoBulk d + 1
  | (_, d) => uptoBulk d + 1
 end
def uptoSmall : (H : Type) → List (DataW H) → Bool := fun _ ds => decide (uptoBulkAll ds ≤ 1048576)
def OpenSpec.upto (s : _root_.Go.ChangeSpec) : _root_.Go.OpenSpec := { _root_.Go.OpenSpec.ofChange s with cond := some uptoSmall }

/-- 'laws.FnExactZoneOk', WHERE WHAT IT READS IS OF BULK AT MOST 1048576: true; the input reads as it did. -/
def fnExactZoneOkUptoRow : OpenClaim := { program := "ytcpepljgnkmajaa", sum := "f276bf6e56eee574aa82a929d2122e026b17b13d8719bdacd855b760d2fb35fe", func := "loop.example/g00991/laws.FnExactZoneOk", spec := "fnExactZoneOk", apart := false, narrowed := true }
def FnExactZoneOkUptoSaid : Prop := fnExactZoneOkUptoRow.holds Try.pinned (OpenSpec.upto fnExactZoneOkSpec)

/-- 'laws.FnExactRaises', WHERE WHAT IT READS IS OF BULK AT MOST 1048576: true; the input reads as it did. -/
def fnExactRaisesUptoRow : OpenClaim := { program := "ytcpepljgnkmajaa", sum := "f276bf6e56eee574aa82a929d2122e026b17b13d8719bdacd855b760d2fb35fe", func := "loop.example/g00991/laws.FnExactRaises", spec := "fnExactRaises", apart := false, narrowed := true }
def FnExactRaisesUptoSaid : Prop := fnExactRaisesUptoRow.holds Try.pinned (OpenSpec.upto fnExactRaisesSpec)

/-- 'laws.FnExactAlarmsOf', WHERE WHAT IT READS IS OF BULK AT MOST 1048576: true; the input reads as it did. -/
def fnExactAlarmsOfUptoRow : OpenClaim := { program := "ytcpepljgnkmajaa", sum := "f276bf6e56eee574aa82a929d2122e026b17b13d8719bdacd855b760d2fb35fe", func := "loop.example/g00991/laws.FnExactAlarmsOf", spec := "fnExactAlarmsOf", apart := false, narrowed := true }
def FnExactAlarmsOfUptoSaid : Prop := fnExactAlarmsOfUptoRow.holds Try.pinned (OpenSpec.upto fnExactAlarmsOfSpec)

/-- 'laws.FnExactShiftOk', WHERE WHAT IT READS IS OF BULK AT MOST 1048576: true; the input reads as it did. -/
def fnExactShiftOkUptoRow : OpenClaim := { program := "ytcpepljgnkmajaa", sum := "f276bf6e56eee574aa82a929d2122e026b17b13d8719bdacd855b760d2fb35fe", func := "loop.example/g00991/laws.FnExactShiftOk", spec := "fnExactShiftOk", apart := false, narrowed := true }
def FnExactShiftOkUptoSaid : Prop := fnExactShiftOkUptoRow.holds Try.pinned (OpenSpec.upto fnExactShiftOkSpec)

/-- 'laws.FnExactShiftsOk', WHERE WHAT IT READS IS OF BULK AT MOST 1048576: true; the input reads as it did. -/
def fnExactShiftsOkUptoRow : OpenClaim := { program := "ytcpepljgnkmajaa", sum := "f276bf6e56eee574aa82a929d2122e026b17b13d8719bdacd855b760d2fb35fe", func := "loop.example/g00991/laws.FnExactShiftsOk", spec := "fnExactShiftsOk", unfollowed := true, recurses := true, apart := false, narrowed := true }
def FnExactShiftsOkUptoSaid : Prop := fnExactShiftsOkUptoRow.holds Try.pinned (OpenSpec.upto fnExactShiftsOkSpec)

/-- 'laws.FnExactOnDuty', WHERE WHAT IT READS IS OF BULK AT MOST 1048576: true; the input reads as it did. -/
def fnExactOnDutyUptoRow : OpenClaim := { program := "ytcpepljgnkmajaa", sum := "f276bf6e56eee574aa82a929d2122e026b17b13d8719bdacd855b760d2fb35fe", func := "loop.example/g00991/laws.FnExactOnDuty", spec := "fnExactOnDuty", unfollowed := true, recurses := true, apart := false, narrowed := true }
def FnExactOnDutyUptoSaid : Prop := fnExactOnDutyUptoRow.holds Try.pinned (OpenSpec.upto fnExactOnDutySpec)

/-- 'laws.FnExactLeastOnDuty', WHERE WHAT IT READS IS OF BULK AT MOST 1048576: true; the input reads as it did. -/
def fnExactLeastOnDutyUptoRow : OpenClaim := { program := "ytcpepljgnkmajaa", sum := "f276bf6e56eee574aa82a929d2122e026b17b13d8719bdacd855b760d2fb35fe", func := "loop.example/g00991/laws.FnExactLeastOnDuty", spec := "fnExactLeastOnDuty", unfollowed := true, recurses := true, apart := false, narrowed := true }
def FnExactLeastOnDutyUptoSaid : Prop := fnExactLeastOnDutyUptoRow.holds Try.pinned (OpenSpec.upto fnExactLeastOnDutySpec)

/-- 'laws.FnExactLoanOk', WHERE WHAT IT READS IS OF BULK AT MOST 1048576: true; the input reads as it did. -/
def fnExactLoanOkUptoRow : OpenClaim := { program := "ytcpepljgnkmajaa", sum := "f276bf6e56eee574aa82a929d2122e026b17b13d8719bdacd855b760d2fb35fe", func := "loop.example/g00991/laws.FnExactLoanOk", spec := "fnExactLoanOk", apart := false, narrowed := true }
def FnExactLoanOkUptoSaid : Prop := fnExactLoanOkUptoRow.holds Try.pinned (OpenSpec.upto fnExactLoanOkSpec)

/-- 'laws.FnExactBreaches', WHERE WHAT IT READS IS OF BULK AT MOST 1048576: true; the input reads as it did. -/
def fnExactBreachesUptoRow : OpenClaim := { program := "ytcpepljgnkmajaa", sum := "f276bf6e56eee574aa82a929d2122e026b17b13d8719bdacd855b760d2fb35fe", func := "loop.example/g00991/laws.FnExactBreaches", spec := "fnExactBreaches", apart := false, narrowed := true }
def FnExactBreachesUptoSaid : Prop := fnExactBreachesUptoRow.holds Try.pinned (OpenSpec.upto fnExactBreachesSpec)

/-- 'laws.FnExactHallsFor', WHERE WHAT IT READS IS OF BULK AT MOST 1048576: true; the input reads as it did. -/
def fnExactHallsForUptoRow : OpenClaim := { program := "ytcpepljgnkmajaa", sum := "f276bf6e56eee574aa82a929d2122e026b17b13d8719bdacd855b760d2fb35fe", func := "loop.example/g00991/laws.FnExactHallsFor", spec := "fnExactHallsFor", apart := false, narrowed := true }
def FnExactHallsForUptoSaid : Prop := fnExactHallsForUptoRow.holds Try.pinned (OpenSpec.upto fnExactHallsForSpec)

/-- 'laws.FnExactStricter', WHERE WHAT IT READS IS OF BULK AT MOST 1048576: true; the input reads as it did. -/
def fnExactStricterUptoRow : OpenClaim := { program := "ytcpepljgnkmajaa", sum := "f276bf6e56eee574aa82a929d2122e026b17b13d8719bdacd855b760d2fb35fe", func := "loop.example/g00991/laws.FnExactStricter", spec := "fnExactStricter", apart := false, narrowed := true }
def FnExactStricterUptoSaid : Prop := fnExactStricterUptoRow.holds Try.pinned (OpenSpec.upto fnExactStricterSpec)

/-- 'laws.FnExactJoinLoans', WHERE WHAT IT READS IS OF BULK AT MOST 1048576: true; the input reads as it did. -/
def fnExactJoinLoansUptoRow : OpenClaim := { program := "ytcpepljgnkmajaa", sum := "f276bf6e56eee574aa82a929d2122e026b17b13d8719bdacd855b760d2fb35fe", func := "loop.example/g00991/laws.FnExactJoinLoans", spec := "fnExactJoinLoans", apart := false, narrowed := true }
def FnExactJoinLoansUptoSaid : Prop := fnExactJoinLoansUptoRow.holds Try.pinned (OpenSpec.upto fnExactJoinLoansSpec)

end Rows
end Go.Proofs.Ytcpepljgnkmajaa
