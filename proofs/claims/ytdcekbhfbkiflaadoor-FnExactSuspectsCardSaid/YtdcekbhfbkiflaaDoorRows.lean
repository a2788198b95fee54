/-
  NARROWER THAN 'FOR EVERY INPUT', by the rows' own cells (each row's printed sentence says how): FnExactFirstMissed: laid · FnExactIsMissing: laid · FnExactMissingObjects: laid · FnExactSuspects: laid · FnExactCanMove: ifaces, laid · FnExactMoveObject: ifaces, laid · FnExactReplayMoves: ifaces, laid.
  DERIVED. THE GIVEN ROWS OF THIS SEAT. 7 by the template 'for every input the law returns true; each argument reads behind the call as it read before'; 0 by the template 'total and deterministic' (their statements: YtdcekbhfbkiflaaDoorTotals.lean).
  GIVEN WITH THE SEED: the statements are not yours to turn. If you find one false, say at which input.
  Laid BY PROGRAM, IN A SANDBOX (cutbox-rows.mjs): the forced cells as the released guide's own fill.sh prints them over the translation 76b4d6193af16b49… (all of the seat's roots in one cut). By AI agents, Wed Nov 11 2026. No macro, syntax, notation, axiom, sorry.
-/
import Derived.Test.YtdcekbhfbkiflaaDoorChecked
import GoSem.Claim
import GoSem.ClaimJoined
import GoSem.ClaimMapViews
import Derived.JoinedTies
import Derived.KernelRfl
namespace Go.Proofs.YtdcekbhfbkiflaaDoor
/- THE CELL 'sum', in the pinned program and in every row, IS THE sha256 OF THE DUMP (.gsa) THAT YtdcekbhfbkiflaaDoorProg.lean LOADS. Nothing in Lean hashes anything: it is a label: what it is worth is what the hold of that sum in a sandbox is worth. -/
noncomputable def Tryd.pinned : Pinned := { name := "ytdcekbhfbkiflaadoor", sum := "76b4d6193af16b496ad1a45b4496ad85ecbbe9bbc9afdf51a519086946a37085", checked := Tryd.checked }
namespace Rows
def none {H : Type} : Left H := { results := [], args := [] }

/- WHAT THE LISTED PACKAGE-LEVEL VARIABLES READ AS WHEN THE CALL BEGINS. Each datum BY PROGRAM (the guide's laid-datum.mjs) off the statement by which the dump's own 'gosem.cut.vars' lays the variable. In a bare row this is a premise. The card (YtdcekbhfbkiflaaDoorCards.lean) ties it to the program's text. -/
def laid_errors_errorType {H : Type} : DataW H := .iface "internal/reflectlite.rtype" (.agg [.ptr (.lit (.string [101, 114, 114, 111, 114]))])
def laid_loop_example_g00991_impl_errNotAllowed {H : Type} : DataW H := .iface "*errors.errorString" (.ptr (.agg [.lit (.string [116, 104, 101, 32, 109, 111, 118, 101, 32, 105, 115, 32, 110, 111, 116, 32, 97, 108, 108, 111, 119, 101, 100])]))

/-- 'laws.FnExactFirstMissed': WHATEVER THE INPUT: true; the input reads as it did. -/
def fnExactFirstMissedSpec : ChangeSpec := { name := "fnExactFirstMissed", fn := fun _ => fun
  | [d1, d2] => { results := [.lit (.bool true)], args := [d1, d2] }
  | _ => none }
def fnExactFirstMissedRow : OpenClaim := { program := "ytdcekbhfbkiflaadoor", sum := "76b4d6193af16b496ad1a45b4496ad85ecbbe9bbc9afdf51a519086946a37085", func := "loop.example/g00991/laws.FnExactFirstMissed", spec := "fnExactFirstMissed", inPlace := ["internal/reflectlite.ValueOf", "(internal/reflectlite.Value).Type", "(internal/reflectlite.Value).IsNil", "internal/reflectlite.TypeOf", "(internal/reflectlite.Value).Elem", "(internal/reflectlite.Value).Set"], unfollowed := true, recurses := true, named := ["errors.errorType"], apart := false, laid := [("errors.errorType", laid_errors_errorType)] }
def FnExactFirstMissedSaid : Prop := fnExactFirstMissedRow.holds Tryd.pinned (OpenSpec.ofChange fnExactFirstMissedSpec)

/-- ITS FALSE NEIGHBOUR: 'it returns false'. Refute it at one input. -/
def fnExactFirstMissedWrong : ChangeSpec := { name := "fnExactFirstMissed", fn := fun _ => fun
  | [d1, d2] => { results := [.lit (.bool false)], args := [d1, d2] }
  | _ => none }
def FnExactFirstMissedWrongFalsely : Prop := fnExactFirstMissedRow.holds Tryd.pinned (OpenSpec.ofChange fnExactFirstMissedWrong)

/-- 'laws.FnExactIsMissing': WHATEVER THE INPUT: true; the input reads as it did. -/
def fnExactIsMissingSpec : ChangeSpec := { name := "fnExactIsMissing", fn := fun _ => fun
  | [d1, d2] => { results := [.lit (.bool true)], args := [d1, d2] }
  | _ => none }
def fnExactIsMissingRow : OpenClaim := { program := "ytdcekbhfbkiflaadoor", sum := "76b4d6193af16b496ad1a45b4496ad85ecbbe9bbc9afdf51a519086946a37085", func := "loop.example/g00991/laws.FnExactIsMissing", spec := "fnExactIsMissing", inPlace := ["internal/reflectlite.ValueOf", "(internal/reflectlite.Value).Type", "(internal/reflectlite.Value).IsNil", "internal/reflectlite.TypeOf", "(internal/reflectlite.Value).Elem", "(internal/reflectlite.Value).Set"], unfollowed := true, recurses := true, named := ["errors.errorType"], apart := false, laid := [("errors.errorType", laid_errors_errorType)] }
def FnExactIsMissingSaid : Prop := fnExactIsMissingRow.holds Tryd.pinned (OpenSpec.ofChange fnExactIsMissingSpec)

/-- ITS FALSE NEIGHBOUR: 'it returns false'. Refute it at one input. -/
def fnExactIsMissingWrong : ChangeSpec := { name := "fnExactIsMissing", fn := fun _ => fun
  | [d1, d2] => { results := [.lit (.bool false)], args := [d1, d2] }
  | _ => none }
def FnExactIsMissingWrongFalsely : Prop := fnExactIsMissingRow.holds Tryd.pinned (OpenSpec.ofChange fnExactIsMissingWrong)

/-- 'laws.FnExactMissingObjects': WHATEVER THE INPUT: true; the input reads as it did. -/
def fnExactMissingObjectsSpec : ChangeSpec := { name := "fnExactMissingObjects", fn := fun _ => fun
  | [d1, d2] => { results := [.lit (.bool true)], args := [d1, d2] }
  | _ => none }
def fnExactMissingObjectsRow : OpenClaim := { program := "ytdcekbhfbkiflaadoor", sum := "76b4d6193af16b496ad1a45b4496ad85ecbbe9bbc9afdf51a519086946a37085", func := "loop.example/g00991/laws.FnExactMissingObjects", spec := "fnExactMissingObjects", inPlace := ["internal/reflectlite.ValueOf", "(internal/reflectlite.Value).Type", "(internal/reflectlite.Value).IsNil", "internal/reflectlite.TypeOf", "(internal/reflectlite.Value).Elem", "(internal/reflectlite.Value).Set"], unfollowed := true, recurses := true, named := ["errors.errorType"], apart := false, laid := [("errors.errorType", laid_errors_errorType)] }
def FnExactMissingObjectsSaid : Prop := fnExactMissingObjectsRow.holds Tryd.pinned (OpenSpec.ofChange fnExactMissingObjectsSpec)

/-- ITS FALSE NEIGHBOUR: 'it returns false'. Refute it at one input. -/
def fnExactMissingObjectsWrong : ChangeSpec := { name := "fnExactMissingObjects", fn := fun _ => fun
  | [d1, d2] => { results := [.lit (.bool false)], args := [d1, d2] }
  | _ => none }
def FnExactMissingObjectsWrongFalsely : Prop := fnExactMissingObjectsRow.holds Tryd.pinned (OpenSpec.ofChange fnExactMissingObjectsWrong)

/-- 'laws.FnExactSuspects': WHATEVER THE INPUT: true; the input reads as it did. -/
def fnExactSuspectsSpec : ChangeSpec := { name := "fnExactSuspects", fn := fun _ => fun
  | [d1, d2, d3, d4] => { results := [.lit (.bool true)], args := [d1, d2, d3, d4] }
  | _ => none }
def fnExactSuspectsRow : OpenClaim := { program := "ytdcekbhfbkiflaadoor", sum := "76b4d6193af16b496ad1a45b4496ad85ecbbe9bbc9afdf51a519086946a37085", func := "loop.example/g00991/laws.FnExactSuspects", spec := "fnExactSuspects", inPlace := ["internal/reflectlite.ValueOf", "(internal/reflectlite.Value).Type", "(internal/reflectlite.Value).IsNil", "internal/reflectlite.TypeOf", "(internal/reflectlite.Value).Elem", "(internal/reflectlite.Value).Set"], unfollowed := true, recurses := true, named := ["errors.errorType"], apart := false, laid := [("errors.errorType", laid_errors_errorType)] }
def FnExactSuspectsSaid : Prop := fnExactSuspectsRow.holds Tryd.pinned (OpenSpec.ofChange fnExactSuspectsSpec)

/-- ITS FALSE NEIGHBOUR: 'it returns false'. Refute it at one input. -/
def fnExactSuspectsWrong : ChangeSpec := { name := "fnExactSuspects", fn := fun _ => fun
  | [d1, d2, d3, d4] => { results := [.lit (.bool false)], args := [d1, d2, d3, d4] }
  | _ => none }
def FnExactSuspectsWrongFalsely : Prop := fnExactSuspectsRow.holds Tryd.pinned (OpenSpec.ofChange fnExactSuspectsWrong)

/-- 'laws.FnExactCanMove': WHATEVER THE INPUT: true; the input reads as it did. -/
def fnExactCanMoveSpec : ChangeSpec := { name := "fnExactCanMove", vars := ["loop.example/g00991/impl.errNotAllowed"], fn := fun _ => fun
  | [d1, d2, d3, d4, g1] => { results := [.lit (.bool true)], args := [d1, d2, d3, d4], vars := [g1] }
  | _ => none }
def fnExactCanMoveRow : OpenClaim := { program := "ytdcekbhfbkiflaadoor", sum := "76b4d6193af16b496ad1a45b4496ad85ecbbe9bbc9afdf51a519086946a37085", func := "loop.example/g00991/laws.FnExactCanMove", spec := "fnExactCanMove", inPlace := ["internal/reflectlite.TypeOf"], unfollowed := true, recurses := true, named := ["loop.example/g00991/impl.errNotAllowed"], ifaces := true, apart := false, laid := [("loop.example/g00991/impl.errNotAllowed", laid_loop_example_g00991_impl_errNotAllowed)] }
def FnExactCanMoveSaid : Prop := fnExactCanMoveRow.holds Tryd.pinned (OpenSpec.ofChange fnExactCanMoveSpec)

/-- ITS FALSE NEIGHBOUR: 'it returns false'. Refute it at one input. -/
def fnExactCanMoveWrong : ChangeSpec := { name := "fnExactCanMove", vars := ["loop.example/g00991/impl.errNotAllowed"], fn := fun _ => fun
  | [d1, d2, d3, d4, g1] => { results := [.lit (.bool false)], args := [d1, d2, d3, d4], vars := [g1] }
  | _ => none }
def FnExactCanMoveWrongFalsely : Prop := fnExactCanMoveRow.holds Tryd.pinned (OpenSpec.ofChange fnExactCanMoveWrong)

/-- 'laws.FnExactMoveObject': WHATEVER THE INPUT: true; the input reads as it did. -/
def fnExactMoveObjectSpec : ChangeSpec := { name := "fnExactMoveObject", vars := ["loop.example/g00991/impl.errNotAllowed"], fn := fun _ => fun
  | [d1, d2, d3, d4, g1] => { results := [.lit (.bool true)], args := [d1, d2, d3, d4], vars := [g1] }
  | _ => none }
def fnExactMoveObjectRow : OpenClaim := { program := "ytdcekbhfbkiflaadoor", sum := "76b4d6193af16b496ad1a45b4496ad85ecbbe9bbc9afdf51a519086946a37085", func := "loop.example/g00991/laws.FnExactMoveObject", spec := "fnExactMoveObject", inPlace := ["internal/reflectlite.TypeOf"], unfollowed := true, recurses := true, named := ["loop.example/g00991/impl.errNotAllowed"], ifaces := true, apart := false, laid := [("loop.example/g00991/impl.errNotAllowed", laid_loop_example_g00991_impl_errNotAllowed)] }
def FnExactMoveObjectSaid : Prop := fnExactMoveObjectRow.holds Tryd.pinned (OpenSpec.ofChange fnExactMoveObjectSpec)

/-- ITS FALSE NEIGHBOUR: 'it returns false'. Refute it at one input. -/
def fnExactMoveObjectWrong : ChangeSpec := { name := "fnExactMoveObject", vars := ["loop.example/g00991/impl.errNotAllowed"], fn := fun _ => fun
  | [d1, d2, d3, d4, g1] => { results := [.lit (.bool false)], args := [d1, d2, d3, d4], vars := [g1] }
  | _ => none }
def FnExactMoveObjectWrongFalsely : Prop := fnExactMoveObjectRow.holds Tryd.pinned (OpenSpec.ofChange fnExactMoveObjectWrong)

/-- 'laws.FnExactReplayMoves': WHATEVER THE INPUT: true; the input reads as it did. -/
def fnExactReplayMovesSpec : ChangeSpec := { name := "fnExactReplayMoves", vars := ["loop.example/g00991/impl.errNotAllowed"], fn := fun _ => fun
  | [d1, d2, d3, g1] => { results := [.lit (.bool true)], args := [d1, d2, d3], vars := [g1] }
  | _ => none }
def fnExactReplayMovesRow : OpenClaim := { program := "ytdcekbhfbkiflaadoor", sum := "76b4d6193af16b496ad1a45b4496ad85ecbbe9bbc9afdf51a519086946a37085", func := "loop.example/g00991/laws.FnExactReplayMoves", spec := "fnExactReplayMoves", inPlace := ["internal/reflectlite.TypeOf"], unfollowed := true, recurses := true, named := ["loop.example/g00991/impl.errNotAllowed"], ifaces := true, apart := false, laid := [("loop.example/g00991/impl.errNotAllowed", laid_loop_example_g00991_impl_errNotAllowed)] }
def FnExactReplayMovesSaid : Prop := fnExactReplayMovesRow.holds Tryd.pinned (OpenSpec.ofChange fnExactReplayMovesSpec)

/-- ITS FALSE NEIGHBOUR: 'it returns false'. Refute it at one input. -/
def fnExactReplayMovesWrong : ChangeSpec := { name := "fnExactReplayMoves", vars := ["loop.example/g00991/impl.errNotAllowed"], fn := fun _ => fun
  | [d1, d2, d3, g1] => { results := [.lit (.bool false)], args := [d1, d2, d3], vars := [g1] }
  | _ => none }
def FnExactReplayMovesWrongFalsely : Prop := fnExactReplayMovesRow.holds Tryd.pinned (OpenSpec.ofChange fnExactReplayMovesWrong)

/- THE SECOND FORM. 'bulk': how many values and letters a reading holds, each counted each time it is reached (what is shared counts as often as it is met; a slice's spare places count too). A statement '..UptoSaid' is the law's where the arguments, and the package variables that the reading takes, are together of bulk at most 1048576: NARROWER than '..Said'. Prove '..Said' where nothing that the law and all that it calls make is longer than what came in: it says more and counts as full. Else prove '..UptoSaid'. A law counts once. -/
mutual
def uptoBulk {H : Type} : DataW H → Nat
  | .lit (.string bytes) => bytes.length + 1
  | .lit _ => 1
  | .nil => 1
  | .ptr d => uptoBulk d + 1
  | .slice elems spare => uptoBulkAll elems + uptoBulkAll spare + 1
  | .agg parts => uptoBulkAll parts + 1
  | .iface _ d => uptoBulk d + 1
  | .map entries => uptoBulkEntries entries + 1
  | .held _ => 1
def uptoBulkAll {H : Type} : List (DataW H) → Nat
  | [] => 0
  | d :: r => uptoBulk d + uptoBulkAll r
def uptoBulkEntries {H : Type} : List (Lit × DataW H) → Nat
  | [] => 0
  | x :: r => uptoBulkEntry x + uptoBulkEntries r
def uptoBulkEntry {H : Type} : Lit × DataW H → Nat
  | (.string bytes, d) => bytes.length + uptoBulk d + 1
  | (_, d) => uptoBulk d + 1
 end
def uptoSmall : (H : Type) → List (DataW H) → Bool := fun _ ds => decide (uptoBulkAll ds ≤ 1048576)
def OpenSpec.upto (s : _root_.Go.ChangeSpec) : _root_.Go.OpenSpec := { _root_.Go.OpenSpec.ofChange s with cond := some uptoSmall }

/-- 'laws.FnExactFirstMissed', WHERE WHAT IT READS IS OF BULK AT MOST 1048576: true; the input reads as it did. -/
def fnExactFirstMissedUptoRow : OpenClaim := { program := "ytdcekbhfbkiflaadoor", sum := "76b4d6193af16b496ad1a45b4496ad85ecbbe9bbc9afdf51a519086946a37085", func := "loop.example/g00991/laws.FnExactFirstMissed", spec := "fnExactFirstMissed", inPlace := ["internal/reflectlite.ValueOf", "(internal/reflectlite.Value).Type", "(internal/reflectlite.Value).IsNil", "internal/reflectlite.TypeOf", "(internal/reflectlite.Value).Elem", "(internal/reflectlite.Value).Set"], unfollowed := true, recurses := true, named := ["errors.errorType"], apart := false, laid := [("errors.errorType", laid_errors_errorType)], narrowed := true }
def FnExactFirstMissedUptoSaid : Prop := fnExactFirstMissedUptoRow.holds Tryd.pinned (OpenSpec.upto fnExactFirstMissedSpec)

/-- 'laws.FnExactIsMissing', WHERE WHAT IT READS IS OF BULK AT MOST 1048576: true; the input reads as it did. -/
def fnExactIsMissingUptoRow : OpenClaim := { program := "ytdcekbhfbkiflaadoor", sum := "76b4d6193af16b496ad1a45b4496ad85ecbbe9bbc9afdf51a519086946a37085", func := "loop.example/g00991/laws.FnExactIsMissing", spec := "fnExactIsMissing", inPlace := ["internal/reflectlite.ValueOf", "(internal/reflectlite.Value).Type", "(internal/reflectlite.Value).IsNil", "internal/reflectlite.TypeOf", "(internal/reflectlite.Value).Elem", "(internal/reflectlite.Value).Set"], unfollowed := true, recurses := true, named := ["errors.errorType"], apart := false, laid := [("errors.errorType", laid_errors_errorType)], narrowed := true }
def FnExactIsMissingUptoSaid : Prop := fnExactIsMissingUptoRow.holds Tryd.pinned (OpenSpec.upto fnExactIsMissingSpec)

/-- 'laws.FnExactMissingObjects', WHERE WHAT IT READS IS OF BULK AT MOST 1048576: true; the input reads as it did. -/
def fnExactMissingObjectsUptoRow : OpenClaim := { program := "ytdcekbhfbkiflaadoor", sum := "76b4d6193af16b496ad1a45b4496ad85ecbbe9bbc9afdf51a519086946a37085", func := "loop.example/g00991/laws.FnExactMissingObjects", spec := "fnExactMissingObjects", inPlace := ["internal/reflectlite.ValueOf", "(internal/reflectlite.Value).Type", "(internal/reflectlite.Value).IsNil", "internal/reflectlite.TypeOf", "(internal/reflectlite.Value).Elem", "(internal/reflectlite.Value).Set"], unfollowed := true, recurses := true, named := ["errors.errorType"], apart := false, laid := [("errors.errorType", laid_errors_errorType)], narrowed := true }
def FnExactMissingObjectsUptoSaid : Prop := fnExactMissingObjectsUptoRow.holds Tryd.pinned (OpenSpec.upto fnExactMissingObjectsSpec)

/-- 'laws.FnExactSuspects', WHERE WHAT IT READS IS OF BULK AT MOST 1048576: true; the input reads as it did. -/
def fnExactSuspectsUptoRow : OpenClaim := { program := "ytdcekbhfbkiflaadoor", sum := "76b4d6193af16b496ad1a45b4496ad85ecbbe9bbc9afdf51a519086946a37085", func := "loop.example/g00991/laws.FnExactSuspects", spec := "fnExactSuspects", inPlace := ["internal/reflectlite.ValueOf", "(internal/reflectlite.Value).Type", "(internal/reflectlite.Value).IsNil", "internal/reflectlite.TypeOf", "(internal/reflectlite.Value).Elem", "(internal/reflectlite.Value).Set"], unfollowed := true, recurses := true, named := ["errors.errorType"], apart := false, laid := [("errors.errorType", laid_errors_errorType)], narrowed := true }
def FnExactSuspectsUptoSaid : Prop := fnExactSuspectsUptoRow.holds Tryd.pinned (OpenSpec.upto fnExactSuspectsSpec)

/-- 'laws.FnExactCanMove', WHERE WHAT IT READS IS OF BULK AT MOST 1048576: true; the input reads as it did. -/
def fnExactCanMoveUptoRow : OpenClaim := { program := "ytdcekbhfbkiflaadoor", sum := "76b4d6193af16b496ad1a45b4496ad85ecbbe9bbc9afdf51a519086946a37085", func := "loop.example/g00991/laws.FnExactCanMove", spec := "fnExactCanMove", inPlace := ["internal/reflectlite.TypeOf"], unfollowed := true, recurses := true, named := ["loop.example/g00991/impl.errNotAllowed"], ifaces := true, apart := false, laid := [("loop.example/g00991/impl.errNotAllowed", laid_loop_example_g00991_impl_errNotAllowed)], narrowed := true }
def FnExactCanMoveUptoSaid : Prop := fnExactCanMoveUptoRow.holds Tryd.pinned (OpenSpec.upto fnExactCanMoveSpec)

/-- 'laws.FnExactMoveObject', WHERE WHAT IT READS IS OF BULK AT MOST 1048576: true; the input reads as it did. -/
def fnExactMoveObjectUptoRow : OpenClaim := { program := "ytdcekbhfbkiflaadoor", sum := "76b4d6193af16b496ad1a45b4496ad85ecbbe9bbc9afdf51a519086946a37085", func := "loop.example/g00991/laws.FnExactMoveObject", spec := "fnExactMoveObject", inPlace := ["internal/reflectlite.TypeOf"], unfollowed := true, recurses := true, named := ["loop.example/g00991/impl.errNotAllowed"], ifaces := true, apart := false, laid := [("loop.example/g00991/impl.errNotAllowed", laid_loop_example_g00991_impl_errNotAllowed)], narrowed := true }
def FnExactMoveObjectUptoSaid : Prop := fnExactMoveObjectUptoRow.holds Tryd.pinned (OpenSpec.upto fnExactMoveObjectSpec)

/-- 'laws.FnExactReplayMoves', WHERE WHAT IT READS IS OF BULK AT MOST 1048576: true; the input reads as it did. -/
def fnExactReplayMovesUptoRow : OpenClaim := { program := "ytdcekbhfbkiflaadoor", sum := "76b4d6193af16b496ad1a45b4496ad85ecbbe9bbc9afdf51a519086946a37085", func := "loop.example/g00991/laws.FnExactReplayMoves", spec := "fnExactReplayMoves", inPlace := ["internal/reflectlite.TypeOf"], unfollowed := true, recurses := true, named := ["loop.example/g00991/impl.errNotAllowed"], ifaces := true, apart := false, laid := [("loop.example/g00991/impl.errNotAllowed", laid_loop_example_g00991_impl_errNotAllowed)], narrowed := true }
def FnExactReplayMovesUptoSaid : Prop := fnExactReplayMovesUptoRow.holds Tryd.pinned (OpenSpec.upto fnExactReplayMovesSpec)

end Rows
end Go.Proofs.YtdcekbhfbkiflaaDoor
