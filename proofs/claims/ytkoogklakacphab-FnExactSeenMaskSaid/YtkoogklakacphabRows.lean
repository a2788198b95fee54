/-
  No cell of these rows narrows 'for every input' (looked for: loops, veiled, ifaces, maps, wideKeys, modest, calm, conditions, laid).
  DERIVED. THE GIVEN ROWS OF THIS SEAT. 5 by the template 'for every input the law returns true; each argument reads behind the call as it read before'; 0 by the template 'total and deterministic' (their statements: YtkoogklakacphabTotals.lean).
  GIVEN WITH THE SEED: the statements are not yours to turn. If you find one false, say at which input.
  Laid BY PROGRAM, IN A SANDBOX (cutbox-rows.mjs): the forced cells as the released guide's own fill.sh prints them over the translation 9888a2ecb1211bf3… (all of the seat's roots in one cut). By AI agents, Wed Nov 11 2026. No macro, syntax, notation, axiom, sorry.
-/
import Derived.Test.YtkoogklakacphabChecked
import GoSem.Claim
import GoSem.ClaimJoined
import GoSem.ClaimMapViews
import Derived.JoinedTies
import Derived.KernelRfl
namespace Go.Proofs.Ytkoogklakacphab
/- THE CELL 'sum', in the pinned program and in every row, IS THE sha256 OF THE DUMP (.gsa) THAT YtkoogklakacphabProg.lean LOADS. Nothing in Lean hashes anything: it is a label: what it is worth is what the hold of that sum in a sandbox is worth. -/
noncomputable def Try.pinned : Pinned := { name := "ytkoogklakacphab", sum := "9888a2ecb1211bf3091f2a897fc78796d1fe97ae8fdd55adbeb30518ccbc4690", checked := Try.checked }
namespace Rows
def none {H : Type} : Left H := { results := [], args := [] }

/-- 'laws.FnExactSeesAll': WHATEVER THE INPUT: true; the input reads as it did. -/
def fnExactSeesAllSpec : ChangeSpec := { name := "fnExactSeesAll", fn := fun _ => fun
  | [d1, d2] => { results := [.lit (.bool true)], args := [d1, d2] }
  | _ => none }
def fnExactSeesAllRow : OpenClaim := { program := "ytkoogklakacphab", sum := "9888a2ecb1211bf3091f2a897fc78796d1fe97ae8fdd55adbeb30518ccbc4690", func := "loop.example/g00991/laws.FnExactSeesAll", spec := "fnExactSeesAll", unfollowed := true, recurses := true, plainKeys := false, apart := false }
def FnExactSeesAllSaid : Prop := fnExactSeesAllRow.holds Try.pinned (OpenSpec.ofChange fnExactSeesAllSpec)

/-- ITS FALSE NEIGHBOUR: 'it returns false'. Refute it at one input. -/
def fnExactSeesAllWrong : ChangeSpec := { name := "fnExactSeesAll", fn := fun _ => fun
  | [d1, d2] => { results := [.lit (.bool false)], args := [d1, d2] }
  | _ => none }
def FnExactSeesAllWrongFalsely : Prop := fnExactSeesAllRow.holds Try.pinned (OpenSpec.ofChange fnExactSeesAllWrong)

/-- 'laws.FnExactPointsOf': WHATEVER THE INPUT: true; the input reads as it did. -/
def fnExactPointsOfSpec : ChangeSpec := { name := "fnExactPointsOf", fn := fun _ => fun
  | [d1, d2] => { results := [.lit (.bool true)], args := [d1, d2] }
  | _ => none }
def fnExactPointsOfRow : OpenClaim := { program := "ytkoogklakacphab", sum := "9888a2ecb1211bf3091f2a897fc78796d1fe97ae8fdd55adbeb30518ccbc4690", func := "loop.example/g00991/laws.FnExactPointsOf", spec := "fnExactPointsOf", plainKeys := false, apart := false }
def FnExactPointsOfSaid : Prop := fnExactPointsOfRow.holds Try.pinned (OpenSpec.ofChange fnExactPointsOfSpec)

/-- ITS FALSE NEIGHBOUR: 'it returns false'. Refute it at one input. -/
def fnExactPointsOfWrong : ChangeSpec := { name := "fnExactPointsOf", fn := fun _ => fun
  | [d1, d2] => { results := [.lit (.bool false)], args := [d1, d2] }
  | _ => none }
def FnExactPointsOfWrongFalsely : Prop := fnExactPointsOfRow.holds Try.pinned (OpenSpec.ofChange fnExactPointsOfWrong)

/-- 'laws.FnExactUnseenBy': WHATEVER THE INPUT: true; the input reads as it did. -/
def fnExactUnseenBySpec : ChangeSpec := { name := "fnExactUnseenBy", fn := fun _ => fun
  | [d1, d2] => { results := [.lit (.bool true)], args := [d1, d2] }
  | _ => none }
def fnExactUnseenByRow : OpenClaim := { program := "ytkoogklakacphab", sum := "9888a2ecb1211bf3091f2a897fc78796d1fe97ae8fdd55adbeb30518ccbc4690", func := "loop.example/g00991/laws.FnExactUnseenBy", spec := "fnExactUnseenBy", unfollowed := true, recurses := true, plainKeys := false, apart := false }
def FnExactUnseenBySaid : Prop := fnExactUnseenByRow.holds Try.pinned (OpenSpec.ofChange fnExactUnseenBySpec)

/-- ITS FALSE NEIGHBOUR: 'it returns false'. Refute it at one input. -/
def fnExactUnseenByWrong : ChangeSpec := { name := "fnExactUnseenBy", fn := fun _ => fun
  | [d1, d2] => { results := [.lit (.bool false)], args := [d1, d2] }
  | _ => none }
def FnExactUnseenByWrongFalsely : Prop := fnExactUnseenByRow.holds Try.pinned (OpenSpec.ofChange fnExactUnseenByWrong)

/-- 'laws.FnExactNearestGuard': WHATEVER THE INPUT: true; the input reads as it did. -/
def fnExactNearestGuardSpec : ChangeSpec := { name := "fnExactNearestGuard", fn := fun _ => fun
  | [d1, d2, d3] => { results := [.lit (.bool true)], args := [d1, d2, d3] }
  | _ => none }
def fnExactNearestGuardRow : OpenClaim := { program := "ytkoogklakacphab", sum := "9888a2ecb1211bf3091f2a897fc78796d1fe97ae8fdd55adbeb30518ccbc4690", func := "loop.example/g00991/laws.FnExactNearestGuard", spec := "fnExactNearestGuard", unfollowed := true, recurses := true, plainKeys := false, apart := false }
def FnExactNearestGuardSaid : Prop := fnExactNearestGuardRow.holds Try.pinned (OpenSpec.ofChange fnExactNearestGuardSpec)

/-- ITS FALSE NEIGHBOUR: 'it returns false'. Refute it at one input. -/
def fnExactNearestGuardWrong : ChangeSpec := { name := "fnExactNearestGuard", fn := fun _ => fun
  | [d1, d2, d3] => { results := [.lit (.bool false)], args := [d1, d2, d3] }
  | _ => none }
def FnExactNearestGuardWrongFalsely : Prop := fnExactNearestGuardRow.holds Try.pinned (OpenSpec.ofChange fnExactNearestGuardWrong)

/-- 'laws.FnExactSeenMask': WHATEVER THE INPUT: true; the input reads as it did. -/
def fnExactSeenMaskSpec : ChangeSpec := { name := "fnExactSeenMask", fn := fun _ => fun
  | [d1, d2] => { results := [.lit (.bool true)], args := [d1, d2] }
  | _ => none }
def fnExactSeenMaskRow : OpenClaim := { program := "ytkoogklakacphab", sum := "9888a2ecb1211bf3091f2a897fc78796d1fe97ae8fdd55adbeb30518ccbc4690", func := "loop.example/g00991/laws.FnExactSeenMask", spec := "fnExactSeenMask", unfollowed := true, recurses := true, plainKeys := false, apart := false }
def FnExactSeenMaskSaid : Prop := fnExactSeenMaskRow.holds Try.pinned (OpenSpec.ofChange fnExactSeenMaskSpec)

/-- ITS FALSE NEIGHBOUR: 'it returns false'. Refute it at one input. -/
def fnExactSeenMaskWrong : ChangeSpec := { name := "fnExactSeenMask", fn := fun _ => fun
  | [d1, d2] => { results := [.lit (.bool false)], args := [d1, d2] }
  | _ => none }
def FnExactSeenMaskWrongFalsely : Prop := fnExactSeenMaskRow.holds Try.pinned (OpenSpec.ofChange fnExactSeenMaskWrong)

/- THE SECOND FORM. 'bulk': how many values and letters a reading holds, each counted each time it is reached (what is shared counts as often as it is met; a slice's spare places count too). A statement '..UptoSaid' is the law's where the arguments, and the package variables that the reading takes, are together of bulk at most 1048576: NARROWER than '..Said'. Prove '..Said' where nothing that the law and all that it calls make is longer than what came in: it says more and counts as full. Else prove '..UptoSaid'. A law counts once. -/
mutual
def uptoBulk {H : Type} : DataW H → Nat
  | .lit (.string bytes) => bytes.length + 1
  | .lit _ => 1
  | .nil => 1
  | .ptr d => uptoBulk d + 1
  | .slice elems spare => uptoBulkAll elems + uptoBulkAll spare + 1
  | .agg parts => uptoBulkAll parts + 1
  | .iface _ d => uptoBulk d + 1
  | .map entries => uptoBulkEntries entries + 1
  | .held _ => 1
def uptoBulkAll {H : Type} : List (DataW H) → Nat
  | [] => 0
  | d :: r => uptoBulk d + uptoBulkAll r
def uptoBulkEntries {H : Type} : List (Lit × DataW H) → Nat
  | [] => 0
  | x :: r => uptoBulkEntry x + uptoBulkEntries r
def uptoBulkEntry {H : Type} : Lit × DataW H → Nat
  | (.string bytes, d) => bytes.length + uptoBulk d + 1
  | (_, d) => uptoBulk d + 1
 end
def uptoSmall : (H : Type) → List (DataW H) → Bool := fun _ ds => decide (uptoBulkAll ds ≤ 1048576)
def OpenSpec.upto (s : _root_.Go.ChangeSpec) : _root_.Go.OpenSpec := { _root_.Go.OpenSpec.ofChange s with cond := some uptoSmall }

/-- 'laws.FnExactSeesAll', WHERE WHAT IT READS IS OF BULK AT MOST 1048576: true; the input reads as it did. -/
def fnExactSeesAllUptoRow : OpenClaim := { program := "ytkoogklakacphab", sum := "9888a2ecb1211bf3091f2a897fc78796d1fe97ae8fdd55adbeb30518ccbc4690", func := "loop.example/g00991/laws.FnExactSeesAll", spec := "fnExactSeesAll", unfollowed := true, recurses := true, plainKeys := false, apart := false, narrowed := true }
def FnExactSeesAllUptoSaid : Prop := fnExactSeesAllUptoRow.holds Try.pinned (OpenSpec.upto fnExactSeesAllSpec)

/-- 'laws.FnExactPointsOf', WHERE WHAT IT READS IS OF BULK AT MOST 1048576: true; the input reads as it did. -/
def fnExactPointsOfUptoRow : OpenClaim := { program := "ytkoogklakacphab", sum := "9888a2ecb1211bf3091f2a897fc78796d1fe97ae8fdd55adbeb30518ccbc4690", func := "loop.example/g00991/laws.FnExactPointsOf", spec := "fnExactPointsOf", plainKeys := false, apart := false, narrowed := true }
def FnExactPointsOfUptoSaid : Prop := fnExactPointsOfUptoRow.holds Try.pinned (OpenSpec.upto fnExactPointsOfSpec)

/-- 'laws.FnExactUnseenBy', WHERE WHAT IT READS IS OF BULK AT MOST 1048576: true; the input reads as it did. -/
def fnExactUnseenByUptoRow : OpenClaim := { program := "ytkoogklakacphab", sum := "9888a2ecb1211bf3091f2a897fc78796d1fe97ae8fdd55adbeb30518ccbc4690", func := "loop.example/g00991/laws.FnExactUnseenBy", spec := "fnExactUnseenBy", unfollowed := true, recurses := true, plainKeys := false, apart := false, narrowed := true }
def FnExactUnseenByUptoSaid : Prop := fnExactUnseenByUptoRow.holds Try.pinned (OpenSpec.upto fnExactUnseenBySpec)

/-- 'laws.FnExactNearestGuard', WHERE WHAT IT READS IS OF BULK AT MOST 1048576: true; the input reads as it did. -/
def fnExactNearestGuardUptoRow : OpenClaim := { program := "ytkoogklakacphab", sum := "9888a2ecb1211bf3091f2a897fc78796d1fe97ae8fdd55adbeb30518ccbc4690", func := "loop.example/g00991/laws.FnExactNearestGuard", spec := "fnExactNearestGuard", unfollowed := true, recurses := true, plainKeys := false, apart := false, narrowed := true }
def FnExactNearestGuardUptoSaid : Prop := fnExactNearestGuardUptoRow.holds Try.pinned (OpenSpec.upto fnExactNearestGuardSpec)

/-- 'laws.FnExactSeenMask', WHERE WHAT IT READS IS OF BULK AT MOST 1048576: true; the input reads as it did. -/
def fnExactSeenMaskUptoRow : OpenClaim := { program := "ytkoogklakacphab", sum := "9888a2ecb1211bf3091f2a897fc78796d1fe97ae8fdd55adbeb30518ccbc4690", func := "loop.example/g00991/laws.FnExactSeenMask", spec := "fnExactSeenMask", unfollowed := true, recurses := true, plainKeys := false, apart := false, narrowed := true }
def FnExactSeenMaskUptoSaid : Prop := fnExactSeenMaskUptoRow.holds Try.pinned (OpenSpec.upto fnExactSeenMaskSpec)

end Rows
end Go.Proofs.Ytkoogklakacphab
