/-
  No cell of these rows narrows 'for every input' (looked for: loops, veiled, ifaces, maps, wideKeys, modest, calm, conditions, laid).
  DERIVED. THE GIVEN ROWS OF THIS SEAT. 12 by the template 'for every input the law returns true; each argument reads behind the call as it read before'; 0 by the template 'total and deterministic' (their statements: YtonbpmabmjhdgabTotals.lean).
  GIVEN WITH THE SEED: the statements are not yours to turn. If you find one false, say at which input.
  Laid BY PROGRAM, IN A SANDBOX (cutbox-rows.mjs): the forced cells as the released guide's own fill.sh prints them over the translation 9c1a9f583abdb196… (all of the seat's roots in one cut). By AI agents, Wed Nov 11 2026. No macro, syntax, notation, axiom, sorry.
-/
import Derived.Test.YtonbpmabmjhdgabChecked
import GoSem.Claim
import GoSem.ClaimJoined
import GoSem.ClaimMapViews
import Derived.JoinedTies
import Derived.KernelRfl
namespace Go.Proofs.Ytonbpmabmjhdgab
/- THE CELL 'sum', in the pinned program and in every row, IS THE sha256 OF THE DUMP (.gsa) THAT YtonbpmabmjhdgabProg.lean LOADS. Nothing in Lean hashes anything: it is a label: what it is worth is what the hold of that sum in a sandbox is worth. -/
noncomputable def Try.pinned : Pinned := { name := "ytonbpmabmjhdgab", sum := "9c1a9f583abdb1965da8fec658770d4e1f34220a65cc240fd648c613172d7ca9", checked := Try.checked }
namespace Rows
def none {H : Type} : Left H := { results := [], args := [] }

/-- 'laws.FnExactHullOf': WHATEVER THE INPUT: true; the input reads as it did. -/
def fnExactHullOfSpec : ChangeSpec := { name := "fnExactHullOf", fn := fun _ => fun
  | [d] => { results := [.lit (.bool true)], args := [d] }
  | _ => none }
def fnExactHullOfRow : OpenClaim := { program := "ytonbpmabmjhdgab", sum := "9c1a9f583abdb1965da8fec658770d4e1f34220a65cc240fd648c613172d7ca9", func := "loop.example/g00991/laws.FnExactHullOf", spec := "fnExactHullOf", apart := false }
def FnExactHullOfSaid : Prop := fnExactHullOfRow.holds Try.pinned (OpenSpec.ofChange fnExactHullOfSpec)

/-- ITS FALSE NEIGHBOUR: 'it returns false'. Refute it at one input. -/
def fnExactHullOfWrong : ChangeSpec := { name := "fnExactHullOf", fn := fun _ => fun
  | [d] => { results := [.lit (.bool false)], args := [d] }
  | _ => none }
def FnExactHullOfWrongFalsely : Prop := fnExactHullOfRow.holds Try.pinned (OpenSpec.ofChange fnExactHullOfWrong)

/-- 'laws.FnExactHullRoom': WHATEVER THE INPUT: true; the input reads as it did. -/
def fnExactHullRoomSpec : ChangeSpec := { name := "fnExactHullRoom", fn := fun _ => fun
  | [d] => { results := [.lit (.bool true)], args := [d] }
  | _ => none }
def fnExactHullRoomRow : OpenClaim := { program := "ytonbpmabmjhdgab", sum := "9c1a9f583abdb1965da8fec658770d4e1f34220a65cc240fd648c613172d7ca9", func := "loop.example/g00991/laws.FnExactHullRoom", spec := "fnExactHullRoom", apart := false }
def FnExactHullRoomSaid : Prop := fnExactHullRoomRow.holds Try.pinned (OpenSpec.ofChange fnExactHullRoomSpec)

/-- ITS FALSE NEIGHBOUR: 'it returns false'. Refute it at one input. -/
def fnExactHullRoomWrong : ChangeSpec := { name := "fnExactHullRoom", fn := fun _ => fun
  | [d] => { results := [.lit (.bool false)], args := [d] }
  | _ => none }
def FnExactHullRoomWrongFalsely : Prop := fnExactHullRoomRow.holds Try.pinned (OpenSpec.ofChange fnExactHullRoomWrong)

/-- 'laws.FnExactPocketArea': WHATEVER THE INPUT: true; the input reads as it did. -/
def fnExactPocketAreaSpec : ChangeSpec := { name := "fnExactPocketArea", fn := fun _ => fun
  | [d] => { results := [.lit (.bool true)], args := [d] }
  | _ => none }
def fnExactPocketAreaRow : OpenClaim := { program := "ytonbpmabmjhdgab", sum := "9c1a9f583abdb1965da8fec658770d4e1f34220a65cc240fd648c613172d7ca9", func := "loop.example/g00991/laws.FnExactPocketArea", spec := "fnExactPocketArea", apart := false }
def FnExactPocketAreaSaid : Prop := fnExactPocketAreaRow.holds Try.pinned (OpenSpec.ofChange fnExactPocketAreaSpec)

/-- ITS FALSE NEIGHBOUR: 'it returns false'. Refute it at one input. -/
def fnExactPocketAreaWrong : ChangeSpec := { name := "fnExactPocketArea", fn := fun _ => fun
  | [d] => { results := [.lit (.bool false)], args := [d] }
  | _ => none }
def FnExactPocketAreaWrongFalsely : Prop := fnExactPocketAreaRow.holds Try.pinned (OpenSpec.ofChange fnExactPocketAreaWrong)

/-- 'laws.FnExactMoveRoom': WHATEVER THE INPUT: true; the input reads as it did. -/
def fnExactMoveRoomSpec : ChangeSpec := { name := "fnExactMoveRoom", fn := fun _ => fun
  | [d1, d2, d3] => { results := [.lit (.bool true)], args := [d1, d2, d3] }
  | _ => none }
def fnExactMoveRoomRow : OpenClaim := { program := "ytonbpmabmjhdgab", sum := "9c1a9f583abdb1965da8fec658770d4e1f34220a65cc240fd648c613172d7ca9", func := "loop.example/g00991/laws.FnExactMoveRoom", spec := "fnExactMoveRoom", unfollowed := true, recurses := true, apart := false }
def FnExactMoveRoomSaid : Prop := fnExactMoveRoomRow.holds Try.pinned (OpenSpec.ofChange fnExactMoveRoomSpec)

/-- ITS FALSE NEIGHBOUR: 'it returns false'. Refute it at one input. -/
def fnExactMoveRoomWrong : ChangeSpec := { name := "fnExactMoveRoom", fn := fun _ => fun
  | [d1, d2, d3] => { results := [.lit (.bool false)], args := [d1, d2, d3] }
  | _ => none }
def FnExactMoveRoomWrongFalsely : Prop := fnExactMoveRoomRow.holds Try.pinned (OpenSpec.ofChange fnExactMoveRoomWrong)

/-- 'laws.FnExactTurnRoom': WHATEVER THE INPUT: true; the input reads as it did. -/
def fnExactTurnRoomSpec : ChangeSpec := { name := "fnExactTurnRoom", fn := fun _ => fun
  | [d] => { results := [.lit (.bool true)], args := [d] }
  | _ => none }
def fnExactTurnRoomRow : OpenClaim := { program := "ytonbpmabmjhdgab", sum := "9c1a9f583abdb1965da8fec658770d4e1f34220a65cc240fd648c613172d7ca9", func := "loop.example/g00991/laws.FnExactTurnRoom", spec := "fnExactTurnRoom", unfollowed := true, recurses := true, apart := false }
def FnExactTurnRoomSaid : Prop := fnExactTurnRoomRow.holds Try.pinned (OpenSpec.ofChange fnExactTurnRoomSpec)

/-- ITS FALSE NEIGHBOUR: 'it returns false'. Refute it at one input. -/
def fnExactTurnRoomWrong : ChangeSpec := { name := "fnExactTurnRoom", fn := fun _ => fun
  | [d] => { results := [.lit (.bool false)], args := [d] }
  | _ => none }
def FnExactTurnRoomWrongFalsely : Prop := fnExactTurnRoomRow.holds Try.pinned (OpenSpec.ofChange fnExactTurnRoomWrong)

/-- 'laws.FnExactMirrorRoom': WHATEVER THE INPUT: true; the input reads as it did. -/
def fnExactMirrorRoomSpec : ChangeSpec := { name := "fnExactMirrorRoom", fn := fun _ => fun
  | [d] => { results := [.lit (.bool true)], args := [d] }
  | _ => none }
def fnExactMirrorRoomRow : OpenClaim := { program := "ytonbpmabmjhdgab", sum := "9c1a9f583abdb1965da8fec658770d4e1f34220a65cc240fd648c613172d7ca9", func := "loop.example/g00991/laws.FnExactMirrorRoom", spec := "fnExactMirrorRoom", unfollowed := true, recurses := true, apart := false }
def FnExactMirrorRoomSaid : Prop := fnExactMirrorRoomRow.holds Try.pinned (OpenSpec.ofChange fnExactMirrorRoomSpec)

/-- ITS FALSE NEIGHBOUR: 'it returns false'. Refute it at one input. -/
def fnExactMirrorRoomWrong : ChangeSpec := { name := "fnExactMirrorRoom", fn := fun _ => fun
  | [d] => { results := [.lit (.bool false)], args := [d] }
  | _ => none }
def FnExactMirrorRoomWrongFalsely : Prop := fnExactMirrorRoomRow.holds Try.pinned (OpenSpec.ofChange fnExactMirrorRoomWrong)

/-- 'laws.FnExactSameRoom': WHATEVER THE INPUT: true; the input reads as it did. -/
def fnExactSameRoomSpec : ChangeSpec := { name := "fnExactSameRoom", fn := fun _ => fun
  | [d1, d2] => { results := [.lit (.bool true)], args := [d1, d2] }
  | _ => none }
def fnExactSameRoomRow : OpenClaim := { program := "ytonbpmabmjhdgab", sum := "9c1a9f583abdb1965da8fec658770d4e1f34220a65cc240fd648c613172d7ca9", func := "loop.example/g00991/laws.FnExactSameRoom", spec := "fnExactSameRoom", apart := false }
def FnExactSameRoomSaid : Prop := fnExactSameRoomRow.holds Try.pinned (OpenSpec.ofChange fnExactSameRoomSpec)

/-- ITS FALSE NEIGHBOUR: 'it returns false'. Refute it at one input. -/
def fnExactSameRoomWrong : ChangeSpec := { name := "fnExactSameRoom", fn := fun _ => fun
  | [d1, d2] => { results := [.lit (.bool false)], args := [d1, d2] }
  | _ => none }
def FnExactSameRoomWrongFalsely : Prop := fnExactSameRoomRow.holds Try.pinned (OpenSpec.ofChange fnExactSameRoomWrong)

/-- 'laws.FnExactPartArea': WHATEVER THE INPUT: true; the input reads as it did. -/
def fnExactPartAreaSpec : ChangeSpec := { name := "fnExactPartArea", fn := fun _ => fun
  | [d1, d2] => { results := [.lit (.bool true)], args := [d1, d2] }
  | _ => none }
def fnExactPartAreaRow : OpenClaim := { program := "ytonbpmabmjhdgab", sum := "9c1a9f583abdb1965da8fec658770d4e1f34220a65cc240fd648c613172d7ca9", func := "loop.example/g00991/laws.FnExactPartArea", spec := "fnExactPartArea", apart := false }
def FnExactPartAreaSaid : Prop := fnExactPartAreaRow.holds Try.pinned (OpenSpec.ofChange fnExactPartAreaSpec)

/-- ITS FALSE NEIGHBOUR: 'it returns false'. Refute it at one input. -/
def fnExactPartAreaWrong : ChangeSpec := { name := "fnExactPartArea", fn := fun _ => fun
  | [d1, d2] => { results := [.lit (.bool false)], args := [d1, d2] }
  | _ => none }
def FnExactPartAreaWrongFalsely : Prop := fnExactPartAreaRow.holds Try.pinned (OpenSpec.ofChange fnExactPartAreaWrong)

/-- 'laws.FnExactWalkOk': WHATEVER THE INPUT: true; the input reads as it did. -/
def fnExactWalkOkSpec : ChangeSpec := { name := "fnExactWalkOk", fn := fun _ => fun
  | [d1, d2] => { results := [.lit (.bool true)], args := [d1, d2] }
  | _ => none }
def fnExactWalkOkRow : OpenClaim := { program := "ytonbpmabmjhdgab", sum := "9c1a9f583abdb1965da8fec658770d4e1f34220a65cc240fd648c613172d7ca9", func := "loop.example/g00991/laws.FnExactWalkOk", spec := "fnExactWalkOk", unfollowed := true, recurses := true, apart := false }
def FnExactWalkOkSaid : Prop := fnExactWalkOkRow.holds Try.pinned (OpenSpec.ofChange fnExactWalkOkSpec)

/-- ITS FALSE NEIGHBOUR: 'it returns false'. Refute it at one input. -/
def fnExactWalkOkWrong : ChangeSpec := { name := "fnExactWalkOk", fn := fun _ => fun
  | [d1, d2] => { results := [.lit (.bool false)], args := [d1, d2] }
  | _ => none }
def FnExactWalkOkWrongFalsely : Prop := fnExactWalkOkRow.holds Try.pinned (OpenSpec.ofChange fnExactWalkOkWrong)

/-- 'laws.FnExactPatrolOk': WHATEVER THE INPUT: true; the input reads as it did. -/
def fnExactPatrolOkSpec : ChangeSpec := { name := "fnExactPatrolOk", fn := fun _ => fun
  | [d1, d2] => { results := [.lit (.bool true)], args := [d1, d2] }
  | _ => none }
def fnExactPatrolOkRow : OpenClaim := { program := "ytonbpmabmjhdgab", sum := "9c1a9f583abdb1965da8fec658770d4e1f34220a65cc240fd648c613172d7ca9", func := "loop.example/g00991/laws.FnExactPatrolOk", spec := "fnExactPatrolOk", unfollowed := true, recurses := true, apart := false }
def FnExactPatrolOkSaid : Prop := fnExactPatrolOkRow.holds Try.pinned (OpenSpec.ofChange fnExactPatrolOkSpec)

/-- ITS FALSE NEIGHBOUR: 'it returns false'. Refute it at one input. -/
def fnExactPatrolOkWrong : ChangeSpec := { name := "fnExactPatrolOk", fn := fun _ => fun
  | [d1, d2] => { results := [.lit (.bool false)], args := [d1, d2] }
  | _ => none }
def FnExactPatrolOkWrongFalsely : Prop := fnExactPatrolOkRow.holds Try.pinned (OpenSpec.ofChange fnExactPatrolOkWrong)

/-- 'laws.FnExactSeenOn': WHATEVER THE INPUT: true; the input reads as it did. -/
def fnExactSeenOnSpec : ChangeSpec := { name := "fnExactSeenOn", fn := fun _ => fun
  | [d1, d2, d3] => { results := [.lit (.bool true)], args := [d1, d2, d3] }
  | _ => none }
def fnExactSeenOnRow : OpenClaim := { program := "ytonbpmabmjhdgab", sum := "9c1a9f583abdb1965da8fec658770d4e1f34220a65cc240fd648c613172d7ca9", func := "loop.example/g00991/laws.FnExactSeenOn", spec := "fnExactSeenOn", unfollowed := true, recurses := true, apart := false }
def FnExactSeenOnSaid : Prop := fnExactSeenOnRow.holds Try.pinned (OpenSpec.ofChange fnExactSeenOnSpec)

/-- ITS FALSE NEIGHBOUR: 'it returns false'. Refute it at one input. -/
def fnExactSeenOnWrong : ChangeSpec := { name := "fnExactSeenOn", fn := fun _ => fun
  | [d1, d2, d3] => { results := [.lit (.bool false)], args := [d1, d2, d3] }
  | _ => none }
def FnExactSeenOnWrongFalsely : Prop := fnExactSeenOnRow.holds Try.pinned (OpenSpec.ofChange fnExactSeenOnWrong)

/-- 'laws.FnExactLongestGap': WHATEVER THE INPUT: true; the input reads as it did. -/
def fnExactLongestGapSpec : ChangeSpec := { name := "fnExactLongestGap", fn := fun _ => fun
  | [d1, d2, d3] => { results := [.lit (.bool true)], args := [d1, d2, d3] }
  | _ => none }
def fnExactLongestGapRow : OpenClaim := { program := "ytonbpmabmjhdgab", sum := "9c1a9f583abdb1965da8fec658770d4e1f34220a65cc240fd648c613172d7ca9", func := "loop.example/g00991/laws.FnExactLongestGap", spec := "fnExactLongestGap", unfollowed := true, recurses := true, apart := false }
def FnExactLongestGapSaid : Prop := fnExactLongestGapRow.holds Try.pinned (OpenSpec.ofChange fnExactLongestGapSpec)

/-- ITS FALSE NEIGHBOUR: 'it returns false'. Refute it at one input. -/
def fnExactLongestGapWrong : ChangeSpec := { name := "fnExactLongestGap", fn := fun _ => fun
  | [d1, d2, d3] => { results := [.lit (.bool false)], args := [d1, d2, d3] }
  | _ => none }
def FnExactLongestGapWrongFalsely : Prop := fnExactLongestGapRow.holds Try.pinned (OpenSpec.ofChange fnExactLongestGapWrong)

/- THE SECOND FORM. 'bulk': how many values and letters a reading holds, each counted each time it is reached (what is shared counts as often as it is met; a slice's spare places count too). A statement '..UptoSaid' is the law's where the arguments, and the package variables that the reading takes, are together of bulk at most 1048576: NARROWER than '..Said'. Prove '..Said' where nothing that the law and all that it calls make is longer than what came in: it says more and counts as full. Else prove '..UptoSaid'. A law counts once. -/
mutual
def uptoBulk {H : Type} : DataW H → Nat
  | .lit (.string bytes) => bytes.length + 1
  | .lit _ => 1
  | .nil => 1
  | .ptr d => uptoBulk d + 1
  | .slice elems spare => uptoBulkAll elems + uptoBulkAll spare + 1
  | .agg parts => uptoBulkAll parts + 1
  | .iface _ d => uptoBulk d + 1
  | .map entries => uptoBulkEntries entries + 1
  | .held _ => 1
def uptoBulkAll {H : Type} : List (DataW H) → Nat
  | [] => 0
  | d :: r => uptoBulk d + uptoBulkAll r
def uptoBulkEntries {H : Type} : List (Lit × DataW H) → Nat
  | [] => 0
  | x :: r => uptoBulkEntry x + uptoBulkEntries r
def uptoBulkEntry {H : Type} : Lit × DataW H → Nat
  | (.string bytes, d) => bytes.length + uptoBulk d + 1
  | (_, d) => uptoBulk d + 1
 end
def uptoSmall : (H : Type) → List (DataW H) → Bool := fun _ ds => decide (uptoBulkAll ds ≤ 1048576)
def OpenSpec.upto (s : _root_.Go.ChangeSpec) : _root_.Go.OpenSpec := { _root_.Go.OpenSpec.ofChange s with cond := some uptoSmall }

/-- 'laws.FnExactHullOf', WHERE WHAT IT READS IS OF BULK AT MOST 1048576: true; the input reads as it did. -/
def fnExactHullOfUptoRow : OpenClaim := { program := "ytonbpmabmjhdgab", sum := "9c1a9f583abdb1965da8fec658770d4e1f34220a65cc240fd648c613172d7ca9", func := "loop.example/g00991/laws.FnExactHullOf", spec := "fnExactHullOf", apart := false, narrowed := true }
def FnExactHullOfUptoSaid : Prop := fnExactHullOfUptoRow.holds Try.pinned (OpenSpec.upto fnExactHullOfSpec)

/-- 'laws.FnExactHullRoom', WHERE WHAT IT READS IS OF BULK AT MOST 1048576: true; the input reads as it did. -/
def fnExactHullRoomUptoRow : OpenClaim := { program := "ytonbpmabmjhdgab", sum := "9c1a9f583abdb1965da8fec658770d4e1f34220a65cc240fd648c613172d7ca9", func := "loop.example/g00991/laws.FnExactHullRoom", spec := "fnExactHullRoom", apart := false, narrowed := true }
def FnExactHullRoomUptoSaid : Prop := fnExactHullRoomUptoRow.holds Try.pinned (OpenSpec.upto fnExactHullRoomSpec)

/-- 'laws.FnExactPocketArea', WHERE WHAT IT READS IS OF BULK AT MOST 1048576: true; the input reads as it did. -/
def fnExactPocketAreaUptoRow : OpenClaim := { program := "ytonbpmabmjhdgab", sum := "9c1a9f583abdb1965da8fec658770d4e1f34220a65cc240fd648c613172d7ca9", func := "loop.example/g00991/laws.FnExactPocketArea", spec := "fnExactPocketArea", apart := false, narrowed := true }
def FnExactPocketAreaUptoSaid : Prop := fnExactPocketAreaUptoRow.holds Try.pinned (OpenSpec.upto fnExactPocketAreaSpec)

/-- 'laws.FnExactMoveRoom', WHERE WHAT IT READS IS OF BULK AT MOST 1048576: true; the input reads as it did. -/
def fnExactMoveRoomUptoRow : OpenClaim := { program := "ytonbpmabmjhdgab", sum := "9c1a9f583abdb1965da8fec658770d4e1f34220a65cc240fd648c613172d7ca9", func := "loop.example/g00991/laws.FnExactMoveRoom", spec := "fnExactMoveRoom", unfollowed := true, recurses := true, apart := false, narrowed := true }
def FnExactMoveRoomUptoSaid : Prop := fnExactMoveRoomUptoRow.holds Try.pinned (OpenSpec.upto fnExactMoveRoomSpec)

/-- 'laws.FnExactTurnRoom', WHERE WHAT IT READS IS OF BULK AT MOST 1048576: true; the input reads as it did. -/
def fnExactTurnRoomUptoRow : OpenClaim := { program := "ytonbpmabmjhdgab", sum := "9c1a9f583abdb1965da8fec658770d4e1f34220a65cc240fd648c613172d7ca9", func := "loop.example/g00991/laws.FnExactTurnRoom", spec := "fnExactTurnRoom", unfollowed := true, recurses := true, apart := false, narrowed := true }
def FnExactTurnRoomUptoSaid : Prop := fnExactTurnRoomUptoRow.holds Try.pinned (OpenSpec.upto fnExactTurnRoomSpec)

/-- 'laws.FnExactMirrorRoom', WHERE WHAT IT READS IS OF BULK AT MOST 1048576: true; the input reads as it did. -/
def fnExactMirrorRoomUptoRow : OpenClaim := { program := "ytonbpmabmjhdgab", sum := "9c1a9f583abdb1965da8fec658770d4e1f34220a65cc240fd648c613172d7ca9", func := "loop.example/g00991/laws.FnExactMirrorRoom", spec := "fnExactMirrorRoom", unfollowed := true, recurses := true, apart := false, narrowed := true }
def FnExactMirrorRoomUptoSaid : Prop := fnExactMirrorRoomUptoRow.holds Try.pinned (OpenSpec.upto fnExactMirrorRoomSpec)

/-- 'laws.FnExactSameRoom', WHERE WHAT IT READS IS OF BULK AT MOST 1048576: true; the input reads as it did. -/
def fnExactSameRoomUptoRow : OpenClaim := { program := "ytonbpmabmjhdgab", sum := "9c1a9f583abdb1965da8fec658770d4e1f34220a65cc240fd648c613172d7ca9", func := "loop.example/g00991/laws.FnExactSameRoom", spec := "fnExactSameRoom", apart := false, narrowed := true }
def FnExactSameRoomUptoSaid : Prop := fnExactSameRoomUptoRow.holds Try.pinned (OpenSpec.upto fnExactSameRoomSpec)

/-- 'laws.FnExactPartArea', WHERE WHAT IT READS IS OF BULK AT MOST 1048576: true; the input reads as it did. -/
def fnExactPartAreaUptoRow : OpenClaim := { program := "ytonbpmabmjhdgab", sum := "9c1a9f583abdb1965da8fec658770d4e1f34220a65cc240fd648c613172d7ca9", func := "loop.example/g00991/laws.FnExactPartArea", spec := "fnExactPartArea", apart := false, narrowed := true }
def FnExactPartAreaUptoSaid : Prop := fnExactPartAreaUptoRow.holds Try.pinned (OpenSpec.upto fnExactPartAreaSpec)

/-- 'laws.FnExactWalkOk', WHERE WHAT IT READS IS OF BULK AT MOST 1048576: true; the input reads as it did. -/
def fnExactWalkOkUptoRow : OpenClaim := { program := "ytonbpmabmjhdgab", sum := "9c1a9f583abdb1965da8fec658770d4e1f34220a65cc240fd648c613172d7ca9", func := "loop.example/g00991/laws.FnExactWalkOk", spec := "fnExactWalkOk", unfollowed := true, recurses := true, apart := false, narrowed := true }
def FnExactWalkOkUptoSaid : Prop := fnExactWalkOkUptoRow.holds Try.pinned (OpenSpec.upto fnExactWalkOkSpec)

/-- 'laws.FnExactPatrolOk', WHERE WHAT IT READS IS OF BULK AT MOST 1048576: true; the input reads as it did. -/
def fnExactPatrolOkUptoRow : OpenClaim := { program := "ytonbpmabmjhdgab", sum := "9c1a9f583abdb1965da8fec658770d4e1f34220a65cc240fd648c613172d7ca9", func := "loop.example/g00991/laws.FnExactPatrolOk", spec := "fnExactPatrolOk", unfollowed := true, recurses := true, apart := false, narrowed := true }
def FnExactPatrolOkUptoSaid : Prop := fnExactPatrolOkUptoRow.holds Try.pinned (OpenSpec.upto fnExactPatrolOkSpec)

/-- 'laws.FnExactSeenOn', WHERE WHAT IT READS IS OF BULK AT MOST 1048576: true; the input reads as it did. -/
def fnExactSeenOnUptoRow : OpenClaim := { program := "ytonbpmabmjhdgab", sum := "9c1a9f583abdb1965da8fec658770d4e1f34220a65cc240fd648c613172d7ca9", func := "loop.example/g00991/laws.FnExactSeenOn", spec := "fnExactSeenOn", unfollowed := true, recurses := true, apart := false, narrowed := true }
def FnExactSeenOnUptoSaid : Prop := fnExactSeenOnUptoRow.holds Try.pinned (OpenSpec.upto fnExactSeenOnSpec)

/-- 'laws.FnExactLongestGap', WHERE WHAT IT READS IS OF BULK AT MOST 1048576: true; the input reads as it did. -/
def fnExactLongestGapUptoRow : OpenClaim := { program := "ytonbpmabmjhdgab", sum := "9c1a9f583abdb1965da8fec658770d4e1f34220a65cc240fd648c613172d7ca9", func := "loop.example/g00991/laws.FnExactLongestGap", spec := "fnExactLongestGap", unfollowed := true, recurses := true, apart := false, narrowed := true }
def FnExactLongestGapUptoSaid : Prop := fnExactLongestGapUptoRow.holds Try.pinned (OpenSpec.upto fnExactLongestGapSpec)

end Rows
end Go.Proofs.Ytonbpmabmjhdgab
