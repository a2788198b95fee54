/-
  No cell of these rows narrows 'for every input' (looked for: loops, veiled, ifaces, maps, wideKeys, modest, calm, conditions, laid).
  DERIVED. THE GIVEN ROWS OF THIS SEAT. 12 by the template 'for every input the law returns true; each argument reads behind the call as it read before'; 0 by the template 'total and deterministic' (their statements: YtkohfbffmljmcaaTotals.lean).
  GIVEN WITH THE SEED: the statements are not yours to turn. If you find one false, say at which input.
  Laid BY PROGRAM, IN A SANDBOX (cutbox-rows.mjs): the forced cells as the released guide's own fill.sh prints them over the translation 84a6d2a187708865… (all of the seat's roots in one cut). By AI agents, Wed Nov 11 2026. No macro, syntax, notation, axiom, sorry.
-/
import Derived.Test.YtkohfbffmljmcaaChecked
import GoSem.Claim
import GoSem.ClaimJoined
import GoSem.ClaimMapViews
import Derived.JoinedTies
import Derived.KernelRfl
namespace Go.Proofs.Ytkohfbffmljmcaa
/- THE CELL 'sum', in the pinned program and in every row, IS THE sha256 OF THE DUMP (.gsa) THAT YtkohfbffmljmcaaProg.lean LOADS. Nothing in Lean hashes anything: it is a label: what it is worth is what the hold of that sum in a sandbox is worth. -/
noncomputable def Try.pinned : Pinned := { name := "ytkohfbffmljmcaa", sum := "84a6d2a187708865b6b38cd005ea29d5d5d5c1a51297542d97245b49b3bfcbe5", checked := Try.checked }
namespace Rows
def none {H : Type} : Left H := { results := [], args := [] }

/-- 'laws.FnExactRoomOk': WHATEVER THE INPUT: true; the input reads as it did. -/
def fnExactRoomOkSpec : ChangeSpec := { name := "fnExactRoomOk", fn := fun _ => fun
  | [d] => { results := [.lit (.bool true)], args := [d] }
  | _ => none }
def fnExactRoomOkRow : OpenClaim := { program := "ytkohfbffmljmcaa", sum := "84a6d2a187708865b6b38cd005ea29d5d5d5c1a51297542d97245b49b3bfcbe5", func := "loop.example/g00991/laws.FnExactRoomOk", spec := "fnExactRoomOk", apart := false }
def FnExactRoomOkSaid : Prop := fnExactRoomOkRow.holds Try.pinned (OpenSpec.ofChange fnExactRoomOkSpec)

/-- ITS FALSE NEIGHBOUR: 'it returns false'. Refute it at one input. -/
def fnExactRoomOkWrong : ChangeSpec := { name := "fnExactRoomOk", fn := fun _ => fun
  | [d] => { results := [.lit (.bool false)], args := [d] }
  | _ => none }
def FnExactRoomOkWrongFalsely : Prop := fnExactRoomOkRow.holds Try.pinned (OpenSpec.ofChange fnExactRoomOkWrong)

/-- 'laws.FnExactWallOf': WHATEVER THE INPUT: true; the input reads as it did. -/
def fnExactWallOfSpec : ChangeSpec := { name := "fnExactWallOf", fn := fun _ => fun
  | [d1, d2] => { results := [.lit (.bool true)], args := [d1, d2] }
  | _ => none }
def fnExactWallOfRow : OpenClaim := { program := "ytkohfbffmljmcaa", sum := "84a6d2a187708865b6b38cd005ea29d5d5d5c1a51297542d97245b49b3bfcbe5", func := "loop.example/g00991/laws.FnExactWallOf", spec := "fnExactWallOf", apart := false }
def FnExactWallOfSaid : Prop := fnExactWallOfRow.holds Try.pinned (OpenSpec.ofChange fnExactWallOfSpec)

/-- ITS FALSE NEIGHBOUR: 'it returns false'. Refute it at one input. -/
def fnExactWallOfWrong : ChangeSpec := { name := "fnExactWallOf", fn := fun _ => fun
  | [d1, d2] => { results := [.lit (.bool false)], args := [d1, d2] }
  | _ => none }
def FnExactWallOfWrongFalsely : Prop := fnExactWallOfRow.holds Try.pinned (OpenSpec.ofChange fnExactWallOfWrong)

/-- 'laws.FnExactStartAt': WHATEVER THE INPUT: true; the input reads as it did. -/
def fnExactStartAtSpec : ChangeSpec := { name := "fnExactStartAt", fn := fun _ => fun
  | [d1, d2] => { results := [.lit (.bool true)], args := [d1, d2] }
  | _ => none }
def fnExactStartAtRow : OpenClaim := { program := "ytkohfbffmljmcaa", sum := "84a6d2a187708865b6b38cd005ea29d5d5d5c1a51297542d97245b49b3bfcbe5", func := "loop.example/g00991/laws.FnExactStartAt", spec := "fnExactStartAt", apart := false }
def FnExactStartAtSaid : Prop := fnExactStartAtRow.holds Try.pinned (OpenSpec.ofChange fnExactStartAtSpec)

/-- ITS FALSE NEIGHBOUR: 'it returns false'. Refute it at one input. -/
def fnExactStartAtWrong : ChangeSpec := { name := "fnExactStartAt", fn := fun _ => fun
  | [d1, d2] => { results := [.lit (.bool false)], args := [d1, d2] }
  | _ => none }
def FnExactStartAtWrongFalsely : Prop := fnExactStartAtRow.holds Try.pinned (OpenSpec.ofChange fnExactStartAtWrong)

/-- 'laws.FnExactDoubleArea': WHATEVER THE INPUT: true; the input reads as it did. -/
def fnExactDoubleAreaSpec : ChangeSpec := { name := "fnExactDoubleArea", fn := fun _ => fun
  | [d] => { results := [.lit (.bool true)], args := [d] }
  | _ => none }
def fnExactDoubleAreaRow : OpenClaim := { program := "ytkohfbffmljmcaa", sum := "84a6d2a187708865b6b38cd005ea29d5d5d5c1a51297542d97245b49b3bfcbe5", func := "loop.example/g00991/laws.FnExactDoubleArea", spec := "fnExactDoubleArea", apart := false }
def FnExactDoubleAreaSaid : Prop := fnExactDoubleAreaRow.holds Try.pinned (OpenSpec.ofChange fnExactDoubleAreaSpec)

/-- ITS FALSE NEIGHBOUR: 'it returns false'. Refute it at one input. -/
def fnExactDoubleAreaWrong : ChangeSpec := { name := "fnExactDoubleArea", fn := fun _ => fun
  | [d] => { results := [.lit (.bool false)], args := [d] }
  | _ => none }
def FnExactDoubleAreaWrongFalsely : Prop := fnExactDoubleAreaRow.holds Try.pinned (OpenSpec.ofChange fnExactDoubleAreaWrong)

/-- 'laws.FnExactEdgePoints': WHATEVER THE INPUT: true; the input reads as it did. -/
def fnExactEdgePointsSpec : ChangeSpec := { name := "fnExactEdgePoints", fn := fun _ => fun
  | [d] => { results := [.lit (.bool true)], args := [d] }
  | _ => none }
def fnExactEdgePointsRow : OpenClaim := { program := "ytkohfbffmljmcaa", sum := "84a6d2a187708865b6b38cd005ea29d5d5d5c1a51297542d97245b49b3bfcbe5", func := "loop.example/g00991/laws.FnExactEdgePoints", spec := "fnExactEdgePoints", apart := false }
def FnExactEdgePointsSaid : Prop := fnExactEdgePointsRow.holds Try.pinned (OpenSpec.ofChange fnExactEdgePointsSpec)

/-- ITS FALSE NEIGHBOUR: 'it returns false'. Refute it at one input. -/
def fnExactEdgePointsWrong : ChangeSpec := { name := "fnExactEdgePoints", fn := fun _ => fun
  | [d] => { results := [.lit (.bool false)], args := [d] }
  | _ => none }
def FnExactEdgePointsWrongFalsely : Prop := fnExactEdgePointsRow.holds Try.pinned (OpenSpec.ofChange fnExactEdgePointsWrong)

/-- 'laws.FnExactInnerPoints': WHATEVER THE INPUT: true; the input reads as it did. -/
def fnExactInnerPointsSpec : ChangeSpec := { name := "fnExactInnerPoints", fn := fun _ => fun
  | [d] => { results := [.lit (.bool true)], args := [d] }
  | _ => none }
def fnExactInnerPointsRow : OpenClaim := { program := "ytkohfbffmljmcaa", sum := "84a6d2a187708865b6b38cd005ea29d5d5d5c1a51297542d97245b49b3bfcbe5", func := "loop.example/g00991/laws.FnExactInnerPoints", spec := "fnExactInnerPoints", apart := false }
def FnExactInnerPointsSaid : Prop := fnExactInnerPointsRow.holds Try.pinned (OpenSpec.ofChange fnExactInnerPointsSpec)

/-- ITS FALSE NEIGHBOUR: 'it returns false'. Refute it at one input. -/
def fnExactInnerPointsWrong : ChangeSpec := { name := "fnExactInnerPoints", fn := fun _ => fun
  | [d] => { results := [.lit (.bool false)], args := [d] }
  | _ => none }
def FnExactInnerPointsWrongFalsely : Prop := fnExactInnerPointsRow.holds Try.pinned (OpenSpec.ofChange fnExactInnerPointsWrong)

/-- 'laws.FnExactIsLarger': WHATEVER THE INPUT: true; the input reads as it did. -/
def fnExactIsLargerSpec : ChangeSpec := { name := "fnExactIsLarger", fn := fun _ => fun
  | [d1, d2] => { results := [.lit (.bool true)], args := [d1, d2] }
  | _ => none }
def fnExactIsLargerRow : OpenClaim := { program := "ytkohfbffmljmcaa", sum := "84a6d2a187708865b6b38cd005ea29d5d5d5c1a51297542d97245b49b3bfcbe5", func := "loop.example/g00991/laws.FnExactIsLarger", spec := "fnExactIsLarger", apart := false }
def FnExactIsLargerSaid : Prop := fnExactIsLargerRow.holds Try.pinned (OpenSpec.ofChange fnExactIsLargerSpec)

/-- ITS FALSE NEIGHBOUR: 'it returns false'. Refute it at one input. -/
def fnExactIsLargerWrong : ChangeSpec := { name := "fnExactIsLarger", fn := fun _ => fun
  | [d1, d2] => { results := [.lit (.bool false)], args := [d1, d2] }
  | _ => none }
def FnExactIsLargerWrongFalsely : Prop := fnExactIsLargerRow.holds Try.pinned (OpenSpec.ofChange fnExactIsLargerWrong)

/-- 'laws.FnExactIsReflex': WHATEVER THE INPUT: true; the input reads as it did. -/
def fnExactIsReflexSpec : ChangeSpec := { name := "fnExactIsReflex", fn := fun _ => fun
  | [d1, d2] => { results := [.lit (.bool true)], args := [d1, d2] }
  | _ => none }
def fnExactIsReflexRow : OpenClaim := { program := "ytkohfbffmljmcaa", sum := "84a6d2a187708865b6b38cd005ea29d5d5d5c1a51297542d97245b49b3bfcbe5", func := "loop.example/g00991/laws.FnExactIsReflex", spec := "fnExactIsReflex", apart := false }
def FnExactIsReflexSaid : Prop := fnExactIsReflexRow.holds Try.pinned (OpenSpec.ofChange fnExactIsReflexSpec)

/-- ITS FALSE NEIGHBOUR: 'it returns false'. Refute it at one input. -/
def fnExactIsReflexWrong : ChangeSpec := { name := "fnExactIsReflex", fn := fun _ => fun
  | [d1, d2] => { results := [.lit (.bool false)], args := [d1, d2] }
  | _ => none }
def FnExactIsReflexWrongFalsely : Prop := fnExactIsReflexRow.holds Try.pinned (OpenSpec.ofChange fnExactIsReflexWrong)

/-- 'laws.FnExactReflexCorners': WHATEVER THE INPUT: true; the input reads as it did. -/
def fnExactReflexCornersSpec : ChangeSpec := { name := "fnExactReflexCorners", fn := fun _ => fun
  | [d] => { results := [.lit (.bool true)], args := [d] }
  | _ => none }
def fnExactReflexCornersRow : OpenClaim := { program := "ytkohfbffmljmcaa", sum := "84a6d2a187708865b6b38cd005ea29d5d5d5c1a51297542d97245b49b3bfcbe5", func := "loop.example/g00991/laws.FnExactReflexCorners", spec := "fnExactReflexCorners", apart := false }
def FnExactReflexCornersSaid : Prop := fnExactReflexCornersRow.holds Try.pinned (OpenSpec.ofChange fnExactReflexCornersSpec)

/-- ITS FALSE NEIGHBOUR: 'it returns false'. Refute it at one input. -/
def fnExactReflexCornersWrong : ChangeSpec := { name := "fnExactReflexCorners", fn := fun _ => fun
  | [d] => { results := [.lit (.bool false)], args := [d] }
  | _ => none }
def FnExactReflexCornersWrongFalsely : Prop := fnExactReflexCornersRow.holds Try.pinned (OpenSpec.ofChange fnExactReflexCornersWrong)

/-- 'laws.FnExactIsConvex': WHATEVER THE INPUT: true; the input reads as it did. -/
def fnExactIsConvexSpec : ChangeSpec := { name := "fnExactIsConvex", fn := fun _ => fun
  | [d] => { results := [.lit (.bool true)], args := [d] }
  | _ => none }
def fnExactIsConvexRow : OpenClaim := { program := "ytkohfbffmljmcaa", sum := "84a6d2a187708865b6b38cd005ea29d5d5d5c1a51297542d97245b49b3bfcbe5", func := "loop.example/g00991/laws.FnExactIsConvex", spec := "fnExactIsConvex", apart := false }
def FnExactIsConvexSaid : Prop := fnExactIsConvexRow.holds Try.pinned (OpenSpec.ofChange fnExactIsConvexSpec)

/-- ITS FALSE NEIGHBOUR: 'it returns false'. Refute it at one input. -/
def fnExactIsConvexWrong : ChangeSpec := { name := "fnExactIsConvex", fn := fun _ => fun
  | [d] => { results := [.lit (.bool false)], args := [d] }
  | _ => none }
def FnExactIsConvexWrongFalsely : Prop := fnExactIsConvexRow.holds Try.pinned (OpenSpec.ofChange fnExactIsConvexWrong)

/-- 'laws.FnExactTurnSum': WHATEVER THE INPUT: true; the input reads as it did. -/
def fnExactTurnSumSpec : ChangeSpec := { name := "fnExactTurnSum", fn := fun _ => fun
  | [d] => { results := [.lit (.bool true)], args := [d] }
  | _ => none }
def fnExactTurnSumRow : OpenClaim := { program := "ytkohfbffmljmcaa", sum := "84a6d2a187708865b6b38cd005ea29d5d5d5c1a51297542d97245b49b3bfcbe5", func := "loop.example/g00991/laws.FnExactTurnSum", spec := "fnExactTurnSum", apart := false }
def FnExactTurnSumSaid : Prop := fnExactTurnSumRow.holds Try.pinned (OpenSpec.ofChange fnExactTurnSumSpec)

/-- ITS FALSE NEIGHBOUR: 'it returns false'. Refute it at one input. -/
def fnExactTurnSumWrong : ChangeSpec := { name := "fnExactTurnSum", fn := fun _ => fun
  | [d] => { results := [.lit (.bool false)], args := [d] }
  | _ => none }
def FnExactTurnSumWrongFalsely : Prop := fnExactTurnSumRow.holds Try.pinned (OpenSpec.ofChange fnExactTurnSumWrong)

/-- 'laws.FnExactLowestCorner': WHATEVER THE INPUT: true; the input reads as it did. -/
def fnExactLowestCornerSpec : ChangeSpec := { name := "fnExactLowestCorner", fn := fun _ => fun
  | [d] => { results := [.lit (.bool true)], args := [d] }
  | _ => none }
def fnExactLowestCornerRow : OpenClaim := { program := "ytkohfbffmljmcaa", sum := "84a6d2a187708865b6b38cd005ea29d5d5d5c1a51297542d97245b49b3bfcbe5", func := "loop.example/g00991/laws.FnExactLowestCorner", spec := "fnExactLowestCorner", apart := false }
def FnExactLowestCornerSaid : Prop := fnExactLowestCornerRow.holds Try.pinned (OpenSpec.ofChange fnExactLowestCornerSpec)

/-- ITS FALSE NEIGHBOUR: 'it returns false'. Refute it at one input. -/
def fnExactLowestCornerWrong : ChangeSpec := { name := "fnExactLowestCorner", fn := fun _ => fun
  | [d] => { results := [.lit (.bool false)], args := [d] }
  | _ => none }
def FnExactLowestCornerWrongFalsely : Prop := fnExactLowestCornerRow.holds Try.pinned (OpenSpec.ofChange fnExactLowestCornerWrong)

/- THE SECOND FORM. 'bulk': how many values and letters a reading holds, each counted each time it is reached (what is shared counts as often as it is met; a slice's spare places count too). A statement '..UptoSaid' is the law's where the arguments, and the package variables that the reading takes, are together of bulk at most 1048576: NARROWER than '..Said'. Prove '..Said' where nothing that the law and all that it calls make is longer than what came in: it says more and counts as full. Else prove '..UptoSaid'. A law counts once. -/
mutual
def uptoBulk {H : Type} : DataW H → Nat
  | .lit (.string bytes) => bytes.length + 1
  | .lit _ => 1
  | .nil => 1
  | .ptr d => uptoBulk d + 1
  | .slice elems spare => uptoBulkAll elems + uptoBulkAll spare + 1
  | .agg parts => uptoBulkAll parts + 1
  | .iface _ d => uptoBulk d + 1
  | .map entries => uptoBulkEntries entries + 1
  | .held _ => 1
def uptoBulkAll {H : Type} : List (DataW H) → Nat
  | [] => 0
  | d :: r => uptoBulk d + uptoBulkAll r
def uptoBulkEntries {H : Type} : List (Lit × DataW H) → Nat
  | [] => 0
  | x :: r => uptoBulkEntry x + uptoBulkEntries r
def uptoBulkEntry {H : Type} : Lit × DataW H → Nat
  | (.string bytes, d) => bytes.length + uptoBulk d + 1
  | (_, d) => uptoBulk d + 1
 end
def uptoSmall : (H : Type) → List (DataW H) → Bool := fun _ ds => decide (uptoBulkAll ds ≤ 1048576)
def OpenSpec.upto (s : _root_.Go.ChangeSpec) : _root_.Go.OpenSpec := { _root_.Go.OpenSpec.ofChange s with cond := some uptoSmall }

/-- 'laws.FnExactRoomOk', WHERE WHAT IT READS IS OF BULK AT MOST 1048576: true; the input reads as it did. -/
def fnExactRoomOkUptoRow : OpenClaim := { program := "ytkohfbffmljmcaa", sum := "84a6d2a187708865b6b38cd005ea29d5d5d5c1a51297542d97245b49b3bfcbe5", func := "loop.example/g00991/laws.FnExactRoomOk", spec := "fnExactRoomOk", apart := false, narrowed := true }
def FnExactRoomOkUptoSaid : Prop := fnExactRoomOkUptoRow.holds Try.pinned (OpenSpec.upto fnExactRoomOkSpec)

/-- 'laws.FnExactWallOf', WHERE WHAT IT READS IS OF BULK AT MOST 1048576: true; the input reads as it did. -/
def fnExactWallOfUptoRow : OpenClaim := { program := "ytkohfbffmljmcaa", sum := "84a6d2a187708865b6b38cd005ea29d5d5d5c1a51297542d97245b49b3bfcbe5", func := "loop.example/g00991/laws.FnExactWallOf", spec := "fnExactWallOf", apart := false, narrowed := true }
def FnExactWallOfUptoSaid : Prop := fnExactWallOfUptoRow.holds Try.pinned (OpenSpec.upto fnExactWallOfSpec)

/-- 'laws.FnExactStartAt', WHERE WHAT IT READS IS OF BULK AT MOST 1048576: true; the input reads as it did. -/
def fnExactStartAtUptoRow : OpenClaim := { program := "ytkohfbffmljmcaa", sum := "84a6d2a187708865b6b38cd005ea29d5d5d5c1a51297542d97245b49b3bfcbe5", func := "loop.example/g00991/laws.FnExactStartAt", spec := "fnExactStartAt", apart := false, narrowed := true }
def FnExactStartAtUptoSaid : Prop := fnExactStartAtUptoRow.holds Try.pinned (OpenSpec.upto fnExactStartAtSpec)

/-- 'laws.FnExactDoubleArea', WHERE WHAT IT READS IS OF BULK AT MOST 1048576: true; the input reads as it did. -/
def fnExactDoubleAreaUptoRow : OpenClaim := { program := "ytkohfbffmljmcaa", sum := "84a6d2a187708865b6b38cd005ea29d5d5d5c1a51297542d97245b49b3bfcbe5", func := "loop.example/g00991/laws.FnExactDoubleArea", spec := "fnExactDoubleArea", apart := false, narrowed := true }
def FnExactDoubleAreaUptoSaid : Prop := fnExactDoubleAreaUptoRow.holds Try.pinned (OpenSpec.upto fnExactDoubleAreaSpec)

/-- 'laws.FnExactEdgePoints', WHERE WHAT IT READS IS OF BULK AT MOST 1048576: true; the input reads as it did. -/
def fnExactEdgePointsUptoRow : OpenClaim := { program := "ytkohfbffmljmcaa", sum := "84a6d2a187708865b6b38cd005ea29d5d5d5c1a51297542d97245b49b3bfcbe5", func := "loop.example/g00991/laws.FnExactEdgePoints", spec := "fnExactEdgePoints", apart := false, narrowed := true }
def FnExactEdgePointsUptoSaid : Prop := fnExactEdgePointsUptoRow.holds Try.pinned (OpenSpec.upto fnExactEdgePointsSpec)

/-- 'laws.FnExactInnerPoints', WHERE WHAT IT READS IS OF BULK AT MOST 1048576: true; the input reads as it did. -/
def fnExactInnerPointsUptoRow : OpenClaim := { program := "ytkohfbffmljmcaa", sum := "84a6d2a187708865b6b38cd005ea29d5d5d5c1a51297542d97245b49b3bfcbe5", func := "loop.example/g00991/laws.FnExactInnerPoints", spec := "fnExactInnerPoints", apart := false, narrowed := true }
def FnExactInnerPointsUptoSaid : Prop := fnExactInnerPointsUptoRow.holds Try.pinned (OpenSpec.upto fnExactInnerPointsSpec)

/-- 'laws.FnExactIsLarger', WHERE WHAT IT READS IS OF BULK AT MOST 1048576: true; the input reads as it did. -/
def fnExactIsLargerUptoRow : OpenClaim := { program := "ytkohfbffmljmcaa", sum := "84a6d2a187708865b6b38cd005ea29d5d5d5c1a51297542d97245b49b3bfcbe5", func := "loop.example/g00991/laws.FnExactIsLarger", spec := "fnExactIsLarger", apart := false, narrowed := true }
def FnExactIsLargerUptoSaid : Prop := fnExactIsLargerUptoRow.holds Try.pinned (OpenSpec.upto fnExactIsLargerSpec)

/-- 'laws.FnExactIsReflex', WHERE WHAT IT READS IS OF BULK AT MOST 1048576: true; the input reads as it did. -/
def fnExactIsReflexUptoRow : OpenClaim := { program := "ytkohfbffmljmcaa", sum := "84a6d2a187708865b6b38cd005ea29d5d5d5c1a51297542d97245b49b3bfcbe5", func := "loop.example/g00991/laws.FnExactIsReflex", spec := "fnExactIsReflex", apart := false, narrowed := true }
def FnExactIsReflexUptoSaid : Prop := fnExactIsReflexUptoRow.holds Try.pinned (OpenSpec.upto fnExactIsReflexSpec)

/-- 'laws.FnExactReflexCorners', WHERE WHAT IT READS IS OF BULK AT MOST 1048576: true; the input reads as it did. -/
def fnExactReflexCornersUptoRow : OpenClaim := { program := "ytkohfbffmljmcaa", sum := "84a6d2a187708865b6b38cd005ea29d5d5d5c1a51297542d97245b49b3bfcbe5", func := "loop.example/g00991/laws.FnExactReflexCorners", spec := "fnExactReflexCorners", apart := false, narrowed := true }
def FnExactReflexCornersUptoSaid : Prop := fnExactReflexCornersUptoRow.holds Try.pinned (OpenSpec.upto fnExactReflexCornersSpec)

/-- 'laws.FnExactIsConvex', WHERE WHAT IT READS IS OF BULK AT MOST 1048576: true; the input reads as it did. -/
def fnExactIsConvexUptoRow : OpenClaim := { program := "ytkohfbffmljmcaa", sum := "84a6d2a187708865b6b38cd005ea29d5d5d5c1a51297542d97245b49b3bfcbe5", func := "loop.example/g00991/laws.FnExactIsConvex", spec := "fnExactIsConvex", apart := false, narrowed := true }
def FnExactIsConvexUptoSaid : Prop := fnExactIsConvexUptoRow.holds Try.pinned (OpenSpec.upto fnExactIsConvexSpec)

/-- 'laws.FnExactTurnSum', WHERE WHAT IT READS IS OF BULK AT MOST 1048576: true; the input reads as it did. -/
def fnExactTurnSumUptoRow : OpenClaim := { program := "ytkohfbffmljmcaa", sum := "84a6d2a187708865b6b38cd005ea29d5d5d5c1a51297542d97245b49b3bfcbe5", func := "loop.example/g00991/laws.FnExactTurnSum", spec := "fnExactTurnSum", apart := false, narrowed := true }
def FnExactTurnSumUptoSaid : Prop := fnExactTurnSumUptoRow.holds Try.pinned (OpenSpec.upto fnExactTurnSumSpec)

/-- 'laws.FnExactLowestCorner', WHERE WHAT IT READS IS OF BULK AT MOST 1048576: true; the input reads as it did. -/
def fnExactLowestCornerUptoRow : OpenClaim := { program := "ytkohfbffmljmcaa", sum := "84a6d2a187708865b6b38cd005ea29d5d5d5c1a51297542d97245b49b3bfcbe5", func := "loop.example/g00991/laws.FnExactLowestCorner", spec := "fnExactLowestCorner", apart := false, narrowed := true }
def FnExactLowestCornerUptoSaid : Prop := fnExactLowestCornerUptoRow.holds Try.pinned (OpenSpec.upto fnExactLowestCornerSpec)

end Rows
end Go.Proofs.Ytkohfbffmljmcaa
