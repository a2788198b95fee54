/-
  No cell of these rows narrows 'for every input' (looked for: loops, veiled, ifaces, maps, wideKeys, modest, calm, conditions, laid).
  DERIVED. THE GIVEN ROWS OF THIS SEAT. 12 by the template 'for every input the law returns true; each argument reads behind the call as it read before'; 0 by the template 'total and deterministic' (their statements: YtofjpepppjlecaaTotals.lean).
  GIVEN WITH THE SEED: the statements are not yours to turn. If you find one false, say at which input.
  Laid BY PROGRAM, IN A SANDBOX (cutbox-rows.mjs): the forced cells as the released guide's own fill.sh prints them over the translation 87b4a2a05a94ae92… (all of the seat's roots in one cut). By AI agents, Wed Nov 11 2026. No macro, syntax, notation, axiom, sorry.
-/
import Derived.Test.YtofjpepppjlecaaChecked
import GoSem.Claim
import GoSem.ClaimJoined
import GoSem.ClaimMapViews
import Derived.JoinedTies
import Derived.KernelRfl
namespace Go.Proofs.Ytofjpepppjlecaa
/- THE CELL 'sum', in the pinned program and in every row, IS THE sha256 OF THE DUMP (.gsa) THAT YtofjpepppjlecaaProg.lean LOADS. Nothing in Lean hashes anything: it is a label: what it is worth is what the hold of that sum in a sandbox is worth. -/
noncomputable def Try.pinned : Pinned := { name := "ytofjpepppjlecaa", sum := "87b4a2a05a94ae92fc168541f067c1b110eb7a0e6d09c87ab2e772cbff6d2be4", checked := Try.checked }
namespace Rows
def none {H : Type} : Left H := { results := [], args := [] }

/-- 'laws.FnExactRoomOk': WHATEVER THE INPUT: true; the input reads as it did. -/
def fnExactRoomOkSpec : ChangeSpec := { name := "fnExactRoomOk", fn := fun _ => fun
  | [d] => { results := [.lit (.bool true)], args := [d] }
  | _ => none }
def fnExactRoomOkRow : OpenClaim := { program := "ytofjpepppjlecaa", sum := "87b4a2a05a94ae92fc168541f067c1b110eb7a0e6d09c87ab2e772cbff6d2be4", func := "loop.example/g00991/laws.FnExactRoomOk", spec := "fnExactRoomOk", apart := false }
def FnExactRoomOkSaid : Prop := fnExactRoomOkRow.holds Try.pinned (OpenSpec.ofChange fnExactRoomOkSpec)

/-- ITS FALSE NEIGHBOUR: 'it returns false'. Refute it at one input. -/
def fnExactRoomOkWrong : ChangeSpec := { name := "fnExactRoomOk", fn := fun _ => fun
  | [d] => { results := [.lit (.bool false)], args := [d] }
  | _ => none }
def FnExactRoomOkWrongFalsely : Prop := fnExactRoomOkRow.holds Try.pinned (OpenSpec.ofChange fnExactRoomOkWrong)

/-- 'laws.FnExactCornerAt': WHATEVER THE INPUT: true; the input reads as it did. -/
def fnExactCornerAtSpec : ChangeSpec := { name := "fnExactCornerAt", fn := fun _ => fun
  | [d1, d2] => { results := [.lit (.bool true)], args := [d1, d2] }
  | _ => none }
def fnExactCornerAtRow : OpenClaim := { program := "ytofjpepppjlecaa", sum := "87b4a2a05a94ae92fc168541f067c1b110eb7a0e6d09c87ab2e772cbff6d2be4", func := "loop.example/g00991/laws.FnExactCornerAt", spec := "fnExactCornerAt", apart := false }
def FnExactCornerAtSaid : Prop := fnExactCornerAtRow.holds Try.pinned (OpenSpec.ofChange fnExactCornerAtSpec)

/-- ITS FALSE NEIGHBOUR: 'it returns false'. Refute it at one input. -/
def fnExactCornerAtWrong : ChangeSpec := { name := "fnExactCornerAt", fn := fun _ => fun
  | [d1, d2] => { results := [.lit (.bool false)], args := [d1, d2] }
  | _ => none }
def FnExactCornerAtWrongFalsely : Prop := fnExactCornerAtRow.holds Try.pinned (OpenSpec.ofChange fnExactCornerAtWrong)

/-- 'laws.FnExactIsCorner': WHATEVER THE INPUT: true; the input reads as it did. -/
def fnExactIsCornerSpec : ChangeSpec := { name := "fnExactIsCorner", fn := fun _ => fun
  | [d1, d2] => { results := [.lit (.bool true)], args := [d1, d2] }
  | _ => none }
def fnExactIsCornerRow : OpenClaim := { program := "ytofjpepppjlecaa", sum := "87b4a2a05a94ae92fc168541f067c1b110eb7a0e6d09c87ab2e772cbff6d2be4", func := "loop.example/g00991/laws.FnExactIsCorner", spec := "fnExactIsCorner", apart := false }
def FnExactIsCornerSaid : Prop := fnExactIsCornerRow.holds Try.pinned (OpenSpec.ofChange fnExactIsCornerSpec)

/-- ITS FALSE NEIGHBOUR: 'it returns false'. Refute it at one input. -/
def fnExactIsCornerWrong : ChangeSpec := { name := "fnExactIsCorner", fn := fun _ => fun
  | [d1, d2] => { results := [.lit (.bool false)], args := [d1, d2] }
  | _ => none }
def FnExactIsCornerWrongFalsely : Prop := fnExactIsCornerRow.holds Try.pinned (OpenSpec.ofChange fnExactIsCornerWrong)

/-- 'laws.FnExactStartAt': WHATEVER THE INPUT: true; the input reads as it did. -/
def fnExactStartAtSpec : ChangeSpec := { name := "fnExactStartAt", fn := fun _ => fun
  | [d1, d2] => { results := [.lit (.bool true)], args := [d1, d2] }
  | _ => none }
def fnExactStartAtRow : OpenClaim := { program := "ytofjpepppjlecaa", sum := "87b4a2a05a94ae92fc168541f067c1b110eb7a0e6d09c87ab2e772cbff6d2be4", func := "loop.example/g00991/laws.FnExactStartAt", spec := "fnExactStartAt", apart := false }
def FnExactStartAtSaid : Prop := fnExactStartAtRow.holds Try.pinned (OpenSpec.ofChange fnExactStartAtSpec)

/-- ITS FALSE NEIGHBOUR: 'it returns false'. Refute it at one input. -/
def fnExactStartAtWrong : ChangeSpec := { name := "fnExactStartAt", fn := fun _ => fun
  | [d1, d2] => { results := [.lit (.bool false)], args := [d1, d2] }
  | _ => none }
def FnExactStartAtWrongFalsely : Prop := fnExactStartAtRow.holds Try.pinned (OpenSpec.ofChange fnExactStartAtWrong)

/-- 'laws.FnExactDoubleArea': WHATEVER THE INPUT: true; the input reads as it did. -/
def fnExactDoubleAreaSpec : ChangeSpec := { name := "fnExactDoubleArea", fn := fun _ => fun
  | [d] => { results := [.lit (.bool true)], args := [d] }
  | _ => none }
def fnExactDoubleAreaRow : OpenClaim := { program := "ytofjpepppjlecaa", sum := "87b4a2a05a94ae92fc168541f067c1b110eb7a0e6d09c87ab2e772cbff6d2be4", func := "loop.example/g00991/laws.FnExactDoubleArea", spec := "fnExactDoubleArea", apart := false }
def FnExactDoubleAreaSaid : Prop := fnExactDoubleAreaRow.holds Try.pinned (OpenSpec.ofChange fnExactDoubleAreaSpec)

/-- ITS FALSE NEIGHBOUR: 'it returns false'. Refute it at one input. -/
def fnExactDoubleAreaWrong : ChangeSpec := { name := "fnExactDoubleArea", fn := fun _ => fun
  | [d] => { results := [.lit (.bool false)], args := [d] }
  | _ => none }
def FnExactDoubleAreaWrongFalsely : Prop := fnExactDoubleAreaRow.holds Try.pinned (OpenSpec.ofChange fnExactDoubleAreaWrong)

/-- 'laws.FnExactEdgePoints': WHATEVER THE INPUT: true; the input reads as it did. -/
def fnExactEdgePointsSpec : ChangeSpec := { name := "fnExactEdgePoints", fn := fun _ => fun
  | [d] => { results := [.lit (.bool true)], args := [d] }
  | _ => none }
def fnExactEdgePointsRow : OpenClaim := { program := "ytofjpepppjlecaa", sum := "87b4a2a05a94ae92fc168541f067c1b110eb7a0e6d09c87ab2e772cbff6d2be4", func := "loop.example/g00991/laws.FnExactEdgePoints", spec := "fnExactEdgePoints", apart := false }
def FnExactEdgePointsSaid : Prop := fnExactEdgePointsRow.holds Try.pinned (OpenSpec.ofChange fnExactEdgePointsSpec)

/-- ITS FALSE NEIGHBOUR: 'it returns false'. Refute it at one input. -/
def fnExactEdgePointsWrong : ChangeSpec := { name := "fnExactEdgePoints", fn := fun _ => fun
  | [d] => { results := [.lit (.bool false)], args := [d] }
  | _ => none }
def FnExactEdgePointsWrongFalsely : Prop := fnExactEdgePointsRow.holds Try.pinned (OpenSpec.ofChange fnExactEdgePointsWrong)

/-- 'laws.FnExactInnerPoints': WHATEVER THE INPUT: true; the input reads as it did. -/
def fnExactInnerPointsSpec : ChangeSpec := { name := "fnExactInnerPoints", fn := fun _ => fun
  | [d] => { results := [.lit (.bool true)], args := [d] }
  | _ => none }
def fnExactInnerPointsRow : OpenClaim := { program := "ytofjpepppjlecaa", sum := "87b4a2a05a94ae92fc168541f067c1b110eb7a0e6d09c87ab2e772cbff6d2be4", func := "loop.example/g00991/laws.FnExactInnerPoints", spec := "fnExactInnerPoints", apart := false }
def FnExactInnerPointsSaid : Prop := fnExactInnerPointsRow.holds Try.pinned (OpenSpec.ofChange fnExactInnerPointsSpec)

/-- ITS FALSE NEIGHBOUR: 'it returns false'. Refute it at one input. -/
def fnExactInnerPointsWrong : ChangeSpec := { name := "fnExactInnerPoints", fn := fun _ => fun
  | [d] => { results := [.lit (.bool false)], args := [d] }
  | _ => none }
def FnExactInnerPointsWrongFalsely : Prop := fnExactInnerPointsRow.holds Try.pinned (OpenSpec.ofChange fnExactInnerPointsWrong)

/-- 'laws.FnExactIsLarger': WHATEVER THE INPUT: true; the input reads as it did. -/
def fnExactIsLargerSpec : ChangeSpec := { name := "fnExactIsLarger", fn := fun _ => fun
  | [d1, d2] => { results := [.lit (.bool true)], args := [d1, d2] }
  | _ => none }
def fnExactIsLargerRow : OpenClaim := { program := "ytofjpepppjlecaa", sum := "87b4a2a05a94ae92fc168541f067c1b110eb7a0e6d09c87ab2e772cbff6d2be4", func := "loop.example/g00991/laws.FnExactIsLarger", spec := "fnExactIsLarger", apart := false }
def FnExactIsLargerSaid : Prop := fnExactIsLargerRow.holds Try.pinned (OpenSpec.ofChange fnExactIsLargerSpec)

/-- ITS FALSE NEIGHBOUR: 'it returns false'. Refute it at one input. -/
def fnExactIsLargerWrong : ChangeSpec := { name := "fnExactIsLarger", fn := fun _ => fun
  | [d1, d2] => { results := [.lit (.bool false)], args := [d1, d2] }
  | _ => none }
def FnExactIsLargerWrongFalsely : Prop := fnExactIsLargerRow.holds Try.pinned (OpenSpec.ofChange fnExactIsLargerWrong)

/-- 'laws.FnExactFloorPoints': WHATEVER THE INPUT: true; the input reads as it did. -/
def fnExactFloorPointsSpec : ChangeSpec := { name := "fnExactFloorPoints", fn := fun _ => fun
  | [d] => { results := [.lit (.bool true)], args := [d] }
  | _ => none }
def fnExactFloorPointsRow : OpenClaim := { program := "ytofjpepppjlecaa", sum := "87b4a2a05a94ae92fc168541f067c1b110eb7a0e6d09c87ab2e772cbff6d2be4", func := "loop.example/g00991/laws.FnExactFloorPoints", spec := "fnExactFloorPoints", unfollowed := true, recurses := true, apart := false }
def FnExactFloorPointsSaid : Prop := fnExactFloorPointsRow.holds Try.pinned (OpenSpec.ofChange fnExactFloorPointsSpec)

/-- ITS FALSE NEIGHBOUR: 'it returns false'. Refute it at one input. -/
def fnExactFloorPointsWrong : ChangeSpec := { name := "fnExactFloorPoints", fn := fun _ => fun
  | [d] => { results := [.lit (.bool false)], args := [d] }
  | _ => none }
def FnExactFloorPointsWrongFalsely : Prop := fnExactFloorPointsRow.holds Try.pinned (OpenSpec.ofChange fnExactFloorPointsWrong)

/-- 'laws.FnExactPlaceIn': WHATEVER THE INPUT: true; the input reads as it did. -/
def fnExactPlaceInSpec : ChangeSpec := { name := "fnExactPlaceIn", fn := fun _ => fun
  | [d1, d2] => { results := [.lit (.bool true)], args := [d1, d2] }
  | _ => none }
def fnExactPlaceInRow : OpenClaim := { program := "ytofjpepppjlecaa", sum := "87b4a2a05a94ae92fc168541f067c1b110eb7a0e6d09c87ab2e772cbff6d2be4", func := "loop.example/g00991/laws.FnExactPlaceIn", spec := "fnExactPlaceIn", unfollowed := true, recurses := true, apart := false }
def FnExactPlaceInSaid : Prop := fnExactPlaceInRow.holds Try.pinned (OpenSpec.ofChange fnExactPlaceInSpec)

/-- ITS FALSE NEIGHBOUR: 'it returns false'. Refute it at one input. -/
def fnExactPlaceInWrong : ChangeSpec := { name := "fnExactPlaceIn", fn := fun _ => fun
  | [d1, d2] => { results := [.lit (.bool false)], args := [d1, d2] }
  | _ => none }
def FnExactPlaceInWrongFalsely : Prop := fnExactPlaceInRow.holds Try.pinned (OpenSpec.ofChange fnExactPlaceInWrong)

/-- 'laws.FnExactIsIn': WHATEVER THE INPUT: true; the input reads as it did. -/
def fnExactIsInSpec : ChangeSpec := { name := "fnExactIsIn", fn := fun _ => fun
  | [d1, d2] => { results := [.lit (.bool true)], args := [d1, d2] }
  | _ => none }
def fnExactIsInRow : OpenClaim := { program := "ytofjpepppjlecaa", sum := "87b4a2a05a94ae92fc168541f067c1b110eb7a0e6d09c87ab2e772cbff6d2be4", func := "loop.example/g00991/laws.FnExactIsIn", spec := "fnExactIsIn", unfollowed := true, recurses := true, apart := false }
def FnExactIsInSaid : Prop := fnExactIsInRow.holds Try.pinned (OpenSpec.ofChange fnExactIsInSpec)

/-- ITS FALSE NEIGHBOUR: 'it returns false'. Refute it at one input. -/
def fnExactIsInWrong : ChangeSpec := { name := "fnExactIsIn", fn := fun _ => fun
  | [d1, d2] => { results := [.lit (.bool false)], args := [d1, d2] }
  | _ => none }
def FnExactIsInWrongFalsely : Prop := fnExactIsInRow.holds Try.pinned (OpenSpec.ofChange fnExactIsInWrong)

/-- 'laws.FnExactCountIn': WHATEVER THE INPUT: true; the input reads as it did. -/
def fnExactCountInSpec : ChangeSpec := { name := "fnExactCountIn", fn := fun _ => fun
  | [d1, d2] => { results := [.lit (.bool true)], args := [d1, d2] }
  | _ => none }
def fnExactCountInRow : OpenClaim := { program := "ytofjpepppjlecaa", sum := "87b4a2a05a94ae92fc168541f067c1b110eb7a0e6d09c87ab2e772cbff6d2be4", func := "loop.example/g00991/laws.FnExactCountIn", spec := "fnExactCountIn", unfollowed := true, recurses := true, apart := false }
def FnExactCountInSaid : Prop := fnExactCountInRow.holds Try.pinned (OpenSpec.ofChange fnExactCountInSpec)

/-- ITS FALSE NEIGHBOUR: 'it returns false'. Refute it at one input. -/
def fnExactCountInWrong : ChangeSpec := { name := "fnExactCountIn", fn := fun _ => fun
  | [d1, d2] => { results := [.lit (.bool false)], args := [d1, d2] }
  | _ => none }
def FnExactCountInWrongFalsely : Prop := fnExactCountInRow.holds Try.pinned (OpenSpec.ofChange fnExactCountInWrong)

/- THE SECOND FORM. 'bulk': how many values and letters a reading holds, each counted each time it is reached (what is shared counts as often as it is met; a slice's spare places count too). A statement '..UptoSaid' is the law's where the arguments, and the package variables that the reading takes, are together of bulk at most 1048576: NARROWER than '..Said'. Prove '..Said' where nothing that the law and all that it calls make is longer than what came in: it says more and counts as full. Else prove '..UptoSaid'. A law counts once. -/
mutual
def uptoBulk {H : Type} : DataW H → Nat
  | .lit (.string bytes) => bytes.length + 1
  | .lit _ => 1
  | .nil => 1
  | .ptr d => uptoBulk d + 1
  | .slice elems spare => uptoBulkAll elems + uptoBulkAll spare + 1
  | .agg parts => uptoBulkAll parts + 1
  | .iface _ d => uptoBulk d + 1
  | .map entries => uptoBulkEntries entries + 1
  | .held _ => 1
def uptoBulkAll {H : Type} : List (DataW H) → Nat
  | [] => 0
  | d :: r => uptoBulk d + uptoBulkAll r
def uptoBulkEntries {H : Type} : List (Lit × DataW H) → Nat
  | [] => 0
  | x :: r => uptoBulkEntry x + uptoBulkEntries r
def uptoBulkEntry {H : Type} : Lit × DataW H → Nat
  | (.string bytes, d) => bytes.length + uptoBulk d + 1
  | (_, d) => uptoBulk d + 1
 end
def uptoSmall : (H : Type) → List (DataW H) → Bool := fun _ ds => decide (uptoBulkAll ds ≤ 1048576)
def OpenSpec.upto (s : _root_.Go.ChangeSpec) : _root_.Go.OpenSpec := { _root_.Go.OpenSpec.ofChange s with cond := some uptoSmall }

/-- 'laws.FnExactRoomOk', WHERE WHAT IT READS IS OF BULK AT MOST 1048576: true; the input reads as it did. -/
def fnExactRoomOkUptoRow : OpenClaim := { program := "ytofjpepppjlecaa", sum := "87b4a2a05a94ae92fc168541f067c1b110eb7a0e6d09c87ab2e772cbff6d2be4", func := "loop.example/g00991/laws.FnExactRoomOk", spec := "fnExactRoomOk", apart := false, narrowed := true }
def FnExactRoomOkUptoSaid : Prop := fnExactRoomOkUptoRow.holds Try.pinned (OpenSpec.upto fnExactRoomOkSpec)

/-- 'laws.FnExactCornerAt', WHERE WHAT IT READS IS OF BULK AT MOST 1048576: true; the input reads as it did. -/
def fnExactCornerAtUptoRow : OpenClaim := { program := "ytofjpepppjlecaa", sum := "87b4a2a05a94ae92fc168541f067c1b110eb7a0e6d09c87ab2e772cbff6d2be4", func := "loop.example/g00991/laws.FnExactCornerAt", spec := "fnExactCornerAt", apart := false, narrowed := true }
def FnExactCornerAtUptoSaid : Prop := fnExactCornerAtUptoRow.holds Try.pinned (OpenSpec.upto fnExactCornerAtSpec)

/-- 'laws.FnExactIsCorner', WHERE WHAT IT READS IS OF BULK AT MOST 1048576: true; the input reads as it did. -/
def fnExactIsCornerUptoRow : OpenClaim := { program := "ytofjpepppjlecaa", sum := "87b4a2a05a94ae92fc168541f067c1b110eb7a0e6d09c87ab2e772cbff6d2be4", func := "loop.example/g00991/laws.FnExactIsCorner", spec := "fnExactIsCorner", apart := false, narrowed := true }
def FnExactIsCornerUptoSaid : Prop := fnExactIsCornerUptoRow.holds Try.pinned (OpenSpec.upto fnExactIsCornerSpec)

/-- 'laws.FnExactStartAt', WHERE WHAT IT READS IS OF BULK AT MOST 1048576: true; the input reads as it did. -/
def fnExactStartAtUptoRow : OpenClaim := { program := "ytofjpepppjlecaa", sum := "87b4a2a05a94ae92fc168541f067c1b110eb7a0e6d09c87ab2e772cbff6d2be4", func := "loop.example/g00991/laws.FnExactStartAt", spec := "fnExactStartAt", apart := false, narrowed := true }
def FnExactStartAtUptoSaid : Prop := fnExactStartAtUptoRow.holds Try.pinned (OpenSpec.upto fnExactStartAtSpec)

/-- 'laws.FnExactDoubleArea', WHERE WHAT IT READS IS OF BULK AT MOST 1048576: true; the input reads as it did. -/
def fnExactDoubleAreaUptoRow : OpenClaim := { program := "ytofjpepppjlecaa", sum := "87b4a2a05a94ae92fc168541f067c1b110eb7a0e6d09c87ab2e772cbff6d2be4", func := "loop.example/g00991/laws.FnExactDoubleArea", spec := "fnExactDoubleArea", apart := false, narrowed := true }
def FnExactDoubleAreaUptoSaid : Prop := fnExactDoubleAreaUptoRow.holds Try.pinned (OpenSpec.upto fnExactDoubleAreaSpec)

/-- 'laws.FnExactEdgePoints', WHERE WHAT IT READS IS OF BULK AT MOST 1048576: true; the input reads as it did. -/
def fnExactEdgePointsUptoRow : OpenClaim := { program := "ytofjpepppjlecaa", sum := "87b4a2a05a94ae92fc168541f067c1b110eb7a0e6d09c87ab2e772cbff6d2be4", func := "loop.example/g00991/laws.FnExactEdgePoints", spec := "fnExactEdgePoints", apart := false, narrowed := true }
def FnExactEdgePointsUptoSaid : Prop := fnExactEdgePointsUptoRow.holds Try.pinned (OpenSpec.upto fnExactEdgePointsSpec)

/-- 'laws.FnExactInnerPoints', WHERE WHAT IT READS IS OF BULK AT MOST 1048576: true; the input reads as it did. -/
def fnExactInnerPointsUptoRow : OpenClaim := { program := "ytofjpepppjlecaa", sum := "87b4a2a05a94ae92fc168541f067c1b110eb7a0e6d09c87ab2e772cbff6d2be4", func := "loop.example/g00991/laws.FnExactInnerPoints", spec := "fnExactInnerPoints", apart := false, narrowed := true }
def FnExactInnerPointsUptoSaid : Prop := fnExactInnerPointsUptoRow.holds Try.pinned (OpenSpec.upto fnExactInnerPointsSpec)

/-- 'laws.FnExactIsLarger', WHERE WHAT IT READS IS OF BULK AT MOST 1048576: true; the input reads as it did. -/
def fnExactIsLargerUptoRow : OpenClaim := { program := "ytofjpepppjlecaa", sum := "87b4a2a05a94ae92fc168541f067c1b110eb7a0e6d09c87ab2e772cbff6d2be4", func := "loop.example/g00991/laws.FnExactIsLarger", spec := "fnExactIsLarger", apart := false, narrowed := true }
def FnExactIsLargerUptoSaid : Prop := fnExactIsLargerUptoRow.holds Try.pinned (OpenSpec.upto fnExactIsLargerSpec)

/-- 'laws.FnExactFloorPoints', WHERE WHAT IT READS IS OF BULK AT MOST 1048576: true; the input reads as it did. -/
def fnExactFloorPointsUptoRow : OpenClaim := { program := "ytofjpepppjlecaa", sum := "87b4a2a05a94ae92fc168541f067c1b110eb7a0e6d09c87ab2e772cbff6d2be4", func := "loop.example/g00991/laws.FnExactFloorPoints", spec := "fnExactFloorPoints", unfollowed := true, recurses := true, apart := false, narrowed := true }
def FnExactFloorPointsUptoSaid : Prop := fnExactFloorPointsUptoRow.holds Try.pinned (OpenSpec.upto fnExactFloorPointsSpec)

/-- 'laws.FnExactPlaceIn', WHERE WHAT IT READS IS OF BULK AT MOST 1048576: true; the input reads as it did. -/
def fnExactPlaceInUptoRow : OpenClaim := { program := "ytofjpepppjlecaa", sum := "87b4a2a05a94ae92fc168541f067c1b110eb7a0e6d09c87ab2e772cbff6d2be4", func := "loop.example/g00991/laws.FnExactPlaceIn", spec := "fnExactPlaceIn", unfollowed := true, recurses := true, apart := false, narrowed := true }
def FnExactPlaceInUptoSaid : Prop := fnExactPlaceInUptoRow.holds Try.pinned (OpenSpec.upto fnExactPlaceInSpec)

/-- 'laws.FnExactIsIn', WHERE WHAT IT READS IS OF BULK AT MOST 1048576: true; the input reads as it did. -/
def fnExactIsInUptoRow : OpenClaim := { program := "ytofjpepppjlecaa", sum := "87b4a2a05a94ae92fc168541f067c1b110eb7a0e6d09c87ab2e772cbff6d2be4", func := "loop.example/g00991/laws.FnExactIsIn", spec := "fnExactIsIn", unfollowed := true, recurses := true, apart := false, narrowed := true }
def FnExactIsInUptoSaid : Prop := fnExactIsInUptoRow.holds Try.pinned (OpenSpec.upto fnExactIsInSpec)

/-- 'laws.FnExactCountIn', WHERE WHAT IT READS IS OF BULK AT MOST 1048576: true; the input reads as it did. -/
def fnExactCountInUptoRow : OpenClaim := { program := "ytofjpepppjlecaa", sum := "87b4a2a05a94ae92fc168541f067c1b110eb7a0e6d09c87ab2e772cbff6d2be4", func := "loop.example/g00991/laws.FnExactCountIn", spec := "fnExactCountIn", unfollowed := true, recurses := true, apart := false, narrowed := true }
def FnExactCountInUptoSaid : Prop := fnExactCountInUptoRow.holds Try.pinned (OpenSpec.upto fnExactCountInSpec)

end Rows
end Go.Proofs.Ytofjpepppjlecaa
