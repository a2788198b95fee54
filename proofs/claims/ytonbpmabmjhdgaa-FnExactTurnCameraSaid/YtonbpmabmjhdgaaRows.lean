/-
  No cell of these rows narrows 'for every input' (looked for: loops, veiled, ifaces, maps, wideKeys, modest, calm, conditions, laid).
  DERIVED. THE GIVEN ROWS OF THIS SEAT. 12 by the template 'for every input the law returns true; each argument reads behind the call as it read before'; 0 by the template 'total and deterministic' (their statements: YtonbpmabmjhdgaaTotals.lean).
  GIVEN WITH THE SEED: the statements are not yours to turn. If you find one false, say at which input.
  Laid BY PROGRAM, IN A SANDBOX (cutbox-rows.mjs): the forced cells as the released guide's own fill.sh prints them over the translation 1f52f262cff18de5… (all of the seat's roots in one cut). By AI agents, Wed Nov 11 2026. No macro, syntax, notation, axiom, sorry.
-/
import Derived.Test.YtonbpmabmjhdgaaChecked
import GoSem.Claim
import GoSem.ClaimJoined
import GoSem.ClaimMapViews
import Derived.JoinedTies
import Derived.KernelRfl
namespace Go.Proofs.Ytonbpmabmjhdgaa
/- THE CELL 'sum', in the pinned program and in every row, IS THE sha256 OF THE DUMP (.gsa) THAT YtonbpmabmjhdgaaProg.lean LOADS. Nothing in Lean hashes anything: it is a label: what it is worth is what the hold of that sum in a sandbox is worth. -/
noncomputable def Try.pinned : Pinned := { name := "ytonbpmabmjhdgaa", sum := "1f52f262cff18de58bde66a4a03b63c7b84f5761e40e3f8dca6203c26d90f5ec", checked := Try.checked }
namespace Rows
def none {H : Type} : Left H := { results := [], args := [] }

/-- 'laws.FnExactCameraOk': WHATEVER THE INPUT: true; the input reads as it did. -/
def fnExactCameraOkSpec : ChangeSpec := { name := "fnExactCameraOk", fn := fun _ => fun
  | [d] => { results := [.lit (.bool true)], args := [d] }
  | _ => none }
def fnExactCameraOkRow : OpenClaim := { program := "ytonbpmabmjhdgaa", sum := "1f52f262cff18de58bde66a4a03b63c7b84f5761e40e3f8dca6203c26d90f5ec", func := "loop.example/g00991/laws.FnExactCameraOk", spec := "fnExactCameraOk", plainKeys := false, apart := false }
def FnExactCameraOkSaid : Prop := fnExactCameraOkRow.holds Try.pinned (OpenSpec.ofChange fnExactCameraOkSpec)

/-- ITS FALSE NEIGHBOUR: 'it returns false'. Refute it at one input. -/
def fnExactCameraOkWrong : ChangeSpec := { name := "fnExactCameraOk", fn := fun _ => fun
  | [d] => { results := [.lit (.bool false)], args := [d] }
  | _ => none }
def FnExactCameraOkWrongFalsely : Prop := fnExactCameraOkRow.holds Try.pinned (OpenSpec.ofChange fnExactCameraOkWrong)

/-- 'laws.FnExactInField': WHATEVER THE INPUT: true; the input reads as it did. -/
def fnExactInFieldSpec : ChangeSpec := { name := "fnExactInField", fn := fun _ => fun
  | [d1, d2] => { results := [.lit (.bool true)], args := [d1, d2] }
  | _ => none }
def fnExactInFieldRow : OpenClaim := { program := "ytonbpmabmjhdgaa", sum := "1f52f262cff18de58bde66a4a03b63c7b84f5761e40e3f8dca6203c26d90f5ec", func := "loop.example/g00991/laws.FnExactInField", spec := "fnExactInField", unfollowed := true, recurses := true, plainKeys := false, apart := false }
def FnExactInFieldSaid : Prop := fnExactInFieldRow.holds Try.pinned (OpenSpec.ofChange fnExactInFieldSpec)

/-- ITS FALSE NEIGHBOUR: 'it returns false'. Refute it at one input. -/
def fnExactInFieldWrong : ChangeSpec := { name := "fnExactInField", fn := fun _ => fun
  | [d1, d2] => { results := [.lit (.bool false)], args := [d1, d2] }
  | _ => none }
def FnExactInFieldWrongFalsely : Prop := fnExactInFieldRow.holds Try.pinned (OpenSpec.ofChange fnExactInFieldWrong)

/-- 'laws.FnExactTurnCamera': WHATEVER THE INPUT: true; the input reads as it did. -/
def fnExactTurnCameraSpec : ChangeSpec := { name := "fnExactTurnCamera", fn := fun _ => fun
  | [d] => { results := [.lit (.bool true)], args := [d] }
  | _ => none }
def fnExactTurnCameraRow : OpenClaim := { program := "ytonbpmabmjhdgaa", sum := "1f52f262cff18de58bde66a4a03b63c7b84f5761e40e3f8dca6203c26d90f5ec", func := "loop.example/g00991/laws.FnExactTurnCamera", spec := "fnExactTurnCamera", plainKeys := false, apart := false }
def FnExactTurnCameraSaid : Prop := fnExactTurnCameraRow.holds Try.pinned (OpenSpec.ofChange fnExactTurnCameraSpec)

/-- ITS FALSE NEIGHBOUR: 'it returns false'. Refute it at one input. -/
def fnExactTurnCameraWrong : ChangeSpec := { name := "fnExactTurnCamera", fn := fun _ => fun
  | [d] => { results := [.lit (.bool false)], args := [d] }
  | _ => none }
def FnExactTurnCameraWrongFalsely : Prop := fnExactTurnCameraRow.holds Try.pinned (OpenSpec.ofChange fnExactTurnCameraWrong)

/-- 'laws.FnExactFrameOk': WHATEVER THE INPUT: true; the input reads as it did. -/
def fnExactFrameOkSpec : ChangeSpec := { name := "fnExactFrameOk", fn := fun _ => fun
  | [d] => { results := [.lit (.bool true)], args := [d] }
  | _ => none }
def fnExactFrameOkRow : OpenClaim := { program := "ytonbpmabmjhdgaa", sum := "1f52f262cff18de58bde66a4a03b63c7b84f5761e40e3f8dca6203c26d90f5ec", func := "loop.example/g00991/laws.FnExactFrameOk", spec := "fnExactFrameOk", plainKeys := false, apart := false }
def FnExactFrameOkSaid : Prop := fnExactFrameOkRow.holds Try.pinned (OpenSpec.ofChange fnExactFrameOkSpec)

/-- ITS FALSE NEIGHBOUR: 'it returns false'. Refute it at one input. -/
def fnExactFrameOkWrong : ChangeSpec := { name := "fnExactFrameOk", fn := fun _ => fun
  | [d] => { results := [.lit (.bool false)], args := [d] }
  | _ => none }
def FnExactFrameOkWrongFalsely : Prop := fnExactFrameOkRow.holds Try.pinned (OpenSpec.ofChange fnExactFrameOkWrong)

/-- 'laws.FnExactMissingFrames': WHATEVER THE INPUT: true; the input reads as it did. -/
def fnExactMissingFramesSpec : ChangeSpec := { name := "fnExactMissingFrames", fn := fun _ => fun
  | [d] => { results := [.lit (.bool true)], args := [d] }
  | _ => none }
def fnExactMissingFramesRow : OpenClaim := { program := "ytonbpmabmjhdgaa", sum := "1f52f262cff18de58bde66a4a03b63c7b84f5761e40e3f8dca6203c26d90f5ec", func := "loop.example/g00991/laws.FnExactMissingFrames", spec := "fnExactMissingFrames", plainKeys := false, apart := false }
def FnExactMissingFramesSaid : Prop := fnExactMissingFramesRow.holds Try.pinned (OpenSpec.ofChange fnExactMissingFramesSpec)

/-- ITS FALSE NEIGHBOUR: 'it returns false'. Refute it at one input. -/
def fnExactMissingFramesWrong : ChangeSpec := { name := "fnExactMissingFrames", fn := fun _ => fun
  | [d] => { results := [.lit (.bool false)], args := [d] }
  | _ => none }
def FnExactMissingFramesWrongFalsely : Prop := fnExactMissingFramesRow.holds Try.pinned (OpenSpec.ofChange fnExactMissingFramesWrong)

/-- 'laws.FnExactReplayedAt': WHATEVER THE INPUT: true; the input reads as it did. -/
def fnExactReplayedAtSpec : ChangeSpec := { name := "fnExactReplayedAt", fn := fun _ => fun
  | [d] => { results := [.lit (.bool true)], args := [d] }
  | _ => none }
def fnExactReplayedAtRow : OpenClaim := { program := "ytonbpmabmjhdgaa", sum := "1f52f262cff18de58bde66a4a03b63c7b84f5761e40e3f8dca6203c26d90f5ec", func := "loop.example/g00991/laws.FnExactReplayedAt", spec := "fnExactReplayedAt", plainKeys := false, apart := false }
def FnExactReplayedAtSaid : Prop := fnExactReplayedAtRow.holds Try.pinned (OpenSpec.ofChange fnExactReplayedAtSpec)

/-- ITS FALSE NEIGHBOUR: 'it returns false'. Refute it at one input. -/
def fnExactReplayedAtWrong : ChangeSpec := { name := "fnExactReplayedAt", fn := fun _ => fun
  | [d] => { results := [.lit (.bool false)], args := [d] }
  | _ => none }
def FnExactReplayedAtWrongFalsely : Prop := fnExactReplayedAtRow.holds Try.pinned (OpenSpec.ofChange fnExactReplayedAtWrong)

/-- 'laws.FnExactLateFrames': WHATEVER THE INPUT: true; the input reads as it did. -/
def fnExactLateFramesSpec : ChangeSpec := { name := "fnExactLateFrames", fn := fun _ => fun
  | [d1, d2, d3] => { results := [.lit (.bool true)], args := [d1, d2, d3] }
  | _ => none }
def fnExactLateFramesRow : OpenClaim := { program := "ytonbpmabmjhdgaa", sum := "1f52f262cff18de58bde66a4a03b63c7b84f5761e40e3f8dca6203c26d90f5ec", func := "loop.example/g00991/laws.FnExactLateFrames", spec := "fnExactLateFrames", plainKeys := false, apart := false }
def FnExactLateFramesSaid : Prop := fnExactLateFramesRow.holds Try.pinned (OpenSpec.ofChange fnExactLateFramesSpec)

/-- ITS FALSE NEIGHBOUR: 'it returns false'. Refute it at one input. -/
def fnExactLateFramesWrong : ChangeSpec := { name := "fnExactLateFrames", fn := fun _ => fun
  | [d1, d2, d3] => { results := [.lit (.bool false)], args := [d1, d2, d3] }
  | _ => none }
def FnExactLateFramesWrongFalsely : Prop := fnExactLateFramesRow.holds Try.pinned (OpenSpec.ofChange fnExactLateFramesWrong)

/-- 'laws.FnExactIsOrdered': WHATEVER THE INPUT: true; the input reads as it did. -/
def fnExactIsOrderedSpec : ChangeSpec := { name := "fnExactIsOrdered", fn := fun _ => fun
  | [d] => { results := [.lit (.bool true)], args := [d] }
  | _ => none }
def fnExactIsOrderedRow : OpenClaim := { program := "ytonbpmabmjhdgaa", sum := "1f52f262cff18de58bde66a4a03b63c7b84f5761e40e3f8dca6203c26d90f5ec", func := "loop.example/g00991/laws.FnExactIsOrdered", spec := "fnExactIsOrdered", plainKeys := false, apart := false }
def FnExactIsOrderedSaid : Prop := fnExactIsOrderedRow.holds Try.pinned (OpenSpec.ofChange fnExactIsOrderedSpec)

/-- ITS FALSE NEIGHBOUR: 'it returns false'. Refute it at one input. -/
def fnExactIsOrderedWrong : ChangeSpec := { name := "fnExactIsOrdered", fn := fun _ => fun
  | [d] => { results := [.lit (.bool false)], args := [d] }
  | _ => none }
def FnExactIsOrderedWrongFalsely : Prop := fnExactIsOrderedRow.holds Try.pinned (OpenSpec.ofChange fnExactIsOrderedWrong)

/-- 'laws.FnExactSightingOk': WHATEVER THE INPUT: true; the input reads as it did. -/
def fnExactSightingOkSpec : ChangeSpec := { name := "fnExactSightingOk", fn := fun _ => fun
  | [d] => { results := [.lit (.bool true)], args := [d] }
  | _ => none }
def fnExactSightingOkRow : OpenClaim := { program := "ytonbpmabmjhdgaa", sum := "1f52f262cff18de58bde66a4a03b63c7b84f5761e40e3f8dca6203c26d90f5ec", func := "loop.example/g00991/laws.FnExactSightingOk", spec := "fnExactSightingOk", plainKeys := false, apart := false }
def FnExactSightingOkSaid : Prop := fnExactSightingOkRow.holds Try.pinned (OpenSpec.ofChange fnExactSightingOkSpec)

/-- ITS FALSE NEIGHBOUR: 'it returns false'. Refute it at one input. -/
def fnExactSightingOkWrong : ChangeSpec := { name := "fnExactSightingOk", fn := fun _ => fun
  | [d] => { results := [.lit (.bool false)], args := [d] }
  | _ => none }
def FnExactSightingOkWrongFalsely : Prop := fnExactSightingOkRow.holds Try.pinned (OpenSpec.ofChange fnExactSightingOkWrong)

/-- 'laws.FnExactCanBeSame': WHATEVER THE INPUT: true; the input reads as it did. -/
def fnExactCanBeSameSpec : ChangeSpec := { name := "fnExactCanBeSame", fn := fun _ => fun
  | [d1, d2, d3] => { results := [.lit (.bool true)], args := [d1, d2, d3] }
  | _ => none }
def fnExactCanBeSameRow : OpenClaim := { program := "ytonbpmabmjhdgaa", sum := "1f52f262cff18de58bde66a4a03b63c7b84f5761e40e3f8dca6203c26d90f5ec", func := "loop.example/g00991/laws.FnExactCanBeSame", spec := "fnExactCanBeSame", plainKeys := false, apart := false }
def FnExactCanBeSameSaid : Prop := fnExactCanBeSameRow.holds Try.pinned (OpenSpec.ofChange fnExactCanBeSameSpec)

/-- ITS FALSE NEIGHBOUR: 'it returns false'. Refute it at one input. -/
def fnExactCanBeSameWrong : ChangeSpec := { name := "fnExactCanBeSame", fn := fun _ => fun
  | [d1, d2, d3] => { results := [.lit (.bool false)], args := [d1, d2, d3] }
  | _ => none }
def FnExactCanBeSameWrongFalsely : Prop := fnExactCanBeSameRow.holds Try.pinned (OpenSpec.ofChange fnExactCanBeSameWrong)

/-- 'laws.FnExactTrackOk': WHATEVER THE INPUT: true; the input reads as it did. -/
def fnExactTrackOkSpec : ChangeSpec := { name := "fnExactTrackOk", fn := fun _ => fun
  | [d1, d2] => { results := [.lit (.bool true)], args := [d1, d2] }
  | _ => none }
def fnExactTrackOkRow : OpenClaim := { program := "ytonbpmabmjhdgaa", sum := "1f52f262cff18de58bde66a4a03b63c7b84f5761e40e3f8dca6203c26d90f5ec", func := "loop.example/g00991/laws.FnExactTrackOk", spec := "fnExactTrackOk", plainKeys := false, apart := false }
def FnExactTrackOkSaid : Prop := fnExactTrackOkRow.holds Try.pinned (OpenSpec.ofChange fnExactTrackOkSpec)

/-- ITS FALSE NEIGHBOUR: 'it returns false'. Refute it at one input. -/
def fnExactTrackOkWrong : ChangeSpec := { name := "fnExactTrackOk", fn := fun _ => fun
  | [d1, d2] => { results := [.lit (.bool false)], args := [d1, d2] }
  | _ => none }
def FnExactTrackOkWrongFalsely : Prop := fnExactTrackOkRow.holds Try.pinned (OpenSpec.ofChange fnExactTrackOkWrong)

/-- 'laws.FnExactMostApart': WHATEVER THE INPUT: true; the input reads as it did. -/
def fnExactMostApartSpec : ChangeSpec := { name := "fnExactMostApart", fn := fun _ => fun
  | [d1, d2] => { results := [.lit (.bool true)], args := [d1, d2] }
  | _ => none }
def fnExactMostApartRow : OpenClaim := { program := "ytonbpmabmjhdgaa", sum := "1f52f262cff18de58bde66a4a03b63c7b84f5761e40e3f8dca6203c26d90f5ec", func := "loop.example/g00991/laws.FnExactMostApart", spec := "fnExactMostApart", unfollowed := true, recurses := true, plainKeys := false, apart := false }
def FnExactMostApartSaid : Prop := fnExactMostApartRow.holds Try.pinned (OpenSpec.ofChange fnExactMostApartSpec)

/-- ITS FALSE NEIGHBOUR: 'it returns false'. Refute it at one input. -/
def fnExactMostApartWrong : ChangeSpec := { name := "fnExactMostApart", fn := fun _ => fun
  | [d1, d2] => { results := [.lit (.bool false)], args := [d1, d2] }
  | _ => none }
def FnExactMostApartWrongFalsely : Prop := fnExactMostApartRow.holds Try.pinned (OpenSpec.ofChange fnExactMostApartWrong)

/- THE SECOND FORM. 'bulk': how many values and letters a reading holds, each counted each time it is reached (what is shared counts as often as it is met; a slice's spare places count too). A statement '..UptoSaid' is the law's where the arguments, and the package variables that the reading takes, are together of bulk at most 1048576: NARROWER than '..Said'. Prove '..Said' where nothing that the law and all that it calls make is longer than what came in: it says more and counts as full. Else prove '..UptoSaid'. A law counts once. -/
mutual
def uptoBulk {H : Type} : DataW H → Nat
  | .lit (.string bytes) => bytes.length + 1
  | .lit _ => 1
  | .nil => 1
  | .ptr d => uptoBulk d + 1
  | .slice elems spare => uptoBulkAll elems + uptoBulkAll spare + 1
  | .agg parts => uptoBulkAll parts + 1
  | .iface _ d => uptoBulk d + 1
  | .map entries => uptoBulkEntries entries + 1
  | .held _ => 1
def uptoBulkAll {H : Type} : List (DataW H) → Nat
  | [] => 0
  | d :: r => uptoBulk d + uptoBulkAll r
def uptoBulkEntries {H : Type} : List (Lit × DataW H) → Nat
  | [] => 0
  | x :: r => uptoBulkEntry x + uptoBulkEntries r
def uptoBulkEntry {H : Type} : Lit × DataW H → Nat
  | (.string bytes, d) => bytes.length + uptoBulk d + 1
  | (_, d) => uptoBulk d + 1
 end
def uptoSmall : (H : Type) → List (DataW H) → Bool := fun _ ds => decide (uptoBulkAll ds ≤ 1048576)
def OpenSpec.upto (s : _root_.Go.ChangeSpec) : _root_.Go.OpenSpec := { _root_.Go.OpenSpec.ofChange s with cond := some uptoSmall }

/-- 'laws.FnExactCameraOk', WHERE WHAT IT READS IS OF BULK AT MOST 1048576: true; the input reads as it did. -/
def fnExactCameraOkUptoRow : OpenClaim := { program := "ytonbpmabmjhdgaa", sum := "1f52f262cff18de58bde66a4a03b63c7b84f5761e40e3f8dca6203c26d90f5ec", func := "loop.example/g00991/laws.FnExactCameraOk", spec := "fnExactCameraOk", plainKeys := false, apart := false, narrowed := true }
def FnExactCameraOkUptoSaid : Prop := fnExactCameraOkUptoRow.holds Try.pinned (OpenSpec.upto fnExactCameraOkSpec)

/-- 'laws.FnExactInField', WHERE WHAT IT READS IS OF BULK AT MOST 1048576: true; the input reads as it did. -/
def fnExactInFieldUptoRow : OpenClaim := { program := "ytonbpmabmjhdgaa", sum := "1f52f262cff18de58bde66a4a03b63c7b84f5761e40e3f8dca6203c26d90f5ec", func := "loop.example/g00991/laws.FnExactInField", spec := "fnExactInField", unfollowed := true, recurses := true, plainKeys := false, apart := false, narrowed := true }
def FnExactInFieldUptoSaid : Prop := fnExactInFieldUptoRow.holds Try.pinned (OpenSpec.upto fnExactInFieldSpec)

/-- 'laws.FnExactTurnCamera', WHERE WHAT IT READS IS OF BULK AT MOST 1048576: true; the input reads as it did. -/
def fnExactTurnCameraUptoRow : OpenClaim := { program := "ytonbpmabmjhdgaa", sum := "1f52f262cff18de58bde66a4a03b63c7b84f5761e40e3f8dca6203c26d90f5ec", func := "loop.example/g00991/laws.FnExactTurnCamera", spec := "fnExactTurnCamera", plainKeys := false, apart := false, narrowed := true }
def FnExactTurnCameraUptoSaid : Prop := fnExactTurnCameraUptoRow.holds Try.pinned (OpenSpec.upto fnExactTurnCameraSpec)

/-- 'laws.FnExactFrameOk', WHERE WHAT IT READS IS OF BULK AT MOST 1048576: true; the input reads as it did. -/
def fnExactFrameOkUptoRow : OpenClaim := { program := "ytonbpmabmjhdgaa", sum := "1f52f262cff18de58bde66a4a03b63c7b84f5761e40e3f8dca6203c26d90f5ec", func := "loop.example/g00991/laws.FnExactFrameOk", spec := "fnExactFrameOk", plainKeys := false, apart := false, narrowed := true }
def FnExactFrameOkUptoSaid : Prop := fnExactFrameOkUptoRow.holds Try.pinned (OpenSpec.upto fnExactFrameOkSpec)

/-- 'laws.FnExactMissingFrames', WHERE WHAT IT READS IS OF BULK AT MOST 1048576: true; the input reads as it did. -/
def fnExactMissingFramesUptoRow : OpenClaim := { program := "ytonbpmabmjhdgaa", sum := "1f52f262cff18de58bde66a4a03b63c7b84f5761e40e3f8dca6203c26d90f5ec", func := "loop.example/g00991/laws.FnExactMissingFrames", spec := "fnExactMissingFrames", plainKeys := false, apart := false, narrowed := true }
def FnExactMissingFramesUptoSaid : Prop := fnExactMissingFramesUptoRow.holds Try.pinned (OpenSpec.upto fnExactMissingFramesSpec)

/-- 'laws.FnExactReplayedAt', WHERE WHAT IT READS IS OF BULK AT MOST 1048576: true; the input reads as it did. -/
def fnExactReplayedAtUptoRow : OpenClaim := { program := "ytonbpmabmjhdgaa", sum := "1f52f262cff18de58bde66a4a03b63c7b84f5761e40e3f8dca6203c26d90f5ec", func := "loop.example/g00991/laws.FnExactReplayedAt", spec := "fnExactReplayedAt", plainKeys := false, apart := false, narrowed := true }
def FnExactReplayedAtUptoSaid : Prop := fnExactReplayedAtUptoRow.holds Try.pinned (OpenSpec.upto fnExactReplayedAtSpec)

/-- 'laws.FnExactLateFrames', WHERE WHAT IT READS IS OF BULK AT MOST 1048576: true; the input reads as it did. -/
def fnExactLateFramesUptoRow : OpenClaim := { program := "ytonbpmabmjhdgaa", sum := "1f52f262cff18de58bde66a4a03b63c7b84f5761e40e3f8dca6203c26d90f5ec", func := "loop.example/g00991/laws.FnExactLateFrames", spec := "fnExactLateFrames", plainKeys := false, apart := false, narrowed := true }
def FnExactLateFramesUptoSaid : Prop := fnExactLateFramesUptoRow.holds Try.pinned (OpenSpec.upto fnExactLateFramesSpec)

/-- 'laws.FnExactIsOrdered', WHERE WHAT IT READS IS OF BULK AT MOST 1048576: true; the input reads as it did. -/
def fnExactIsOrderedUptoRow : OpenClaim := { program := "ytonbpmabmjhdgaa", sum := "1f52f262cff18de58bde66a4a03b63c7b84f5761e40e3f8dca6203c26d90f5ec", func := "loop.example/g00991/laws.FnExactIsOrdered", spec := "fnExactIsOrdered", plainKeys := false, apart := false, narrowed := true }
def FnExactIsOrderedUptoSaid : Prop := fnExactIsOrderedUptoRow.holds Try.pinned (OpenSpec.upto fnExactIsOrderedSpec)

/-- 'laws.FnExactSightingOk', WHERE WHAT IT READS IS OF BULK AT MOST 1048576: true; the input reads as it did. -/
def fnExactSightingOkUptoRow : OpenClaim := { program := "ytonbpmabmjhdgaa", sum := "1f52f262cff18de58bde66a4a03b63c7b84f5761e40e3f8dca6203c26d90f5ec", func := "loop.example/g00991/laws.FnExactSightingOk", spec := "fnExactSightingOk", plainKeys := false, apart := false, narrowed := true }
def FnExactSightingOkUptoSaid : Prop := fnExactSightingOkUptoRow.holds Try.pinned (OpenSpec.upto fnExactSightingOkSpec)

/-- 'laws.FnExactCanBeSame', WHERE WHAT IT READS IS OF BULK AT MOST 1048576: true; the input reads as it did. -/
def fnExactCanBeSameUptoRow : OpenClaim := { program := "ytonbpmabmjhdgaa", sum := "1f52f262cff18de58bde66a4a03b63c7b84f5761e40e3f8dca6203c26d90f5ec", func := "loop.example/g00991/laws.FnExactCanBeSame", spec := "fnExactCanBeSame", plainKeys := false, apart := false, narrowed := true }
def FnExactCanBeSameUptoSaid : Prop := fnExactCanBeSameUptoRow.holds Try.pinned (OpenSpec.upto fnExactCanBeSameSpec)

/-- 'laws.FnExactTrackOk', WHERE WHAT IT READS IS OF BULK AT MOST 1048576: true; the input reads as it did. -/
def fnExactTrackOkUptoRow : OpenClaim := { program := "ytonbpmabmjhdgaa", sum := "1f52f262cff18de58bde66a4a03b63c7b84f5761e40e3f8dca6203c26d90f5ec", func := "loop.example/g00991/laws.FnExactTrackOk", spec := "fnExactTrackOk", plainKeys := false, apart := false, narrowed := true }
def FnExactTrackOkUptoSaid : Prop := fnExactTrackOkUptoRow.holds Try.pinned (OpenSpec.upto fnExactTrackOkSpec)

/-- 'laws.FnExactMostApart', WHERE WHAT IT READS IS OF BULK AT MOST 1048576: true; the input reads as it did. -/
def fnExactMostApartUptoRow : OpenClaim := { program := "ytonbpmabmjhdgaa", sum := "1f52f262cff18de58bde66a4a03b63c7b84f5761e40e3f8dca6203c26d90f5ec", func := "loop.example/g00991/laws.FnExactMostApart", spec := "fnExactMostApart", unfollowed := true, recurses := true, plainKeys := false, apart := false, narrowed := true }
def FnExactMostApartUptoSaid : Prop := fnExactMostApartUptoRow.holds Try.pinned (OpenSpec.upto fnExactMostApartSpec)

end Rows
end Go.Proofs.Ytonbpmabmjhdgaa
