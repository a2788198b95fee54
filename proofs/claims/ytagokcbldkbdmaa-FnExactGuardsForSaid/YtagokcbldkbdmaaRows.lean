/-
  No cell of these rows narrows 'for every input' (looked for: loops, veiled, ifaces, maps, wideKeys, modest, calm, conditions, laid).
  DERIVED. THE GIVEN ROWS OF THIS SEAT. 8 by the template 'for every input the law returns true; each argument reads behind the call as it read before'; 0 by the template 'total and deterministic' (their statements: YtagokcbldkbdmaaTotals.lean).
  GIVEN WITH THE SEED: the statements are not yours to turn. If you find one false, say at which input.
  Laid BY PROGRAM, IN A SANDBOX (cutbox-rows.mjs): the forced cells as the released guide's own fill.sh prints them over the translation 87f574005227e2db… (all of the seat's roots in one cut). By AI agents, Wed Nov 11 2026. No macro, syntax, notation, axiom, sorry.
-/
import Derived.Test.YtagokcbldkbdmaaChecked
import GoSem.Claim
import GoSem.ClaimJoined
import GoSem.ClaimMapViews
import Derived.JoinedTies
import Derived.KernelRfl
namespace Go.Proofs.Ytagokcbldkbdmaa
/- THE CELL 'sum', in the pinned program and in every row, IS THE sha256 OF THE DUMP (.gsa) THAT YtagokcbldkbdmaaProg.lean LOADS. Nothing in Lean hashes anything: it is a label: what it is worth is what the hold of that sum in a sandbox is worth. -/
noncomputable def Try.pinned : Pinned := { name := "ytagokcbldkbdmaa", sum := "87f574005227e2db34e3a12dcef845e35018a4ca9b4fcd8cb10aac3d26540836", checked := Try.checked }
namespace Rows
def none {H : Type} : Left H := { results := [], args := [] }

/-- 'laws.FnExactHallsWith': WHATEVER THE INPUT: true; the input reads as it did. -/
def fnExactHallsWithSpec : ChangeSpec := { name := "fnExactHallsWith", fn := fun _ => fun
  | [d1, d2, d3] => { results := [.lit (.bool true)], args := [d1, d2, d3] }
  | _ => none }
def fnExactHallsWithRow : OpenClaim := { program := "ytagokcbldkbdmaa", sum := "87f574005227e2db34e3a12dcef845e35018a4ca9b4fcd8cb10aac3d26540836", func := "loop.example/g00991/laws.FnExactHallsWith", spec := "fnExactHallsWith", unfollowed := true, recurses := true, plainKeys := false, apart := false }
def FnExactHallsWithSaid : Prop := fnExactHallsWithRow.holds Try.pinned (OpenSpec.ofChange fnExactHallsWithSpec)

/-- ITS FALSE NEIGHBOUR: 'it returns false'. Refute it at one input. -/
def fnExactHallsWithWrong : ChangeSpec := { name := "fnExactHallsWith", fn := fun _ => fun
  | [d1, d2, d3] => { results := [.lit (.bool false)], args := [d1, d2, d3] }
  | _ => none }
def FnExactHallsWithWrongFalsely : Prop := fnExactHallsWithRow.holds Try.pinned (OpenSpec.ofChange fnExactHallsWithWrong)

/-- 'laws.FnExactMasterRings': WHATEVER THE INPUT: true; the input reads as it did. -/
def fnExactMasterRingsSpec : ChangeSpec := { name := "fnExactMasterRings", fn := fun _ => fun
  | [d1, d2] => { results := [.lit (.bool true)], args := [d1, d2] }
  | _ => none }
def fnExactMasterRingsRow : OpenClaim := { program := "ytagokcbldkbdmaa", sum := "87f574005227e2db34e3a12dcef845e35018a4ca9b4fcd8cb10aac3d26540836", func := "loop.example/g00991/laws.FnExactMasterRings", spec := "fnExactMasterRings", unfollowed := true, recurses := true, plainKeys := false, apart := false }
def FnExactMasterRingsSaid : Prop := fnExactMasterRingsRow.holds Try.pinned (OpenSpec.ofChange fnExactMasterRingsSpec)

/-- ITS FALSE NEIGHBOUR: 'it returns false'. Refute it at one input. -/
def fnExactMasterRingsWrong : ChangeSpec := { name := "fnExactMasterRings", fn := fun _ => fun
  | [d1, d2] => { results := [.lit (.bool false)], args := [d1, d2] }
  | _ => none }
def FnExactMasterRingsWrongFalsely : Prop := fnExactMasterRingsRow.holds Try.pinned (OpenSpec.ofChange fnExactMasterRingsWrong)

/-- 'laws.FnExactGuardsAfter': WHATEVER THE INPUT: true; the input reads as it did. -/
def fnExactGuardsAfterSpec : ChangeSpec := { name := "fnExactGuardsAfter", fn := fun _ => fun
  | [d1, d2] => { results := [.lit (.bool true)], args := [d1, d2] }
  | _ => none }
def fnExactGuardsAfterRow : OpenClaim := { program := "ytagokcbldkbdmaa", sum := "87f574005227e2db34e3a12dcef845e35018a4ca9b4fcd8cb10aac3d26540836", func := "loop.example/g00991/laws.FnExactGuardsAfter", spec := "fnExactGuardsAfter", unfollowed := true, recurses := true, plainKeys := false, apart := false }
def FnExactGuardsAfterSaid : Prop := fnExactGuardsAfterRow.holds Try.pinned (OpenSpec.ofChange fnExactGuardsAfterSpec)

/-- ITS FALSE NEIGHBOUR: 'it returns false'. Refute it at one input. -/
def fnExactGuardsAfterWrong : ChangeSpec := { name := "fnExactGuardsAfter", fn := fun _ => fun
  | [d1, d2] => { results := [.lit (.bool false)], args := [d1, d2] }
  | _ => none }
def FnExactGuardsAfterWrongFalsely : Prop := fnExactGuardsAfterRow.holds Try.pinned (OpenSpec.ofChange fnExactGuardsAfterWrong)

/-- 'laws.FnExactGuardsFor': WHATEVER THE INPUT: true; the input reads as it did. -/
def fnExactGuardsForSpec : ChangeSpec := { name := "fnExactGuardsFor", fn := fun _ => fun
  | [d1, d2] => { results := [.lit (.bool true)], args := [d1, d2] }
  | _ => none }
def fnExactGuardsForRow : OpenClaim := { program := "ytagokcbldkbdmaa", sum := "87f574005227e2db34e3a12dcef845e35018a4ca9b4fcd8cb10aac3d26540836", func := "loop.example/g00991/laws.FnExactGuardsFor", spec := "fnExactGuardsFor", unfollowed := true, recurses := true, plainKeys := false, apart := false }
def FnExactGuardsForSaid : Prop := fnExactGuardsForRow.holds Try.pinned (OpenSpec.ofChange fnExactGuardsForSpec)

/-- ITS FALSE NEIGHBOUR: 'it returns false'. Refute it at one input. -/
def fnExactGuardsForWrong : ChangeSpec := { name := "fnExactGuardsFor", fn := fun _ => fun
  | [d1, d2] => { results := [.lit (.bool false)], args := [d1, d2] }
  | _ => none }
def FnExactGuardsForWrongFalsely : Prop := fnExactGuardsForRow.holds Try.pinned (OpenSpec.ofChange fnExactGuardsForWrong)

/-- 'laws.FnExactAppendEntry': WHATEVER THE INPUT: true; the input reads as it did. -/
def fnExactAppendEntrySpec : ChangeSpec := { name := "fnExactAppendEntry", fn := fun _ => fun
  | [d1, d2, d3] => { results := [.lit (.bool true)], args := [d1, d2, d3] }
  | _ => none }
def fnExactAppendEntryRow : OpenClaim := { program := "ytagokcbldkbdmaa", sum := "87f574005227e2db34e3a12dcef845e35018a4ca9b4fcd8cb10aac3d26540836", func := "loop.example/g00991/laws.FnExactAppendEntry", spec := "fnExactAppendEntry", plainKeys := false, apart := false }
def FnExactAppendEntrySaid : Prop := fnExactAppendEntryRow.holds Try.pinned (OpenSpec.ofChange fnExactAppendEntrySpec)

/-- ITS FALSE NEIGHBOUR: 'it returns false'. Refute it at one input. -/
def fnExactAppendEntryWrong : ChangeSpec := { name := "fnExactAppendEntry", fn := fun _ => fun
  | [d1, d2, d3] => { results := [.lit (.bool false)], args := [d1, d2, d3] }
  | _ => none }
def FnExactAppendEntryWrongFalsely : Prop := fnExactAppendEntryRow.holds Try.pinned (OpenSpec.ofChange fnExactAppendEntryWrong)

/-- 'laws.FnExactMostApart': WHATEVER THE INPUT: true; the input reads as it did. -/
def fnExactMostApartSpec : ChangeSpec := { name := "fnExactMostApart", fn := fun _ => fun
  | [d1, d2] => { results := [.lit (.bool true)], args := [d1, d2] }
  | _ => none }
def fnExactMostApartRow : OpenClaim := { program := "ytagokcbldkbdmaa", sum := "87f574005227e2db34e3a12dcef845e35018a4ca9b4fcd8cb10aac3d26540836", func := "loop.example/g00991/laws.FnExactMostApart", spec := "fnExactMostApart", unfollowed := true, recurses := true, plainKeys := false, apart := false }
def FnExactMostApartSaid : Prop := fnExactMostApartRow.holds Try.pinned (OpenSpec.ofChange fnExactMostApartSpec)

/-- ITS FALSE NEIGHBOUR: 'it returns false'. Refute it at one input. -/
def fnExactMostApartWrong : ChangeSpec := { name := "fnExactMostApart", fn := fun _ => fun
  | [d1, d2] => { results := [.lit (.bool false)], args := [d1, d2] }
  | _ => none }
def FnExactMostApartWrongFalsely : Prop := fnExactMostApartRow.holds Try.pinned (OpenSpec.ofChange fnExactMostApartWrong)

/-- 'laws.FnLoans': WHATEVER THE INPUT: true; the input reads as it did. -/
def fnLoansSpec : ChangeSpec := { name := "fnLoans", fn := fun _ => fun
  | [d] => { results := [.lit (.bool true)], args := [d] }
  | _ => none }
def fnLoansRow : OpenClaim := { program := "ytagokcbldkbdmaa", sum := "87f574005227e2db34e3a12dcef845e35018a4ca9b4fcd8cb10aac3d26540836", func := "loop.example/g00991/laws.FnLoans", spec := "fnLoans", plainKeys := false, apart := false }
def FnLoansSaid : Prop := fnLoansRow.holds Try.pinned (OpenSpec.ofChange fnLoansSpec)

/-- ITS FALSE NEIGHBOUR: 'it returns false'. Refute it at one input. -/
def fnLoansWrong : ChangeSpec := { name := "fnLoans", fn := fun _ => fun
  | [d] => { results := [.lit (.bool false)], args := [d] }
  | _ => none }
def FnLoansWrongFalsely : Prop := fnLoansRow.holds Try.pinned (OpenSpec.ofChange fnLoansWrong)

/-- 'laws.FnFrames': WHATEVER THE INPUT: true; the input reads as it did. -/
def fnFramesSpec : ChangeSpec := { name := "fnFrames", fn := fun _ => fun
  | [d] => { results := [.lit (.bool true)], args := [d] }
  | _ => none }
def fnFramesRow : OpenClaim := { program := "ytagokcbldkbdmaa", sum := "87f574005227e2db34e3a12dcef845e35018a4ca9b4fcd8cb10aac3d26540836", func := "loop.example/g00991/laws.FnFrames", spec := "fnFrames", plainKeys := false, apart := false }
def FnFramesSaid : Prop := fnFramesRow.holds Try.pinned (OpenSpec.ofChange fnFramesSpec)

/-- ITS FALSE NEIGHBOUR: 'it returns false'. Refute it at one input. -/
def fnFramesWrong : ChangeSpec := { name := "fnFrames", fn := fun _ => fun
  | [d] => { results := [.lit (.bool false)], args := [d] }
  | _ => none }
def FnFramesWrongFalsely : Prop := fnFramesRow.holds Try.pinned (OpenSpec.ofChange fnFramesWrong)

/- THE SECOND FORM. 'bulk': how many values and letters a reading holds, each counted each time it is reached (what is shared counts as often as it is met; a slice's spare places count too). A statement '..UptoSaid' is the law's where the arguments, and the package variables that the reading takes, are together of bulk at most 1048576: NARROWER than '..Said'. Prove '..Said' where nothing that the law and all that it calls make is longer than what came in: it says more and counts as full. Else prove '..UptoSaid'. A law counts once. -/
mutual
def uptoBulk {H : Type} : DataW H → Nat
  | .lit (.string bytes) => bytes.length + 1
  | .lit _ => 1
  | .nil => 1
  | .ptr d => uptoBulk d + 1
  | .slice elems spare => uptoBulkAll elems + uptoBulkAll spare + 1
  | .agg parts => uptoBulkAll parts + 1
  | .iface _ d => uptoBulk d + 1
  | .map entries => uptoBulkEntries entries + 1
  | .held _ => 1
def uptoBulkAll {H : Type} : List (DataW H) → Nat
  | [] => 0
  | d :: r => uptoBulk d + uptoBulkAll r
def uptoBulkEntries {H : Type} : List (Lit × DataW H) → Nat
  | [] => 0
  | x :: r => uptoBulkEntry x + uptoBulkEntries r
def uptoBulkEntry {H : Type} : Lit × DataW H → Nat
  | (.string bytes, d) => bytes.length + uptoBulk d + 1
  | (_, d) => uptoBulk d + 1
 end
def uptoSmall : (H : Type) → List (DataW H) → Bool := fun _ ds => decide (uptoBulkAll ds ≤ 1048576)
def OpenSpec.upto (s : _root_.Go.ChangeSpec) : _root_.Go.OpenSpec := { _root_.Go.OpenSpec.ofChange s with cond := some uptoSmall }

/-- 'laws.FnExactHallsWith', WHERE WHAT IT READS IS OF BULK AT MOST 1048576: true; the input reads as it did. -/
def fnExactHallsWithUptoRow : OpenClaim := { program := "ytagokcbldkbdmaa", sum := "87f574005227e2db34e3a12dcef845e35018a4ca9b4fcd8cb10aac3d26540836", func := "loop.example/g00991/laws.FnExactHallsWith", spec := "fnExactHallsWith", unfollowed := true, recurses := true, plainKeys := false, apart := false, narrowed := true }
def FnExactHallsWithUptoSaid : Prop := fnExactHallsWithUptoRow.holds Try.pinned (OpenSpec.upto fnExactHallsWithSpec)

/-- 'laws.FnExactMasterRings', WHERE WHAT IT READS IS OF BULK AT MOST 1048576: true; the input reads as it did. -/
def fnExactMasterRingsUptoRow : OpenClaim := { program := "ytagokcbldkbdmaa", sum := "87f574005227e2db34e3a12dcef845e35018a4ca9b4fcd8cb10aac3d26540836", func := "loop.example/g00991/laws.FnExactMasterRings", spec := "fnExactMasterRings", unfollowed := true, recurses := true, plainKeys := false, apart := false, narrowed := true }
def FnExactMasterRingsUptoSaid : Prop := fnExactMasterRingsUptoRow.holds Try.pinned (OpenSpec.upto fnExactMasterRingsSpec)

/-- 'laws.FnExactGuardsAfter', WHERE WHAT IT READS IS OF BULK AT MOST 1048576: true; the input reads as it did. -/
def fnExactGuardsAfterUptoRow : OpenClaim := { program := "ytagokcbldkbdmaa", sum := "87f574005227e2db34e3a12dcef845e35018a4ca9b4fcd8cb10aac3d26540836", func := "loop.example/g00991/laws.FnExactGuardsAfter", spec := "fnExactGuardsAfter", unfollowed := true, recurses := true, plainKeys := false, apart := false, narrowed := true }
def FnExactGuardsAfterUptoSaid : Prop := fnExactGuardsAfterUptoRow.holds Try.pinned (OpenSpec.upto fnExactGuardsAfterSpec)

/-- 'laws.FnExactGuardsFor', WHERE WHAT IT READS IS OF BULK AT MOST 1048576: true; the input reads as it did. -/
def fnExactGuardsForUptoRow : OpenClaim := { program := "ytagokcbldkbdmaa", sum := "87f574005227e2db34e3a12dcef845e35018a4ca9b4fcd8cb10aac3d26540836", func := "loop.example/g00991/laws.FnExactGuardsFor", spec := "fnExactGuardsFor", unfollowed := true, recurses := true, plainKeys := false, apart := false, narrowed := true }
def FnExactGuardsForUptoSaid : Prop := fnExactGuardsForUptoRow.holds Try.pinned (OpenSpec.upto fnExactGuardsForSpec)

/-- 'laws.FnExactAppendEntry', WHERE WHAT IT READS IS OF BULK AT MOST 1048576: true; the input reads as it did. -/
def fnExactAppendEntryUptoRow : OpenClaim := { program := "ytagokcbldkbdmaa", sum := "87f574005227e2db34e3a12dcef845e35018a4ca9b4fcd8cb10aac3d26540836", func := "loop.example/g00991/laws.FnExactAppendEntry", spec := "fnExactAppendEntry", plainKeys := false, apart := false, narrowed := true }
def FnExactAppendEntryUptoSaid : Prop := fnExactAppendEntryUptoRow.holds Try.pinned (OpenSpec.upto fnExactAppendEntrySpec)

/-- 'laws.FnExactMostApart', WHERE WHAT IT READS IS OF BULK AT MOST 1048576: true; the input reads as it did. -/
def fnExactMostApartUptoRow : OpenClaim := { program := "ytagokcbldkbdmaa", sum := "87f574005227e2db34e3a12dcef845e35018a4ca9b4fcd8cb10aac3d26540836", func := "loop.example/g00991/laws.FnExactMostApart", spec := "fnExactMostApart", unfollowed := true, recurses := true, plainKeys := false, apart := false, narrowed := true }
def FnExactMostApartUptoSaid : Prop := fnExactMostApartUptoRow.holds Try.pinned (OpenSpec.upto fnExactMostApartSpec)

/-- 'laws.FnLoans', WHERE WHAT IT READS IS OF BULK AT MOST 1048576: true; the input reads as it did. -/
def fnLoansUptoRow : OpenClaim := { program := "ytagokcbldkbdmaa", sum := "87f574005227e2db34e3a12dcef845e35018a4ca9b4fcd8cb10aac3d26540836", func := "loop.example/g00991/laws.FnLoans", spec := "fnLoans", plainKeys := false, apart := false, narrowed := true }
def FnLoansUptoSaid : Prop := fnLoansUptoRow.holds Try.pinned (OpenSpec.upto fnLoansSpec)

/-- 'laws.FnFrames', WHERE WHAT IT READS IS OF BULK AT MOST 1048576: true; the input reads as it did. -/
def fnFramesUptoRow : OpenClaim := { program := "ytagokcbldkbdmaa", sum := "87f574005227e2db34e3a12dcef845e35018a4ca9b4fcd8cb10aac3d26540836", func := "loop.example/g00991/laws.FnFrames", spec := "fnFrames", plainKeys := false, apart := false, narrowed := true }
def FnFramesUptoSaid : Prop := fnFramesUptoRow.holds Try.pinned (OpenSpec.upto fnFramesSpec)

end Rows
end Go.Proofs.Ytagokcbldkbdmaa
