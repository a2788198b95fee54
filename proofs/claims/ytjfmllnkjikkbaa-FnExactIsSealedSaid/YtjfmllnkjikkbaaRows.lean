/-
  No cell of these rows narrows 'for every input' (looked for: loops, veiled, ifaces, maps, wideKeys, modest, calm, conditions, laid).
  DERIVED. THE GIVEN ROWS OF THIS SEAT. 8 by the template 'for every input the law returns true; each argument reads behind the call as it read before'; 0 by the template 'total and deterministic' (their statements: YtjfmllnkjikkbaaTotals.lean).
  GIVEN WITH THE SEED: the statements are not yours to turn. If you find one false, say at which input.
  Laid BY PROGRAM, IN A SANDBOX (cutbox-rows.mjs): the forced cells as the released guide's own fill.sh prints them over the translation 60bd190769bcf07f… (all of the seat's roots in one cut). By AI agents, Wed Nov 11 2026. No macro, syntax, notation, axiom, sorry.
-/
import Derived.Test.YtjfmllnkjikkbaaChecked
import GoSem.Claim
import GoSem.ClaimJoined
import GoSem.ClaimMapViews
import Derived.JoinedTies
import Derived.KernelRfl
namespace Go.Proofs.Ytjfmllnkjikkbaa
/- THE CELL 'sum', in the pinned program and in every row, IS THE sha256 OF THE DUMP (.gsa) THAT YtjfmllnkjikkbaaProg.lean LOADS. Nothing in Lean hashes anything: it is a label: what it is worth is what the hold of that sum in a sandbox is worth. -/
noncomputable def Try.pinned : Pinned := { name := "ytjfmllnkjikkbaa", sum := "60bd190769bcf07f55a61bc7d1f2521d20ecbe6c4b78dc4abf107a94560558e3", checked := Try.checked }
namespace Rows
def none {H : Type} : Left H := { results := [], args := [] }

/-- 'laws.FnExactLastSeen': WHATEVER THE INPUT: true; the input reads as it did. -/
def fnExactLastSeenSpec : ChangeSpec := { name := "fnExactLastSeen", fn := fun _ => fun
  | [d1, d2] => { results := [.lit (.bool true)], args := [d1, d2] }
  | _ => none }
def fnExactLastSeenRow : OpenClaim := { program := "ytjfmllnkjikkbaa", sum := "60bd190769bcf07f55a61bc7d1f2521d20ecbe6c4b78dc4abf107a94560558e3", func := "loop.example/g00991/laws.FnExactLastSeen", spec := "fnExactLastSeen", apart := false }
def FnExactLastSeenSaid : Prop := fnExactLastSeenRow.holds Try.pinned (OpenSpec.ofChange fnExactLastSeenSpec)

/-- ITS FALSE NEIGHBOUR: 'it returns false'. Refute it at one input. -/
def fnExactLastSeenWrong : ChangeSpec := { name := "fnExactLastSeen", fn := fun _ => fun
  | [d1, d2] => { results := [.lit (.bool false)], args := [d1, d2] }
  | _ => none }
def FnExactLastSeenWrongFalsely : Prop := fnExactLastSeenRow.holds Try.pinned (OpenSpec.ofChange fnExactLastSeenWrong)

/-- 'laws.FnExactLastSeal': WHATEVER THE INPUT: true; the input reads as it did. -/
def fnExactLastSealSpec : ChangeSpec := { name := "fnExactLastSeal", fn := fun _ => fun
  | [d] => { results := [.lit (.bool true)], args := [d] }
  | _ => none }
def fnExactLastSealRow : OpenClaim := { program := "ytjfmllnkjikkbaa", sum := "60bd190769bcf07f55a61bc7d1f2521d20ecbe6c4b78dc4abf107a94560558e3", func := "loop.example/g00991/laws.FnExactLastSeal", spec := "fnExactLastSeal", apart := false }
def FnExactLastSealSaid : Prop := fnExactLastSealRow.holds Try.pinned (OpenSpec.ofChange fnExactLastSealSpec)

/-- ITS FALSE NEIGHBOUR: 'it returns false'. Refute it at one input. -/
def fnExactLastSealWrong : ChangeSpec := { name := "fnExactLastSeal", fn := fun _ => fun
  | [d] => { results := [.lit (.bool false)], args := [d] }
  | _ => none }
def FnExactLastSealWrongFalsely : Prop := fnExactLastSealRow.holds Try.pinned (OpenSpec.ofChange fnExactLastSealWrong)

/-- 'laws.FnExactSealAfter': WHATEVER THE INPUT: true; the input reads as it did. -/
def fnExactSealAfterSpec : ChangeSpec := { name := "fnExactSealAfter", fn := fun _ => fun
  | [d1, d2, d3] => { results := [.lit (.bool true)], args := [d1, d2, d3] }
  | _ => none }
def fnExactSealAfterRow : OpenClaim := { program := "ytjfmllnkjikkbaa", sum := "60bd190769bcf07f55a61bc7d1f2521d20ecbe6c4b78dc4abf107a94560558e3", func := "loop.example/g00991/laws.FnExactSealAfter", spec := "fnExactSealAfter", apart := false }
def FnExactSealAfterSaid : Prop := fnExactSealAfterRow.holds Try.pinned (OpenSpec.ofChange fnExactSealAfterSpec)

/-- ITS FALSE NEIGHBOUR: 'it returns false'. Refute it at one input. -/
def fnExactSealAfterWrong : ChangeSpec := { name := "fnExactSealAfter", fn := fun _ => fun
  | [d1, d2, d3] => { results := [.lit (.bool false)], args := [d1, d2, d3] }
  | _ => none }
def FnExactSealAfterWrongFalsely : Prop := fnExactSealAfterRow.holds Try.pinned (OpenSpec.ofChange fnExactSealAfterWrong)

/-- 'laws.FnExactDigestOf': WHATEVER THE INPUT: true; the input reads as it did. -/
def fnExactDigestOfSpec : ChangeSpec := { name := "fnExactDigestOf", fn := fun _ => fun
  | [d] => { results := [.lit (.bool true)], args := [d] }
  | _ => none }
def fnExactDigestOfRow : OpenClaim := { program := "ytjfmllnkjikkbaa", sum := "60bd190769bcf07f55a61bc7d1f2521d20ecbe6c4b78dc4abf107a94560558e3", func := "loop.example/g00991/laws.FnExactDigestOf", spec := "fnExactDigestOf", apart := false }
def FnExactDigestOfSaid : Prop := fnExactDigestOfRow.holds Try.pinned (OpenSpec.ofChange fnExactDigestOfSpec)

/-- ITS FALSE NEIGHBOUR: 'it returns false'. Refute it at one input. -/
def fnExactDigestOfWrong : ChangeSpec := { name := "fnExactDigestOf", fn := fun _ => fun
  | [d] => { results := [.lit (.bool false)], args := [d] }
  | _ => none }
def FnExactDigestOfWrongFalsely : Prop := fnExactDigestOfRow.holds Try.pinned (OpenSpec.ofChange fnExactDigestOfWrong)

/-- 'laws.FnExactFirstBroken': WHATEVER THE INPUT: true; the input reads as it did. -/
def fnExactFirstBrokenSpec : ChangeSpec := { name := "fnExactFirstBroken", fn := fun _ => fun
  | [d] => { results := [.lit (.bool true)], args := [d] }
  | _ => none }
def fnExactFirstBrokenRow : OpenClaim := { program := "ytjfmllnkjikkbaa", sum := "60bd190769bcf07f55a61bc7d1f2521d20ecbe6c4b78dc4abf107a94560558e3", func := "loop.example/g00991/laws.FnExactFirstBroken", spec := "fnExactFirstBroken", apart := false }
def FnExactFirstBrokenSaid : Prop := fnExactFirstBrokenRow.holds Try.pinned (OpenSpec.ofChange fnExactFirstBrokenSpec)

/-- ITS FALSE NEIGHBOUR: 'it returns false'. Refute it at one input. -/
def fnExactFirstBrokenWrong : ChangeSpec := { name := "fnExactFirstBroken", fn := fun _ => fun
  | [d] => { results := [.lit (.bool false)], args := [d] }
  | _ => none }
def FnExactFirstBrokenWrongFalsely : Prop := fnExactFirstBrokenRow.holds Try.pinned (OpenSpec.ofChange fnExactFirstBrokenWrong)

/-- 'laws.FnExactIsSealed': WHATEVER THE INPUT: true; the input reads as it did. -/
def fnExactIsSealedSpec : ChangeSpec := { name := "fnExactIsSealed", fn := fun _ => fun
  | [d] => { results := [.lit (.bool true)], args := [d] }
  | _ => none }
def fnExactIsSealedRow : OpenClaim := { program := "ytjfmllnkjikkbaa", sum := "60bd190769bcf07f55a61bc7d1f2521d20ecbe6c4b78dc4abf107a94560558e3", func := "loop.example/g00991/laws.FnExactIsSealed", spec := "fnExactIsSealed", apart := false }
def FnExactIsSealedSaid : Prop := fnExactIsSealedRow.holds Try.pinned (OpenSpec.ofChange fnExactIsSealedSpec)

/-- ITS FALSE NEIGHBOUR: 'it returns false'. Refute it at one input. -/
def fnExactIsSealedWrong : ChangeSpec := { name := "fnExactIsSealed", fn := fun _ => fun
  | [d] => { results := [.lit (.bool false)], args := [d] }
  | _ => none }
def FnExactIsSealedWrongFalsely : Prop := fnExactIsSealedRow.holds Try.pinned (OpenSpec.ofChange fnExactIsSealedWrong)

/-- 'laws.FnExactAppendEntry': WHATEVER THE INPUT: true; the input reads as it did. -/
def fnExactAppendEntrySpec : ChangeSpec := { name := "fnExactAppendEntry", fn := fun _ => fun
  | [d1, d2, d3] => { results := [.lit (.bool true)], args := [d1, d2, d3] }
  | _ => none }
def fnExactAppendEntryRow : OpenClaim := { program := "ytjfmllnkjikkbaa", sum := "60bd190769bcf07f55a61bc7d1f2521d20ecbe6c4b78dc4abf107a94560558e3", func := "loop.example/g00991/laws.FnExactAppendEntry", spec := "fnExactAppendEntry", apart := false }
def FnExactAppendEntrySaid : Prop := fnExactAppendEntryRow.holds Try.pinned (OpenSpec.ofChange fnExactAppendEntrySpec)

/-- ITS FALSE NEIGHBOUR: 'it returns false'. Refute it at one input. -/
def fnExactAppendEntryWrong : ChangeSpec := { name := "fnExactAppendEntry", fn := fun _ => fun
  | [d1, d2, d3] => { results := [.lit (.bool false)], args := [d1, d2, d3] }
  | _ => none }
def FnExactAppendEntryWrongFalsely : Prop := fnExactAppendEntryRow.holds Try.pinned (OpenSpec.ofChange fnExactAppendEntryWrong)

/-- 'laws.FnExactJoinRings': WHATEVER THE INPUT: true; the input reads as it did. -/
def fnExactJoinRingsSpec : ChangeSpec := { name := "fnExactJoinRings", fn := fun _ => fun
  | [d] => { results := [.lit (.bool true)], args := [d] }
  | _ => none }
def fnExactJoinRingsRow : OpenClaim := { program := "ytjfmllnkjikkbaa", sum := "60bd190769bcf07f55a61bc7d1f2521d20ecbe6c4b78dc4abf107a94560558e3", func := "loop.example/g00991/laws.FnExactJoinRings", spec := "fnExactJoinRings", apart := false }
def FnExactJoinRingsSaid : Prop := fnExactJoinRingsRow.holds Try.pinned (OpenSpec.ofChange fnExactJoinRingsSpec)

/-- ITS FALSE NEIGHBOUR: 'it returns false'. Refute it at one input. -/
def fnExactJoinRingsWrong : ChangeSpec := { name := "fnExactJoinRings", fn := fun _ => fun
  | [d] => { results := [.lit (.bool false)], args := [d] }
  | _ => none }
def FnExactJoinRingsWrongFalsely : Prop := fnExactJoinRingsRow.holds Try.pinned (OpenSpec.ofChange fnExactJoinRingsWrong)

/- THE SECOND FORM. 'bulk': how many values and letters a reading holds, each counted each time it is reached (what is shared counts as often as it is met; a slice's spare places count too). A statement '..UptoSaid' is the law's where the arguments, and the package variables that the reading takes, are together of bulk at most 1048576: NARROWER than '..Said'. Prove '..Said' where nothing that the law and all that it calls make is longer than what came in: it says more and counts as full. Else prove '..UptoSaid'. A law counts once. -/
mutual
def uptoBulk {H : Type} : DataW H → Nat
  | .lit (.string bytes) => bytes.length + 1
  | .lit _ => 1
  | .nil => 1
  | .ptr d => uptoBulk d + 1
  | .slice elems spare => uptoBulkAll elems + uptoBulkAll spare + 1
  | .agg parts => uptoBulkAll parts + 1
  | .iface _ d => uptoBulk d + 1
  | .map entries => uptoBulkEntries entries + 1
  | .held _ => 1
def uptoBulkAll {H : Type} : List (DataW H) → Nat
  | [] => 0
  | d :: r => uptoBulk d + uptoBulkAll r
def uptoBulkEntries {H : Type} : List (Lit × DataW H) → Nat
  | [] => 0
  | x :: r => uptoBulkEntry x + uptoBulkEntries r
def uptoBulkEntry {H : Type} : Lit × DataW H → Nat
  | (.string bytes, d) => bytes.length + uptoBulk d + 1
  | (_, d) => uptoBulk d + 1
 end
def uptoSmall : (H : Type) → List (DataW H) → Bool := fun _ ds => decide (uptoBulkAll ds ≤ 1048576)
def OpenSpec.upto (s : _root_.Go.ChangeSpec) : _root_.Go.OpenSpec := { _root_.Go.OpenSpec.ofChange s with cond := some uptoSmall }

/-- 'laws.FnExactLastSeen', WHERE WHAT IT READS IS OF BULK AT MOST 1048576: true; the input reads as it did. -/
def fnExactLastSeenUptoRow : OpenClaim := { program := "ytjfmllnkjikkbaa", sum := "60bd190769bcf07f55a61bc7d1f2521d20ecbe6c4b78dc4abf107a94560558e3", func := "loop.example/g00991/laws.FnExactLastSeen", spec := "fnExactLastSeen", apart := false, narrowed := true }
def FnExactLastSeenUptoSaid : Prop := fnExactLastSeenUptoRow.holds Try.pinned (OpenSpec.upto fnExactLastSeenSpec)

/-- 'laws.FnExactLastSeal', WHERE WHAT IT READS IS OF BULK AT MOST 1048576: true; the input reads as it did. -/
def fnExactLastSealUptoRow : OpenClaim := { program := "ytjfmllnkjikkbaa", sum := "60bd190769bcf07f55a61bc7d1f2521d20ecbe6c4b78dc4abf107a94560558e3", func := "loop.example/g00991/laws.FnExactLastSeal", spec := "fnExactLastSeal", apart := false, narrowed := true }
def FnExactLastSealUptoSaid : Prop := fnExactLastSealUptoRow.holds Try.pinned (OpenSpec.upto fnExactLastSealSpec)

/-- 'laws.FnExactSealAfter', WHERE WHAT IT READS IS OF BULK AT MOST 1048576: true; the input reads as it did. -/
def fnExactSealAfterUptoRow : OpenClaim := { program := "ytjfmllnkjikkbaa", sum := "60bd190769bcf07f55a61bc7d1f2521d20ecbe6c4b78dc4abf107a94560558e3", func := "loop.example/g00991/laws.FnExactSealAfter", spec := "fnExactSealAfter", apart := false, narrowed := true }
def FnExactSealAfterUptoSaid : Prop := fnExactSealAfterUptoRow.holds Try.pinned (OpenSpec.upto fnExactSealAfterSpec)

/-- 'laws.FnExactDigestOf', WHERE WHAT IT READS IS OF BULK AT MOST 1048576: true; the input reads as it did. -/
def fnExactDigestOfUptoRow : OpenClaim := { program := "ytjfmllnkjikkbaa", sum := "60bd190769bcf07f55a61bc7d1f2521d20ecbe6c4b78dc4abf107a94560558e3", func := "loop.example/g00991/laws.FnExactDigestOf", spec := "fnExactDigestOf", apart := false, narrowed := true }
def FnExactDigestOfUptoSaid : Prop := fnExactDigestOfUptoRow.holds Try.pinned (OpenSpec.upto fnExactDigestOfSpec)

/-- 'laws.FnExactFirstBroken', WHERE WHAT IT READS IS OF BULK AT MOST 1048576: true; the input reads as it did. -/
def fnExactFirstBrokenUptoRow : OpenClaim := { program := "ytjfmllnkjikkbaa", sum := "60bd190769bcf07f55a61bc7d1f2521d20ecbe6c4b78dc4abf107a94560558e3", func := "loop.example/g00991/laws.FnExactFirstBroken", spec := "fnExactFirstBroken", apart := false, narrowed := true }
def FnExactFirstBrokenUptoSaid : Prop := fnExactFirstBrokenUptoRow.holds Try.pinned (OpenSpec.upto fnExactFirstBrokenSpec)

/-- 'laws.FnExactIsSealed', WHERE WHAT IT READS IS OF BULK AT MOST 1048576: true; the input reads as it did. -/
def fnExactIsSealedUptoRow : OpenClaim := { program := "ytjfmllnkjikkbaa", sum := "60bd190769bcf07f55a61bc7d1f2521d20ecbe6c4b78dc4abf107a94560558e3", func := "loop.example/g00991/laws.FnExactIsSealed", spec := "fnExactIsSealed", apart := false, narrowed := true }
def FnExactIsSealedUptoSaid : Prop := fnExactIsSealedUptoRow.holds Try.pinned (OpenSpec.upto fnExactIsSealedSpec)

/-- 'laws.FnExactAppendEntry', WHERE WHAT IT READS IS OF BULK AT MOST 1048576: true; the input reads as it did. -/
def fnExactAppendEntryUptoRow : OpenClaim := { program := "ytjfmllnkjikkbaa", sum := "60bd190769bcf07f55a61bc7d1f2521d20ecbe6c4b78dc4abf107a94560558e3", func := "loop.example/g00991/laws.FnExactAppendEntry", spec := "fnExactAppendEntry", apart := false, narrowed := true }
def FnExactAppendEntryUptoSaid : Prop := fnExactAppendEntryUptoRow.holds Try.pinned (OpenSpec.upto fnExactAppendEntrySpec)

/-- 'laws.FnExactJoinRings', WHERE WHAT IT READS IS OF BULK AT MOST 1048576: true; the input reads as it did. -/
def fnExactJoinRingsUptoRow : OpenClaim := { program := "ytjfmllnkjikkbaa", sum := "60bd190769bcf07f55a61bc7d1f2521d20ecbe6c4b78dc4abf107a94560558e3", func := "loop.example/g00991/laws.FnExactJoinRings", spec := "fnExactJoinRings", apart := false, narrowed := true }
def FnExactJoinRingsUptoSaid : Prop := fnExactJoinRingsUptoRow.holds Try.pinned (OpenSpec.upto fnExactJoinRingsSpec)

end Rows
end Go.Proofs.Ytjfmllnkjikkbaa
