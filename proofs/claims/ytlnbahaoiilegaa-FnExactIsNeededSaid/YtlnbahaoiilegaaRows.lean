/-
  No cell of these rows narrows 'for every input' (looked for: loops, veiled, ifaces, maps, wideKeys, modest, calm, conditions, laid).
  DERIVED. THE GIVEN ROWS OF THIS SEAT. 5 by the template 'for every input the law returns true; each argument reads behind the call as it read before'; 0 by the template 'total and deterministic' (their statements: YtlnbahaoiilegaaTotals.lean).
  GIVEN WITH THE SEED: the statements are not yours to turn. If you find one false, say at which input.
  Laid BY PROGRAM, IN A SANDBOX (cutbox-rows.mjs): the forced cells as the released guide's own fill.sh prints them over the translation 14b812648341085f… (all of the seat's roots in one cut). By AI agents, Wed Nov 11 2026. No macro, syntax, notation, axiom, sorry.
-/
import Derived.Test.YtlnbahaoiilegaaChecked
import GoSem.Claim
import GoSem.ClaimJoined
import GoSem.ClaimMapViews
import Derived.JoinedTies
import Derived.KernelRfl
namespace Go.Proofs.Ytlnbahaoiilegaa
/- THE CELL 'sum', in the pinned program and in every row, IS THE sha256 OF THE DUMP (.gsa) THAT YtlnbahaoiilegaaProg.lean LOADS. Nothing in Lean hashes anything: it is a label: what it is worth is what the hold of that sum in a sandbox is worth. -/
noncomputable def Try.pinned : Pinned := { name := "ytlnbahaoiilegaa", sum := "14b812648341085fb8f97e1d618eb08ca95a8d3335a114183abe9caba17af5c2", checked := Try.checked }
namespace Rows
def none {H : Type} : Left H := { results := [], args := [] }

/-- 'laws.FnExactIsNeeded': WHATEVER THE INPUT: true; the input reads as it did. -/
def fnExactIsNeededSpec : ChangeSpec := { name := "fnExactIsNeeded", fn := fun _ => fun
  | [d1, d2, d3] => { results := [.lit (.bool true)], args := [d1, d2, d3] }
  | _ => none }
def fnExactIsNeededRow : OpenClaim := { program := "ytlnbahaoiilegaa", sum := "14b812648341085fb8f97e1d618eb08ca95a8d3335a114183abe9caba17af5c2", func := "loop.example/g00991/laws.FnExactIsNeeded", spec := "fnExactIsNeeded", unfollowed := true, recurses := true, plainKeys := false, apart := false }
def FnExactIsNeededSaid : Prop := fnExactIsNeededRow.holds Try.pinned (OpenSpec.ofChange fnExactIsNeededSpec)

/-- ITS FALSE NEIGHBOUR: 'it returns false'. Refute it at one input. -/
def fnExactIsNeededWrong : ChangeSpec := { name := "fnExactIsNeeded", fn := fun _ => fun
  | [d1, d2, d3] => { results := [.lit (.bool false)], args := [d1, d2, d3] }
  | _ => none }
def FnExactIsNeededWrongFalsely : Prop := fnExactIsNeededRow.holds Try.pinned (OpenSpec.ofChange fnExactIsNeededWrong)

/-- 'laws.FnExactHiddenCorners': WHATEVER THE INPUT: true; the input reads as it did. -/
def fnExactHiddenCornersSpec : ChangeSpec := { name := "fnExactHiddenCorners", fn := fun _ => fun
  | [d] => { results := [.lit (.bool true)], args := [d] }
  | _ => none }
def fnExactHiddenCornersRow : OpenClaim := { program := "ytlnbahaoiilegaa", sum := "14b812648341085fb8f97e1d618eb08ca95a8d3335a114183abe9caba17af5c2", func := "loop.example/g00991/laws.FnExactHiddenCorners", spec := "fnExactHiddenCorners", unfollowed := true, recurses := true, plainKeys := false, apart := false }
def FnExactHiddenCornersSaid : Prop := fnExactHiddenCornersRow.holds Try.pinned (OpenSpec.ofChange fnExactHiddenCornersSpec)

/-- ITS FALSE NEIGHBOUR: 'it returns false'. Refute it at one input. -/
def fnExactHiddenCornersWrong : ChangeSpec := { name := "fnExactHiddenCorners", fn := fun _ => fun
  | [d] => { results := [.lit (.bool false)], args := [d] }
  | _ => none }
def FnExactHiddenCornersWrongFalsely : Prop := fnExactHiddenCornersRow.holds Try.pinned (OpenSpec.ofChange fnExactHiddenCornersWrong)

/-- 'laws.FnExactAreWitnesses': WHATEVER THE INPUT: true; the input reads as it did. -/
def fnExactAreWitnessesSpec : ChangeSpec := { name := "fnExactAreWitnesses", fn := fun _ => fun
  | [d1, d2] => { results := [.lit (.bool true)], args := [d1, d2] }
  | _ => none }
def fnExactAreWitnessesRow : OpenClaim := { program := "ytlnbahaoiilegaa", sum := "14b812648341085fb8f97e1d618eb08ca95a8d3335a114183abe9caba17af5c2", func := "loop.example/g00991/laws.FnExactAreWitnesses", spec := "fnExactAreWitnesses", unfollowed := true, recurses := true, plainKeys := false, apart := false }
def FnExactAreWitnessesSaid : Prop := fnExactAreWitnessesRow.holds Try.pinned (OpenSpec.ofChange fnExactAreWitnessesSpec)

/-- ITS FALSE NEIGHBOUR: 'it returns false'. Refute it at one input. -/
def fnExactAreWitnessesWrong : ChangeSpec := { name := "fnExactAreWitnesses", fn := fun _ => fun
  | [d1, d2] => { results := [.lit (.bool false)], args := [d1, d2] }
  | _ => none }
def FnExactAreWitnessesWrongFalsely : Prop := fnExactAreWitnessesRow.holds Try.pinned (OpenSpec.ofChange fnExactAreWitnessesWrong)

/-- 'laws.FnExactDiagonalsOf': WHATEVER THE INPUT: true; the input reads as it did. -/
def fnExactDiagonalsOfSpec : ChangeSpec := { name := "fnExactDiagonalsOf", fn := fun _ => fun
  | [d] => { results := [.lit (.bool true)], args := [d] }
  | _ => none }
def fnExactDiagonalsOfRow : OpenClaim := { program := "ytlnbahaoiilegaa", sum := "14b812648341085fb8f97e1d618eb08ca95a8d3335a114183abe9caba17af5c2", func := "loop.example/g00991/laws.FnExactDiagonalsOf", spec := "fnExactDiagonalsOf", unfollowed := true, recurses := true, plainKeys := false, apart := false }
def FnExactDiagonalsOfSaid : Prop := fnExactDiagonalsOfRow.holds Try.pinned (OpenSpec.ofChange fnExactDiagonalsOfSpec)

/-- ITS FALSE NEIGHBOUR: 'it returns false'. Refute it at one input. -/
def fnExactDiagonalsOfWrong : ChangeSpec := { name := "fnExactDiagonalsOf", fn := fun _ => fun
  | [d] => { results := [.lit (.bool false)], args := [d] }
  | _ => none }
def FnExactDiagonalsOfWrongFalsely : Prop := fnExactDiagonalsOfRow.holds Try.pinned (OpenSpec.ofChange fnExactDiagonalsOfWrong)

/-- 'laws.FnExactFilmedBy': WHATEVER THE INPUT: true; the input reads as it did. -/
def fnExactFilmedBySpec : ChangeSpec := { name := "fnExactFilmedBy", fn := fun _ => fun
  | [d1, d2] => { results := [.lit (.bool true)], args := [d1, d2] }
  | _ => none }
def fnExactFilmedByRow : OpenClaim := { program := "ytlnbahaoiilegaa", sum := "14b812648341085fb8f97e1d618eb08ca95a8d3335a114183abe9caba17af5c2", func := "loop.example/g00991/laws.FnExactFilmedBy", spec := "fnExactFilmedBy", unfollowed := true, recurses := true, plainKeys := false, apart := false }
def FnExactFilmedBySaid : Prop := fnExactFilmedByRow.holds Try.pinned (OpenSpec.ofChange fnExactFilmedBySpec)

/-- ITS FALSE NEIGHBOUR: 'it returns false'. Refute it at one input. -/
def fnExactFilmedByWrong : ChangeSpec := { name := "fnExactFilmedBy", fn := fun _ => fun
  | [d1, d2] => { results := [.lit (.bool false)], args := [d1, d2] }
  | _ => none }
def FnExactFilmedByWrongFalsely : Prop := fnExactFilmedByRow.holds Try.pinned (OpenSpec.ofChange fnExactFilmedByWrong)

/- THE SECOND FORM. 'bulk': how many values and letters a reading holds, each counted each time it is reached (what is shared counts as often as it is met; a slice's spare places count too). A statement '..UptoSaid' is the law's where the arguments, and the package variables that the reading takes, are together of bulk at most 1048576: NARROWER than '..Said'. Prove '..Said' where nothing that the law and all that it calls make is longer than what came in: it says more and counts as full. Else prove '..UptoSaid'. A law counts once. -/
mutual
def uptoBulk {H : Type} : DataW H → Nat
  | .lit (.string bytes) => bytes.length + 1
  | .lit _ => 1
  | .nil => 1
  | .ptr d => uptoBulk d + 1
  | .slice elems spare => uptoBulkAll elems + uptoBulkAll spare + 1
  | .agg parts => uptoBulkAll parts + 1
  | .iface _ d => uptoBulk d + 1
  | .map entries => uptoBulkEntries entries + 1
  | .held _ => 1
def uptoBulkAll {H : Type} : List (DataW H) → Nat
  | [] => 0
  | d :: r => uptoBulk d + uptoBulkAll r
def uptoBulkEntries {H : Type} : List (Lit × DataW H) → Nat
  | [] => 0
  | x :: r => uptoBulkEntry x + uptoBulkEntries r
def uptoBulkEntry {H : Type} : Lit × DataW H → Nat
  | (.string bytes, d) => bytes.length + uptoBulk d + 1
  | (_, d) => uptoBulk d + 1
 end
def uptoSmall : (H : Type) → List (DataW H) → Bool := fun _ ds => decide (uptoBulkAll ds ≤ 1048576)
def OpenSpec.upto (s : _root_.Go.ChangeSpec) : _root_.Go.OpenSpec := { _root_.Go.OpenSpec.ofChange s with cond := some uptoSmall }

/-- 'laws.FnExactIsNeeded', WHERE WHAT IT READS IS OF BULK AT MOST 1048576: true; the input reads as it did. -/
def fnExactIsNeededUptoRow : OpenClaim := { program := "ytlnbahaoiilegaa", sum := "14b812648341085fb8f97e1d618eb08ca95a8d3335a114183abe9caba17af5c2", func := "loop.example/g00991/laws.FnExactIsNeeded", spec := "fnExactIsNeeded", unfollowed := true, recurses := true, plainKeys := false, apart := false, narrowed := true }
def FnExactIsNeededUptoSaid : Prop := fnExactIsNeededUptoRow.holds Try.pinned (OpenSpec.upto fnExactIsNeededSpec)

/-- 'laws.FnExactHiddenCorners', WHERE WHAT IT READS IS OF BULK AT MOST 1048576: true; the input reads as it did. -/
def fnExactHiddenCornersUptoRow : OpenClaim := { program := "ytlnbahaoiilegaa", sum := "14b812648341085fb8f97e1d618eb08ca95a8d3335a114183abe9caba17af5c2", func := "loop.example/g00991/laws.FnExactHiddenCorners", spec := "fnExactHiddenCorners", unfollowed := true, recurses := true, plainKeys := false, apart := false, narrowed := true }
def FnExactHiddenCornersUptoSaid : Prop := fnExactHiddenCornersUptoRow.holds Try.pinned (OpenSpec.upto fnExactHiddenCornersSpec)

/-- 'laws.FnExactAreWitnesses', WHERE WHAT IT READS IS OF BULK AT MOST 1048576: true; the input reads as it did. -/
def fnExactAreWitnessesUptoRow : OpenClaim := { program := "ytlnbahaoiilegaa", sum := "14b812648341085fb8f97e1d618eb08ca95a8d3335a114183abe9caba17af5c2", func := "loop.example/g00991/laws.FnExactAreWitnesses", spec := "fnExactAreWitnesses", unfollowed := true, recurses := true, plainKeys := false, apart := false, narrowed := true }
def FnExactAreWitnessesUptoSaid : Prop := fnExactAreWitnessesUptoRow.holds Try.pinned (OpenSpec.upto fnExactAreWitnessesSpec)

/-- 'laws.FnExactDiagonalsOf', WHERE WHAT IT READS IS OF BULK AT MOST 1048576: true; the input reads as it did. -/
def fnExactDiagonalsOfUptoRow : OpenClaim := { program := "ytlnbahaoiilegaa", sum := "14b812648341085fb8f97e1d618eb08ca95a8d3335a114183abe9caba17af5c2", func := "loop.example/g00991/laws.FnExactDiagonalsOf", spec := "fnExactDiagonalsOf", unfollowed := true, recurses := true, plainKeys := false, apart := false, narrowed := true }
def FnExactDiagonalsOfUptoSaid : Prop := fnExactDiagonalsOfUptoRow.holds Try.pinned (OpenSpec.upto fnExactDiagonalsOfSpec)

/-- 'laws.FnExactFilmedBy', WHERE WHAT IT READS IS OF BULK AT MOST 1048576: true; the input reads as it did. -/
def fnExactFilmedByUptoRow : OpenClaim := { program := "ytlnbahaoiilegaa", sum := "14b812648341085fb8f97e1d618eb08ca95a8d3335a114183abe9caba17af5c2", func := "loop.example/g00991/laws.FnExactFilmedBy", spec := "fnExactFilmedBy", unfollowed := true, recurses := true, plainKeys := false, apart := false, narrowed := true }
def FnExactFilmedByUptoSaid : Prop := fnExactFilmedByUptoRow.holds Try.pinned (OpenSpec.upto fnExactFilmedBySpec)

end Rows
end Go.Proofs.Ytlnbahaoiilegaa
