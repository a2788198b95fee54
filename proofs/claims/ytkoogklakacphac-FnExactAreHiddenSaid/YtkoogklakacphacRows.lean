/-
  No cell of these rows narrows 'for every input' (looked for: loops, veiled, ifaces, maps, wideKeys, modest, calm, conditions, laid).
  DERIVED. THE GIVEN ROWS OF THIS SEAT. 11 by the template 'for every input the law returns true; each argument reads behind the call as it read before'; 0 by the template 'total and deterministic' (their statements: YtkoogklakacphacTotals.lean).
  GIVEN WITH THE SEED: the statements are not yours to turn. If you find one false, say at which input.
  Laid BY PROGRAM, IN A SANDBOX (cutbox-rows.mjs): the forced cells as the released guide's own fill.sh prints them over the translation dbda81bd2bc64db3… (all of the seat's roots in one cut). By AI agents, Wed Nov 11 2026. No macro, syntax, notation, axiom, sorry.
-/
import Derived.Test.YtkoogklakacphacChecked
import GoSem.Claim
import GoSem.ClaimJoined
import GoSem.ClaimMapViews
import Derived.JoinedTies
import Derived.KernelRfl
namespace Go.Proofs.Ytkoogklakacphac
/- THE CELL 'sum', in the pinned program and in every row, IS THE sha256 OF THE DUMP (.gsa) THAT YtkoogklakacphacProg.lean LOADS. Nothing in Lean hashes anything: it is a label: what it is worth is what the hold of that sum in a sandbox is worth. -/
noncomputable def Try.pinned : Pinned := { name := "ytkoogklakacphac", sum := "dbda81bd2bc64db3b027b2a9ca5439290c1b70097282a332a84fcdb2ecb3c926", checked := Try.checked }
namespace Rows
def none {H : Type} : Left H := { results := [], args := [] }

/-- 'laws.FnExactOneGuard': WHATEVER THE INPUT: true; the input reads as it did. -/
def fnExactOneGuardSpec : ChangeSpec := { name := "fnExactOneGuard", fn := fun _ => fun
  | [d] => { results := [.lit (.bool true)], args := [d] }
  | _ => none }
def fnExactOneGuardRow : OpenClaim := { program := "ytkoogklakacphac", sum := "dbda81bd2bc64db3b027b2a9ca5439290c1b70097282a332a84fcdb2ecb3c926", func := "loop.example/g00991/laws.FnExactOneGuard", spec := "fnExactOneGuard", unfollowed := true, recurses := true, plainKeys := false, apart := false }
def FnExactOneGuardSaid : Prop := fnExactOneGuardRow.holds Try.pinned (OpenSpec.ofChange fnExactOneGuardSpec)

/-- ITS FALSE NEIGHBOUR: 'it returns false'. Refute it at one input. -/
def fnExactOneGuardWrong : ChangeSpec := { name := "fnExactOneGuard", fn := fun _ => fun
  | [d] => { results := [.lit (.bool false)], args := [d] }
  | _ => none }
def FnExactOneGuardWrongFalsely : Prop := fnExactOneGuardRow.holds Try.pinned (OpenSpec.ofChange fnExactOneGuardWrong)

/-- 'laws.FnExactIsNeeded': WHATEVER THE INPUT: true; the input reads as it did. -/
def fnExactIsNeededSpec : ChangeSpec := { name := "fnExactIsNeeded", fn := fun _ => fun
  | [d1, d2, d3] => { results := [.lit (.bool true)], args := [d1, d2, d3] }
  | _ => none }
def fnExactIsNeededRow : OpenClaim := { program := "ytkoogklakacphac", sum := "dbda81bd2bc64db3b027b2a9ca5439290c1b70097282a332a84fcdb2ecb3c926", func := "loop.example/g00991/laws.FnExactIsNeeded", spec := "fnExactIsNeeded", unfollowed := true, recurses := true, plainKeys := false, apart := false }
def FnExactIsNeededSaid : Prop := fnExactIsNeededRow.holds Try.pinned (OpenSpec.ofChange fnExactIsNeededSpec)

/-- ITS FALSE NEIGHBOUR: 'it returns false'. Refute it at one input. -/
def fnExactIsNeededWrong : ChangeSpec := { name := "fnExactIsNeeded", fn := fun _ => fun
  | [d1, d2, d3] => { results := [.lit (.bool false)], args := [d1, d2, d3] }
  | _ => none }
def FnExactIsNeededWrongFalsely : Prop := fnExactIsNeededRow.holds Try.pinned (OpenSpec.ofChange fnExactIsNeededWrong)

/-- 'laws.FnExactAreWitnesses': WHATEVER THE INPUT: true; the input reads as it did. -/
def fnExactAreWitnessesSpec : ChangeSpec := { name := "fnExactAreWitnesses", fn := fun _ => fun
  | [d1, d2] => { results := [.lit (.bool true)], args := [d1, d2] }
  | _ => none }
def fnExactAreWitnessesRow : OpenClaim := { program := "ytkoogklakacphac", sum := "dbda81bd2bc64db3b027b2a9ca5439290c1b70097282a332a84fcdb2ecb3c926", func := "loop.example/g00991/laws.FnExactAreWitnesses", spec := "fnExactAreWitnesses", unfollowed := true, recurses := true, plainKeys := false, apart := false }
def FnExactAreWitnessesSaid : Prop := fnExactAreWitnessesRow.holds Try.pinned (OpenSpec.ofChange fnExactAreWitnessesSpec)

/-- ITS FALSE NEIGHBOUR: 'it returns false'. Refute it at one input. -/
def fnExactAreWitnessesWrong : ChangeSpec := { name := "fnExactAreWitnesses", fn := fun _ => fun
  | [d1, d2] => { results := [.lit (.bool false)], args := [d1, d2] }
  | _ => none }
def FnExactAreWitnessesWrongFalsely : Prop := fnExactAreWitnessesRow.holds Try.pinned (OpenSpec.ofChange fnExactAreWitnessesWrong)

/-- 'laws.FnExactGreedyWitnesses': WHATEVER THE INPUT: true; the input reads as it did. -/
def fnExactGreedyWitnessesSpec : ChangeSpec := { name := "fnExactGreedyWitnesses", fn := fun _ => fun
  | [d] => { results := [.lit (.bool true)], args := [d] }
  | _ => none }
def fnExactGreedyWitnessesRow : OpenClaim := { program := "ytkoogklakacphac", sum := "dbda81bd2bc64db3b027b2a9ca5439290c1b70097282a332a84fcdb2ecb3c926", func := "loop.example/g00991/laws.FnExactGreedyWitnesses", spec := "fnExactGreedyWitnesses", unfollowed := true, recurses := true, plainKeys := false, apart := false }
def FnExactGreedyWitnessesSaid : Prop := fnExactGreedyWitnessesRow.holds Try.pinned (OpenSpec.ofChange fnExactGreedyWitnessesSpec)

/-- ITS FALSE NEIGHBOUR: 'it returns false'. Refute it at one input. -/
def fnExactGreedyWitnessesWrong : ChangeSpec := { name := "fnExactGreedyWitnesses", fn := fun _ => fun
  | [d] => { results := [.lit (.bool false)], args := [d] }
  | _ => none }
def FnExactGreedyWitnessesWrongFalsely : Prop := fnExactGreedyWitnessesRow.holds Try.pinned (OpenSpec.ofChange fnExactGreedyWitnessesWrong)

/-- 'laws.FnExactAreHidden': WHATEVER THE INPUT: true; the input reads as it did. -/
def fnExactAreHiddenSpec : ChangeSpec := { name := "fnExactAreHidden", fn := fun _ => fun
  | [d1, d2] => { results := [.lit (.bool true)], args := [d1, d2] }
  | _ => none }
def fnExactAreHiddenRow : OpenClaim := { program := "ytkoogklakacphac", sum := "dbda81bd2bc64db3b027b2a9ca5439290c1b70097282a332a84fcdb2ecb3c926", func := "loop.example/g00991/laws.FnExactAreHidden", spec := "fnExactAreHidden", unfollowed := true, recurses := true, plainKeys := false, apart := false }
def FnExactAreHiddenSaid : Prop := fnExactAreHiddenRow.holds Try.pinned (OpenSpec.ofChange fnExactAreHiddenSpec)

/-- ITS FALSE NEIGHBOUR: 'it returns false'. Refute it at one input. -/
def fnExactAreHiddenWrong : ChangeSpec := { name := "fnExactAreHidden", fn := fun _ => fun
  | [d1, d2] => { results := [.lit (.bool false)], args := [d1, d2] }
  | _ => none }
def FnExactAreHiddenWrongFalsely : Prop := fnExactAreHiddenRow.holds Try.pinned (OpenSpec.ofChange fnExactAreHiddenWrong)

/-- 'laws.FnExactHiddenCorners': WHATEVER THE INPUT: true; the input reads as it did. -/
def fnExactHiddenCornersSpec : ChangeSpec := { name := "fnExactHiddenCorners", fn := fun _ => fun
  | [d] => { results := [.lit (.bool true)], args := [d] }
  | _ => none }
def fnExactHiddenCornersRow : OpenClaim := { program := "ytkoogklakacphac", sum := "dbda81bd2bc64db3b027b2a9ca5439290c1b70097282a332a84fcdb2ecb3c926", func := "loop.example/g00991/laws.FnExactHiddenCorners", spec := "fnExactHiddenCorners", unfollowed := true, recurses := true, plainKeys := false, apart := false }
def FnExactHiddenCornersSaid : Prop := fnExactHiddenCornersRow.holds Try.pinned (OpenSpec.ofChange fnExactHiddenCornersSpec)

/-- ITS FALSE NEIGHBOUR: 'it returns false'. Refute it at one input. -/
def fnExactHiddenCornersWrong : ChangeSpec := { name := "fnExactHiddenCorners", fn := fun _ => fun
  | [d] => { results := [.lit (.bool false)], args := [d] }
  | _ => none }
def FnExactHiddenCornersWrongFalsely : Prop := fnExactHiddenCornersRow.holds Try.pinned (OpenSpec.ofChange fnExactHiddenCornersWrong)

/-- 'laws.FnExactWitnessBound': WHATEVER THE INPUT: true; the input reads as it did. -/
def fnExactWitnessBoundSpec : ChangeSpec := { name := "fnExactWitnessBound", fn := fun _ => fun
  | [d] => { results := [.lit (.bool true)], args := [d] }
  | _ => none }
def fnExactWitnessBoundRow : OpenClaim := { program := "ytkoogklakacphac", sum := "dbda81bd2bc64db3b027b2a9ca5439290c1b70097282a332a84fcdb2ecb3c926", func := "loop.example/g00991/laws.FnExactWitnessBound", spec := "fnExactWitnessBound", unfollowed := true, recurses := true, plainKeys := false, apart := false }
def FnExactWitnessBoundSaid : Prop := fnExactWitnessBoundRow.holds Try.pinned (OpenSpec.ofChange fnExactWitnessBoundSpec)

/-- ITS FALSE NEIGHBOUR: 'it returns false'. Refute it at one input. -/
def fnExactWitnessBoundWrong : ChangeSpec := { name := "fnExactWitnessBound", fn := fun _ => fun
  | [d] => { results := [.lit (.bool false)], args := [d] }
  | _ => none }
def FnExactWitnessBoundWrongFalsely : Prop := fnExactWitnessBoundRow.holds Try.pinned (OpenSpec.ofChange fnExactWitnessBoundWrong)

/-- 'laws.FnExactInKernel': WHATEVER THE INPUT: true; the input reads as it did. -/
def fnExactInKernelSpec : ChangeSpec := { name := "fnExactInKernel", fn := fun _ => fun
  | [d1, d2] => { results := [.lit (.bool true)], args := [d1, d2] }
  | _ => none }
def fnExactInKernelRow : OpenClaim := { program := "ytkoogklakacphac", sum := "dbda81bd2bc64db3b027b2a9ca5439290c1b70097282a332a84fcdb2ecb3c926", func := "loop.example/g00991/laws.FnExactInKernel", spec := "fnExactInKernel", unfollowed := true, recurses := true, plainKeys := false, apart := false }
def FnExactInKernelSaid : Prop := fnExactInKernelRow.holds Try.pinned (OpenSpec.ofChange fnExactInKernelSpec)

/-- ITS FALSE NEIGHBOUR: 'it returns false'. Refute it at one input. -/
def fnExactInKernelWrong : ChangeSpec := { name := "fnExactInKernel", fn := fun _ => fun
  | [d1, d2] => { results := [.lit (.bool false)], args := [d1, d2] }
  | _ => none }
def FnExactInKernelWrongFalsely : Prop := fnExactInKernelRow.holds Try.pinned (OpenSpec.ofChange fnExactInKernelWrong)

/-- 'laws.FnExactKernelPoints': WHATEVER THE INPUT: true; the input reads as it did. -/
def fnExactKernelPointsSpec : ChangeSpec := { name := "fnExactKernelPoints", fn := fun _ => fun
  | [d] => { results := [.lit (.bool true)], args := [d] }
  | _ => none }
def fnExactKernelPointsRow : OpenClaim := { program := "ytkoogklakacphac", sum := "dbda81bd2bc64db3b027b2a9ca5439290c1b70097282a332a84fcdb2ecb3c926", func := "loop.example/g00991/laws.FnExactKernelPoints", spec := "fnExactKernelPoints", unfollowed := true, recurses := true, plainKeys := false, apart := false }
def FnExactKernelPointsSaid : Prop := fnExactKernelPointsRow.holds Try.pinned (OpenSpec.ofChange fnExactKernelPointsSpec)

/-- ITS FALSE NEIGHBOUR: 'it returns false'. Refute it at one input. -/
def fnExactKernelPointsWrong : ChangeSpec := { name := "fnExactKernelPoints", fn := fun _ => fun
  | [d] => { results := [.lit (.bool false)], args := [d] }
  | _ => none }
def FnExactKernelPointsWrongFalsely : Prop := fnExactKernelPointsRow.holds Try.pinned (OpenSpec.ofChange fnExactKernelPointsWrong)

/-- 'laws.FnExactIsStar': WHATEVER THE INPUT: true; the input reads as it did. -/
def fnExactIsStarSpec : ChangeSpec := { name := "fnExactIsStar", fn := fun _ => fun
  | [d] => { results := [.lit (.bool true)], args := [d] }
  | _ => none }
def fnExactIsStarRow : OpenClaim := { program := "ytkoogklakacphac", sum := "dbda81bd2bc64db3b027b2a9ca5439290c1b70097282a332a84fcdb2ecb3c926", func := "loop.example/g00991/laws.FnExactIsStar", spec := "fnExactIsStar", unfollowed := true, recurses := true, plainKeys := false, apart := false }
def FnExactIsStarSaid : Prop := fnExactIsStarRow.holds Try.pinned (OpenSpec.ofChange fnExactIsStarSpec)

/-- ITS FALSE NEIGHBOUR: 'it returns false'. Refute it at one input. -/
def fnExactIsStarWrong : ChangeSpec := { name := "fnExactIsStar", fn := fun _ => fun
  | [d] => { results := [.lit (.bool false)], args := [d] }
  | _ => none }
def FnExactIsStarWrongFalsely : Prop := fnExactIsStarRow.holds Try.pinned (OpenSpec.ofChange fnExactIsStarWrong)

/-- 'laws.FnExactSeesCorners': WHATEVER THE INPUT: true; the input reads as it did. -/
def fnExactSeesCornersSpec : ChangeSpec := { name := "fnExactSeesCorners", fn := fun _ => fun
  | [d1, d2] => { results := [.lit (.bool true)], args := [d1, d2] }
  | _ => none }
def fnExactSeesCornersRow : OpenClaim := { program := "ytkoogklakacphac", sum := "dbda81bd2bc64db3b027b2a9ca5439290c1b70097282a332a84fcdb2ecb3c926", func := "loop.example/g00991/laws.FnExactSeesCorners", spec := "fnExactSeesCorners", unfollowed := true, recurses := true, plainKeys := false, apart := false }
def FnExactSeesCornersSaid : Prop := fnExactSeesCornersRow.holds Try.pinned (OpenSpec.ofChange fnExactSeesCornersSpec)

/-- ITS FALSE NEIGHBOUR: 'it returns false'. Refute it at one input. -/
def fnExactSeesCornersWrong : ChangeSpec := { name := "fnExactSeesCorners", fn := fun _ => fun
  | [d1, d2] => { results := [.lit (.bool false)], args := [d1, d2] }
  | _ => none }
def FnExactSeesCornersWrongFalsely : Prop := fnExactSeesCornersRow.holds Try.pinned (OpenSpec.ofChange fnExactSeesCornersWrong)

/- THE SECOND FORM. 'bulk': how many values and letters a reading holds, each counted each time it is reached (what is shared counts as often as it is met; a slice's spare places count too). A statement '..UptoSaid' is the law's where the arguments, and the package variables that the reading takes, are together of bulk at most 1048576: NARROWER than '..Said'. Prove '..Said' where nothing that the law and all that it calls make is longer than what came in: it says more and counts as full. Else prove '..UptoSaid'. A law counts once. -/
mutual
def uptoBulk {H : Type} : DataW H → Nat
  | .lit (.string bytes) => bytes.length + 1
  | .lit _ => 1
  | .nil => 1
  | .ptr d => uptoBulk d + 1
  | .slice elems spare => uptoBulkAll elems + uptoBulkAll spare + 1
  | .agg parts => uptoBulkAll parts + 1
  | .iface _ d => uptoBulk d + 1
  | .map entries => uptoBulkEntries entries + 1
  | .held _ => 1
def uptoBulkAll {H : Type} : List (DataW H) → Nat
  | [] => 0
  | d :: r => uptoBulk d + uptoBulkAll r
def uptoBulkEntries {H : Type} : List (Lit × DataW H) → Nat
  | [] => 0
  | x :: r => uptoBulkEntry x + uptoBulkEntries r
def uptoBulkEntry {H : Type} : Lit × DataW H → Nat
  | (.string bytes, d) => bytes.length + uptoBulk d + 1
  | (_, d) => uptoBulk d + 1
 end
def uptoSmall : (H : Type) → List (DataW H) → Bool := fun _ ds => decide (uptoBulkAll ds ≤ 1048576)
def OpenSpec.upto (s : _root_.Go.ChangeSpec) : _root_.Go.OpenSpec := { _root_.Go.OpenSpec.ofChange s with cond := some uptoSmall }

/-- 'laws.FnExactOneGuard', WHERE WHAT IT READS IS OF BULK AT MOST 1048576: true; the input reads as it did. -/
def fnExactOneGuardUptoRow : OpenClaim := { program := "ytkoogklakacphac", sum := "dbda81bd2bc64db3b027b2a9ca5439290c1b70097282a332a84fcdb2ecb3c926", func := "loop.example/g00991/laws.FnExactOneGuard", spec := "fnExactOneGuard", unfollowed := true, recurses := true, plainKeys := false, apart := false, narrowed := true }
def FnExactOneGuardUptoSaid : Prop := fnExactOneGuardUptoRow.holds Try.pinned (OpenSpec.upto fnExactOneGuardSpec)

/-- 'laws.FnExactIsNeeded', WHERE WHAT IT READS IS OF BULK AT MOST 1048576: true; the input reads as it did. -/
def fnExactIsNeededUptoRow : OpenClaim := { program := "ytkoogklakacphac", sum := "dbda81bd2bc64db3b027b2a9ca5439290c1b70097282a332a84fcdb2ecb3c926", func := "loop.example/g00991/laws.FnExactIsNeeded", spec := "fnExactIsNeeded", unfollowed := true, recurses := true, plainKeys := false, apart := false, narrowed := true }
def FnExactIsNeededUptoSaid : Prop := fnExactIsNeededUptoRow.holds Try.pinned (OpenSpec.upto fnExactIsNeededSpec)

/-- 'laws.FnExactAreWitnesses', WHERE WHAT IT READS IS OF BULK AT MOST 1048576: true; the input reads as it did. -/
def fnExactAreWitnessesUptoRow : OpenClaim := { program := "ytkoogklakacphac", sum := "dbda81bd2bc64db3b027b2a9ca5439290c1b70097282a332a84fcdb2ecb3c926", func := "loop.example/g00991/laws.FnExactAreWitnesses", spec := "fnExactAreWitnesses", unfollowed := true, recurses := true, plainKeys := false, apart := false, narrowed := true }
def FnExactAreWitnessesUptoSaid : Prop := fnExactAreWitnessesUptoRow.holds Try.pinned (OpenSpec.upto fnExactAreWitnessesSpec)

/-- 'laws.FnExactGreedyWitnesses', WHERE WHAT IT READS IS OF BULK AT MOST 1048576: true; the input reads as it did. -/
def fnExactGreedyWitnessesUptoRow : OpenClaim := { program := "ytkoogklakacphac", sum := "dbda81bd2bc64db3b027b2a9ca5439290c1b70097282a332a84fcdb2ecb3c926", func := "loop.example/g00991/laws.FnExactGreedyWitnesses", spec := "fnExactGreedyWitnesses", unfollowed := true, recurses := true, plainKeys := false, apart := false, narrowed := true }
def FnExactGreedyWitnessesUptoSaid : Prop := fnExactGreedyWitnessesUptoRow.holds Try.pinned (OpenSpec.upto fnExactGreedyWitnessesSpec)

/-- 'laws.FnExactAreHidden', WHERE WHAT IT READS IS OF BULK AT MOST 1048576: true; the input reads as it did. -/
def fnExactAreHiddenUptoRow : OpenClaim := { program := "ytkoogklakacphac", sum := "dbda81bd2bc64db3b027b2a9ca5439290c1b70097282a332a84fcdb2ecb3c926", func := "loop.example/g00991/laws.FnExactAreHidden", spec := "fnExactAreHidden", unfollowed := true, recurses := true, plainKeys := false, apart := false, narrowed := true }
def FnExactAreHiddenUptoSaid : Prop := fnExactAreHiddenUptoRow.holds Try.pinned (OpenSpec.upto fnExactAreHiddenSpec)

/-- 'laws.FnExactHiddenCorners', WHERE WHAT IT READS IS OF BULK AT MOST 1048576: true; the input reads as it did. -/
def fnExactHiddenCornersUptoRow : OpenClaim := { program := "ytkoogklakacphac", sum := "dbda81bd2bc64db3b027b2a9ca5439290c1b70097282a332a84fcdb2ecb3c926", func := "loop.example/g00991/laws.FnExactHiddenCorners", spec := "fnExactHiddenCorners", unfollowed := true, recurses := true, plainKeys := false, apart := false, narrowed := true }
def FnExactHiddenCornersUptoSaid : Prop := fnExactHiddenCornersUptoRow.holds Try.pinned (OpenSpec.upto fnExactHiddenCornersSpec)

/-- 'laws.FnExactWitnessBound', WHERE WHAT IT READS IS OF BULK AT MOST 1048576: true; the input reads as it did. -/
def fnExactWitnessBoundUptoRow : OpenClaim := { program := "ytkoogklakacphac", sum := "dbda81bd2bc64db3b027b2a9ca5439290c1b70097282a332a84fcdb2ecb3c926", func := "loop.example/g00991/laws.FnExactWitnessBound", spec := "fnExactWitnessBound", unfollowed := true, recurses := true, plainKeys := false, apart := false, narrowed := true }
def FnExactWitnessBoundUptoSaid : Prop := fnExactWitnessBoundUptoRow.holds Try.pinned (OpenSpec.upto fnExactWitnessBoundSpec)

/-- 'laws.FnExactInKernel', WHERE WHAT IT READS IS OF BULK AT MOST 1048576: true; the input reads as it did. -/
def fnExactInKernelUptoRow : OpenClaim := { program := "ytkoogklakacphac", sum := "dbda81bd2bc64db3b027b2a9ca5439290c1b70097282a332a84fcdb2ecb3c926", func := "loop.example/g00991/laws.FnExactInKernel", spec := "fnExactInKernel", unfollowed := true, recurses := true, plainKeys := false, apart := false, narrowed := true }
def FnExactInKernelUptoSaid : Prop := fnExactInKernelUptoRow.holds Try.pinned (OpenSpec.upto fnExactInKernelSpec)

/-- 'laws.FnExactKernelPoints', WHERE WHAT IT READS IS OF BULK AT MOST 1048576: true; the input reads as it did. -/
def fnExactKernelPointsUptoRow : OpenClaim := { program := "ytkoogklakacphac", sum := "dbda81bd2bc64db3b027b2a9ca5439290c1b70097282a332a84fcdb2ecb3c926", func := "loop.example/g00991/laws.FnExactKernelPoints", spec := "fnExactKernelPoints", unfollowed := true, recurses := true, plainKeys := false, apart := false, narrowed := true }
def FnExactKernelPointsUptoSaid : Prop := fnExactKernelPointsUptoRow.holds Try.pinned (OpenSpec.upto fnExactKernelPointsSpec)

/-- 'laws.FnExactIsStar', WHERE WHAT IT READS IS OF BULK AT MOST 1048576: true; the input reads as it did. -/
def fnExactIsStarUptoRow : OpenClaim := { program := "ytkoogklakacphac", sum := "dbda81bd2bc64db3b027b2a9ca5439290c1b70097282a332a84fcdb2ecb3c926", func := "loop.example/g00991/laws.FnExactIsStar", spec := "fnExactIsStar", unfollowed := true, recurses := true, plainKeys := false, apart := false, narrowed := true }
def FnExactIsStarUptoSaid : Prop := fnExactIsStarUptoRow.holds Try.pinned (OpenSpec.upto fnExactIsStarSpec)

/-- 'laws.FnExactSeesCorners', WHERE WHAT IT READS IS OF BULK AT MOST 1048576: true; the input reads as it did. -/
def fnExactSeesCornersUptoRow : OpenClaim := { program := "ytkoogklakacphac", sum := "dbda81bd2bc64db3b027b2a9ca5439290c1b70097282a332a84fcdb2ecb3c926", func := "loop.example/g00991/laws.FnExactSeesCorners", spec := "fnExactSeesCorners", unfollowed := true, recurses := true, plainKeys := false, apart := false, narrowed := true }
def FnExactSeesCornersUptoSaid : Prop := fnExactSeesCornersUptoRow.holds Try.pinned (OpenSpec.upto fnExactSeesCornersSpec)

end Rows
end Go.Proofs.Ytkoogklakacphac
