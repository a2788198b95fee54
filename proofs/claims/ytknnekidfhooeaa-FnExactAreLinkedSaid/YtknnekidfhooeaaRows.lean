/-
  No cell of these rows narrows 'for every input' (looked for: loops, veiled, ifaces, maps, wideKeys, modest, calm, conditions, laid).
  DERIVED. THE GIVEN ROWS OF THIS SEAT. 12 by the template 'for every input the law returns true; each argument reads behind the call as it read before'; 0 by the template 'total and deterministic' (their statements: YtknnekidfhooeaaTotals.lean).
  GIVEN WITH THE SEED: the statements are not yours to turn. If you find one false, say at which input.
  Laid BY PROGRAM, IN A SANDBOX (cutbox-rows.mjs): the forced cells as the released guide's own fill.sh prints them over the translation be21816abf585d84… (all of the seat's roots in one cut). By AI agents, Wed Nov 11 2026. No macro, syntax, notation, axiom, sorry.
-/
import Derived.Test.YtknnekidfhooeaaChecked
import GoSem.Claim
import GoSem.ClaimJoined
import GoSem.ClaimMapViews
import Derived.JoinedTies
import Derived.KernelRfl
namespace Go.Proofs.Ytknnekidfhooeaa
/- THE CELL 'sum', in the pinned program and in every row, IS THE sha256 OF THE DUMP (.gsa) THAT YtknnekidfhooeaaProg.lean LOADS. Nothing in Lean hashes anything: it is a label: what it is worth is what the hold of that sum in a sandbox is worth. -/
noncomputable def Try.pinned : Pinned := { name := "ytknnekidfhooeaa", sum := "be21816abf585d845ea83090b0199d8b72b4cf5aa788537cce9bb77231ed2d84", checked := Try.checked }
namespace Rows
def none {H : Type} : Left H := { results := [], args := [] }

/-- 'laws.FnExactHouseOk': WHATEVER THE INPUT: true; the input reads as it did. -/
def fnExactHouseOkSpec : ChangeSpec := { name := "fnExactHouseOk", fn := fun _ => fun
  | [d] => { results := [.lit (.bool true)], args := [d] }
  | _ => none }
def fnExactHouseOkRow : OpenClaim := { program := "ytknnekidfhooeaa", sum := "be21816abf585d845ea83090b0199d8b72b4cf5aa788537cce9bb77231ed2d84", func := "loop.example/g00991/laws.FnExactHouseOk", spec := "fnExactHouseOk", unfollowed := true, recurses := true, apart := false }
def FnExactHouseOkSaid : Prop := fnExactHouseOkRow.holds Try.pinned (OpenSpec.ofChange fnExactHouseOkSpec)

/-- ITS FALSE NEIGHBOUR: 'it returns false'. Refute it at one input. -/
def fnExactHouseOkWrong : ChangeSpec := { name := "fnExactHouseOk", fn := fun _ => fun
  | [d] => { results := [.lit (.bool false)], args := [d] }
  | _ => none }
def FnExactHouseOkWrongFalsely : Prop := fnExactHouseOkRow.holds Try.pinned (OpenSpec.ofChange fnExactHouseOkWrong)

/-- 'laws.FnExactHasDoor': WHATEVER THE INPUT: true; the input reads as it did. -/
def fnExactHasDoorSpec : ChangeSpec := { name := "fnExactHasDoor", fn := fun _ => fun
  | [d1, d2, d3] => { results := [.lit (.bool true)], args := [d1, d2, d3] }
  | _ => none }
def fnExactHasDoorRow : OpenClaim := { program := "ytknnekidfhooeaa", sum := "be21816abf585d845ea83090b0199d8b72b4cf5aa788537cce9bb77231ed2d84", func := "loop.example/g00991/laws.FnExactHasDoor", spec := "fnExactHasDoor", unfollowed := true, recurses := true, apart := false }
def FnExactHasDoorSaid : Prop := fnExactHasDoorRow.holds Try.pinned (OpenSpec.ofChange fnExactHasDoorSpec)

/-- ITS FALSE NEIGHBOUR: 'it returns false'. Refute it at one input. -/
def fnExactHasDoorWrong : ChangeSpec := { name := "fnExactHasDoor", fn := fun _ => fun
  | [d1, d2, d3] => { results := [.lit (.bool false)], args := [d1, d2, d3] }
  | _ => none }
def FnExactHasDoorWrongFalsely : Prop := fnExactHasDoorRow.holds Try.pinned (OpenSpec.ofChange fnExactHasDoorWrong)

/-- 'laws.FnExactDoorsFrom': WHATEVER THE INPUT: true; the input reads as it did. -/
def fnExactDoorsFromSpec : ChangeSpec := { name := "fnExactDoorsFrom", fn := fun _ => fun
  | [d1, d2] => { results := [.lit (.bool true)], args := [d1, d2] }
  | _ => none }
def fnExactDoorsFromRow : OpenClaim := { program := "ytknnekidfhooeaa", sum := "be21816abf585d845ea83090b0199d8b72b4cf5aa788537cce9bb77231ed2d84", func := "loop.example/g00991/laws.FnExactDoorsFrom", spec := "fnExactDoorsFrom", unfollowed := true, recurses := true, apart := false }
def FnExactDoorsFromSaid : Prop := fnExactDoorsFromRow.holds Try.pinned (OpenSpec.ofChange fnExactDoorsFromSpec)

/-- ITS FALSE NEIGHBOUR: 'it returns false'. Refute it at one input. -/
def fnExactDoorsFromWrong : ChangeSpec := { name := "fnExactDoorsFrom", fn := fun _ => fun
  | [d1, d2] => { results := [.lit (.bool false)], args := [d1, d2] }
  | _ => none }
def FnExactDoorsFromWrongFalsely : Prop := fnExactDoorsFromRow.holds Try.pinned (OpenSpec.ofChange fnExactDoorsFromWrong)

/-- 'laws.FnExactHallDistance': WHATEVER THE INPUT: true; the input reads as it did. -/
def fnExactHallDistanceSpec : ChangeSpec := { name := "fnExactHallDistance", fn := fun _ => fun
  | [d1, d2, d3] => { results := [.lit (.bool true)], args := [d1, d2, d3] }
  | _ => none }
def fnExactHallDistanceRow : OpenClaim := { program := "ytknnekidfhooeaa", sum := "be21816abf585d845ea83090b0199d8b72b4cf5aa788537cce9bb77231ed2d84", func := "loop.example/g00991/laws.FnExactHallDistance", spec := "fnExactHallDistance", unfollowed := true, recurses := true, apart := false }
def FnExactHallDistanceSaid : Prop := fnExactHallDistanceRow.holds Try.pinned (OpenSpec.ofChange fnExactHallDistanceSpec)

/-- ITS FALSE NEIGHBOUR: 'it returns false'. Refute it at one input. -/
def fnExactHallDistanceWrong : ChangeSpec := { name := "fnExactHallDistance", fn := fun _ => fun
  | [d1, d2, d3] => { results := [.lit (.bool false)], args := [d1, d2, d3] }
  | _ => none }
def FnExactHallDistanceWrongFalsely : Prop := fnExactHallDistanceRow.holds Try.pinned (OpenSpec.ofChange fnExactHallDistanceWrong)

/-- 'laws.FnExactAreLinked': WHATEVER THE INPUT: true; the input reads as it did. -/
def fnExactAreLinkedSpec : ChangeSpec := { name := "fnExactAreLinked", fn := fun _ => fun
  | [d1, d2] => { results := [.lit (.bool true)], args := [d1, d2] }
  | _ => none }
def fnExactAreLinkedRow : OpenClaim := { program := "ytknnekidfhooeaa", sum := "be21816abf585d845ea83090b0199d8b72b4cf5aa788537cce9bb77231ed2d84", func := "loop.example/g00991/laws.FnExactAreLinked", spec := "fnExactAreLinked", unfollowed := true, recurses := true, apart := false }
def FnExactAreLinkedSaid : Prop := fnExactAreLinkedRow.holds Try.pinned (OpenSpec.ofChange fnExactAreLinkedSpec)

/-- ITS FALSE NEIGHBOUR: 'it returns false'. Refute it at one input. -/
def fnExactAreLinkedWrong : ChangeSpec := { name := "fnExactAreLinked", fn := fun _ => fun
  | [d1, d2] => { results := [.lit (.bool false)], args := [d1, d2] }
  | _ => none }
def FnExactAreLinkedWrongFalsely : Prop := fnExactAreLinkedRow.holds Try.pinned (OpenSpec.ofChange fnExactAreLinkedWrong)

/-- 'laws.FnExactNearestTo': WHATEVER THE INPUT: true; the input reads as it did. -/
def fnExactNearestToSpec : ChangeSpec := { name := "fnExactNearestTo", fn := fun _ => fun
  | [d1, d2, d3] => { results := [.lit (.bool true)], args := [d1, d2, d3] }
  | _ => none }
def fnExactNearestToRow : OpenClaim := { program := "ytknnekidfhooeaa", sum := "be21816abf585d845ea83090b0199d8b72b4cf5aa788537cce9bb77231ed2d84", func := "loop.example/g00991/laws.FnExactNearestTo", spec := "fnExactNearestTo", unfollowed := true, recurses := true, apart := false }
def FnExactNearestToSaid : Prop := fnExactNearestToRow.holds Try.pinned (OpenSpec.ofChange fnExactNearestToSpec)

/-- ITS FALSE NEIGHBOUR: 'it returns false'. Refute it at one input. -/
def fnExactNearestToWrong : ChangeSpec := { name := "fnExactNearestTo", fn := fun _ => fun
  | [d1, d2, d3] => { results := [.lit (.bool false)], args := [d1, d2, d3] }
  | _ => none }
def FnExactNearestToWrongFalsely : Prop := fnExactNearestToRow.holds Try.pinned (OpenSpec.ofChange fnExactNearestToWrong)

/-- 'laws.FnExactWayCost': WHATEVER THE INPUT: true; the input reads as it did. -/
def fnExactWayCostSpec : ChangeSpec := { name := "fnExactWayCost", fn := fun _ => fun
  | [d1, d2, d3] => { results := [.lit (.bool true)], args := [d1, d2, d3] }
  | _ => none }
def fnExactWayCostRow : OpenClaim := { program := "ytknnekidfhooeaa", sum := "be21816abf585d845ea83090b0199d8b72b4cf5aa788537cce9bb77231ed2d84", func := "loop.example/g00991/laws.FnExactWayCost", spec := "fnExactWayCost", unfollowed := true, recurses := true, apart := false }
def FnExactWayCostSaid : Prop := fnExactWayCostRow.holds Try.pinned (OpenSpec.ofChange fnExactWayCostSpec)

/-- ITS FALSE NEIGHBOUR: 'it returns false'. Refute it at one input. -/
def fnExactWayCostWrong : ChangeSpec := { name := "fnExactWayCost", fn := fun _ => fun
  | [d1, d2, d3] => { results := [.lit (.bool false)], args := [d1, d2, d3] }
  | _ => none }
def FnExactWayCostWrongFalsely : Prop := fnExactWayCostRow.holds Try.pinned (OpenSpec.ofChange fnExactWayCostWrong)

/-- 'laws.FnExactStepTowards': WHATEVER THE INPUT: true; the input reads as it did. -/
def fnExactStepTowardsSpec : ChangeSpec := { name := "fnExactStepTowards", fn := fun _ => fun
  | [d1, d2, d3] => { results := [.lit (.bool true)], args := [d1, d2, d3] }
  | _ => none }
def fnExactStepTowardsRow : OpenClaim := { program := "ytknnekidfhooeaa", sum := "be21816abf585d845ea83090b0199d8b72b4cf5aa788537cce9bb77231ed2d84", func := "loop.example/g00991/laws.FnExactStepTowards", spec := "fnExactStepTowards", unfollowed := true, recurses := true, apart := false }
def FnExactStepTowardsSaid : Prop := fnExactStepTowardsRow.holds Try.pinned (OpenSpec.ofChange fnExactStepTowardsSpec)

/-- ITS FALSE NEIGHBOUR: 'it returns false'. Refute it at one input. -/
def fnExactStepTowardsWrong : ChangeSpec := { name := "fnExactStepTowards", fn := fun _ => fun
  | [d1, d2, d3] => { results := [.lit (.bool false)], args := [d1, d2, d3] }
  | _ => none }
def FnExactStepTowardsWrongFalsely : Prop := fnExactStepTowardsRow.holds Try.pinned (OpenSpec.ofChange fnExactStepTowardsWrong)

/-- 'laws.FnExactPlacesOk': WHATEVER THE INPUT: true; the input reads as it did. -/
def fnExactPlacesOkSpec : ChangeSpec := { name := "fnExactPlacesOk", fn := fun _ => fun
  | [d1, d2] => { results := [.lit (.bool true)], args := [d1, d2] }
  | _ => none }
def fnExactPlacesOkRow : OpenClaim := { program := "ytknnekidfhooeaa", sum := "be21816abf585d845ea83090b0199d8b72b4cf5aa788537cce9bb77231ed2d84", func := "loop.example/g00991/laws.FnExactPlacesOk", spec := "fnExactPlacesOk", unfollowed := true, recurses := true, apart := false }
def FnExactPlacesOkSaid : Prop := fnExactPlacesOkRow.holds Try.pinned (OpenSpec.ofChange fnExactPlacesOkSpec)

/-- ITS FALSE NEIGHBOUR: 'it returns false'. Refute it at one input. -/
def fnExactPlacesOkWrong : ChangeSpec := { name := "fnExactPlacesOk", fn := fun _ => fun
  | [d1, d2] => { results := [.lit (.bool false)], args := [d1, d2] }
  | _ => none }
def FnExactPlacesOkWrongFalsely : Prop := fnExactPlacesOkRow.holds Try.pinned (OpenSpec.ofChange fnExactPlacesOkWrong)

/-- 'laws.FnExactRingOk': WHATEVER THE INPUT: true; the input reads as it did. -/
def fnExactRingOkSpec : ChangeSpec := { name := "fnExactRingOk", fn := fun _ => fun
  | [d1, d2] => { results := [.lit (.bool true)], args := [d1, d2] }
  | _ => none }
def fnExactRingOkRow : OpenClaim := { program := "ytknnekidfhooeaa", sum := "be21816abf585d845ea83090b0199d8b72b4cf5aa788537cce9bb77231ed2d84", func := "loop.example/g00991/laws.FnExactRingOk", spec := "fnExactRingOk", unfollowed := true, recurses := true, apart := false }
def FnExactRingOkSaid : Prop := fnExactRingOkRow.holds Try.pinned (OpenSpec.ofChange fnExactRingOkSpec)

/-- ITS FALSE NEIGHBOUR: 'it returns false'. Refute it at one input. -/
def fnExactRingOkWrong : ChangeSpec := { name := "fnExactRingOk", fn := fun _ => fun
  | [d1, d2] => { results := [.lit (.bool false)], args := [d1, d2] }
  | _ => none }
def FnExactRingOkWrongFalsely : Prop := fnExactRingOkRow.holds Try.pinned (OpenSpec.ofChange fnExactRingOkWrong)

/-- 'laws.FnExactHallsWith': WHATEVER THE INPUT: true; the input reads as it did. -/
def fnExactHallsWithSpec : ChangeSpec := { name := "fnExactHallsWith", fn := fun _ => fun
  | [d1, d2, d3] => { results := [.lit (.bool true)], args := [d1, d2, d3] }
  | _ => none }
def fnExactHallsWithRow : OpenClaim := { program := "ytknnekidfhooeaa", sum := "be21816abf585d845ea83090b0199d8b72b4cf5aa788537cce9bb77231ed2d84", func := "loop.example/g00991/laws.FnExactHallsWith", spec := "fnExactHallsWith", unfollowed := true, recurses := true, apart := false }
def FnExactHallsWithSaid : Prop := fnExactHallsWithRow.holds Try.pinned (OpenSpec.ofChange fnExactHallsWithSpec)

/-- ITS FALSE NEIGHBOUR: 'it returns false'. Refute it at one input. -/
def fnExactHallsWithWrong : ChangeSpec := { name := "fnExactHallsWith", fn := fun _ => fun
  | [d1, d2, d3] => { results := [.lit (.bool false)], args := [d1, d2, d3] }
  | _ => none }
def FnExactHallsWithWrongFalsely : Prop := fnExactHallsWithRow.holds Try.pinned (OpenSpec.ofChange fnExactHallsWithWrong)

/-- 'laws.FnExactOrderOk': WHATEVER THE INPUT: true; the input reads as it did. -/
def fnExactOrderOkSpec : ChangeSpec := { name := "fnExactOrderOk", fn := fun _ => fun
  | [d1, d2] => { results := [.lit (.bool true)], args := [d1, d2] }
  | _ => none }
def fnExactOrderOkRow : OpenClaim := { program := "ytknnekidfhooeaa", sum := "be21816abf585d845ea83090b0199d8b72b4cf5aa788537cce9bb77231ed2d84", func := "loop.example/g00991/laws.FnExactOrderOk", spec := "fnExactOrderOk", unfollowed := true, recurses := true, apart := false }
def FnExactOrderOkSaid : Prop := fnExactOrderOkRow.holds Try.pinned (OpenSpec.ofChange fnExactOrderOkSpec)

/-- ITS FALSE NEIGHBOUR: 'it returns false'. Refute it at one input. -/
def fnExactOrderOkWrong : ChangeSpec := { name := "fnExactOrderOk", fn := fun _ => fun
  | [d1, d2] => { results := [.lit (.bool false)], args := [d1, d2] }
  | _ => none }
def FnExactOrderOkWrongFalsely : Prop := fnExactOrderOkRow.holds Try.pinned (OpenSpec.ofChange fnExactOrderOkWrong)

/- THE SECOND FORM. 'bulk': how many values and letters a reading holds, each counted each time it is reached (what is shared counts as often as it is met; a slice's spare places count too). A statement '..UptoSaid' is the law's where the arguments, and the package variables that the reading takes, are together of bulk at most 1048576: NARROWER than '..Said'. Prove '..Said' where nothing that the law and all that it calls make is longer than what came in: it says more and counts as full. Else prove '..UptoSaid'. A law counts once. -/
mutual
def uptoBulk {H : Type} : DataW H → Nat
  | .lit (.string bytes) => bytes.length + 1
  | .lit _ => 1
  | .nil => 1
  | .ptr d => uptoBulk d + 1
  | .slice elems spare => uptoBulkAll elems + uptoBulkAll spare + 1
  | .agg parts => uptoBulkAll parts + 1
  | .iface _ d => uptoBulk d + 1
  | .map entries => uptoBulkEntries entries + 1
  | .held _ => 1
def uptoBulkAll {H : Type} : List (DataW H) → Nat
  | [] => 0
  | d :: r => uptoBulk d + uptoBulkAll r
def uptoBulkEntries {H : Type} : List (Lit × DataW H) → Nat
  | [] => 0
  | x :: r => uptoBulkEntry x + uptoBulkEntries r
def uptoBulkEntry {H : Type} : Lit × DataW H → Nat
  | (.string bytes, d) => bytes.length + uptoBulk d + 1
  | (_, d) => uptoBulk d + 1
 end
def uptoSmall : (H : Type) → List (DataW H) → Bool := fun _ ds => decide (uptoBulkAll ds ≤ 1048576)
def OpenSpec.upto (s : _root_.Go.ChangeSpec) : _root_.Go.OpenSpec := { _root_.Go.OpenSpec.ofChange s with cond := some uptoSmall }

/-- 'laws.FnExactHouseOk', WHERE WHAT IT READS IS OF BULK AT MOST 1048576: true; the input reads as it did. -/
def fnExactHouseOkUptoRow : OpenClaim := { program := "ytknnekidfhooeaa", sum := "be21816abf585d845ea83090b0199d8b72b4cf5aa788537cce9bb77231ed2d84", func := "loop.example/g00991/laws.FnExactHouseOk", spec := "fnExactHouseOk", unfollowed := true, recurses := true, apart := false, narrowed := true }
def FnExactHouseOkUptoSaid : Prop := fnExactHouseOkUptoRow.holds Try.pinned (OpenSpec.upto fnExactHouseOkSpec)

/-- 'laws.FnExactHasDoor', WHERE WHAT IT READS IS OF BULK AT MOST 1048576: true; the input reads as it did. -/
def fnExactHasDoorUptoRow : OpenClaim := { program := "ytknnekidfhooeaa", sum := "be21816abf585d845ea83090b0199d8b72b4cf5aa788537cce9bb77231ed2d84", func := "loop.example/g00991/laws.FnExactHasDoor", spec := "fnExactHasDoor", unfollowed := true, recurses := true, apart := false, narrowed := true }
def FnExactHasDoorUptoSaid : Prop := fnExactHasDoorUptoRow.holds Try.pinned (OpenSpec.upto fnExactHasDoorSpec)

/-- 'laws.FnExactDoorsFrom', WHERE WHAT IT READS IS OF BULK AT MOST 1048576: true; the input reads as it did. -/
def fnExactDoorsFromUptoRow : OpenClaim := { program := "ytknnekidfhooeaa", sum := "be21816abf585d845ea83090b0199d8b72b4cf5aa788537cce9bb77231ed2d84", func := "loop.example/g00991/laws.FnExactDoorsFrom", spec := "fnExactDoorsFrom", unfollowed := true, recurses := true, apart := false, narrowed := true }
def FnExactDoorsFromUptoSaid : Prop := fnExactDoorsFromUptoRow.holds Try.pinned (OpenSpec.upto fnExactDoorsFromSpec)

/-- 'laws.FnExactHallDistance', WHERE WHAT IT READS IS OF BULK AT MOST 1048576: true; the input reads as it did. -/
def fnExactHallDistanceUptoRow : OpenClaim := { program := "ytknnekidfhooeaa", sum := "be21816abf585d845ea83090b0199d8b72b4cf5aa788537cce9bb77231ed2d84", func := "loop.example/g00991/laws.FnExactHallDistance", spec := "fnExactHallDistance", unfollowed := true, recurses := true, apart := false, narrowed := true }
def FnExactHallDistanceUptoSaid : Prop := fnExactHallDistanceUptoRow.holds Try.pinned (OpenSpec.upto fnExactHallDistanceSpec)

/-- 'laws.FnExactAreLinked', WHERE WHAT IT READS IS OF BULK AT MOST 1048576: true; the input reads as it did. -/
def fnExactAreLinkedUptoRow : OpenClaim := { program := "ytknnekidfhooeaa", sum := "be21816abf585d845ea83090b0199d8b72b4cf5aa788537cce9bb77231ed2d84", func := "loop.example/g00991/laws.FnExactAreLinked", spec := "fnExactAreLinked", unfollowed := true, recurses := true, apart := false, narrowed := true }
def FnExactAreLinkedUptoSaid : Prop := fnExactAreLinkedUptoRow.holds Try.pinned (OpenSpec.upto fnExactAreLinkedSpec)

/-- 'laws.FnExactNearestTo', WHERE WHAT IT READS IS OF BULK AT MOST 1048576: true; the input reads as it did. -/
def fnExactNearestToUptoRow : OpenClaim := { program := "ytknnekidfhooeaa", sum := "be21816abf585d845ea83090b0199d8b72b4cf5aa788537cce9bb77231ed2d84", func := "loop.example/g00991/laws.FnExactNearestTo", spec := "fnExactNearestTo", unfollowed := true, recurses := true, apart := false, narrowed := true }
def FnExactNearestToUptoSaid : Prop := fnExactNearestToUptoRow.holds Try.pinned (OpenSpec.upto fnExactNearestToSpec)

/-- 'laws.FnExactWayCost', WHERE WHAT IT READS IS OF BULK AT MOST 1048576: true; the input reads as it did. -/
def fnExactWayCostUptoRow : OpenClaim := { program := "ytknnekidfhooeaa", sum := "be21816abf585d845ea83090b0199d8b72b4cf5aa788537cce9bb77231ed2d84", func := "loop.example/g00991/laws.FnExactWayCost", spec := "fnExactWayCost", unfollowed := true, recurses := true, apart := false, narrowed := true }
def FnExactWayCostUptoSaid : Prop := fnExactWayCostUptoRow.holds Try.pinned (OpenSpec.upto fnExactWayCostSpec)

/-- 'laws.FnExactStepTowards', WHERE WHAT IT READS IS OF BULK AT MOST 1048576: true; the input reads as it did. -/
def fnExactStepTowardsUptoRow : OpenClaim := { program := "ytknnekidfhooeaa", sum := "be21816abf585d845ea83090b0199d8b72b4cf5aa788537cce9bb77231ed2d84", func := "loop.example/g00991/laws.FnExactStepTowards", spec := "fnExactStepTowards", unfollowed := true, recurses := true, apart := false, narrowed := true }
def FnExactStepTowardsUptoSaid : Prop := fnExactStepTowardsUptoRow.holds Try.pinned (OpenSpec.upto fnExactStepTowardsSpec)

/-- 'laws.FnExactPlacesOk', WHERE WHAT IT READS IS OF BULK AT MOST 1048576: true; the input reads as it did. -/
def fnExactPlacesOkUptoRow : OpenClaim := { program := "ytknnekidfhooeaa", sum := "be21816abf585d845ea83090b0199d8b72b4cf5aa788537cce9bb77231ed2d84", func := "loop.example/g00991/laws.FnExactPlacesOk", spec := "fnExactPlacesOk", unfollowed := true, recurses := true, apart := false, narrowed := true }
def FnExactPlacesOkUptoSaid : Prop := fnExactPlacesOkUptoRow.holds Try.pinned (OpenSpec.upto fnExactPlacesOkSpec)

/-- 'laws.FnExactRingOk', WHERE WHAT IT READS IS OF BULK AT MOST 1048576: true; the input reads as it did. -/
def fnExactRingOkUptoRow : OpenClaim := { program := "ytknnekidfhooeaa", sum := "be21816abf585d845ea83090b0199d8b72b4cf5aa788537cce9bb77231ed2d84", func := "loop.example/g00991/laws.FnExactRingOk", spec := "fnExactRingOk", unfollowed := true, recurses := true, apart := false, narrowed := true }
def FnExactRingOkUptoSaid : Prop := fnExactRingOkUptoRow.holds Try.pinned (OpenSpec.upto fnExactRingOkSpec)

/-- 'laws.FnExactHallsWith', WHERE WHAT IT READS IS OF BULK AT MOST 1048576: true; the input reads as it did. -/
def fnExactHallsWithUptoRow : OpenClaim := { program := "ytknnekidfhooeaa", sum := "be21816abf585d845ea83090b0199d8b72b4cf5aa788537cce9bb77231ed2d84", func := "loop.example/g00991/laws.FnExactHallsWith", spec := "fnExactHallsWith", unfollowed := true, recurses := true, apart := false, narrowed := true }
def FnExactHallsWithUptoSaid : Prop := fnExactHallsWithUptoRow.holds Try.pinned (OpenSpec.upto fnExactHallsWithSpec)

/-- 'laws.FnExactOrderOk', WHERE WHAT IT READS IS OF BULK AT MOST 1048576: true; the input reads as it did. -/
def fnExactOrderOkUptoRow : OpenClaim := { program := "ytknnekidfhooeaa", sum := "be21816abf585d845ea83090b0199d8b72b4cf5aa788537cce9bb77231ed2d84", func := "loop.example/g00991/laws.FnExactOrderOk", spec := "fnExactOrderOk", unfollowed := true, recurses := true, apart := false, narrowed := true }
def FnExactOrderOkUptoSaid : Prop := fnExactOrderOkUptoRow.holds Try.pinned (OpenSpec.upto fnExactOrderOkSpec)

end Rows
end Go.Proofs.Ytknnekidfhooeaa
