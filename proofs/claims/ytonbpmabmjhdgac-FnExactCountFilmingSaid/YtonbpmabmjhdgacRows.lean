/-
  No cell of these rows narrows 'for every input' (looked for: loops, veiled, ifaces, maps, wideKeys, modest, calm, conditions, laid).
  DERIVED. THE GIVEN ROWS OF THIS SEAT. 12 by the template 'for every input the law returns true; each argument reads behind the call as it read before'; 0 by the template 'total and deterministic' (their statements: YtonbpmabmjhdgacTotals.lean).
  GIVEN WITH THE SEED: the statements are not yours to turn. If you find one false, say at which input.
  Laid BY PROGRAM, IN A SANDBOX (cutbox-rows.mjs): the forced cells as the released guide's own fill.sh prints them over the translation 214787260a233cdb… (all of the seat's roots in one cut). By AI agents, Wed Nov 11 2026. No macro, syntax, notation, axiom, sorry.
-/
import Derived.Test.YtonbpmabmjhdgacChecked
import GoSem.Claim
import GoSem.ClaimJoined
import GoSem.ClaimMapViews
import Derived.JoinedTies
import Derived.KernelRfl
namespace Go.Proofs.Ytonbpmabmjhdgac
/- THE CELL 'sum', in the pinned program and in every row, IS THE sha256 OF THE DUMP (.gsa) THAT YtonbpmabmjhdgacProg.lean LOADS. Nothing in Lean hashes anything: it is a label: what it is worth is what the hold of that sum in a sandbox is worth. -/
noncomputable def Try.pinned : Pinned := { name := "ytonbpmabmjhdgac", sum := "214787260a233cdb8a950b729cbb20ea54939a26b0ffaf5ced407fa6d18e11e6", checked := Try.checked }
namespace Rows
def none {H : Type} : Left H := { results := [], args := [] }

/-- 'laws.FnExactWatchesAll': WHATEVER THE INPUT: true; the input reads as it did. -/
def fnExactWatchesAllSpec : ChangeSpec := { name := "fnExactWatchesAll", fn := fun _ => fun
  | [d1, d2] => { results := [.lit (.bool true)], args := [d1, d2] }
  | _ => none }
def fnExactWatchesAllRow : OpenClaim := { program := "ytonbpmabmjhdgac", sum := "214787260a233cdb8a950b729cbb20ea54939a26b0ffaf5ced407fa6d18e11e6", func := "loop.example/g00991/laws.FnExactWatchesAll", spec := "fnExactWatchesAll", unfollowed := true, recurses := true, plainKeys := false, apart := false }
def FnExactWatchesAllSaid : Prop := fnExactWatchesAllRow.holds Try.pinned (OpenSpec.ofChange fnExactWatchesAllSpec)

/-- ITS FALSE NEIGHBOUR: 'it returns false'. Refute it at one input. -/
def fnExactWatchesAllWrong : ChangeSpec := { name := "fnExactWatchesAll", fn := fun _ => fun
  | [d1, d2] => { results := [.lit (.bool false)], args := [d1, d2] }
  | _ => none }
def FnExactWatchesAllWrongFalsely : Prop := fnExactWatchesAllRow.holds Try.pinned (OpenSpec.ofChange fnExactWatchesAllWrong)

/-- 'laws.FnExactWorstGap': WHATEVER THE INPUT: true; the input reads as it did. -/
def fnExactWorstGapSpec : ChangeSpec := { name := "fnExactWorstGap", fn := fun _ => fun
  | [d1, d2] => { results := [.lit (.bool true)], args := [d1, d2] }
  | _ => none }
def fnExactWorstGapRow : OpenClaim := { program := "ytonbpmabmjhdgac", sum := "214787260a233cdb8a950b729cbb20ea54939a26b0ffaf5ced407fa6d18e11e6", func := "loop.example/g00991/laws.FnExactWorstGap", spec := "fnExactWorstGap", unfollowed := true, recurses := true, plainKeys := false, apart := false }
def FnExactWorstGapSaid : Prop := fnExactWorstGapRow.holds Try.pinned (OpenSpec.ofChange fnExactWorstGapSpec)

/-- ITS FALSE NEIGHBOUR: 'it returns false'. Refute it at one input. -/
def fnExactWorstGapWrong : ChangeSpec := { name := "fnExactWorstGap", fn := fun _ => fun
  | [d1, d2] => { results := [.lit (.bool false)], args := [d1, d2] }
  | _ => none }
def FnExactWorstGapWrongFalsely : Prop := fnExactWorstGapRow.holds Try.pinned (OpenSpec.ofChange fnExactWorstGapWrong)

/-- 'laws.FnExactFilms': WHATEVER THE INPUT: true; the input reads as it did. -/
def fnExactFilmsSpec : ChangeSpec := { name := "fnExactFilms", fn := fun _ => fun
  | [d1, d2, d3] => { results := [.lit (.bool true)], args := [d1, d2, d3] }
  | _ => none }
def fnExactFilmsRow : OpenClaim := { program := "ytonbpmabmjhdgac", sum := "214787260a233cdb8a950b729cbb20ea54939a26b0ffaf5ced407fa6d18e11e6", func := "loop.example/g00991/laws.FnExactFilms", spec := "fnExactFilms", unfollowed := true, recurses := true, plainKeys := false, apart := false }
def FnExactFilmsSaid : Prop := fnExactFilmsRow.holds Try.pinned (OpenSpec.ofChange fnExactFilmsSpec)

/-- ITS FALSE NEIGHBOUR: 'it returns false'. Refute it at one input. -/
def fnExactFilmsWrong : ChangeSpec := { name := "fnExactFilms", fn := fun _ => fun
  | [d1, d2, d3] => { results := [.lit (.bool false)], args := [d1, d2, d3] }
  | _ => none }
def FnExactFilmsWrongFalsely : Prop := fnExactFilmsRow.holds Try.pinned (OpenSpec.ofChange fnExactFilmsWrong)

/-- 'laws.FnExactFilmedBy': WHATEVER THE INPUT: true; the input reads as it did. -/
def fnExactFilmedBySpec : ChangeSpec := { name := "fnExactFilmedBy", fn := fun _ => fun
  | [d1, d2] => { results := [.lit (.bool true)], args := [d1, d2] }
  | _ => none }
def fnExactFilmedByRow : OpenClaim := { program := "ytonbpmabmjhdgac", sum := "214787260a233cdb8a950b729cbb20ea54939a26b0ffaf5ced407fa6d18e11e6", func := "loop.example/g00991/laws.FnExactFilmedBy", spec := "fnExactFilmedBy", unfollowed := true, recurses := true, plainKeys := false, apart := false }
def FnExactFilmedBySaid : Prop := fnExactFilmedByRow.holds Try.pinned (OpenSpec.ofChange fnExactFilmedBySpec)

/-- ITS FALSE NEIGHBOUR: 'it returns false'. Refute it at one input. -/
def fnExactFilmedByWrong : ChangeSpec := { name := "fnExactFilmedBy", fn := fun _ => fun
  | [d1, d2] => { results := [.lit (.bool false)], args := [d1, d2] }
  | _ => none }
def FnExactFilmedByWrongFalsely : Prop := fnExactFilmedByRow.holds Try.pinned (OpenSpec.ofChange fnExactFilmedByWrong)

/-- 'laws.FnExactCountFilming': WHATEVER THE INPUT: true; the input reads as it did. -/
def fnExactCountFilmingSpec : ChangeSpec := { name := "fnExactCountFilming", fn := fun _ => fun
  | [d1, d2, d3] => { results := [.lit (.bool true)], args := [d1, d2, d3] }
  | _ => none }
def fnExactCountFilmingRow : OpenClaim := { program := "ytonbpmabmjhdgac", sum := "214787260a233cdb8a950b729cbb20ea54939a26b0ffaf5ced407fa6d18e11e6", func := "loop.example/g00991/laws.FnExactCountFilming", spec := "fnExactCountFilming", unfollowed := true, recurses := true, plainKeys := false, apart := false }
def FnExactCountFilmingSaid : Prop := fnExactCountFilmingRow.holds Try.pinned (OpenSpec.ofChange fnExactCountFilmingSpec)

/-- ITS FALSE NEIGHBOUR: 'it returns false'. Refute it at one input. -/
def fnExactCountFilmingWrong : ChangeSpec := { name := "fnExactCountFilming", fn := fun _ => fun
  | [d1, d2, d3] => { results := [.lit (.bool false)], args := [d1, d2, d3] }
  | _ => none }
def FnExactCountFilmingWrongFalsely : Prop := fnExactCountFilmingRow.holds Try.pinned (OpenSpec.ofChange fnExactCountFilmingWrong)

/-- 'laws.FnExactHouseOk': WHATEVER THE INPUT: true; the input reads as it did. -/
def fnExactHouseOkSpec : ChangeSpec := { name := "fnExactHouseOk", fn := fun _ => fun
  | [d] => { results := [.lit (.bool true)], args := [d] }
  | _ => none }
def fnExactHouseOkRow : OpenClaim := { program := "ytonbpmabmjhdgac", sum := "214787260a233cdb8a950b729cbb20ea54939a26b0ffaf5ced407fa6d18e11e6", func := "loop.example/g00991/laws.FnExactHouseOk", spec := "fnExactHouseOk", unfollowed := true, recurses := true, plainKeys := false, apart := false }
def FnExactHouseOkSaid : Prop := fnExactHouseOkRow.holds Try.pinned (OpenSpec.ofChange fnExactHouseOkSpec)

/-- ITS FALSE NEIGHBOUR: 'it returns false'. Refute it at one input. -/
def fnExactHouseOkWrong : ChangeSpec := { name := "fnExactHouseOk", fn := fun _ => fun
  | [d] => { results := [.lit (.bool false)], args := [d] }
  | _ => none }
def FnExactHouseOkWrongFalsely : Prop := fnExactHouseOkRow.holds Try.pinned (OpenSpec.ofChange fnExactHouseOkWrong)

/-- 'laws.FnExactHasDoor': WHATEVER THE INPUT: true; the input reads as it did. -/
def fnExactHasDoorSpec : ChangeSpec := { name := "fnExactHasDoor", fn := fun _ => fun
  | [d1, d2, d3] => { results := [.lit (.bool true)], args := [d1, d2, d3] }
  | _ => none }
def fnExactHasDoorRow : OpenClaim := { program := "ytonbpmabmjhdgac", sum := "214787260a233cdb8a950b729cbb20ea54939a26b0ffaf5ced407fa6d18e11e6", func := "loop.example/g00991/laws.FnExactHasDoor", spec := "fnExactHasDoor", unfollowed := true, recurses := true, plainKeys := false, apart := false }
def FnExactHasDoorSaid : Prop := fnExactHasDoorRow.holds Try.pinned (OpenSpec.ofChange fnExactHasDoorSpec)

/-- ITS FALSE NEIGHBOUR: 'it returns false'. Refute it at one input. -/
def fnExactHasDoorWrong : ChangeSpec := { name := "fnExactHasDoor", fn := fun _ => fun
  | [d1, d2, d3] => { results := [.lit (.bool false)], args := [d1, d2, d3] }
  | _ => none }
def FnExactHasDoorWrongFalsely : Prop := fnExactHasDoorRow.holds Try.pinned (OpenSpec.ofChange fnExactHasDoorWrong)

/-- 'laws.FnExactDoorsFrom': WHATEVER THE INPUT: true; the input reads as it did. -/
def fnExactDoorsFromSpec : ChangeSpec := { name := "fnExactDoorsFrom", fn := fun _ => fun
  | [d1, d2] => { results := [.lit (.bool true)], args := [d1, d2] }
  | _ => none }
def fnExactDoorsFromRow : OpenClaim := { program := "ytonbpmabmjhdgac", sum := "214787260a233cdb8a950b729cbb20ea54939a26b0ffaf5ced407fa6d18e11e6", func := "loop.example/g00991/laws.FnExactDoorsFrom", spec := "fnExactDoorsFrom", unfollowed := true, recurses := true, plainKeys := false, apart := false }
def FnExactDoorsFromSaid : Prop := fnExactDoorsFromRow.holds Try.pinned (OpenSpec.ofChange fnExactDoorsFromSpec)

/-- ITS FALSE NEIGHBOUR: 'it returns false'. Refute it at one input. -/
def fnExactDoorsFromWrong : ChangeSpec := { name := "fnExactDoorsFrom", fn := fun _ => fun
  | [d1, d2] => { results := [.lit (.bool false)], args := [d1, d2] }
  | _ => none }
def FnExactDoorsFromWrongFalsely : Prop := fnExactDoorsFromRow.holds Try.pinned (OpenSpec.ofChange fnExactDoorsFromWrong)

/-- 'laws.FnExactHallDistance': WHATEVER THE INPUT: true; the input reads as it did. -/
def fnExactHallDistanceSpec : ChangeSpec := { name := "fnExactHallDistance", fn := fun _ => fun
  | [d1, d2, d3] => { results := [.lit (.bool true)], args := [d1, d2, d3] }
  | _ => none }
def fnExactHallDistanceRow : OpenClaim := { program := "ytonbpmabmjhdgac", sum := "214787260a233cdb8a950b729cbb20ea54939a26b0ffaf5ced407fa6d18e11e6", func := "loop.example/g00991/laws.FnExactHallDistance", spec := "fnExactHallDistance", unfollowed := true, recurses := true, plainKeys := false, apart := false }
def FnExactHallDistanceSaid : Prop := fnExactHallDistanceRow.holds Try.pinned (OpenSpec.ofChange fnExactHallDistanceSpec)

/-- ITS FALSE NEIGHBOUR: 'it returns false'. Refute it at one input. -/
def fnExactHallDistanceWrong : ChangeSpec := { name := "fnExactHallDistance", fn := fun _ => fun
  | [d1, d2, d3] => { results := [.lit (.bool false)], args := [d1, d2, d3] }
  | _ => none }
def FnExactHallDistanceWrongFalsely : Prop := fnExactHallDistanceRow.holds Try.pinned (OpenSpec.ofChange fnExactHallDistanceWrong)

/-- 'laws.FnExactAreLinked': WHATEVER THE INPUT: true; the input reads as it did. -/
def fnExactAreLinkedSpec : ChangeSpec := { name := "fnExactAreLinked", fn := fun _ => fun
  | [d1, d2] => { results := [.lit (.bool true)], args := [d1, d2] }
  | _ => none }
def fnExactAreLinkedRow : OpenClaim := { program := "ytonbpmabmjhdgac", sum := "214787260a233cdb8a950b729cbb20ea54939a26b0ffaf5ced407fa6d18e11e6", func := "loop.example/g00991/laws.FnExactAreLinked", spec := "fnExactAreLinked", unfollowed := true, recurses := true, plainKeys := false, apart := false }
def FnExactAreLinkedSaid : Prop := fnExactAreLinkedRow.holds Try.pinned (OpenSpec.ofChange fnExactAreLinkedSpec)

/-- ITS FALSE NEIGHBOUR: 'it returns false'. Refute it at one input. -/
def fnExactAreLinkedWrong : ChangeSpec := { name := "fnExactAreLinked", fn := fun _ => fun
  | [d1, d2] => { results := [.lit (.bool false)], args := [d1, d2] }
  | _ => none }
def FnExactAreLinkedWrongFalsely : Prop := fnExactAreLinkedRow.holds Try.pinned (OpenSpec.ofChange fnExactAreLinkedWrong)

/-- 'laws.FnExactOrderOk': WHATEVER THE INPUT: true; the input reads as it did. -/
def fnExactOrderOkSpec : ChangeSpec := { name := "fnExactOrderOk", fn := fun _ => fun
  | [d1, d2] => { results := [.lit (.bool true)], args := [d1, d2] }
  | _ => none }
def fnExactOrderOkRow : OpenClaim := { program := "ytonbpmabmjhdgac", sum := "214787260a233cdb8a950b729cbb20ea54939a26b0ffaf5ced407fa6d18e11e6", func := "loop.example/g00991/laws.FnExactOrderOk", spec := "fnExactOrderOk", unfollowed := true, recurses := true, plainKeys := false, apart := false }
def FnExactOrderOkSaid : Prop := fnExactOrderOkRow.holds Try.pinned (OpenSpec.ofChange fnExactOrderOkSpec)

/-- ITS FALSE NEIGHBOUR: 'it returns false'. Refute it at one input. -/
def fnExactOrderOkWrong : ChangeSpec := { name := "fnExactOrderOk", fn := fun _ => fun
  | [d1, d2] => { results := [.lit (.bool false)], args := [d1, d2] }
  | _ => none }
def FnExactOrderOkWrongFalsely : Prop := fnExactOrderOkRow.holds Try.pinned (OpenSpec.ofChange fnExactOrderOkWrong)

/-- 'laws.FnExactGuardsAfter': WHATEVER THE INPUT: true; the input reads as it did. -/
def fnExactGuardsAfterSpec : ChangeSpec := { name := "fnExactGuardsAfter", fn := fun _ => fun
  | [d1, d2] => { results := [.lit (.bool true)], args := [d1, d2] }
  | _ => none }
def fnExactGuardsAfterRow : OpenClaim := { program := "ytonbpmabmjhdgac", sum := "214787260a233cdb8a950b729cbb20ea54939a26b0ffaf5ced407fa6d18e11e6", func := "loop.example/g00991/laws.FnExactGuardsAfter", spec := "fnExactGuardsAfter", unfollowed := true, recurses := true, plainKeys := false, apart := false }
def FnExactGuardsAfterSaid : Prop := fnExactGuardsAfterRow.holds Try.pinned (OpenSpec.ofChange fnExactGuardsAfterSpec)

/-- ITS FALSE NEIGHBOUR: 'it returns false'. Refute it at one input. -/
def fnExactGuardsAfterWrong : ChangeSpec := { name := "fnExactGuardsAfter", fn := fun _ => fun
  | [d1, d2] => { results := [.lit (.bool false)], args := [d1, d2] }
  | _ => none }
def FnExactGuardsAfterWrongFalsely : Prop := fnExactGuardsAfterRow.holds Try.pinned (OpenSpec.ofChange fnExactGuardsAfterWrong)

/- THE SECOND FORM. 'bulk': how many values and letters a reading holds, each counted each time it is reached (what is shared counts as often as it is met; a slice's spare places count too). A statement '..UptoSaid' is the law's where the arguments, and the package variables that the reading takes, are together of bulk at most 1048576: NARROWER than '..Said'. Prove '..Said' where nothing that the law and all that it calls make is longer than what came in: it says more and counts as full. Else prove '..UptoSaid'. A law counts once. -/
mutual
def uptoBulk {H : Type} : DataW H → Nat
  | .lit (.string bytes) => bytes.length + 1
  | .lit _ => 1
  | .nil => 1
  | .ptr d => uptoBulk d + 1
  | .slice elems spare => uptoBulkAll elems + uptoBulkAll spare + 1
  | .agg parts => uptoBulkAll parts + 1
  | .iface _ d => uptoBulk d + 1
  | .map entries => uptoBulkEntries entries + 1
  | .held _ => 1
def uptoBulkAll {H : Type} : List (DataW H) → Nat
  | [] => 0
  | d :: r => uptoBulk d + uptoBulkAll r
def uptoBulkEntries {H : Type} : List (Lit × DataW H) → Nat
  | [] => 0
  | x :: r => uptoBulkEntry x + uptoBulkEntries r
def uptoBulkEntry {H : Type} : Lit × DataW H → Nat
  | (.string bytes, d) => bytes.length + uptoBulk d + 1
  | (_, d) => uptoBulk d + 1
 end
def uptoSmall : (H : Type) → List (DataW H) → Bool := fun _ ds => decide (uptoBulkAll ds ≤ 1048576)
def OpenSpec.upto (s : _root_.Go.ChangeSpec) : _root_.Go.OpenSpec := { _root_.Go.OpenSpec.ofChange s with cond := some uptoSmall }

/-- 'laws.FnExactWatchesAll', WHERE WHAT IT READS IS OF BULK AT MOST 1048576: true; the input reads as it did. -/
def fnExactWatchesAllUptoRow : OpenClaim := { program := "ytonbpmabmjhdgac", sum := "214787260a233cdb8a950b729cbb20ea54939a26b0ffaf5ced407fa6d18e11e6", func := "loop.example/g00991/laws.FnExactWatchesAll", spec := "fnExactWatchesAll", unfollowed := true, recurses := true, plainKeys := false, apart := false, narrowed := true }
def FnExactWatchesAllUptoSaid : Prop := fnExactWatchesAllUptoRow.holds Try.pinned (OpenSpec.upto fnExactWatchesAllSpec)

/-- 'laws.FnExactWorstGap', WHERE WHAT IT READS IS OF BULK AT MOST 1048576: true; the input reads as it did. -/
def fnExactWorstGapUptoRow : OpenClaim := { program := "ytonbpmabmjhdgac", sum := "214787260a233cdb8a950b729cbb20ea54939a26b0ffaf5ced407fa6d18e11e6", func := "loop.example/g00991/laws.FnExactWorstGap", spec := "fnExactWorstGap", unfollowed := true, recurses := true, plainKeys := false, apart := false, narrowed := true }
def FnExactWorstGapUptoSaid : Prop := fnExactWorstGapUptoRow.holds Try.pinned (OpenSpec.upto fnExactWorstGapSpec)

/-- 'laws.FnExactFilms', WHERE WHAT IT READS IS OF BULK AT MOST 1048576: true; the input reads as it did. -/
def fnExactFilmsUptoRow : OpenClaim := { program := "ytonbpmabmjhdgac", sum := "214787260a233cdb8a950b729cbb20ea54939a26b0ffaf5ced407fa6d18e11e6", func := "loop.example/g00991/laws.FnExactFilms", spec := "fnExactFilms", unfollowed := true, recurses := true, plainKeys := false, apart := false, narrowed := true }
def FnExactFilmsUptoSaid : Prop := fnExactFilmsUptoRow.holds Try.pinned (OpenSpec.upto fnExactFilmsSpec)

/-- 'laws.FnExactFilmedBy', WHERE WHAT IT READS IS OF BULK AT MOST 1048576: true; the input reads as it did. -/
def fnExactFilmedByUptoRow : OpenClaim := { program := "ytonbpmabmjhdgac", sum := "214787260a233cdb8a950b729cbb20ea54939a26b0ffaf5ced407fa6d18e11e6", func := "loop.example/g00991/laws.FnExactFilmedBy", spec := "fnExactFilmedBy", unfollowed := true, recurses := true, plainKeys := false, apart := false, narrowed := true }
def FnExactFilmedByUptoSaid : Prop := fnExactFilmedByUptoRow.holds Try.pinned (OpenSpec.upto fnExactFilmedBySpec)

/-- 'laws.FnExactCountFilming', WHERE WHAT IT READS IS OF BULK AT MOST 1048576: true; the input reads as it did. -/
def fnExactCountFilmingUptoRow : OpenClaim := { program := "ytonbpmabmjhdgac", sum := "214787260a233cdb8a950b729cbb20ea54939a26b0ffaf5ced407fa6d18e11e6", func := "loop.example/g00991/laws.FnExactCountFilming", spec := "fnExactCountFilming", unfollowed := true, recurses := true, plainKeys := false, apart := false, narrowed := true }
def FnExactCountFilmingUptoSaid : Prop := fnExactCountFilmingUptoRow.holds Try.pinned (OpenSpec.upto fnExactCountFilmingSpec)

/-- 'laws.FnExactHouseOk', WHERE WHAT IT READS IS OF BULK AT MOST 1048576: true; the input reads as it did. -/
def fnExactHouseOkUptoRow : OpenClaim := { program := "ytonbpmabmjhdgac", sum := "214787260a233cdb8a950b729cbb20ea54939a26b0ffaf5ced407fa6d18e11e6", func := "loop.example/g00991/laws.FnExactHouseOk", spec := "fnExactHouseOk", unfollowed := true, recurses := true, plainKeys := false, apart := false, narrowed := true }
def FnExactHouseOkUptoSaid : Prop := fnExactHouseOkUptoRow.holds Try.pinned (OpenSpec.upto fnExactHouseOkSpec)

/-- 'laws.FnExactHasDoor', WHERE WHAT IT READS IS OF BULK AT MOST 1048576: true; the input reads as it did. -/
def fnExactHasDoorUptoRow : OpenClaim := { program := "ytonbpmabmjhdgac", sum := "214787260a233cdb8a950b729cbb20ea54939a26b0ffaf5ced407fa6d18e11e6", func := "loop.example/g00991/laws.FnExactHasDoor", spec := "fnExactHasDoor", unfollowed := true, recurses := true, plainKeys := false, apart := false, narrowed := true }
def FnExactHasDoorUptoSaid : Prop := fnExactHasDoorUptoRow.holds Try.pinned (OpenSpec.upto fnExactHasDoorSpec)

/-- 'laws.FnExactDoorsFrom', WHERE WHAT IT READS IS OF BULK AT MOST 1048576: true; the input reads as it did. -/
def fnExactDoorsFromUptoRow : OpenClaim := { program := "ytonbpmabmjhdgac", sum := "214787260a233cdb8a950b729cbb20ea54939a26b0ffaf5ced407fa6d18e11e6", func := "loop.example/g00991/laws.FnExactDoorsFrom", spec := "fnExactDoorsFrom", unfollowed := true, recurses := true, plainKeys := false, apart := false, narrowed := true }
def FnExactDoorsFromUptoSaid : Prop := fnExactDoorsFromUptoRow.holds Try.pinned (OpenSpec.upto fnExactDoorsFromSpec)

/-- 'laws.FnExactHallDistance', WHERE WHAT IT READS IS OF BULK AT MOST 1048576: true; the input reads as it did. -/
def fnExactHallDistanceUptoRow : OpenClaim := { program := "ytonbpmabmjhdgac", sum := "214787260a233cdb8a950b729cbb20ea54939a26b0ffaf5ced407fa6d18e11e6", func := "loop.example/g00991/laws.FnExactHallDistance", spec := "fnExactHallDistance", unfollowed := true, recurses := true, plainKeys := false, apart := false, narrowed := true }
def FnExactHallDistanceUptoSaid : Prop := fnExactHallDistanceUptoRow.holds Try.pinned (OpenSpec.upto fnExactHallDistanceSpec)

/-- 'laws.FnExactAreLinked', WHERE WHAT IT READS IS OF BULK AT MOST 1048576: true; the input reads as it did. -/
def fnExactAreLinkedUptoRow : OpenClaim := { program := "ytonbpmabmjhdgac", sum := "214787260a233cdb8a950b729cbb20ea54939a26b0ffaf5ced407fa6d18e11e6", func := "loop.example/g00991/laws.FnExactAreLinked", spec := "fnExactAreLinked", unfollowed := true, recurses := true, plainKeys := false, apart := false, narrowed := true }
def FnExactAreLinkedUptoSaid : Prop := fnExactAreLinkedUptoRow.holds Try.pinned (OpenSpec.upto fnExactAreLinkedSpec)

/-- 'laws.FnExactOrderOk', WHERE WHAT IT READS IS OF BULK AT MOST 1048576: true; the input reads as it did. -/
def fnExactOrderOkUptoRow : OpenClaim := { program := "ytonbpmabmjhdgac", sum := "214787260a233cdb8a950b729cbb20ea54939a26b0ffaf5ced407fa6d18e11e6", func := "loop.example/g00991/laws.FnExactOrderOk", spec := "fnExactOrderOk", unfollowed := true, recurses := true, plainKeys := false, apart := false, narrowed := true }
def FnExactOrderOkUptoSaid : Prop := fnExactOrderOkUptoRow.holds Try.pinned (OpenSpec.upto fnExactOrderOkSpec)

/-- 'laws.FnExactGuardsAfter', WHERE WHAT IT READS IS OF BULK AT MOST 1048576: true; the input reads as it did. -/
def fnExactGuardsAfterUptoRow : OpenClaim := { program := "ytonbpmabmjhdgac", sum := "214787260a233cdb8a950b729cbb20ea54939a26b0ffaf5ced407fa6d18e11e6", func := "loop.example/g00991/laws.FnExactGuardsAfter", spec := "fnExactGuardsAfter", unfollowed := true, recurses := true, plainKeys := false, apart := false, narrowed := true }
def FnExactGuardsAfterUptoSaid : Prop := fnExactGuardsAfterUptoRow.holds Try.pinned (OpenSpec.upto fnExactGuardsAfterSpec)

end Rows
end Go.Proofs.Ytonbpmabmjhdgac
