/-
  No cell of these rows narrows 'for every input' (looked for: loops, veiled, ifaces, maps, wideKeys, modest, calm, conditions, laid).
  DERIVED. THE GIVEN ROWS OF THIS SEAT. 8 by the template 'for every input the law returns true; each argument reads behind the call as it read before'; 0 by the template 'total and deterministic' (their statements: YtkhgpdkabhahhabTotals.lean).
  GIVEN WITH THE SEED: the statements are not yours to turn. If you find one false, say at which input.
  Laid BY PROGRAM, IN A SANDBOX (cutbox-rows.mjs): the forced cells as the released guide's own fill.sh prints them over the translation 8feaf79c9e19525a… (all of the seat's roots in one cut). By AI agents, Wed Nov 11 2026. No macro, syntax, notation, axiom, sorry.
-/
import Derived.Test.YtkhgpdkabhahhabChecked
import GoSem.Claim
import GoSem.ClaimJoined
import GoSem.ClaimMapViews
import Derived.JoinedTies
import Derived.KernelRfl
namespace Go.Proofs.Ytkhgpdkabhahhab
/- THE CELL 'sum', in the pinned program and in every row, IS THE sha256 OF THE DUMP (.gsa) THAT YtkhgpdkabhahhabProg.lean LOADS. Nothing in Lean hashes anything: it is a label: what it is worth is what the hold of that sum in a sandbox is worth. -/
noncomputable def Try.pinned : Pinned := { name := "ytkhgpdkabhahhab", sum := "8feaf79c9e19525a5a45038ded9013b9ab0c5f82e8c8d5c11117c8c724efe97b", checked := Try.checked }
namespace Rows
def none {H : Type} : Left H := { results := [], args := [] }

/-- 'laws.FnExactDoMeet': WHATEVER THE INPUT: true; the input reads as it did. -/
def fnExactDoMeetSpec : ChangeSpec := { name := "fnExactDoMeet", fn := fun _ => fun
  | [d1, d2] => { results := [.lit (.bool true)], args := [d1, d2] }
  | _ => none }
def fnExactDoMeetRow : OpenClaim := { program := "ytkhgpdkabhahhab", sum := "8feaf79c9e19525a5a45038ded9013b9ab0c5f82e8c8d5c11117c8c724efe97b", func := "loop.example/g00991/laws.FnExactDoMeet", spec := "fnExactDoMeet", apart := false }
def FnExactDoMeetSaid : Prop := fnExactDoMeetRow.holds Try.pinned (OpenSpec.ofChange fnExactDoMeetSpec)

/-- ITS FALSE NEIGHBOUR: 'it returns false'. Refute it at one input. -/
def fnExactDoMeetWrong : ChangeSpec := { name := "fnExactDoMeet", fn := fun _ => fun
  | [d1, d2] => { results := [.lit (.bool false)], args := [d1, d2] }
  | _ => none }
def FnExactDoMeetWrongFalsely : Prop := fnExactDoMeetRow.holds Try.pinned (OpenSpec.ofChange fnExactDoMeetWrong)

/-- 'laws.FnExactLengthSquare': WHATEVER THE INPUT: true; the input reads as it did. -/
def fnExactLengthSquareSpec : ChangeSpec := { name := "fnExactLengthSquare", fn := fun _ => fun
  | [d] => { results := [.lit (.bool true)], args := [d] }
  | _ => none }
def fnExactLengthSquareRow : OpenClaim := { program := "ytkhgpdkabhahhab", sum := "8feaf79c9e19525a5a45038ded9013b9ab0c5f82e8c8d5c11117c8c724efe97b", func := "loop.example/g00991/laws.FnExactLengthSquare", spec := "fnExactLengthSquare", apart := false }
def FnExactLengthSquareSaid : Prop := fnExactLengthSquareRow.holds Try.pinned (OpenSpec.ofChange fnExactLengthSquareSpec)

/-- ITS FALSE NEIGHBOUR: 'it returns false'. Refute it at one input. -/
def fnExactLengthSquareWrong : ChangeSpec := { name := "fnExactLengthSquare", fn := fun _ => fun
  | [d] => { results := [.lit (.bool false)], args := [d] }
  | _ => none }
def FnExactLengthSquareWrongFalsely : Prop := fnExactLengthSquareRow.holds Try.pinned (OpenSpec.ofChange fnExactLengthSquareWrong)

/-- 'laws.FnExactLatticeSteps': WHATEVER THE INPUT: true; the input reads as it did. -/
def fnExactLatticeStepsSpec : ChangeSpec := { name := "fnExactLatticeSteps", fn := fun _ => fun
  | [d] => { results := [.lit (.bool true)], args := [d] }
  | _ => none }
def fnExactLatticeStepsRow : OpenClaim := { program := "ytkhgpdkabhahhab", sum := "8feaf79c9e19525a5a45038ded9013b9ab0c5f82e8c8d5c11117c8c724efe97b", func := "loop.example/g00991/laws.FnExactLatticeSteps", spec := "fnExactLatticeSteps", apart := false }
def FnExactLatticeStepsSaid : Prop := fnExactLatticeStepsRow.holds Try.pinned (OpenSpec.ofChange fnExactLatticeStepsSpec)

/-- ITS FALSE NEIGHBOUR: 'it returns false'. Refute it at one input. -/
def fnExactLatticeStepsWrong : ChangeSpec := { name := "fnExactLatticeSteps", fn := fun _ => fun
  | [d] => { results := [.lit (.bool false)], args := [d] }
  | _ => none }
def FnExactLatticeStepsWrongFalsely : Prop := fnExactLatticeStepsRow.holds Try.pinned (OpenSpec.ofChange fnExactLatticeStepsWrong)

/-- 'laws.FnExactRoomOk': WHATEVER THE INPUT: true; the input reads as it did. -/
def fnExactRoomOkSpec : ChangeSpec := { name := "fnExactRoomOk", fn := fun _ => fun
  | [d] => { results := [.lit (.bool true)], args := [d] }
  | _ => none }
def fnExactRoomOkRow : OpenClaim := { program := "ytkhgpdkabhahhab", sum := "8feaf79c9e19525a5a45038ded9013b9ab0c5f82e8c8d5c11117c8c724efe97b", func := "loop.example/g00991/laws.FnExactRoomOk", spec := "fnExactRoomOk", apart := false }
def FnExactRoomOkSaid : Prop := fnExactRoomOkRow.holds Try.pinned (OpenSpec.ofChange fnExactRoomOkSpec)

/-- ITS FALSE NEIGHBOUR: 'it returns false'. Refute it at one input. -/
def fnExactRoomOkWrong : ChangeSpec := { name := "fnExactRoomOk", fn := fun _ => fun
  | [d] => { results := [.lit (.bool false)], args := [d] }
  | _ => none }
def FnExactRoomOkWrongFalsely : Prop := fnExactRoomOkRow.holds Try.pinned (OpenSpec.ofChange fnExactRoomOkWrong)

/-- 'laws.FnExactWallOf': WHATEVER THE INPUT: true; the input reads as it did. -/
def fnExactWallOfSpec : ChangeSpec := { name := "fnExactWallOf", fn := fun _ => fun
  | [d1, d2] => { results := [.lit (.bool true)], args := [d1, d2] }
  | _ => none }
def fnExactWallOfRow : OpenClaim := { program := "ytkhgpdkabhahhab", sum := "8feaf79c9e19525a5a45038ded9013b9ab0c5f82e8c8d5c11117c8c724efe97b", func := "loop.example/g00991/laws.FnExactWallOf", spec := "fnExactWallOf", apart := false }
def FnExactWallOfSaid : Prop := fnExactWallOfRow.holds Try.pinned (OpenSpec.ofChange fnExactWallOfSpec)

/-- ITS FALSE NEIGHBOUR: 'it returns false'. Refute it at one input. -/
def fnExactWallOfWrong : ChangeSpec := { name := "fnExactWallOf", fn := fun _ => fun
  | [d1, d2] => { results := [.lit (.bool false)], args := [d1, d2] }
  | _ => none }
def FnExactWallOfWrongFalsely : Prop := fnExactWallOfRow.holds Try.pinned (OpenSpec.ofChange fnExactWallOfWrong)

/-- 'laws.FnExactCornerAt': WHATEVER THE INPUT: true; the input reads as it did. -/
def fnExactCornerAtSpec : ChangeSpec := { name := "fnExactCornerAt", fn := fun _ => fun
  | [d1, d2] => { results := [.lit (.bool true)], args := [d1, d2] }
  | _ => none }
def fnExactCornerAtRow : OpenClaim := { program := "ytkhgpdkabhahhab", sum := "8feaf79c9e19525a5a45038ded9013b9ab0c5f82e8c8d5c11117c8c724efe97b", func := "loop.example/g00991/laws.FnExactCornerAt", spec := "fnExactCornerAt", apart := false }
def FnExactCornerAtSaid : Prop := fnExactCornerAtRow.holds Try.pinned (OpenSpec.ofChange fnExactCornerAtSpec)

/-- ITS FALSE NEIGHBOUR: 'it returns false'. Refute it at one input. -/
def fnExactCornerAtWrong : ChangeSpec := { name := "fnExactCornerAt", fn := fun _ => fun
  | [d1, d2] => { results := [.lit (.bool false)], args := [d1, d2] }
  | _ => none }
def FnExactCornerAtWrongFalsely : Prop := fnExactCornerAtRow.holds Try.pinned (OpenSpec.ofChange fnExactCornerAtWrong)

/-- 'laws.FnExactIsCorner': WHATEVER THE INPUT: true; the input reads as it did. -/
def fnExactIsCornerSpec : ChangeSpec := { name := "fnExactIsCorner", fn := fun _ => fun
  | [d1, d2] => { results := [.lit (.bool true)], args := [d1, d2] }
  | _ => none }
def fnExactIsCornerRow : OpenClaim := { program := "ytkhgpdkabhahhab", sum := "8feaf79c9e19525a5a45038ded9013b9ab0c5f82e8c8d5c11117c8c724efe97b", func := "loop.example/g00991/laws.FnExactIsCorner", spec := "fnExactIsCorner", apart := false }
def FnExactIsCornerSaid : Prop := fnExactIsCornerRow.holds Try.pinned (OpenSpec.ofChange fnExactIsCornerSpec)

/-- ITS FALSE NEIGHBOUR: 'it returns false'. Refute it at one input. -/
def fnExactIsCornerWrong : ChangeSpec := { name := "fnExactIsCorner", fn := fun _ => fun
  | [d1, d2] => { results := [.lit (.bool false)], args := [d1, d2] }
  | _ => none }
def FnExactIsCornerWrongFalsely : Prop := fnExactIsCornerRow.holds Try.pinned (OpenSpec.ofChange fnExactIsCornerWrong)

/-- 'laws.FnExactStartAt': WHATEVER THE INPUT: true; the input reads as it did. -/
def fnExactStartAtSpec : ChangeSpec := { name := "fnExactStartAt", fn := fun _ => fun
  | [d1, d2] => { results := [.lit (.bool true)], args := [d1, d2] }
  | _ => none }
def fnExactStartAtRow : OpenClaim := { program := "ytkhgpdkabhahhab", sum := "8feaf79c9e19525a5a45038ded9013b9ab0c5f82e8c8d5c11117c8c724efe97b", func := "loop.example/g00991/laws.FnExactStartAt", spec := "fnExactStartAt", apart := false }
def FnExactStartAtSaid : Prop := fnExactStartAtRow.holds Try.pinned (OpenSpec.ofChange fnExactStartAtSpec)

/-- ITS FALSE NEIGHBOUR: 'it returns false'. Refute it at one input. -/
def fnExactStartAtWrong : ChangeSpec := { name := "fnExactStartAt", fn := fun _ => fun
  | [d1, d2] => { results := [.lit (.bool false)], args := [d1, d2] }
  | _ => none }
def FnExactStartAtWrongFalsely : Prop := fnExactStartAtRow.holds Try.pinned (OpenSpec.ofChange fnExactStartAtWrong)

/- THE SECOND FORM. 'bulk': how many values and letters a reading holds, each counted each time it is reached (what is shared counts as often as it is met; a slice's spare places count too). A statement '..UptoSaid' is the law's where the arguments, and the package variables that the reading takes, are together of bulk at most 1048576: NARROWER than '..Said'. Prove '..Said' where nothing that the law and all that it calls make is longer than what came in: it says more and counts as full. Else prove '..UptoSaid'. A law counts once. -/
mutual
def uptoBulk {H : Type} : DataW H → Nat
  | .lit (.string bytes) => bytes.length + 1
  | .lit _ => 1
  | .nil => 1
  | .ptr d => uptoBulk d + 1
  | .slice elems spare => uptoBulkAll elems + uptoBulkAll spare + 1
  | .agg parts => uptoBulkAll parts + 1
  | .iface _ d => uptoBulk d + 1
  | .map entries => uptoBulkEntries entries + 1
  | .held _ => 1
def uptoBulkAll {H : Type} : List (DataW H) → Nat
  | [] => 0
  | d :: r => uptoBulk d + uptoBulkAll r
def uptoBulkEntries {H : Type} : List (Lit × DataW H) → Nat
  | [] => 0
  | x :: r => uptoBulkEntry x + uptoBulkEntries r
def uptoBulkEntry {H : Type} : Lit × DataW H → Nat
  | (.string bytes, d) => bytes.length + uptoBulk d + 1
  | (_, d) => uptoBulk d + 1
 end
def uptoSmall : (H : Type) → List (DataW H) → Bool := fun _ ds => decide (uptoBulkAll ds ≤ 1048576)
def OpenSpec.upto (s : _root_.Go.ChangeSpec) : _root_.Go.OpenSpec := { _root_.Go.OpenSpec.ofChange s with cond := some uptoSmall }

/-- 'laws.FnExactDoMeet', WHERE WHAT IT READS IS OF BULK AT MOST 1048576: true; the input reads as it did. -/
def fnExactDoMeetUptoRow : OpenClaim := { program := "ytkhgpdkabhahhab", sum := "8feaf79c9e19525a5a45038ded9013b9ab0c5f82e8c8d5c11117c8c724efe97b", func := "loop.example/g00991/laws.FnExactDoMeet", spec := "fnExactDoMeet", apart := false, narrowed := true }
def FnExactDoMeetUptoSaid : Prop := fnExactDoMeetUptoRow.holds Try.pinned (OpenSpec.upto fnExactDoMeetSpec)

/-- 'laws.FnExactLengthSquare', WHERE WHAT IT READS IS OF BULK AT MOST 1048576: true; the input reads as it did. -/
def fnExactLengthSquareUptoRow : OpenClaim := { program := "ytkhgpdkabhahhab", sum := "8feaf79c9e19525a5a45038ded9013b9ab0c5f82e8c8d5c11117c8c724efe97b", func := "loop.example/g00991/laws.FnExactLengthSquare", spec := "fnExactLengthSquare", apart := false, narrowed := true }
def FnExactLengthSquareUptoSaid : Prop := fnExactLengthSquareUptoRow.holds Try.pinned (OpenSpec.upto fnExactLengthSquareSpec)

/-- 'laws.FnExactLatticeSteps', WHERE WHAT IT READS IS OF BULK AT MOST 1048576: true; the input reads as it did. -/
def fnExactLatticeStepsUptoRow : OpenClaim := { program := "ytkhgpdkabhahhab", sum := "8feaf79c9e19525a5a45038ded9013b9ab0c5f82e8c8d5c11117c8c724efe97b", func := "loop.example/g00991/laws.FnExactLatticeSteps", spec := "fnExactLatticeSteps", apart := false, narrowed := true }
def FnExactLatticeStepsUptoSaid : Prop := fnExactLatticeStepsUptoRow.holds Try.pinned (OpenSpec.upto fnExactLatticeStepsSpec)

/-- 'laws.FnExactRoomOk', WHERE WHAT IT READS IS OF BULK AT MOST 1048576: true; the input reads as it did. -/
def fnExactRoomOkUptoRow : OpenClaim := { program := "ytkhgpdkabhahhab", sum := "8feaf79c9e19525a5a45038ded9013b9ab0c5f82e8c8d5c11117c8c724efe97b", func := "loop.example/g00991/laws.FnExactRoomOk", spec := "fnExactRoomOk", apart := false, narrowed := true }
def FnExactRoomOkUptoSaid : Prop := fnExactRoomOkUptoRow.holds Try.pinned (OpenSpec.upto fnExactRoomOkSpec)

/-- 'laws.FnExactWallOf', WHERE WHAT IT READS IS OF BULK AT MOST 1048576: true; the input reads as it did. -/
def fnExactWallOfUptoRow : OpenClaim := { program := "ytkhgpdkabhahhab", sum := "8feaf79c9e19525a5a45038ded9013b9ab0c5f82e8c8d5c11117c8c724efe97b", func := "loop.example/g00991/laws.FnExactWallOf", spec := "fnExactWallOf", apart := false, narrowed := true }
def FnExactWallOfUptoSaid : Prop := fnExactWallOfUptoRow.holds Try.pinned (OpenSpec.upto fnExactWallOfSpec)

/-- 'laws.FnExactCornerAt', WHERE WHAT IT READS IS OF BULK AT MOST 1048576: true; the input reads as it did. -/
def fnExactCornerAtUptoRow : OpenClaim := { program := "ytkhgpdkabhahhab", sum := "8feaf79c9e19525a5a45038ded9013b9ab0c5f82e8c8d5c11117c8c724efe97b", func := "loop.example/g00991/laws.FnExactCornerAt", spec := "fnExactCornerAt", apart := false, narrowed := true }
def FnExactCornerAtUptoSaid : Prop := fnExactCornerAtUptoRow.holds Try.pinned (OpenSpec.upto fnExactCornerAtSpec)

/-- 'laws.FnExactIsCorner', WHERE WHAT IT READS IS OF BULK AT MOST 1048576: true; the input reads as it did. -/
def fnExactIsCornerUptoRow : OpenClaim := { program := "ytkhgpdkabhahhab", sum := "8feaf79c9e19525a5a45038ded9013b9ab0c5f82e8c8d5c11117c8c724efe97b", func := "loop.example/g00991/laws.FnExactIsCorner", spec := "fnExactIsCorner", apart := false, narrowed := true }
def FnExactIsCornerUptoSaid : Prop := fnExactIsCornerUptoRow.holds Try.pinned (OpenSpec.upto fnExactIsCornerSpec)

/-- 'laws.FnExactStartAt', WHERE WHAT IT READS IS OF BULK AT MOST 1048576: true; the input reads as it did. -/
def fnExactStartAtUptoRow : OpenClaim := { program := "ytkhgpdkabhahhab", sum := "8feaf79c9e19525a5a45038ded9013b9ab0c5f82e8c8d5c11117c8c724efe97b", func := "loop.example/g00991/laws.FnExactStartAt", spec := "fnExactStartAt", apart := false, narrowed := true }
def FnExactStartAtUptoSaid : Prop := fnExactStartAtUptoRow.holds Try.pinned (OpenSpec.upto fnExactStartAtSpec)

end Rows
end Go.Proofs.Ytkhgpdkabhahhab
