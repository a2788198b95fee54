/-
  What the model says of distances of halls and of lists of halls, as contracts.
-/
import Derived.Test.YtagokcbldkbdmaaHouVspec
import Derived.Test.YtagokcbldkbdmaaHouMathB
import Derived.Test.YtagokcbldkbdmaaGround
import Derived.Test.YtagokcbldkbdmaaJoinMath
namespace Go.Proofs.Ytagokcbldkbdmaa.HouWspec
open Go.RowKit Pts Blk HouMath HouMathB HouBox HouMem Ints JoinMath
open Go.Proofs.Ytagokcbldkbdmaa.Own (icells icells_length icells_at)
open PointOk (ret_bool ret_i64 below1 below2 below3)

theorem has (H : Int) (A : Option Addr) (n cap : Nat) (x : Int) (w : World) (ds : List (Int × Int)) (hl : ds.length = n) (hn : n ≤ 1048576) (hp : PtsAt w w.heap.size A ds) :
    Calls Try.prog 65 #[.agg #[.int .i64 H, .slice A n cap], .int .i64 x] w fun e w' => e = .returned (.bool (hallOf H ds x)) ∧ Below w.heap.size w w' := by
  have h := HouVspec.has H A n cap x w ds hl hn hp
  rw [show HouVspec.hasB H ds x = hallOf H ds x by unfold HouVspec.hasB hallOf; rw [inH_le]] at h
  exact h

end Go.Proofs.Ytagokcbldkbdmaa.HouWspec

