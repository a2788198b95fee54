/-
  What the landed WallOf does, as a contract: what it answers; new memory alone is written.
-/
import Derived.Test.YthokeedmccfalaaRoomOkImpl
namespace Go.Proofs.Ythokeedmccfalaa.WallOfImpl
open Go.RowKit PointMath WallMath RoomMath Pts Blk
open PointOk (ret_bool ret_i64 below1 below2 below3)

theorem hasCorner (A : Option Addr) (n cap : Nat) (k : Int) (w : World) :
    Calls Try.prog 117 #[.agg #[.slice A n cap], .int .i64 k] w fun e w' => e = .returned (.bool (decide (0 ≤ k ∧ k < (n : Int)))) ∧ Below w.heap.size w w' := by
  by_cases h1 : 0 ≤ k
  · by_cases h2 : k < (n : Int)
    · go_enter Try.func117, Try.ntmps117
      go_wp2_with fail
      go_ret
      exact ⟨ret_bool (by simp; omega), below1 _ _⟩
    · go_enter Try.func117, Try.ntmps117
      go_wp2_with fail
      go_ret
      exact ⟨ret_bool (by simp; omega), below1 _ _⟩
  · go_enter Try.func117, Try.ntmps117
    go_wp2_with fail
    go_ret
    exact ⟨ret_bool (by simp; omega), below1 _ _⟩

end Go.Proofs.Ythokeedmccfalaa.WallOfImpl

