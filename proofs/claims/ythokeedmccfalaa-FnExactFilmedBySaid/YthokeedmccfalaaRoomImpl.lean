/-
  What the landed functions on rooms do, as contracts: what each answers; new memory alone is written.
-/
import Derived.Test.YthokeedmccfalaaGround
import Derived.Test.YthokeedmccfalaaFacts
namespace Go.Proofs.Ythokeedmccfalaa.RoomImpl
open Go.RowKit PointMath WallMath RoomMath Pts Blk
open PointOk (ret_bool ret_i64 below1 below2 below3)

theorem indexAround (A : Option Addr) (n cap : Nat) (k : Int) (h0 : 0 < n) (hn : n ≤ 1048576) (w : World) :
    Calls Try.prog 156 #[.slice A n cap, .int .i64 k] w fun e w' => e = .returned (.int .i64 (ixI n k)) ∧ w = w' := by
  have hz : ¬ ((n : Int) = 0) := by omega
  have hm := ix_tmod (n := n) (k := k) (by omega)
  obtain ⟨hx1, hx2⟩ := ix_lt (n := n) (k := k) (by omega)
  obtain ⟨r, hr⟩ : ∃ r, k.tmod n = r := ⟨_, rfl⟩
  rw [hr] at hx1 hm
  generalize ixI n k = m at *
  have u1 : IntKind.i64.wrap (r + n) = r + n := IntWalk.i64_in _ (by omega)
  go_enter Try.func156, Try.ntmps156
  go_wp2_with fail
  go_ret
  exact ⟨rfl, rfl⟩

end Go.Proofs.Ythokeedmccfalaa.RoomImpl

