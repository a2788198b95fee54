/-
  What JoinRings does, as a contract: what it answers; no cell is written.
-/
import Derived.Test.YtjfmllnkjikkbaaGround
import Derived.Test.YtjfmllnkjikkbaaJoinMath
namespace Go.Proofs.Ytjfmllnkjikkbaa.JoinImpl
open Go.RowKit PointMath JoinMath Ints
open PointOk (ret_bool ret_i64 below1 below2 below3)

set_option maxRecDepth 100000 in
set_option maxHeartbeats 3200000 in
theorem joinRings (A : Option Addr) (n cap : Nat) (w : World) (zs : List Int) (hl : zs.length = n) (_hn : n ≤ 1048576) (hp : IntsAt w w.heap.size A zs) :
    Calls Try.prog 35 #[.slice A n cap] w fun e w' => e = .returned (.int .i64 (joinI zs)) ∧ Below w.heap.size w w' := by
  obtain ⟨r, hr⟩ : ∃ r, joinI zs = r := ⟨_, rfl⟩
  have HR := Lib.hid hr
  rw [hr]
  clear hr
  go_enter Try.func35, Try.ntmps35
  go_wp2_with fail
  go_loopw [3, 8] (fun v q wr => ∃ k : Nat, k ≤ n ∧ q = .int .i64 k ∧ v = .int .i64 (orTo zs k) ∧ Hid (∀ j, j < k → 0 ≤ zs.getD j 0) ∧ w = wr)
    (fun _ q _ => n - (intOf q).toNat)
  case atStart => exact ⟨0, Nat.zero_le _, rfl, rfl, Lib.hid (fun j hj => absurd hj (by omega)), rfl⟩
  case round =>
    obtain ⟨k, hkn, rfl, rfl, hw, rfl⟩ := hrel
    by_cases hlt : k < n
    rotate_left
    · obtain rfl : n = k := by omega
      have E : Hid (r = orTo zs n) := Lib.hid (by rw [← HR.out]; exact join_all hl hw.out)
      clear hl HR hw
      go_wp2_with fail
      go_ret
      exact ⟨ret_i64 E.out.symm, Below.refl _ _⟩
    have hk1 : (k : Int) < (n : Int) := by omega
    have hk0 : (0 : Int) ≤ (k : Int) := by omega
    have p0 := at_d (zs := zs) (k := k) (by omega)
    have HN : Hid (orTo zs (k + 1) = bits .or .i64 (orTo zs k) (zs.getD k 0)) := Lib.hid rfl
    have HF : Hid (zs.getD k 0 < 0 → r = 0) := Lib.hid (fun h => by rw [← HR.out]; exact join_no (k := k) (by omega) h)
    have HT : Hid (0 ≤ zs.getD k 0 → ∀ j, j < k + 1 → 0 ≤ zs.getD j 0) := Lib.hid (fun h j hj => by
      rcases Nat.lt_or_ge j k with h1 | h1
      · exact hw.out j h1
      · obtain rfl : j = k := by omega
        exact h)
    generalize zs.getD k 0 = x at *
    generalize orTo zs k = y at *
    obtain ⟨bd, eB, _, pB⟩ := hp.get p0
    subst eB
    obtain ⟨_, _⟩ := pB
    by_cases hx : x < 0
    · have E := Lib.hid (HF.out hx)
      clear HF HT HN hl HR hw p0
      go_wp2_with fail
      go_ret
      exact ⟨ret_i64 E.out.symm, Below.refl _ _⟩
    · have HT2 := Lib.hid (HT.out (by omega))
      clear HF HT hl HR hw p0
      go_wp2_with fail
      go_roundw
      case rel => exact ⟨k + 1, by omega, by go_num, by rw [HN.out], HT2, by first | rfl | trivial⟩
      case measure => simp [intOf]; omega

end Go.Proofs.Ytjfmllnkjikkbaa.JoinImpl

