/-
  The law marks a slice of numbers that came in, behind a room: as contracts.
-/
import Derived.Test.YtagokcbldkbdmaaLawInt
import Derived.Test.YtagokcbldkbdmaaLawInts
namespace Go.Proofs.Ytagokcbldkbdmaa.LawMarks
open Go.RowKit Go.Lib Own Pts LawInt Blk
open PointOk (ret_i64)

theorem own_of_ints {w : World} {g n b : Nat} {T : TypeId} {zs : List Int} (h : Ints.Row w g T zs) (hl : zs.length = n) (hn : n ≤ 1048576) (hb : b ≤ g) : w.ownsRow b T 1 (.slice (some ⟨g, 0, none⟩) n n) n (icells zs) :=
  ⟨by rw [icells_length, hl, Nat.mul_one], .inr ⟨g, n, _, rfl, hb, h, Nat.le_refl _, by unfold maxLen; omega, by simp [icells_length, hl], List.take_of_length_le (by simp [icells_length, hl])⟩⟩

set_option maxRecDepth 100000 in
set_option maxHeartbeats 800000 in
theorem markIL (w : World) (b n k : Nat) (hn : n ≤ 1048576) (hk : 0 < k) (hk2 : k ≤ 3000000) (v : Value) (xs : List Value) (h1 : w.ownsRow b 3 1 v n xs) :
    Calls Try.prog 18 #[v, .int .i64 (k : Int)] w (MarkP w b 3 1 v k n) := by
  have hlen : xs.length = n := by have := h1.1; omega
  have HLen := Lib.hid hlen
  obtain ⟨A1, c1, rfl⟩ := own_shape h1
  have H1 := Lib.hid h1
  clear hlen h1
  go_enter Try.func18, Try.ntmps18
  go_wp2_with fail
  go_loopw [1, 5] (fun kk i wr => ∃ j m : Nat, j ≤ n ∧ i = .int .i64 j ∧ kk = .int .i64 (m : Int) ∧ Hid (m = k + j) ∧ Hid (wr.ownsRow b 3 1 (.slice A1 n c1) n (marks k j ++ xs.drop j)) ∧ Hid (w.grownBy wr (Value.slice A1 n c1).ownBlock)) (fun _ i _ => n - (intOf i).toNat)
  case atStart => exact ⟨0, k, Nat.zero_le _, rfl, rfl, Lib.hid rfl, Lib.hid H1.out, Lib.hid (World.grownBy.refl w _)⟩
  case round =>
    obtain ⟨j, m, hj, rfl, rfl, hm, hown, hgr⟩ := hrel
    by_cases hlt : j < n
    · have hm0 : 0 < m := by have := hm.out; omega
      have hm1 : m ≤ 5000000 := by have := hm.out; omega
      have ho2 := hown.out
      obtain ⟨g, hA, _, _, hc1, hf1⟩ := own_cell ho2 hlt (mark_cell HLen.out hlt)
      obtain rfl := hA
      have hst := ho2.stored j (.int .i64 (m : Int))
      rw [hm.out, marks_set HLen.out hlt, ← hm.out] at hst
      have hgr2 := grown_trans hgr.out hst.2
      have HS := Lib.hid hst.1
      have HG := Lib.hid hgr2
      clear ho2 hst hgr2
      generalize (xs[j]'(by rw [HLen.out]; exact hlt)) = x0 at hc1
      have hk0 : (0 : Int) ≤ (j : Int) := by omega
      have hk1 : (j : Int) < (n : Int) := by omega
      go_wp2_with fail
      go_roundw
      case rel => exact ⟨j + 1, m + 1, by omega, by go_num, by go_num, Lib.hid (by rw [hm.out]; omega), HS, HG⟩
      case measure => simp [intOf]; omega
    · have hjn : j = n := by omega
      have HF : Hid (wr.ownsRow b 3 1 (.slice A1 n c1) n (marks k (n * 1))) := Lib.hid (by have := hown.out; rw [hjn, List.drop_of_length_le (by rw [HLen.out]; exact Nat.le_refl _), List.append_nil] at this; rw [Nat.mul_one]; exact this)
      have HM : Hid ((k + n * 1 : Nat) = m) := Lib.hid (by rw [hm.out]; omega)
      clear hjn
      go_wp2_with fail
      go_ret
      exact ⟨ret_i64 (by rw [HM.out]), HF.out, hgr.out⟩

end Go.Proofs.Ytagokcbldkbdmaa.LawMarks
