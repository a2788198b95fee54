/-
  The law's marks in the doors of a house that it owns, as a contract.
-/
import Derived.Test.YtagokcbldkbdmaaLawInt
namespace Go.Proofs.Ytagokcbldkbdmaa.LawMarkH
open Go.RowKit Go.Lib Own Pts LawInt
open PointOk (ret_i64)

set_option maxRecDepth 100000 in
set_option maxHeartbeats 1600000 in
theorem markD (w : World) (b n k : Nat) (hn : n ≤ 1048576) (hk : 0 < k) (hk2 : k ≤ 100000) (v : Value) (xs : List Value) (h1 : w.ownsRow b 134 2 v n xs) :
    Calls Try.prog 61 #[v, .int .i64 (k : Int)] w (MarkP w b 134 2 v k n) := by
  have hlen : xs.length = n * 2 := h1.1
  have HLen := Lib.hid hlen
  obtain ⟨A1, c1, rfl⟩ := own_shape h1
  have H1 := Lib.hid h1
  clear hlen h1
  go_enter Try.func61, Try.ntmps61
  go_wp2_with fail
  go_loopw [1, 5] (fun kk i wr => ∃ j m : Nat, j ≤ n ∧ i = .int .i64 j ∧ kk = .int .i64 (m : Int) ∧ Hid (m = k + j * 2) ∧ Hid (wr.ownsRow b 134 2 (.slice A1 n c1) n (marks k (j * 2) ++ xs.drop (j * 2))) ∧ Hid (w.grownBy wr (Value.slice A1 n c1).ownBlock)) (fun _ i _ => n - (intOf i).toNat)
  case atStart => exact ⟨0, k, Nat.zero_le _, rfl, rfl, Lib.hid rfl, Lib.hid H1.out, Lib.hid (World.grownBy.refl w _)⟩
  case round =>
    obtain ⟨j, m, hj, rfl, rfl, hm, hown, hgr⟩ := hrel
    by_cases hlt : j < n
    · have hm0 : 0 < m := by have := hm.out; omega
      have hm1 : m ≤ 4000000 := by have := hm.out; omega
      have ho2 := hown.out
      have hxl : (marks k (j * 2) ++ xs.drop (j * 2)).length = n * 2 := ho2.1
      obtain ⟨g, hA, _, _, hc1, hf1⟩ := own_cellN ho2 (by omega) (by rw [hxl]; omega) (mark_cell (n := n * 2) HLen.out (by omega))
      obtain rfl := hA
      have hst := ho2.stored (j * 2) (.int .i64 (m : Int))
      rw [hm.out, marks_set (n := n * 2) HLen.out (by omega), ← hm.out] at hst
      have ho3 := hst.1
      have hxl3 : (marks k (j * 2 + 1) ++ xs.drop (j * 2 + 1)).length = n * 2 := ho3.1
      obtain ⟨g3, hA3, _, _, hc3, hf3⟩ := own_cellN ho3 (by omega) (by rw [hxl3]; omega) (mark_cell (n := n * 2) HLen.out (by omega))
      injection hA3 with hA3
      injection hA3 with hA3
      subst hA3
      have hst2 := ho3.stored (j * 2 + 1) (.int .i64 ((m + 1 : Nat) : Int))
      rw [show m + 1 = k + (j * 2 + 1) by rw [hm.out]; omega, marks_set (n := n * 2) HLen.out (by omega), show k + (j * 2 + 1) = m + 1 by rw [hm.out]; omega] at hst2
      have HG := Lib.hid (grown_trans (grown_trans hgr.out hst.2) hst2.2)
      have HS := Lib.hid hst2.1
      obtain ⟨g4, hA4, _, _, hc4, hf4⟩ := own_cellN ho2 (by omega) (j := j * 2 + 1) (by rw [hxl]; omega) (x := xs[j * 2 + 1]'(by rw [HLen.out]; omega)) (by
        rw [List.getElem?_append_right (by rw [marks_length]; omega), marks_length, List.getElem?_drop, show j * 2 + (j * 2 + 1 - j * 2) = j * 2 + 1 by omega, List.getElem?_eq_getElem (by rw [HLen.out]; omega)])
      injection hA4 with hA4
      injection hA4 with hA4
      subst hA4
      clear ho2 ho3 hst hst2 hxl hxl3
      generalize (xs[j * 2]'(by rw [HLen.out]; omega)) = x0 at hc1
      generalize (xs[j * 2 + 1]'(by rw [HLen.out]; omega)) = x1 at hc3 hc4
      have hk0 : (0 : Int) ≤ (j : Int) := by omega
      have hk1 : (j : Int) < (n : Int) := by omega
      have hcast : ((m + 1 : Nat) : Int) = (m : Int) + 1 := by omega
      rw [hcast] at HS HG
      go_wp2_with fail
      go_roundw
      case rel => exact ⟨j + 1, m + 2, by omega, by go_num, by go_num, Lib.hid (by rw [hm.out]; omega), Lib.hid (by rw [show (j + 1) * 2 = j * 2 + 1 + 1 by omega]; exact HS.out), HG⟩
      case measure => simp [intOf]; omega
    · have hjn : j = n := by omega
      have HF : Hid (wr.ownsRow b 134 2 (.slice A1 n c1) n (marks k (n * 2))) := Lib.hid (by have := hown.out; rw [hjn, List.drop_of_length_le (by rw [HLen.out]; exact Nat.le_refl _), List.append_nil] at this; exact this)
      have HM : Hid ((k + n * 2 : Nat) = m) := Lib.hid (by rw [hm.out]; omega)
      clear hjn
      go_wp2_with fail
      go_ret
      exact ⟨ret_i64 (by rw [HM.out]), HF.out, hgr.out⟩

set_option maxRecDepth 100000 in
set_option maxHeartbeats 800000 in
theorem markHouse (w : World) (H : Int) (g n : Nat) (ps : List (Int × Int)) (hl : ps.length = n) (hn : n ≤ 1048576) (h : Row w g 134 ps) :
    Calls Try.prog 17 #[.agg #[.int .i64 H, .slice (some ⟨g, 0, none⟩) n n], .int .i64 1] w fun e w' => e = .returned (.int .i64 ((1 + n * 2 : Nat) : Int)) ∧ w.grownBy w' (some g) := by
  have hb1 := PointOk.below1 w (Obj.cells #[.int .i64 H, .slice (some ⟨g, 0, none⟩) n n] 30)
  have Q := markD (w.alloc (Obj.cells #[.int .i64 H, .slice (some ⟨g, 0, none⟩) n n] 30)) g n 1 hn (by omega) (by omega) _ _ (own_of_row (h.later hb1) hl hn (Nat.le_refl _))
  go_enter Try.func17, Try.ntmps17
  go_wp2_with fail
  refine Q.mono ?_
  rintro e w2 ⟨rfl, _, hg⟩
  have HG := Lib.hid (grown_trans (grown_of_below hb1 (some g)) hg)
  clear hg hb1
  go_wp2_with fail
  go_ret
  exact ⟨rfl, HG.out⟩
end Go.Proofs.Ytagokcbldkbdmaa.LawMarkH
