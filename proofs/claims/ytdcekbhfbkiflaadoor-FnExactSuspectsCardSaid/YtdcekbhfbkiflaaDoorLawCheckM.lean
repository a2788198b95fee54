/-
  The law marks a slice of checks: a contract. Nothing else is written.
-/
import Derived.Test.YtdcekbhfbkiflaaDoorLawCheck
import Derived.Test.YtdcekbhfbkiflaaDoorLawInt
namespace Go.Proofs.YtdcekbhfbkiflaaDoor.LawCheckM
open Go.RowKit PointOk Blk TupIIB Go.Lib Own LawInt

theorem own_of_row {w : World} {g n b : Nat} {T : TypeId} {ps : List Tu} (h : Row w g T ps) (hl : ps.length = n) (hn : n ≤ 1048576) (hb : b ≤ g) : w.ownsRow b T 3 (.slice (some ⟨g, 0, none⟩) n n) n (cellsT ps) :=
  ⟨by rw [cellsT_length, hl], .inr ⟨g, n, _, rfl, hb, h, Nat.le_refl _, by unfold maxLen; omega, by simp [cellsT_length, hl], List.take_of_length_le (by simp [cellsT_length, hl])⟩⟩

theorem own_some {w : World} {b e sz n cap : Nat} {A : Option Addr} {xs : List Value} (j : Nat) (h : w.ownsRow b e sz (.slice A n cap) n xs) (h0 : 0 < n) (hj : j < n * sz) :
    ∃ g x, A = some ⟨g, 0, none⟩ ∧ w.cell? ⟨g, j, none⟩ = some x ∧ w.frozen? ⟨g, j, none⟩ = false := by
  have hl : j < xs.length := by rw [h.1]; exact hj
  obtain ⟨g, hA, _, _, h1, h2⟩ := own_cellN h h0 hl (List.getElem?_eq_getElem hl)
  exact ⟨g, _, hA, h1, h2⟩
/-- The row is marked (with what, does not matter); nothing else is written. -/
def MarkAny (w : World) (v : Value) (k n : Nat) (en : Ending) (w' : World) : Prop :=
  en = .returned (.int .i64 ((k + n * 3 : Nat) : Int)) ∧ True ∧ w.grownBy w' v.ownBlock

set_option maxRecDepth 100000 in
set_option maxHeartbeats 3200000 in
theorem markCheckSL (w : World) (b n k : Nat) (hn : n ≤ 1048576) (hk : 0 < k) (hk2 : k ≤ 20000000) (v : Value) (xs : List Value) (h1 : w.ownsRow b 70 3 v n xs) :
    Calls Tryd.prog 20 #[v, .int .i64 (k : Int)] w (MarkAny w v k n) := by
  obtain ⟨A1, c1, rfl⟩ := own_shape h1
  have H1 := Lib.hid h1
  clear h1
  go_enter Tryd.func20, Tryd.ntmps20
  go_wp2_with fail
  go_loopw [1, 5] (fun kk i wr => ∃ j m : Nat, ∃ ys : List Value, j ≤ n ∧ i = .int .i64 j ∧ kk = .int .i64 (m : Int) ∧ Hid (m = k + j * 3) ∧ Hid (wr.ownsRow b 70 3 (.slice A1 n c1) n ys) ∧ Hid (w.grownBy wr (Value.slice A1 n c1).ownBlock)) (fun _ i _ => n - (intOf i).toNat)
  case atStart => exact ⟨0, k, xs, Nat.zero_le _, rfl, rfl, Lib.hid rfl, Lib.hid H1.out, Lib.hid (World.grownBy.refl w _)⟩
  case round =>
    obtain ⟨j, m, ys, hj, rfl, rfl, hm, hown, hgr⟩ := hrel
    by_cases hlt : j < n
    · have hm0 : 0 < m := by have := hm.out; omega
      have hm1 : m ≤ 40000000 := by have := hm.out; omega
      have ho0 := hown.out
      obtain ⟨g, x0_, hA, hc0, hf0⟩ := own_some (j * 3) ho0 (by omega) (by omega)
      obtain rfl := hA
      have hst0 := ho0.stored (j * 3) (.int .i64 (m : Int))
      have ho1 := hst0.1
      obtain ⟨g0_, x3_, hA0_, hc1, hf1⟩ := own_some (j * 3 + 1) ho1 (by omega) (by omega)
      injection hA0_ with hA0_
      injection hA0_ with hA0_
      subst hA0_
      obtain ⟨g0b, x1_, hA0b, hd1, he1⟩ := own_some (j * 3 + 1) ho0 (by omega) (by omega)
      injection hA0b with hA0b
      injection hA0b with hA0b
      subst hA0b
      have hst1 := ho1.stored (j * 3 + 1) (.int .i64 ((m : Int) + 1))
      have ho2 := hst1.1
      obtain ⟨g1_, x4_, hA1_, hc2, hf2⟩ := own_some (j * 3 + 2) ho2 (by omega) (by omega)
      injection hA1_ with hA1_
      injection hA1_ with hA1_
      subst hA1_
      obtain ⟨g1b, x2_, hA1b, hd2, he2⟩ := own_some (j * 3 + 2) ho0 (by omega) (by omega)
      injection hA1b with hA1b
      injection hA1b with hA1b
      subst hA1b
      have hst2 := ho2.stored (j * 3 + 2) (.bool (((m : Int) + 2).tmod 3 == 0))
      have HG := Lib.hid (grown_trans (grown_trans (grown_trans hgr.out hst0.2) hst1.2) hst2.2)
      have HS := Lib.hid hst2.1
      have u3 : IntKind.i64.wrap (((m : Int) + 2).tmod 3) = ((m : Int) + 2).tmod 3 := by have h0 : ((m : Int) + 2).tmod 3 = ((m : Int) + 2) % 3 := Int.tmod_eq_emod_of_nonneg (by omega); rw [h0]; exact IntWalk.i64_in _ (by omega)
      clear ho0 ho1 ho2 hst0 hst1 hst2
      have hk0 : (0 : Int) ≤ (j : Int) := by omega
      have hk1 : (j : Int) < (n : Int) := by omega
      go_wp2_with fail
      go_roundw
      case rel => exact ⟨j + 1, m + 3, _, by omega, by go_num, by go_num, Lib.hid (by rw [hm.out]; omega), HS, HG⟩
      case measure => simp [intOf]; omega
    · have hjn : j = n := by omega
      have HM : Hid ((k + n * 3 : Nat) = m) := Lib.hid (by rw [hm.out]; omega)
      clear hjn
      go_wp2_with fail
      go_ret
      exact ⟨ret_i64 (by rw [HM.out]), trivial, hgr.out⟩
end Go.Proofs.YtdcekbhfbkiflaaDoor.LawCheckM
