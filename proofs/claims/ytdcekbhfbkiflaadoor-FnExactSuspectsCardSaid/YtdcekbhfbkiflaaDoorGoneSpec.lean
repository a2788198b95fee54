/-
  What FirstMissed and IsMissing of the model do, as contracts: what they answer; new memory alone is written.
-/
import Derived.Test.YtdcekbhfbkiflaaDoorGoneMath
import Derived.Test.YtdcekbhfbkiflaaDoorStockSpec
namespace Go.Proofs.YtdcekbhfbkiflaaDoor.GoneSpec
open Go.RowKit StockMath GoneMath TupIIB Blk
open PointOk (ret_bool ret_i64 below1 below2 below3)

set_option maxRecDepth 100000 in
set_option maxHeartbeats 6400000 in
theorem firstMissed (A : Option Addr) (n cap : Nat) (o : Int) (w : World) (ps : List Tu) (hl : ps.length = n) (hn : n ≤ 1048576) (hp : TsAt w w.heap.size A ps) :
    Calls Tryd.prog 11 #[.slice A n cap, .int .i64 o] w fun e w' => e = .returned (.int .i64 (missI ps o)) ∧ Below w.heap.size w w' := by
  obtain ⟨r, hr⟩ : ∃ r, missI ps o = r := ⟨_, rfl⟩
  have HR := Lib.hid hr
  rw [hr]
  clear hr
  have HE : Hid (missTo ps o (seenI ps o) n = r) := Lib.hid (by rw [← HR.out, ← hl]; rfl)
  clear HR
  have QL : Hid (∀ w hp, _) := Lib.hid fun w hp => StockSpec.lastSeen A n cap o w ps hl hn hp
  generalize seenI ps o = s at *
  go_enter Tryd.func11, Tryd.ntmps11
  go_wp2_with fail
  have HO : ∀ W W' : World, (TsAt W w.heap.size A ps ∧ Below w.heap.size w W) → Below W.heap.size W W' → (TsAt W' w.heap.size A ps ∧ Below w.heap.size w W') := fun W W' ⟨x0, hb⟩ h => ⟨x0.later (h.mono hb.size), hb.trans (h.mono hb.size)⟩
  have S0 : TsAt w w.heap.size A ps ∧ Below w.heap.size w w := ⟨hp, Below.refl _ _⟩
  refine (QL.out _ hp).mono ?_
  rintro e w1 ⟨rfl, hb_⟩
  replace S0 := HO _ _ S0 hb_
  clear hb_ QL hp HO
  go_wp2_with fail
  go_loopw [6, 7] (fun v q wr => ∃ k : Nat, k ≤ n ∧ q = .int .i64 k ∧ v = .int .i64 (missTo ps o s k) ∧ (TsAt wr w.heap.size A ps ∧ Below w.heap.size w wr))
    (fun _ q _ => n - (intOf q).toNat)
  case atStart => exact ⟨0, Nat.zero_le _, rfl, rfl, S0⟩
  case round =>
    clear S0
    obtain ⟨k, hkn, rfl, rfl, S0⟩ := hrel
    by_cases hlt : k < n
    rotate_left
    · obtain rfl : n = k := by omega
      rw [HE.out]
      obtain ⟨_, _⟩ := id S0
      clear hl HE
      go_wp2_with fail
      go_ret
      exact ⟨rfl, S0.2⟩
    have hk1 : (k : Int) < (n : Int) := by omega
    have hk0 : (0 : Int) ≤ (k : Int) := by omega
    have HN := Lib.hid (show missTo ps o s (k + 1) = if (tt ps k).2.1 = o ∧ (tt ps k).2.2 = false ∧ s < (tt ps k).1 ∧ (missTo ps o s k < 0 ∨ (tt ps k).1 < missTo ps o s k) then (tt ps k).1 else missTo ps o s k from rfl)
    have p0 := tt_at (ps := ps) (k := k) (by omega)
    obtain ⟨a, b, c, hg⟩ : ∃ a b c, tt ps k = (a, b, c) := ⟨_, _, _, rfl⟩
    rw [hg] at p0 HN
    dsimp only at HN
    generalize missTo ps o s k = v at *
    obtain ⟨bd, eB, bB, pB⟩ := S0.1.get p0
    subst eB
    have HO : ∀ W W' : World, (TsAt W w.heap.size (some bd) ps ∧ TAt W bd k a b c ∧ Below w.heap.size w W) → Below W.heap.size W W' → (TsAt W' w.heap.size (some bd) ps ∧ TAt W' bd k a b c ∧ Below w.heap.size w W') := fun W W' ⟨x0, x1, hb⟩ h => ⟨x0.later (h.mono hb.size), x1.later bB (h.mono hb.size), hb.trans (h.mono hb.size)⟩
    replace S0 : TsAt wr w.heap.size (some bd) ps ∧ TAt wr bd k a b c ∧ Below w.heap.size w wr := ⟨S0.1, pB, S0.2⟩
    clear pB p0 hg hl HE
    obtain ⟨_, ⟨_, _, _⟩, _⟩ := id S0
    by_cases h1 : b = o
    rotate_left
    · have h1b : (b == o) = false := by simpa using h1
      have HN2 : Hid (missTo ps o s (k + 1) = v) := Lib.hid (by rw [HN.out]; exact if_neg (fun h => h1 h.1))
      clear HN
      go_wp2_with fail
      first
        | exact ⟨⟨k + 1, by omega, by go_num, by rw [HN2.out], S0.1, S0.2.2⟩, by simp [intOf]; omega⟩
        | (go_roundw <;> first | exact ⟨k + 1, by omega, by go_num, by rw [HN2.out], S0.1, S0.2.2⟩ | (simp [intOf]; omega))
    replace h1 := h1.symm
    subst h1
    cases c
    rotate_left
    · have HN2 : Hid (missTo ps o s (k + 1) = v) := Lib.hid (by rw [HN.out]; exact if_neg (fun h => by simp at h))
      clear HN
      go_wp2_with fail
      first
        | exact ⟨⟨k + 1, by omega, by go_num, by rw [HN2.out], S0.1, S0.2.2⟩, by simp [intOf]; omega⟩
        | (go_roundw <;> first | exact ⟨k + 1, by omega, by go_num, by rw [HN2.out], S0.1, S0.2.2⟩ | (simp [intOf]; omega))
    by_cases h3 : s < a
    rotate_left
    · have HN2 : Hid (missTo ps o s (k + 1) = v) := Lib.hid (by rw [HN.out]; exact if_neg (fun h => h3 h.2.2.1))
      clear HN
      go_wp2_with fail
      first
        | exact ⟨⟨k + 1, by omega, by go_num, by rw [HN2.out], S0.1, S0.2.2⟩, by simp [intOf]; omega⟩
        | (go_roundw <;> first | exact ⟨k + 1, by omega, by go_num, by rw [HN2.out], S0.1, S0.2.2⟩ | (simp [intOf]; omega))
    by_cases h4 : v < 0
    · have HN2 : Hid (missTo ps o s (k + 1) = a) := Lib.hid (by rw [HN.out]; exact if_pos ⟨rfl, rfl, h3, .inl h4⟩)
      clear HN
      go_wp2_with fail
      first
        | exact ⟨⟨k + 1, by omega, by go_num, by rw [HN2.out], S0.1, S0.2.2⟩, by simp [intOf]; omega⟩
        | (go_roundw <;> first | exact ⟨k + 1, by omega, by go_num, by rw [HN2.out], S0.1, S0.2.2⟩ | (simp [intOf]; omega))
    by_cases h5 : a < v
    · have HN2 : Hid (missTo ps o s (k + 1) = a) := Lib.hid (by rw [HN.out]; exact if_pos ⟨rfl, rfl, h3, .inr h5⟩)
      clear HN
      go_wp2_with fail
      first
        | exact ⟨⟨k + 1, by omega, by go_num, by rw [HN2.out], S0.1, S0.2.2⟩, by simp [intOf]; omega⟩
        | (go_roundw <;> first | exact ⟨k + 1, by omega, by go_num, by rw [HN2.out], S0.1, S0.2.2⟩ | (simp [intOf]; omega))
    · have HN2 : Hid (missTo ps o s (k + 1) = v) := Lib.hid (by rw [HN.out]; exact if_neg (fun h => h.2.2.2.elim h4 h5))
      clear HN
      go_wp2_with fail
      first
        | exact ⟨⟨k + 1, by omega, by go_num, by rw [HN2.out], S0.1, S0.2.2⟩, by simp [intOf]; omega⟩
        | (go_roundw <;> first | exact ⟨k + 1, by omega, by go_num, by rw [HN2.out], S0.1, S0.2.2⟩ | (simp [intOf]; omega))

set_option maxRecDepth 100000 in
set_option maxHeartbeats 6400000 in
theorem isMissing (A : Option Addr) (n cap : Nat) (o : Int) (w : World) (ps : List Tu) (hl : ps.length = n) (hn : n ≤ 1048576) (hp : TsAt w w.heap.size A ps) :
    Calls Tryd.prog 15 #[.slice A n cap, .int .i64 o] w fun e w' => e = .returned (.bool (missingB ps o)) ∧ Below w.heap.size w w' := by
  have QL : Hid (∀ w hp, _) := Lib.hid fun w hp => firstMissed A n cap o w ps hl hn hp
  have HE : Hid (missingB ps o = decide (missI ps o ≠ -1)) := Lib.hid rfl
  generalize missI ps o = m at *
  generalize missingB ps o = r at *
  go_enter Tryd.func15, Tryd.ntmps15
  go_wp2_with fail
  refine (QL.out _ hp).mono ?_
  rintro e w1 ⟨rfl, hb_⟩
  by_cases h : m = -1
  · have h1b : (m != -1) = false := by simp [h]
    go_wp2_with fail
    go_ret
    exact ⟨ret_bool (by rw [HE.out]; simp [h]), hb_⟩
  · have h1b : (m != -1) = true := by simp [h]
    go_wp2_with fail
    go_ret
    exact ⟨ret_bool (by rw [HE.out]; simp [h]), hb_⟩
end Go.Proofs.YtdcekbhfbkiflaaDoor.GoneSpec
