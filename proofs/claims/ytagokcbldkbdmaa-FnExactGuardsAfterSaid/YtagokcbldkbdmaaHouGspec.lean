/-
  Halls that must be guarded, as the model says it: contracts.
-/
import Derived.Test.YtagokcbldkbdmaaHouYspec
import Derived.Test.YtagokcbldkbdmaaHouOspec
import Derived.Test.YtagokcbldkbdmaaHouGmath
import Derived.Test.YtagokcbldkbdmaaAppOne
namespace Go.Proofs.Ytagokcbldkbdmaa.HouGspec
open Go.RowKit Pts Blk HouMath HouMathB HouMathC HouKeys HouGmath HouBox HouMem Ints JoinMath
open Go.Proofs.Ytagokcbldkbdmaa.Own (icells icells_length icells_at icells_snoc own_shape own_cell own_below own_base own_empty GivesI)
open PointOk (ret_bool ret_i64 below1 below2 below3)

set_option maxRecDepth 100000 in
set_option maxHeartbeats 6400000 in
theorem guardsAfter (H : Int) (A : Option Addr) (n cap : Nat) (B : Option Addr) (m cb : Nat) (w : World) (ds : List (Int × Int)) (hl : ds.length = n) (hn : n ≤ 1048576) (hp : PtsAt w w.heap.size A ds) (zs : List Int) (hz : zs.length = m) (hm : m ≤ 1048576) (hq : IntsAt w w.heap.size B zs) :
    Calls Try.prog 23 #[.agg #[.int .i64 H, .slice A n cap], .slice B m cb] w (GivesI 3 w (guardL H ds zs)) := by
  obtain ⟨r, hr⟩ : ∃ r, guardL H ds zs = r := ⟨_, rfl⟩
  have HR := Lib.hid hr
  rw [hr]
  clear hr
  have Q1 : Hid (∀ w hp, _) := Lib.hid fun w hp => HouVspec.houseOk H A n cap w ds hl hn hp
  have Q2 : Hid (∀ z w hp, _) := Lib.hid fun z w hp => HouWspec.has H A n cap z w ds hl hn hp
  have Q3 : Hid (∀ a b w hp, _) := Lib.hid fun a b w hp => HouSpec.door H A n cap a b w ds hl hn hp
  have HBad : Hid (∀ k, k < m → hallOf H ds (zs.getD k 0) = false → r = []) := Lib.hid (fun k hk h => by
    rw [← HR.out]
    refine guard_no ?_
    unfold hallOf at h
    cases hb : houseB H ds
    · rfl
    · rw [hb, Bool.true_and] at h
      rw [halls_bad (by omega) h]; rfl)
  have HNo : Hid (houseB H ds = false → r = []) := Lib.hid (fun h => by rw [← HR.out]; exact guard_no (by rw [h]; rfl))
  have HAll : Hid ((∀ k, k < m → hallOf H ds (zs.getD k 0) = true) → houseB H ds = true → ∃ N : Nat, H = N ∧ 1 ≤ N ∧ N ≤ 7 ∧ r = guardTo N ds (inZ zs) N) := Lib.hid (fun h hh => by
    have hf := house_form hh
    obtain ⟨N, rfl⟩ := Int.eq_ofNat_of_zero_le (show 0 ≤ H by have := hf.h1; omega)
    refine ⟨N, rfl, by have := hf.h1; omega, by have := hf.h7; omega, ?_⟩
    rw [← HR.out]
    refine guard_yes ?_
    rw [hh, halls_ok (fun k hk => by
      have := h k (by omega)
      unfold hallOf at this
      rw [Bool.and_eq_true] at this
      exact this.2)]
    rfl)
  have HHall : Hid (∀ k, k < m → hallOf H ds (zs.getD k 0) = true → 0 ≤ zs.getD k 0 ∧ zs.getD k 0 < 7) := Lib.hid (fun k hk h => by
    obtain ⟨N, a, h1, h2, h3, h4⟩ := hall_nat h
    have := h4.h7
    rw [h2]
    omega)
  have HMask : Hid (∀ k, k ≤ m → (∀ j, j < k → 0 ≤ zs.getD j 0 ∧ zs.getD j 0 < 7) → maskTo zs k < 128 ∧ ∀ y, (maskTo zs k).testBit y = inZ (zs.take k) y) := Lib.hid (fun k hk h => ⟨mask_lt h, fun y => mask_bit y (by omega) (fun j hj => (h j hj).1)⟩)
  have HMS : Hid (∀ k, maskTo zs (k + 1) = maskTo zs k ||| 2 ^ (zs.getD k 0).toNat) := Lib.hid (fun k => rfl)
  have HMZ : maskTo zs 0 = 0 := rfl
  have HEnd : Hid (zs.take m = zs) := Lib.hid (by rw [← hz, List.take_length])
  generalize maskTo zs = MK at *
  obtain ⟨i0, hi, hz0, hz1, hz2⟩ := info_parts HouOspec.infoI
  clear HR hl
  go_enter Try.func23, Try.ntmps23
  go_wp2_with fail
  have X0 := HouBox.boxH w H A n cap 30 (k := w.heap.size) (by simp)
  have b0 := PointOk.below1 w (Obj.cells #[.int .i64 H, .slice A n cap] 30)
  have HO : ∀ W W' : World, (HouBox.BoxH W (w.heap.size) H A n cap ∧ PtsAt W w.heap.size A ds ∧ IntsAt W w.heap.size B zs ∧ Below w.heap.size w W) → Below W.heap.size W W' → (HouBox.BoxH W' (w.heap.size) H A n cap ∧ PtsAt W' w.heap.size A ds ∧ IntsAt W' w.heap.size B zs ∧ Below w.heap.size w W') := fun W W' ⟨h0, x0, x1, hb⟩ h => ⟨h0.later h, x0.later (h.mono hb.size), x1.later (h.mono hb.size), hb.trans (h.mono hb.size)⟩
  have hz0_ : Hid (((w.alloc (Obj.cells #[.int .i64 H, .slice A n cap] 30))).heap.size = w.heap.size + 1) := Lib.hid (by simp)
  have Y0 : PtsAt ((w.alloc (Obj.cells #[.int .i64 H, .slice A n cap] 30))) w.heap.size A ds := hp.later b0
  have Y1 : IntsAt ((w.alloc (Obj.cells #[.int .i64 H, .slice A n cap] 30))) w.heap.size B zs := hq.later b0
  generalize (w.alloc (Obj.cells #[.int .i64 H, .slice A n cap] 30)) = w0 at X0 Y0 Y1 b0 hz0_ ⊢
  have S0 := (⟨X0, Y0, Y1, b0⟩ : HouBox.BoxH w0 (w.heap.size) H A n cap ∧ PtsAt w0 w.heap.size A ds ∧ IntsAt w0 w.heap.size B zs ∧ Below w.heap.size w w0)
  clear X0 Y0 Y1 b0
  obtain ⟨⟨_, _⟩, _, _, _⟩ := id S0
  have HO2 : ∀ W W' : World, (HouBox.BoxH W (w.heap.size) H A n cap ∧ PtsAt W w.heap.size A ds ∧ IntsAt W w.heap.size B zs ∧ Below w.heap.size w W) → Below (w.heap.size + 1) W W' → (HouBox.BoxH W' (w.heap.size) H A n cap ∧ PtsAt W' w.heap.size A ds ∧ IntsAt W' w.heap.size B zs ∧ Below w.heap.size w W') := fun W W' ⟨h0, h1, h2, hb⟩ h => ⟨⟨(h.cell (p := ⟨w.heap.size, 0, none⟩) (by show w.heap.size < w.heap.size + 1; omega)).trans h0.1, (h.cell (p := ⟨w.heap.size, 1, none⟩) (by show w.heap.size < w.heap.size + 1; omega)).trans h0.2⟩, h1.later (h.mono (by omega)), h2.later (h.mono (by omega)), hb.trans (h.mono (by omega))⟩
  have hle0 : w.heap.size + 1 ≤ w0.heap.size := by have := hz0_.out; omega
  have hE0 := own_base (own_empty w0 3 1) hle0
  rw [hz0_.out] at hE0
  have hsz : w.heap.size + 1 ≤ (w0.alloc (Obj.cells #[] 3)).heap.size := by simp; omega
  replace S0 := HO _ _ S0 (below1 w0 (Obj.cells #[] 3))
  generalize w0.alloc (Obj.cells #[] 3) = v0 at *
  go_loopw [6, 7] (fun v i wr => ∃ k : Nat, k ≤ m ∧ i = .int .i64 k ∧ v = .int .i64 ((MK k : Nat) : Int) ∧ Hid (∀ j, j < k → hallOf H ds (zs.getD j 0) = true) ∧ wr.ownsRow (w.heap.size + 1) 3 1 (.slice (some ⟨w.heap.size + 1, 0, none⟩) 0 0) 0 [] ∧ w.heap.size + 1 ≤ wr.heap.size ∧ (HouBox.BoxH wr (w.heap.size) H A n cap ∧ PtsAt wr w.heap.size A ds ∧ IntsAt wr w.heap.size B zs ∧ Below w.heap.size w wr))
    (fun _ i _ => m - (intOf i).toNat)
  case atStart => exact ⟨0, Nat.zero_le _, rfl, by rw [HMZ]; rfl, Lib.hid (fun j hj => absurd hj (by omega)), hE0, hsz, S0⟩
  case round =>
    clear S0 hE0 hsz hle0
    obtain ⟨k, hkm, rfl, rfl, hall, hown, hsz, S0⟩ := hrel
    obtain ⟨⟨_, _⟩, _, _, _⟩ := id S0
    by_cases hlt : k < m
    · have hk1 : (k : Int) < (m : Int) := by omega
      have hk0 : (0 : Int) ≤ (k : Int) := by omega
      have p0 := at_d (zs := zs) (k := k) (by omega)
      have HB1 := Lib.hid (HBad.out k hlt)
      have HH1 := Lib.hid (HHall.out k hlt)
      have hM7 := (HMask.out k hkm (fun j hj => HHall.out j (by omega) (hall.out j hj))).1
      have HM1 := HMS.out k
      have HW : Hid (hallOf H ds (zs.getD k 0) = true → ∀ j, j < k + 1 → hallOf H ds (zs.getD j 0) = true) := Lib.hid (fun h j hj => by
        rcases Nat.lt_or_ge j k with h1 | h1
        · exact hall.out j h1
        · obtain rfl : j = k := by omega
          exact h)
      obtain ⟨z, hzz⟩ : ∃ z, zs.getD k 0 = z := ⟨_, rfl⟩
      rw [hzz] at p0 HB1 HW HH1 HM1
      obtain ⟨bd, eB, bB, pB⟩ := S0.2.2.1.get p0
      subst eB
      have QH : Hid (∀ w hp, _) := Lib.hid fun w hp => Q2.out z w hp
      obtain ⟨c, hc⟩ : ∃ c, hallOf H ds z = c := ⟨_, rfl⟩
      rw [hc] at QH HB1 HW HH1
      replace HM1 := Lib.hid HM1
      obtain ⟨m0, hm0⟩ : ∃ x, MK k = x := ⟨_, rfl⟩
      rw [hm0] at hM7 HM1
      replace hown := Lib.hid hown
      clear p0 hzz hall HBad HNo HAll HHall HMask HMS HMZ HEnd Q1 Q2 Q3 hc
      rw [hm0]
      have HO : ∀ W W' : World, (BoxH W w.heap.size H A n cap ∧ PtsAt W w.heap.size A ds ∧ IntsAt W w.heap.size (some bd) zs ∧ IntAt W bd k z ∧ W.ownsRow (w.heap.size + 1) 3 1 (.slice (some ⟨w.heap.size + 1, 0, none⟩) 0 0) 0 [] ∧ w.heap.size + 1 ≤ W.heap.size ∧ Below w.heap.size w W) → Below W.heap.size W W' → (BoxH W' w.heap.size H A n cap ∧ PtsAt W' w.heap.size A ds ∧ IntsAt W' w.heap.size (some bd) zs ∧ IntAt W' bd k z ∧ W'.ownsRow (w.heap.size + 1) 3 1 (.slice (some ⟨w.heap.size + 1, 0, none⟩) 0 0) 0 [] ∧ w.heap.size + 1 ≤ W'.heap.size ∧ Below w.heap.size w W') := fun W W' ⟨x0, x1, x2, x3, x4, x5, hb⟩ h => ⟨x0.later h, x1.later (h.mono hb.size), x2.later (h.mono hb.size), x3.later bB (h.mono hb.size), own_below x4 h, Nat.le_trans x5 h.size, hb.trans (h.mono hb.size)⟩
      replace S0 : (BoxH wr w.heap.size H A n cap ∧ PtsAt wr w.heap.size A ds ∧ IntsAt wr w.heap.size (some bd) zs ∧ IntAt wr bd k z ∧ wr.ownsRow (w.heap.size + 1) 3 1 (.slice (some ⟨w.heap.size + 1, 0, none⟩) 0 0) 0 [] ∧ w.heap.size + 1 ≤ wr.heap.size ∧ Below w.heap.size w wr) := ⟨S0.1, S0.2.1, S0.2.2.1, pB, hown.out, hsz, S0.2.2.2⟩
      clear pB hown hsz
      obtain ⟨⟨_, _⟩, _, _, ⟨_, _⟩, _, _, _⟩ := id S0
      cases c
      · have E := Lib.hid (HB1.out rfl)
        clear HB1 HW HH1 HM1 hm0
        go_wp2_with fail
        refine Settle.region (fun W => BoxH W w.heap.size H A n cap ∧ PtsAt W w.heap.size A ds ∧ IntsAt W w.heap.size (some bd) zs ∧ IntAt W bd k z ∧ W.ownsRow (w.heap.size + 1) 3 1 (.slice (some ⟨w.heap.size + 1, 0, none⟩) 0 0) 0 [] ∧ w.heap.size + 1 ≤ W.heap.size ∧ Below w.heap.size w W) (by kernel_rfl) (by kernel_rfl) (by kernel_rfl) (by kernel_rfl) (HO _ _ S0 ((Below.refl _ _).drew)) ?_
        clear S0
        repeat (first
          | (refine Settle.Settles.off (by rfl) ?_; simp only [Act.put, List.setIfInBounds_toArray, List.set_cons_zero, List.set_cons_succ])
          | (refine Settle.Settles.quiet (v := ?_) (by rfl) ?_ ?_
             rotate_left
             · (intro W hS; obtain ⟨⟨_, _⟩, _, _, ⟨_, _⟩, _, _, _⟩ := hS; go_simp; with_reducible rfl)
             simp only [Act.put, List.setIfInBounds_toArray, List.set_cons_zero, List.set_cons_succ])
          | (refine Settle.Settles.call (v := ?_) (f := ?_) (args := ?_) (by rfl) ?_ ?_ ?_
             rotate_left 3
             · (intro W; go_simp; refine ⟨?_, ?_⟩ <;> with_reducible rfl)
             · (intro W hS; first | (go_at_call 65; (with_reducible refine (QH.out _ (hS.2.1.wide hS.2.2.2.2.2.2.size)).mono ?_); rintro e W1 ⟨rfl, hb⟩; refine ⟨?_, HO _ _ hS hb⟩; with_reducible rfl))
             simp only [Act.put, List.setIfInBounds_toArray, List.set_cons_zero, List.set_cons_succ]))
        refine Settle.Settles.nil ?_
        intro wr S0
        obtain ⟨⟨_, _⟩, _, _, ⟨_, _⟩, _, _, _⟩ := id S0
        go_wp2_with fail
        go_ret
        exact ⟨_, 0, by rw [E.out]; rfl, by rw [E.out]; exact own_base S0.2.2.2.2.1 (by omega), S0.2.2.2.2.2.2⟩
      · have HW2 := Lib.hid (HW.out rfl)
        have hzr := HH1.out rfl
        obtain ⟨a, rfl⟩ := Int.eq_ofNat_of_zero_le hzr.1
        have ha7 : a < 7 := by omega
        have ha0 : (0 : Int) ≤ (a : Int) := by omega
        have ha64 : (a : Int) < 64 := by omega
        rw [Int.toNat_natCast] at HM1
        have pA := pow_nat ha7
        have iA := Lib.hid (pow_natI ha7)
        have oA := or_pow hM7 ha7
        obtain ⟨m1, hm1⟩ : ∃ m1, m0 ||| 2 ^ a = m1 := ⟨_, rfl⟩
        rw [hm1] at oA HM1
        obtain ⟨pa, hpa⟩ : ∃ pa, 2 ^ a = pa := ⟨_, rfl⟩
        rw [hpa] at pA oA iA
        clear HB1 HW HH1 hpa hm1 HO
        have HO : ∀ W W' : World, (BoxH W w.heap.size H A n cap ∧ PtsAt W w.heap.size A ds ∧ IntsAt W w.heap.size (some bd) zs ∧ IntAt W bd k (a : Int) ∧ W.ownsRow (w.heap.size + 1) 3 1 (.slice (some ⟨w.heap.size + 1, 0, none⟩) 0 0) 0 [] ∧ w.heap.size + 1 ≤ W.heap.size ∧ Below w.heap.size w W) → Below W.heap.size W W' → (BoxH W' w.heap.size H A n cap ∧ PtsAt W' w.heap.size A ds ∧ IntsAt W' w.heap.size (some bd) zs ∧ IntAt W' bd k (a : Int) ∧ W'.ownsRow (w.heap.size + 1) 3 1 (.slice (some ⟨w.heap.size + 1, 0, none⟩) 0 0) 0 [] ∧ w.heap.size + 1 ≤ W'.heap.size ∧ Below w.heap.size w W') := fun W W' ⟨x0, x1, x2, x3, x4, x5, hb⟩ h => ⟨x0.later h, x1.later (h.mono hb.size), x2.later (h.mono hb.size), x3.later bB (h.mono hb.size), own_below x4 h, Nat.le_trans x5 h.size, hb.trans (h.mono hb.size)⟩
        go_wp2_with fail
        refine Settle.region (fun W => BoxH W w.heap.size H A n cap ∧ PtsAt W w.heap.size A ds ∧ IntsAt W w.heap.size (some bd) zs ∧ IntAt W bd k (a : Int) ∧ W.ownsRow (w.heap.size + 1) 3 1 (.slice (some ⟨w.heap.size + 1, 0, none⟩) 0 0) 0 [] ∧ w.heap.size + 1 ≤ W.heap.size ∧ Below w.heap.size w W) (by kernel_rfl) (by kernel_rfl) (by kernel_rfl) (by kernel_rfl) (HO _ _ S0 ((Below.refl _ _).drew)) ?_
        clear S0
        repeat (first
          | (refine Settle.Settles.off (by rfl) ?_; simp only [Act.put, List.setIfInBounds_toArray, List.set_cons_zero, List.set_cons_succ])
          | (refine Settle.Settles.quiet (v := ?_) (by rfl) ?_ ?_
             rotate_left
             · (intro W hS; obtain ⟨⟨_, _⟩, _, _, ⟨_, _⟩, _, _, _⟩ := hS; go_simp; with_reducible rfl)
             simp only [Act.put, List.setIfInBounds_toArray, List.set_cons_zero, List.set_cons_succ])
          | (refine Settle.Settles.call (v := ?_) (f := ?_) (args := ?_) (by rfl) ?_ ?_ ?_
             rotate_left 3
             · (intro W; go_simp; refine ⟨?_, ?_⟩ <;> with_reducible rfl)
             · (intro W hS; first | (go_at_call 65; (with_reducible refine (QH.out _ (hS.2.1.wide hS.2.2.2.2.2.2.size)).mono ?_); rintro e W1 ⟨rfl, hb⟩; refine ⟨?_, HO _ _ hS hb⟩; with_reducible rfl))
             simp only [Act.put, List.setIfInBounds_toArray, List.set_cons_zero, List.set_cons_succ]))
        refine Settle.Settles.nil ?_
        intro wr S0
        obtain ⟨⟨_, _⟩, _, _, ⟨_, _⟩, _, _, _⟩ := id S0
        go_wp2_with fail
        first
          | exact ⟨⟨k + 1, by omega, by go_num, by rw [HM1.out], HW2, S0.2.2.2.2.1, S0.2.2.2.2.2.1, S0.1, S0.2.1, S0.2.2.1, S0.2.2.2.2.2.2⟩, by simp [intOf]; omega⟩
          | (go_roundw <;> first | exact ⟨k + 1, by omega, by go_num, by rw [HM1.out], HW2, S0.2.2.2.2.1, S0.2.2.2.2.2.1, S0.1, S0.2.1, S0.2.2.1, S0.2.2.2.2.2.2⟩ | (simp [intOf]; omega) | trace_state)
    obtain rfl : m = k := by omega
    have HO : ∀ W W' : World, (HouBox.BoxH W (w.heap.size) H A n cap ∧ PtsAt W w.heap.size A ds ∧ IntsAt W w.heap.size B zs ∧ Below w.heap.size w W) → Below W.heap.size W W' → (HouBox.BoxH W' (w.heap.size) H A n cap ∧ PtsAt W' w.heap.size A ds ∧ IntsAt W' w.heap.size B zs ∧ Below w.heap.size w W') := fun W W' ⟨h0, x0, x1, hb⟩ h => ⟨h0.later h, x0.later (h.mono hb.size), x1.later (h.mono hb.size), hb.trans (h.mono hb.size)⟩
    have hM := HMask.out m (Nat.le_refl _) (fun j hj => HHall.out j hj (hall.out j hj))
    have hM7 := hM.1
    have HF : Hid ((fun y => (MK m).testBit y) = inZ zs) := Lib.hid (funext fun y => by have := hM.2 y; rw [HEnd.out] at this; exact this)
    replace HAll := Lib.hid (HAll.out hall.out)
    obtain ⟨M, hMK⟩ : ∃ x, MK m = x := ⟨_, rfl⟩
    rw [hMK] at hM7 HF
    rw [hMK]
    clear HBad Q2 HHall HMask HMS HMZ HEnd hall hM hMK hz
    cases ch : houseB H ds
    · have E := Lib.hid (HNo.out ch)
      rw [ch] at Q1
      replace hown := Lib.hid hown
      clear HNo HAll HF Q3 ch
      go_wp2_with fail
      go_loopw [5, 8] (fun v i wr => i = .int .i64 0 ∧ v = .slice (some ⟨w.heap.size + 1, 0, none⟩) 0 0 ∧ wr.ownsRow (w.heap.size + 1) 3 1 v 0 [] ∧ (HouBox.BoxH wr (w.heap.size) H A n cap ∧ PtsAt wr w.heap.size A ds ∧ IntsAt wr w.heap.size B zs ∧ Below w.heap.size w wr))
        (fun _ _ _ => 0)
      case atStart => exact ⟨rfl, rfl, hown.out, S0⟩
      case round =>
        clear S0 hown hsz
        obtain ⟨rfl, rfl, hown, S0⟩ := hrel
        obtain ⟨⟨_, _⟩, _, _, _⟩ := id S0
        replace hown := Lib.hid hown
        by_cases h0 : 0 < H
        · go_wp2_with fail
          refine (Q1.out _ (S0.2.1.wide S0.2.2.2.size)).mono ?_
          rintro e wx ⟨rfl, hb_⟩
          replace S0 := HO _ _ S0 hb_
          obtain ⟨⟨_, _⟩, _, _, _⟩ := id S0
          replace hown := Lib.hid (own_below hown.out hb_)
          go_wp2_with fail
          go_ret
          exact ⟨_, 0, by rw [E.out]; rfl, by rw [E.out]; exact own_base hown.out (show w.heap.size ≤ w.heap.size + 1 by omega), S0.2.2.2⟩
        · go_wp2_with fail
          go_ret
          exact ⟨_, 0, by rw [E.out]; rfl, by rw [E.out]; exact own_base hown.out (show w.heap.size ≤ w.heap.size + 1 by omega), S0.2.2.2⟩
    obtain ⟨N, hHN, hN1, hN7, hE⟩ := HAll.out ch
    subst hHN
    rw [← HF.out] at hE
    have HE := Lib.hid hE
    rw [ch] at Q1
    have HS : Hid (∀ k, guardTo N ds (fun y => M.testBit y) (k + 1) = if bordB N ds (fun y => M.testBit y) k then guardTo N ds (fun y => M.testBit y) k ++ [(k : Int)] else guardTo N ds (fun y => M.testBit y) k) := Lib.hid (fun k => rfl)
    have HLen : Hid (∀ k, (guardTo N ds (fun y => M.testBit y) k).length ≤ k) := Lib.hid (fun k => guardTo_len N ds _ k)
    have HZ0 : guardTo N ds (fun y => M.testBit y) 0 = [] := rfl
    have HB0 : Hid (∀ a, bordB N ds (fun y => M.testBit y) a = (M.testBit a && outTo ds (fun y => M.testBit y) a N)) := Lib.hid (fun a => rfl)
    have HO0 : Hid (∀ a b, outTo ds (fun y => M.testBit y) a (b + 1) = (outTo ds (fun y => M.testBit y) a b || (!M.testBit b && isDoor ds (a : Int) (b : Int)))) := Lib.hid (fun a b => rfl)
    have HOZ : ∀ a, outTo ds (fun y => M.testBit y) a 0 = false := fun a => rfl
    have HBit : Hid (∀ a, a < 7 → bits .and .i64 ((M : Int) / 2 ^ a) 1 = if M.testBit a then 1 else 0) := Lib.hid (fun a ha => bit_div hM7 ha)
    generalize guardTo N ds (fun y => M.testBit y) = nt at *
    generalize bordB N ds (fun y => M.testBit y) = bd0 at *
    generalize outTo ds (fun y => M.testBit y) = ot at *
    generalize Nat.testBit M = tb at *
    clear HNo HAll HF hE ch
    go_wp2_with fail
    go_loopw [5, 8] (fun v i wr => ∃ a : Nat, a ≤ N ∧ i = .int .i64 a ∧ wr.ownsRow (w.heap.size + 1) 3 1 v (nt a).length (icells (nt a)) ∧ w.heap.size + 1 ≤ wr.heap.size ∧ (HouBox.BoxH wr (w.heap.size) (N : Int) A n cap ∧ PtsAt wr w.heap.size A ds ∧ IntsAt wr w.heap.size B zs ∧ Below w.heap.size w wr))
      (fun _ i _ => N - (intOf i).toNat)
    case atStart => exact ⟨0, Nat.zero_le _, rfl, by rw [HZ0]; exact hown, hsz, S0⟩
    case round =>
      clear S0 HZ0 hown hsz
      obtain ⟨a, haN, rfl, hown, hsz, S0⟩ := hrel
      obtain ⟨⟨_, _⟩, _, _, _⟩ := id S0
      by_cases hlt : a < N
      rotate_left
      · obtain rfl : N = a := by omega
        rw [← HE.out] at hown
        have hown2 := Lib.hid hown
        obtain ⟨A1, c1, rfl⟩ := own_shape hown
        clear hown HS HLen HB0 HO0 HOZ HBit HE Q1 Q3
        go_wp2_with fail
        go_ret
        exact ⟨A1, c1, rfl, own_base hown2.out (show w.heap.size ≤ w.heap.size + 1 by omega), S0.2.2.2⟩
      have hk1 : (a : Int) < (N : Int) := by omega
      have hk0 : (0 : Int) ≤ (a : Int) := by omega
      have hk64 : (a : Int) < 64 := by omega
      have HL := HS.out a
      rw [HB0.out a] at HL
      have hlen := HLen.out a
      have HO1 := Lib.hid (HO0.out a)
      have hoz := HOZ a
      have eA := HBit.out a (by omega)
      have QD := Lib.hid fun (b : Int) w hp => Q3.out (a : Int) b w hp
      generalize hl0 : nt a = l0 at *
      obtain ⟨q, hmq⟩ : ∃ q, l0.length = q := ⟨_, rfl⟩
      rw [hmq] at hown hlen
      obtain ⟨Ao, co, rfl⟩ := own_shape hown
      have hq7 : q ≤ 7 := by omega
      obtain ⟨fa, hfa⟩ : ∃ c, tb a = c := ⟨_, rfl⟩
      rw [hfa] at HL eA
      replace HL := Lib.hid HL
      replace hown := Lib.hid hown
      generalize ot a = oa at *
      clear hl0 hlen HLen HS HB0 HO0 HOZ hfa
      go_wp2_with fail
      refine (Q1.out _ (S0.2.1.wide S0.2.2.2.size)).mono ?_
      rintro e wx ⟨rfl, hb_⟩
      replace S0 := HO _ _ S0 hb_
      obtain ⟨⟨_, _⟩, _, _, _⟩ := id S0
      replace hown := Lib.hid (own_below hown.out hb_)
      replace hsz := Nat.le_trans hsz hb_.size
      clear hb_
      go_wp2_with fail
      go_loopw [9, 10] (fun v i wr => ∃ b : Nat, b ≤ N ∧ i = .int .i64 b ∧ v = .bool (oa b) ∧ (fa = false → b = 0) ∧ wr.ownsRow (w.heap.size + 1) 3 1 (.slice Ao q co) q (icells l0) ∧ w.heap.size + 1 ≤ wr.heap.size ∧ (HouBox.BoxH wr (w.heap.size) (N : Int) A n cap ∧ PtsAt wr w.heap.size A ds ∧ IntsAt wr w.heap.size B zs ∧ Below w.heap.size w wr))
        (fun _ i _ => N - (intOf i).toNat)
      case atStart => exact ⟨0, Nat.zero_le _, rfl, by rw [hoz], fun _ => rfl, hown.out, hsz, S0⟩
      case round =>
        clear S0 hown hsz
        obtain ⟨b, hbN, rfl, rfl, hfb, hown, hsz, S0⟩ := hrel
        obtain ⟨⟨_, _⟩, _, _, _⟩ := id S0
        by_cases hex : b < N ∧ fa = true
        rotate_left
        · have HV : Hid (nt (a + 1) = if oa b then l0 ++ [(a : Int)] else l0) := Lib.hid (by
            rw [HL.out]
            cases fa
            · rw [hfb rfl, hoz]; rfl
            · obtain rfl : b = N := by
                rcases Nat.lt_or_ge b N with h | h
                · exact absurd ⟨h, rfl⟩ hex
                · omega
              rfl)
          replace hown := Lib.hid hown
          by_cases hbN2 : b < N
          · obtain rfl : fa = false := by
              cases fa
              · rfl
              · exact absurd ⟨hbN2, rfl⟩ hex
            obtain rfl := hfb rfl
            rw [hoz] at HV ⊢
            have HV2 : Hid (nt (a + 1) = l0) := Lib.hid (by rw [HV.out]; rfl)
            have hb1 : (0 : Int) < (N : Int) := by omega
            have hb2 : ((0 : Nat) : Int) < (N : Int) := by omega
            have eA0 : bits .and .i64 ((M : Int) / 2 ^ a) 1 = 0 := eA
            clear HL HO1 HBit QD hoz hex HV eA
            go_wp2_with fail
            first
              | exact ⟨⟨a + 1, by omega, by go_num, by rw [HV2.out, hmq]; exact hown.out, hsz, S0⟩, by simp [intOf]; omega⟩
              | (go_roundw <;> first | exact ⟨a + 1, by omega, by go_num, by rw [HV2.out, hmq]; exact hown.out, hsz, S0⟩ | (simp [intOf]; omega))
          obtain rfl : b = N := by omega
          have hb1 : ¬ (b : Int) < (b : Int) := by omega
          obtain ⟨o, ho⟩ : ∃ o, oa b = o := ⟨_, rfl⟩
          rw [ho] at HV ⊢
          clear HL HO1 HBit QD hoz hex hfb ho eA
          cases o
          · have HV2 : Hid (nt (a + 1) = l0) := Lib.hid (by rw [HV.out]; rfl)
            clear HV
            go_wp2_with fail
            first
              | exact ⟨⟨a + 1, by omega, by go_num, by rw [HV2.out, hmq]; exact hown.out, hsz, S0⟩, by simp [intOf]; omega⟩
              | (go_roundw <;> first | exact ⟨a + 1, by omega, by go_num, by rw [HV2.out, hmq]; exact hown.out, hsz, S0⟩ | (simp [intOf]; omega))
          have HV2 : Hid (nt (a + 1) = l0 ++ [(a : Int)]) := Lib.hid (by rw [HV.out]; rfl)
          clear HV
          replace hown := hown.out
          have S1 := Lib.hid S0
          have hq8 : q ≤ 1048575 := by omega
          go_wp2_with (at_builtin; go_must (refine AppOne.append_one wr (by rfl) _ _ (by rfl) (w.heap.size + 1) (.slice Ao q co) q (icells l0) (by rfl) hown (a : Int) (by rfl) hq8 hsz ?_))
          intro v1_ wa_ ho_ hg_
          have HN1 := Lib.hid (HO2 _ _ S1.out hg_)
          have HN : Hid (wa_.ownsRow (w.heap.size + 1) 3 1 v1_ (nt (a + 1)).length (icells (nt (a + 1))) ∧ w.heap.size + 1 ≤ wa_.heap.size) := Lib.hid (by
            rw [HV2.out, icells_snoc, List.length_append, hmq]
            exact ⟨ho_, Nat.le_trans hsz hg_.size⟩)
          clear ho_ hg_ hown HV2 S0 S1
          go_wp2_with fail
          first
            | exact ⟨⟨a + 1, by omega, by go_num, HN.out.1, HN.out.2, HN1.out⟩, by simp [intOf]; omega⟩
            | (go_roundw <;> first | exact ⟨a + 1, by omega, by go_num, HN.out.1, HN.out.2, HN1.out⟩ | (simp [intOf]; omega))
        obtain ⟨hbN2, rfl⟩ := hex
        have eA1 : bits .and .i64 ((M : Int) / 2 ^ a) 1 = 1 := eA
        have hb1 : (b : Int) < (N : Int) := by omega
        have hb0 : (0 : Int) ≤ (b : Int) := by omega
        have hb64 : (b : Int) < 64 := by omega
        have eB := HBit.out b (by omega)
        have HO3 := HO1.out b
        have QE := Lib.hid fun w hp => QD.out (b : Int) w hp
        obtain ⟨d, hd⟩ : ∃ d, isDoor ds (a : Int) (b : Int) = d := ⟨_, rfl⟩
        rw [hd] at HO3 QE
        obtain ⟨fb, hfb2⟩ : ∃ c, tb b = c := ⟨_, rfl⟩
        rw [hfb2] at HO3 eB
        obtain ⟨o, ho⟩ : ∃ o, oa b = o := ⟨_, rfl⟩
        rw [ho] at HO3 ⊢
        replace HO3 := Lib.hid HO3
        replace hown := Lib.hid hown
        clear HL HO1 HBit QD hoz hfb hd hfb2 ho eA
        cases o
        · cases fb
          · have eB0 : bits .and .i64 ((M : Int) / 2 ^ b) 1 = 0 := eB
            have HO4 : Hid (oa (b + 1) = d) := Lib.hid (by rw [HO3.out]; simp)
            clear HO3 eB
            go_wp2_with fail
            refine (QE.out _ (S0.2.1.wide S0.2.2.2.size)).mono ?_
            rintro e wy ⟨rfl, hb_⟩
            replace S0 := HO _ _ S0 hb_
            replace hown := Lib.hid (own_below hown.out hb_)
            replace hsz := Nat.le_trans hsz hb_.size
            clear hb_ QE
            obtain ⟨⟨_, _⟩, _, _, _⟩ := id S0
            go_wp2_with fail
            first
              | exact ⟨⟨b + 1, by omega, by go_num, by rw [HO4.out], fun h => (by cases h), hown.out, hsz, S0⟩, by simp [intOf]; omega⟩
              | (go_roundw <;> first | exact ⟨b + 1, by omega, by go_num, by rw [HO4.out], fun h => (by cases h), hown.out, hsz, S0⟩ | (simp [intOf]; omega))
          · have eB1 : bits .and .i64 ((M : Int) / 2 ^ b) 1 = 1 := eB
            have HO4 : Hid (oa (b + 1) = false) := Lib.hid (by rw [HO3.out]; rfl)
            clear HO3 eB QE
            go_wp2_with fail
            first
              | exact ⟨⟨b + 1, by omega, by go_num, by rw [HO4.out], fun h => (by cases h), hown.out, hsz, S0⟩, by simp [intOf]; omega⟩
              | (go_roundw <;> first | exact ⟨b + 1, by omega, by go_num, by rw [HO4.out], fun h => (by cases h), hown.out, hsz, S0⟩ | (simp [intOf]; omega))
        · have HO4 : Hid (oa (b + 1) = true) := Lib.hid (by rw [HO3.out]; rfl)
          clear HO3 eB QE
          go_wp2_with fail
          first
            | exact ⟨⟨b + 1, by omega, by go_num, by rw [HO4.out], fun h => (by cases h), hown.out, hsz, S0⟩, by simp [intOf]; omega⟩
            | (go_roundw <;> first | exact ⟨b + 1, by omega, by go_num, by rw [HO4.out], fun h => (by cases h), hown.out, hsz, S0⟩ | (simp [intOf]; omega))
end Go.Proofs.Ytagokcbldkbdmaa.HouGspec

