/-
  Rings that open every hall, as the model says it: contracts.
-/
import Derived.Test.YtagokcbldkbdmaaHouKspec
import Derived.Test.YtagokcbldkbdmaaHouMast
namespace Go.Proofs.Ytagokcbldkbdmaa.HouRspec
open Go.RowKit Pts Blk HouMath HouMathB HouMathC HouKeys HouMast HouBox HouMem Ints JoinMath
open Go.Proofs.Ytagokcbldkbdmaa.Own (icells icells_length icells_at icells_snoc own_shape own_cell own_below own_base own_empty GivesI)
open PointOk (ret_bool ret_i64 below1 below2 below3)

set_option maxRecDepth 100000 in
set_option maxHeartbeats 1600000 in
theorem rings (H : Int) (A : Option Addr) (n cap : Nat) (B : Option Addr) (m cb : Nat) (w : World) (ds : List (Int × Int)) (hl : ds.length = n) (hn : n ≤ 1048576) (hp : PtsAt w w.heap.size A ds) (zs : List Int) (hz : zs.length = m) (hm : m ≤ 1048576) (hq : IntsAt w w.heap.size B zs) :
    Calls Try.prog 62 #[.agg #[.int .i64 H, .slice A n cap], .slice B m cb] w fun e w' => e = .returned (.bool (ringsA H ds zs && houseB H ds)) ∧ Below w.heap.size w w' := by
  obtain ⟨r, hr⟩ : ∃ r, (ringsA H ds zs && houseB H ds) = r := ⟨_, rfl⟩
  have HR := Lib.hid hr
  rw [hr]
  clear hr
  have HB : Hid (∀ k, k < m → ringB H ds (zs.getD k 0) = false → r = false) := Lib.hid (fun k hk h => by rw [← HR.out, rings_bad (by omega) h]; rfl)
  have HG : Hid ((∀ k, k < m → ringB H ds (zs.getD k 0) = true) → r = houseB H ds) := Lib.hid (fun h => by rw [← HR.out, rings_ok (fun k hk => h k (by omega))]; rfl)
  have Q1 : Hid (∀ w hp, _) := Lib.hid fun w hp => HouVspec.houseOk H A n cap w ds hl hn hp
  have Q2 : Hid (∀ z w hp, _) := Lib.hid fun z w hp => HouXspec.ringOk H A n cap z w ds hl hn hp
  generalize houseB H ds = hb0 at *
  generalize ringB H ds = rb at *
  clear HR hl
  go_enter Try.func62, Try.ntmps62
  go_wp2_with fail
  have X0 := HouBox.boxH w H A n cap 30 (k := w.heap.size) (by simp)
  have b0 := PointOk.below1 w (Obj.cells #[.int .i64 H, .slice A n cap] 30)
  have HO : ∀ W W' : World, (HouBox.BoxH W (w.heap.size) H A n cap ∧ PtsAt W w.heap.size A ds ∧ IntsAt W w.heap.size B zs ∧ Below w.heap.size w W) → Below W.heap.size W W' → (HouBox.BoxH W' (w.heap.size) H A n cap ∧ PtsAt W' w.heap.size A ds ∧ IntsAt W' w.heap.size B zs ∧ Below w.heap.size w W') := fun W W' ⟨h0, x0, x1, hb⟩ h => ⟨h0.later h, x0.later (h.mono hb.size), x1.later (h.mono hb.size), hb.trans (h.mono hb.size)⟩
  have hz0_ : Hid (((w.alloc (Obj.cells #[.int .i64 H, .slice A n cap] 30))).heap.size = w.heap.size + 1) := Lib.hid (by simp)
  have Y0 : PtsAt ((w.alloc (Obj.cells #[.int .i64 H, .slice A n cap] 30))) w.heap.size A ds := hp.later b0
  have Y1 : IntsAt ((w.alloc (Obj.cells #[.int .i64 H, .slice A n cap] 30))) w.heap.size B zs := hq.later b0
  generalize (w.alloc (Obj.cells #[.int .i64 H, .slice A n cap] 30)) = w0 at X0 Y0 Y1 b0 hz0_ ⊢
  have S0 := (⟨X0, Y0, Y1, b0⟩ : HouBox.BoxH w0 (w.heap.size) H A n cap ∧ PtsAt w0 w.heap.size A ds ∧ IntsAt w0 w.heap.size B zs ∧ Below w.heap.size w w0)
  clear X0 Y0 Y1 b0
  obtain ⟨⟨_, _⟩, _, _, _⟩ := id S0
  go_loopw [5] (fun i wr => ∃ k : Nat, k ≤ m ∧ i = .int .i64 k ∧ Hid (∀ j, j < k → rb (zs.getD j 0) = true) ∧ (HouBox.BoxH wr (w.heap.size) H A n cap ∧ PtsAt wr w.heap.size A ds ∧ IntsAt wr w.heap.size B zs ∧ Below w.heap.size w wr))
    (fun i _ => m - (intOf i).toNat)
  case atStart => exact ⟨0, Nat.zero_le _, rfl, Lib.hid (fun j hj => absurd hj (by omega)), S0⟩
  case round =>
    clear S0
    obtain ⟨k, hk, rfl, hall, S0⟩ := hrel
    obtain ⟨⟨_, _⟩, _, _, _⟩ := id S0
    by_cases hkm : k < m
    rotate_left
    · obtain rfl : k = m := by omega
      have E := Lib.hid (HG.out hall.out)
      clear HG HB hall Q2
      go_wp2_with fail
      refine (Q1.out _ (S0.2.1.wide S0.2.2.2.size)).mono ?_
      rintro e w1 ⟨rfl, hb_⟩
      replace S0 := HO _ _ S0 hb_
      clear hb_
      obtain ⟨⟨_, _⟩, _, _, _⟩ := id S0
      go_wp2_with fail
      go_ret
      exact ⟨ret_bool E.out.symm, S0.2.2.2⟩
    have hk1 : (k : Int) < (m : Int) := by omega
    have hk0 : (0 : Int) ≤ (k : Int) := by omega
    have p0 := at_d (zs := zs) (k := k) (by omega)
    have HB1 := Lib.hid (HB.out k hkm)
    have HW : Hid (rb (zs.getD k 0) = true → ∀ j, j < k + 1 → rb (zs.getD j 0) = true) := Lib.hid (fun h j hj => by
      rcases Nat.lt_or_ge j k with h1 | h1
      · exact hall.out j h1
      · obtain rfl : j = k := by omega
        exact h)
    obtain ⟨z, hzz⟩ : ∃ z, zs.getD k 0 = z := ⟨_, rfl⟩
    rw [hzz] at p0 HB1 HW
    obtain ⟨bd, eB, bB, pB⟩ := S0.2.2.1.get p0
    subst eB
    have QH : Hid (∀ w hp, _) := Lib.hid fun w hp => Q2.out z w hp
    obtain ⟨c, hc⟩ : ∃ c, rb z = c := ⟨_, rfl⟩
    rw [hc] at QH HB1 HW
    clear p0 hzz hall HB HG Q1 Q2 hc
    have HO : ∀ W W' : World, (BoxH W w.heap.size H A n cap ∧ PtsAt W w.heap.size A ds ∧ IntsAt W w.heap.size (some bd) zs ∧ IntAt W bd k z ∧ Below w.heap.size w W) → Below W.heap.size W W' → (BoxH W' w.heap.size H A n cap ∧ PtsAt W' w.heap.size A ds ∧ IntsAt W' w.heap.size (some bd) zs ∧ IntAt W' bd k z ∧ Below w.heap.size w W') := fun W W' ⟨x0, x1, x2, x3, hb⟩ h => ⟨x0.later h, x1.later (h.mono hb.size), x2.later (h.mono hb.size), x3.later bB (h.mono hb.size), hb.trans (h.mono hb.size)⟩
    replace S0 : (BoxH wr w.heap.size H A n cap ∧ PtsAt wr w.heap.size A ds ∧ IntsAt wr w.heap.size (some bd) zs ∧ IntAt wr bd k z ∧ Below w.heap.size w wr) := ⟨S0.1, S0.2.1, S0.2.2.1, pB, S0.2.2.2⟩
    clear pB
    obtain ⟨⟨_, _⟩, _, _, ⟨_, _⟩, _⟩ := id S0
    cases c
    · have E := Lib.hid (HB1.out rfl)
      clear HB1 HW
      go_wp2_with fail
      refine Settle.region (fun W => BoxH W w.heap.size H A n cap ∧ PtsAt W w.heap.size A ds ∧ IntsAt W w.heap.size (some bd) zs ∧ IntAt W bd k z ∧ Below w.heap.size w W) (by kernel_rfl) (by kernel_rfl) (by kernel_rfl) (by kernel_rfl) (HO _ _ S0 ((Below.refl _ _).drew)) ?_
      clear S0
      repeat (first
        | (refine Settle.Settles.off (by rfl) ?_; simp only [Act.put, List.setIfInBounds_toArray, List.set_cons_zero, List.set_cons_succ])
        | (refine Settle.Settles.quiet (v := ?_) (by rfl) ?_ ?_
           rotate_left
           · (intro W hS; obtain ⟨⟨_, _⟩, _, _, ⟨_, _⟩, _⟩ := hS; go_simp; with_reducible rfl)
           simp only [Act.put, List.setIfInBounds_toArray, List.set_cons_zero, List.set_cons_succ])
        | (refine Settle.Settles.call (v := ?_) (f := ?_) (args := ?_) (by rfl) ?_ ?_ ?_
           rotate_left 3
           · (intro W; go_simp; refine ⟨?_, ?_⟩ <;> with_reducible rfl)
           · (intro W hS; first | (go_at_call 53; (with_reducible refine (QH.out _ (hS.2.1.wide hS.2.2.2.2.size)).mono ?_); rintro e W1 ⟨rfl, hb⟩; refine ⟨?_, HO _ _ hS hb⟩; with_reducible rfl))
           simp only [Act.put, List.setIfInBounds_toArray, List.set_cons_zero, List.set_cons_succ]))
      refine Settle.Settles.nil ?_
      intro wr S0
      obtain ⟨⟨_, _⟩, _, _, ⟨_, _⟩, _⟩ := id S0
      go_wp2_with fail
      go_ret
      exact ⟨ret_bool E.out.symm, S0.2.2.2.2⟩
    · have HW2 := Lib.hid (HW.out rfl)
      clear HB1 HW
      go_wp2_with fail
      refine Settle.region (fun W => BoxH W w.heap.size H A n cap ∧ PtsAt W w.heap.size A ds ∧ IntsAt W w.heap.size (some bd) zs ∧ IntAt W bd k z ∧ Below w.heap.size w W) (by kernel_rfl) (by kernel_rfl) (by kernel_rfl) (by kernel_rfl) (HO _ _ S0 ((Below.refl _ _).drew)) ?_
      clear S0
      repeat (first
        | (refine Settle.Settles.off (by rfl) ?_; simp only [Act.put, List.setIfInBounds_toArray, List.set_cons_zero, List.set_cons_succ])
        | (refine Settle.Settles.quiet (v := ?_) (by rfl) ?_ ?_
           rotate_left
           · (intro W hS; obtain ⟨⟨_, _⟩, _, _, ⟨_, _⟩, _⟩ := hS; go_simp; with_reducible rfl)
           simp only [Act.put, List.setIfInBounds_toArray, List.set_cons_zero, List.set_cons_succ])
        | (refine Settle.Settles.call (v := ?_) (f := ?_) (args := ?_) (by rfl) ?_ ?_ ?_
           rotate_left 3
           · (intro W; go_simp; refine ⟨?_, ?_⟩ <;> with_reducible rfl)
           · (intro W hS; first | (go_at_call 53; (with_reducible refine (QH.out _ (hS.2.1.wide hS.2.2.2.2.size)).mono ?_); rintro e W1 ⟨rfl, hb⟩; refine ⟨?_, HO _ _ hS hb⟩; with_reducible rfl))
           simp only [Act.put, List.setIfInBounds_toArray, List.set_cons_zero, List.set_cons_succ]))
      refine Settle.Settles.nil ?_
      intro wr S0
      obtain ⟨⟨_, _⟩, _, _, ⟨_, _⟩, _⟩ := id S0
      go_wp2_with fail
      exact ⟨⟨k + 1, by omega, by go_num, HW2, S0.1, S0.2.1, S0.2.2.1, S0.2.2.2.2⟩, by simp [intOf]; omega⟩

set_option maxRecDepth 100000 in
set_option maxHeartbeats 6400000 in
theorem masterRings (H : Int) (A : Option Addr) (n cap : Nat) (B : Option Addr) (m cb : Nat) (w : World) (ds : List (Int × Int)) (hl : ds.length = n) (hn : n ≤ 1048576) (hp : PtsAt w w.heap.size A ds) (zs : List Int) (hz : zs.length = m) (hm : m ≤ 1048576) (hq : IntsAt w w.heap.size B zs) :
    Calls Try.prog 20 #[.agg #[.int .i64 H, .slice A n cap], .slice B m cb] w (GivesI 3 w (mastL H ds zs)) := by
  obtain ⟨r, hr⟩ : ∃ r, mastL H ds zs = r := ⟨_, rfl⟩
  have HR := Lib.hid hr
  rw [hr]
  clear hr
  have Q1 : Hid (∀ w hp hq, _) := Lib.hid fun w hp hq => rings H A n cap B m cb w ds hl hn hp zs hz hm hq
  have HNil : Hid (m = 0 → r = []) := Lib.hid (fun h => by
    have : zs = [] := List.length_eq_zero_iff.1 (by omega)
    rw [← HR.out, this]; unfold mastL ringsA; rfl)
  have HBad : Hid (ringsA H ds zs = false → r = []) := Lib.hid (fun h => by rw [← HR.out]; unfold mastL; rw [h]; rfl)
  have HGood : Hid (ringsA H ds zs = true → r = mastTo H ds zs m) := Lib.hid (fun h => by rw [← HR.out, ← hz]; unfold mastL; rw [h]; rfl)
  have HHouse : Hid (0 < m → ringsA H ds zs = true → HForm H ds ∧ houseB H ds = true) := Lib.hid (fun h0 h => by
    have := ring_house (rings_at h (k := 0) (by omega))
    exact ⟨house_form this, this⟩)
  have QM : Hid (∀ (N : Nat), H = N → 0 < N → HForm N ds → N ≤ 7 ∧ ∀ x w, PtsAt w w.heap.size A ds → Calls Try.prog 55 #[.agg #[.int .i64 H, .slice A n cap], .int .i64 0, .int .i64 x] w fun e w' => e = .returned (.int .i64 ((setM x ds 0 N : Nat) : Int)) ∧ Below w.heap.size w w') := Lib.hid (fun N hN h0 hf => ⟨by have := hf.h7; omega, fun x w hp => by
    subst hN
    exact HouKspec.reached N A n cap 0 x w ds hl hf h0 hp⟩)
  have HAll : Hid (∀ (N : Nat), H = N → 0 < N → HForm N ds → ∀ x, allB H ds x = decide ((setM x ds 0 N : Int) = 2 ^ N - 1)) := Lib.hid (fun N hN h0 hf x => by subst hN; exact all_set hf h0 x)
  have HS : Hid (∀ k, mastTo H ds zs (k + 1) = if allB H ds (zs.getD k 0) then mastTo H ds zs k ++ [(k : Int)] else mastTo H ds zs k) := Lib.hid (fun k => rfl)
  have HLen : Hid (∀ k, (mastTo H ds zs k).length ≤ k) := Lib.hid (fun k => mastTo_len H ds zs k)
  have HZ0 : mastTo H ds zs 0 = [] := rfl
  obtain ⟨i0, hi, hz0, hz1, hz2⟩ := info_parts HouOspec.infoI
  generalize mastTo H ds zs = nt at *
  generalize allB H ds = ab at *
  clear HR hl
  go_enter Try.func20, Try.ntmps20
  go_wp2_with fail
  have X0 := HouBox.boxH w H A n cap 30 (k := w.heap.size) (by simp)
  have b0 := PointOk.below1 w (Obj.cells #[.int .i64 H, .slice A n cap] 30)
  have HO : ∀ W W' : World, (HouBox.BoxH W (w.heap.size) H A n cap ∧ PtsAt W w.heap.size A ds ∧ IntsAt W w.heap.size B zs ∧ Below w.heap.size w W) → Below W.heap.size W W' → (HouBox.BoxH W' (w.heap.size) H A n cap ∧ PtsAt W' w.heap.size A ds ∧ IntsAt W' w.heap.size B zs ∧ Below w.heap.size w W') := fun W W' ⟨h0, x0, x1, hb⟩ h => ⟨h0.later h, x0.later (h.mono hb.size), x1.later (h.mono hb.size), hb.trans (h.mono hb.size)⟩
  have hz0_ : Hid (((w.alloc (Obj.cells #[.int .i64 H, .slice A n cap] 30))).heap.size = w.heap.size + 1) := Lib.hid (by simp)
  have Y0 : PtsAt ((w.alloc (Obj.cells #[.int .i64 H, .slice A n cap] 30))) w.heap.size A ds := hp.later b0
  have Y1 : IntsAt ((w.alloc (Obj.cells #[.int .i64 H, .slice A n cap] 30))) w.heap.size B zs := hq.later b0
  generalize (w.alloc (Obj.cells #[.int .i64 H, .slice A n cap] 30)) = w0 at X0 Y0 Y1 b0 hz0_ ⊢
  have S0 := (⟨X0, Y0, Y1, b0⟩ : HouBox.BoxH w0 (w.heap.size) H A n cap ∧ PtsAt w0 w.heap.size A ds ∧ IntsAt w0 w.heap.size B zs ∧ Below w.heap.size w w0)
  clear X0 Y0 Y1 b0
  obtain ⟨⟨_, _⟩, _, _, _⟩ := id S0
  have HO2 : ∀ W W' : World, (HouBox.BoxH W (w.heap.size) H A n cap ∧ PtsAt W w.heap.size A ds ∧ IntsAt W w.heap.size B zs ∧ Below w.heap.size w W) → Below (w.heap.size + 1) W W' → (HouBox.BoxH W' (w.heap.size) H A n cap ∧ PtsAt W' w.heap.size A ds ∧ IntsAt W' w.heap.size B zs ∧ Below w.heap.size w W') := fun W W' ⟨h0, h1, h2, hb⟩ h => ⟨⟨(h.cell (p := ⟨w.heap.size, 0, none⟩) (by show w.heap.size < w.heap.size + 1; omega)).trans h0.1, (h.cell (p := ⟨w.heap.size, 1, none⟩) (by show w.heap.size < w.heap.size + 1; omega)).trans h0.2⟩, h1.later (h.mono (by omega)), h2.later (h.mono (by omega)), hb.trans (h.mono (by omega))⟩
  have hle0 : w.heap.size + 1 ≤ w0.heap.size := by have := hz0_.out; omega
  have hE0 := own_base (own_empty w0 3 1) hle0
  rw [hz0_.out] at hE0
  have hsz : w.heap.size + 1 ≤ (w0.alloc (Obj.cells #[] 3)).heap.size := by simp; omega
  replace S0 := HO _ _ S0 (below1 w0 (Obj.cells #[] 3))
  go_loopw [5, 6] (fun v i wr => ∃ k : Nat, k ≤ m ∧ i = .int .i64 k ∧ (k = 0 ∨ ringsA H ds zs = true) ∧ wr.ownsRow (w.heap.size + 1) 3 1 v (nt k).length (icells (nt k)) ∧ w.heap.size + 1 ≤ wr.heap.size ∧ (HouBox.BoxH wr (w.heap.size) H A n cap ∧ PtsAt wr w.heap.size A ds ∧ IntsAt wr w.heap.size B zs ∧ Below w.heap.size w wr))
    (fun _ i _ => m - (intOf i).toNat)
  case atStart => exact ⟨0, Nat.zero_le _, rfl, .inl rfl, by rw [HZ0]; exact hE0, hsz, S0⟩
  case round =>
    clear S0 hE0 hle0 hsz
    obtain ⟨k, hkn, rfl, hok, hown, hsz, S0⟩ := hrel
    obtain ⟨⟨_, _⟩, _, _, _⟩ := id S0
    by_cases hlt : k < m
    rotate_left
    · obtain rfl : m = k := by omega
      have E : Hid (nt m = r) := Lib.hid (by
        rcases hok with h | h
        · rw [HNil.out h, h, HZ0]
        · exact (HGood.out h).symm)
      rw [E.out] at hown
      have hown2 := Lib.hid hown
      obtain ⟨A1, c1, rfl⟩ := own_shape hown
      clear hown HS HLen HZ0 E HNil HBad HGood HHouse QM HAll Q1 hok
      go_wp2_with fail
      go_ret
      exact ⟨A1, c1, rfl, own_base hown2.out (show w.heap.size ≤ w.heap.size + 1 by omega), S0.2.2.2⟩
    have hk1 : (k : Int) < (m : Int) := by omega
    have hk0 : (0 : Int) ≤ (k : Int) := by omega
    obtain ⟨g0, hg0⟩ : ∃ g, ringsA H ds zs = g := ⟨_, rfl⟩
    cases g0
    · obtain rfl : k = 0 := by
        rcases hok with h | h
        · exact h
        · rw [h] at hg0; cases hg0
      have E : Hid (nt 0 = r) := Lib.hid (by rw [HBad.out hg0, HZ0])
      rw [E.out] at hown
      have hown2 := Lib.hid hown
      obtain ⟨A1, c1, rfl⟩ := own_shape hown
      rw [hg0] at Q1
      clear hown HS HLen HZ0 E HNil HBad HGood HHouse QM HAll hok hg0
      go_wp2_with fail
      refine (Q1.out _ (S0.2.1.wide S0.2.2.2.size) (S0.2.2.1.wide S0.2.2.2.size)).mono ?_
      rintro e wx ⟨rfl, hb_⟩
      replace S0 := HO _ _ S0 hb_
      replace hown2 := Lib.hid (own_below hown2.out hb_)
      clear hb_
      go_wp2_with fail
      go_ret
      exact ⟨A1, c1, rfl, own_base hown2.out (show w.heap.size ≤ w.heap.size + 1 by omega), S0.2.2.2⟩
    obtain ⟨hf, hho⟩ := HHouse.out (by omega) hg0
    obtain ⟨N, hHN⟩ := Int.eq_ofNat_of_zero_le (show 0 ≤ H by have := hf.h1; omega)
    have hN0 : 0 < N := by have := hf.h1; omega
    have hfN : HForm (N : Int) ds := by rw [← hHN]; exact hf
    obtain ⟨hN7, QR0⟩ := QM.out N hHN hN0 hfN
    have HA1 := HAll.out N hHN hN0 hfN
    have hk := HS.out k
    have hlen := HLen.out k
    have p0 := at_d (zs := zs) (k := k) (by omega)
    obtain ⟨z, hzz⟩ : ∃ z, zs.getD k 0 = z := ⟨_, rfl⟩
    rw [hzz] at p0 hk
    rw [HA1 z] at hk
    have QR := Lib.hid (QR0 z)
    have hm7 : (setM z ds 0 N : Nat) < 128 := Nat.lt_of_lt_of_le (set_lt hfN hN0 N) (Nat.pow_le_pow_right (n := 2) (by decide) hN7)
    obtain ⟨M, hM⟩ : ∃ M, setM z ds 0 N = M := ⟨_, rfl⟩
    rw [hM] at QR hk hm7
    have hP := pow_one hN7
    have hPI : IntKind.i64.wrap (IntKind.i64.wrap (2 ^ N) - 1) = (2 : Int) ^ N - 1 := pow_oneI hN7
    obtain ⟨L, hL⟩ : ∃ L : Int, (2 : Int) ^ N - 1 = L := ⟨_, rfl⟩
    rw [hL] at hP hPI hk
    have HL := Lib.hid hk
    obtain ⟨bd, eB, bB, pB⟩ := S0.2.2.1.get p0
    subst eB
    have hNH : (N : Int) = H := hHN.symm
    have hH0 : (0 : Int) ≤ H := by omega
    have hH64 : H < 64 := by omega
    rw [hho, hg0] at Q1
    generalize hl0 : nt k = l0 at *
    obtain ⟨q, hmq⟩ : ∃ q, l0.length = q := ⟨_, rfl⟩
    rw [hmq] at hown hlen
    obtain ⟨Ao, co, rfl⟩ := own_shape hown
    have hq7 : q ≤ 1048576 := by omega
    obtain ⟨o, ho⟩ : ∃ o, decide ((M : Int) = L) = o := ⟨_, rfl⟩
    rw [ho] at HL
    have hgk : Hid (ringsA H ds zs = true) := Lib.hid hg0
    replace hown := Lib.hid hown
    clear hl0 hlen HLen HS HZ0 HNil HBad HGood HHouse QM HAll QR0 HA1 hk hok hM hL hz p0 hzz hf hfN hho hg0
    subst hHN
    clear hNH
    have HO : ∀ W W' : World, (BoxH W w.heap.size (N : Int) A n cap ∧ PtsAt W w.heap.size A ds ∧ IntsAt W w.heap.size (some bd) zs ∧ IntAt W bd k z ∧ W.ownsRow (w.heap.size + 1) 3 1 (.slice Ao q co) q (icells l0) ∧ w.heap.size + 1 ≤ W.heap.size ∧ Below w.heap.size w W) → Below W.heap.size W W' → (BoxH W' w.heap.size (N : Int) A n cap ∧ PtsAt W' w.heap.size A ds ∧ IntsAt W' w.heap.size (some bd) zs ∧ IntAt W' bd k z ∧ W'.ownsRow (w.heap.size + 1) 3 1 (.slice Ao q co) q (icells l0) ∧ w.heap.size + 1 ≤ W'.heap.size ∧ Below w.heap.size w W') := fun W W' ⟨x0, x1, x2, x3, x4, x5, hb⟩ h => ⟨x0.later h, x1.later (h.mono hb.size), x2.later (h.mono hb.size), x3.later bB (h.mono hb.size), own_below x4 h, Nat.le_trans x5 h.size, hb.trans (h.mono hb.size)⟩
    replace S0 : (BoxH wr w.heap.size (N : Int) A n cap ∧ PtsAt wr w.heap.size A ds ∧ IntsAt wr w.heap.size (some bd) zs ∧ IntAt wr bd k z ∧ wr.ownsRow (w.heap.size + 1) 3 1 (.slice Ao q co) q (icells l0) ∧ w.heap.size + 1 ≤ wr.heap.size ∧ Below w.heap.size w wr) := ⟨S0.1, S0.2.1, S0.2.2.1, pB, hown.out, hsz, S0.2.2.2⟩
    clear pB hown hsz
    obtain ⟨⟨_, _⟩, _, _, ⟨_, _⟩, _, _, _⟩ := id S0
    go_wp2_with fail
    refine (Q1.out _ (S0.2.1.wide S0.2.2.2.2.2.2.size) (S0.2.2.1.wide S0.2.2.2.2.2.2.size)).mono ?_
    rintro e wx ⟨rfl, hb_⟩
    replace S0 := HO _ _ S0 hb_
    clear hb_ Q1
    obtain ⟨⟨_, _⟩, _, _, ⟨_, _⟩, _, _, _⟩ := id S0
    cases o
    · have HL2 : Hid (nt (k + 1) = l0) := Lib.hid (by rw [HL.out]; rfl)
      have hne : ¬ (M : Int) = L := of_decide_eq_false ho
      have hne2 : ((M : Int) == L) = false := beq_eq_false_iff_ne.2 hne
      clear HL ho
      go_wp2_with fail
      refine Settle.region (fun W => BoxH W w.heap.size (N : Int) A n cap ∧ PtsAt W w.heap.size A ds ∧ IntsAt W w.heap.size (some bd) zs ∧ IntAt W bd k z ∧ W.ownsRow (w.heap.size + 1) 3 1 (.slice Ao q co) q (icells l0) ∧ w.heap.size + 1 ≤ W.heap.size ∧ Below w.heap.size w W) (by kernel_rfl) (by kernel_rfl) (by kernel_rfl) (by kernel_rfl) (HO _ _ S0 ((Below.refl _ _).drew)) ?_
      clear S0
      repeat (first
        | (refine Settle.Settles.off (by rfl) ?_; simp only [Act.put, List.setIfInBounds_toArray, List.set_cons_zero, List.set_cons_succ])
        | (refine Settle.Settles.quiet (v := ?_) (by rfl) ?_ ?_
           rotate_left
           · (intro W hS; obtain ⟨⟨_, _⟩, _, _, ⟨_, _⟩, _, _, _⟩ := hS; go_simp; with_reducible rfl)
           simp only [Act.put, List.setIfInBounds_toArray, List.set_cons_zero, List.set_cons_succ])
        | (refine Settle.Settles.call (v := ?_) (f := ?_) (args := ?_) (by rfl) ?_ ?_ ?_
           rotate_left 3
           · (intro W; go_simp; refine ⟨?_, ?_⟩ <;> with_reducible rfl)
           · (intro W hS; first | (go_at_call 55; (with_reducible refine (QR.out _ (hS.2.1.wide hS.2.2.2.2.2.2.size)).mono ?_); rintro e W1 ⟨rfl, hb⟩; refine ⟨?_, HO _ _ hS hb⟩; with_reducible rfl))
           simp only [Act.put, List.setIfInBounds_toArray, List.set_cons_zero, List.set_cons_succ]))
      refine Settle.Settles.nil ?_
      intro wr S0
      obtain ⟨⟨_, _⟩, _, _, ⟨_, _⟩, _, _, _⟩ := id S0
      go_wp2_with fail
      have hown := Lib.hid S0.2.2.2.2.1
      have hsz := S0.2.2.2.2.2.1
      exact ⟨⟨k + 1, by omega, by go_num, .inr hgk.out, by rw [HL2.out, hmq]; exact hown.out, hsz, S0.1, S0.2.1, S0.2.2.1, S0.2.2.2.2.2.2⟩, by simp [intOf]; omega⟩
    · have HL2 : Hid (nt (k + 1) = l0 ++ [(k : Int)]) := Lib.hid (by rw [HL.out]; rfl)
      have heq : (M : Int) = L := of_decide_eq_true ho
      subst heq
      have heq2 : ((M : Int) == (M : Int)) = true := by simp
      clear HL ho
      go_wp2_with fail
      refine Settle.region (fun W => BoxH W w.heap.size (N : Int) A n cap ∧ PtsAt W w.heap.size A ds ∧ IntsAt W w.heap.size (some bd) zs ∧ IntAt W bd k z ∧ W.ownsRow (w.heap.size + 1) 3 1 (.slice Ao q co) q (icells l0) ∧ w.heap.size + 1 ≤ W.heap.size ∧ Below w.heap.size w W) (by kernel_rfl) (by kernel_rfl) (by kernel_rfl) (by kernel_rfl) (HO _ _ S0 ((Below.refl _ _).drew)) ?_
      clear S0
      repeat (first
        | (refine Settle.Settles.off (by rfl) ?_; simp only [Act.put, List.setIfInBounds_toArray, List.set_cons_zero, List.set_cons_succ])
        | (refine Settle.Settles.quiet (v := ?_) (by rfl) ?_ ?_
           rotate_left
           · (intro W hS; obtain ⟨⟨_, _⟩, _, _, ⟨_, _⟩, _, _, _⟩ := hS; go_simp; with_reducible rfl)
           simp only [Act.put, List.setIfInBounds_toArray, List.set_cons_zero, List.set_cons_succ])
        | (refine Settle.Settles.call (v := ?_) (f := ?_) (args := ?_) (by rfl) ?_ ?_ ?_
           rotate_left 3
           · (intro W; go_simp; refine ⟨?_, ?_⟩ <;> with_reducible rfl)
           · (intro W hS; first | (go_at_call 55; (with_reducible refine (QR.out _ (hS.2.1.wide hS.2.2.2.2.2.2.size)).mono ?_); rintro e W1 ⟨rfl, hb⟩; refine ⟨?_, HO _ _ hS hb⟩; with_reducible rfl))
           simp only [Act.put, List.setIfInBounds_toArray, List.set_cons_zero, List.set_cons_succ]))
      refine Settle.Settles.nil ?_
      intro wr S0
      obtain ⟨⟨_, _⟩, _, _, ⟨_, _⟩, _, _, _⟩ := id S0
      have hown := S0.2.2.2.2.1
      have hsz := S0.2.2.2.2.2.1
      have S1 := Lib.hid (And.intro S0.1 (And.intro S0.2.1 (And.intro S0.2.2.1 S0.2.2.2.2.2.2)))
      go_wp2_with (at_builtin; refine wpList_append_own _ rfl _ _ 26 rfl (w.heap.size + 1) 3 i0 (.int .i64 0) 1 8 Try.underlying26 hi hz0 hz1 hz2 rfl (by decide) _ _ _ rfl (hown.alloc _) ⟨wr.heap.size, 0, none⟩ 1 1 [.int .i64 (k : Int)] rfl rfl ?c1 ?c2 ?c3 ?c4 ?c5 ?_)
      case c1 => (intro j u hj; match j, hj with | 0, hj => (simp at hj; subst hj; simp [Addr.add]))
      case c2 => (intro u hu; simp at hu; subst hu; rfl)
      case c3 => (unfold maxLen; omega)
      case c4 => omega
      case c5 => (simp; omega)
      intro v1_ wa_ ho_ hg_ _
      have hb0 : Below (w.heap.size + 1) wr (wr.alloc (Obj.cells #[.int .i64 (k : Int)] 3)) := (below1 _ _).mono hsz
      have hb1 := hb0.grown hg_ (by simp; omega) (fun g hg => (hown.lt g hg).1)
      have HN1 := Lib.hid (HO2 _ _ S1.out hb1)
      have HN : Hid (wa_.ownsRow (w.heap.size + 1) 3 1 v1_ (nt (k + 1)).length (icells (nt (k + 1))) ∧ w.heap.size + 1 ≤ wa_.heap.size) := Lib.hid (by
        rw [HL2.out, icells_snoc, List.length_append, hmq]
        exact ⟨ho_, Nat.le_trans hsz hb1.size⟩)
      clear ho_ hg_ hown HL2 S0 S1 hb0 hb1 HO HO2
      go_wp2_with fail
      first
        | exact ⟨⟨k + 1, by omega, by go_num, .inr hgk.out, HN.out.1, HN.out.2, HN1.out⟩, by simp [intOf]; omega⟩
        | (go_roundw <;> first | exact ⟨k + 1, by omega, by go_num, .inr hgk.out, HN.out.1, HN.out.2, HN1.out⟩ | (simp [intOf]; omega))
end Go.Proofs.Ytagokcbldkbdmaa.HouRspec

