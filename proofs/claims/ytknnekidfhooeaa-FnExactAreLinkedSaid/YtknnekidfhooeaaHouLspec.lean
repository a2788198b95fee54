/-
  What the model says of halls that are linked among themselves, as a contract.
-/
import Derived.Test.YtknnekidfhooeaaHouYspec
import Derived.Test.YtknnekidfhooeaaHouLink
namespace Go.Proofs.Ytknnekidfhooeaa.HouLspec
open Go.RowKit Pts Blk HouMath HouMathB HouReach HouLink HouBox HouMem Ints JoinMath
open Go.Proofs.Ytknnekidfhooeaa.Own (icells icells_length icells_at icells_snoc own_shape own_cell own_below own_base own_empty)
open PointOk (ret_bool ret_i64 below1 below2 below3)

theorem infoI : (Try.prog.info? 3).map (fun i => (i.zero, i.size, i.bytes)) = some (some (.int .i64 0), 1, 8) := by kernel_rfl
theorem own_ints {w : World} {b e q cap : Nat} {A : Option Addr} {l : List Int} (h : w.ownsRow b e 1 (.slice A q cap) q (icells l)) (hq : l.length = q) : IntsAt w w.heap.size A l := by
  intro j hj
  obtain ⟨g, rfl, _, hlt, hc, _⟩ := own_cell h (by omega) (icells_at hj)
  exact ⟨_, rfl, hlt, by rw [Pts.add_head]; exact hc⟩

set_option maxRecDepth 100000 in
set_option maxHeartbeats 6400000 in
theorem areLinked (H : Int) (A : Option Addr) (n cap : Nat) (B : Option Addr) (m cb : Nat) (w : World) (ds : List (Int × Int)) (hl : ds.length = n) (hn : n ≤ 1048576) (hp : PtsAt w w.heap.size A ds) (zs : List Int) (hz : zs.length = m) (hm : m ≤ 1048576) (hq : IntsAt w w.heap.size B zs) :
    Calls Try.prog 30 #[.agg #[.int .i64 H, .slice A n cap], .slice B m cb] w fun e w' => e = .returned (.bool (linkedB H ds zs)) ∧ Below w.heap.size w w' := by
  obtain ⟨r, hr⟩ : ∃ r, linkedB H ds zs = r := ⟨_, rfl⟩
  have HR := Lib.hid hr
  rw [hr]
  clear hr
  have Q1 : Hid (∀ w hp, _) := Lib.hid fun w hp => HouVspec.houseOk H A n cap w ds hl hn hp
  have Q2 : Hid (∀ z w hp, _) := Lib.hid fun z w hp => HouWspec.has H A n cap z w ds hl hn hp
  have Q3 : Hid (∀ a b w hp, _) := Lib.hid fun a b w hp => HouSpec.door H A n cap a b w ds hl hn hp
  have HNo : Hid ((houseB H ds && hallsB H zs) = false → r = false) := Lib.hid (fun h => by rw [← HR.out]; exact linked_no h)
  have HBad : Hid (∀ k, k < m → hallOf H ds (zs.getD k 0) = false → r = false) := Lib.hid (fun k hk h => by
    refine HNo.out ?_
    unfold hallOf at h
    cases hb : houseB H ds
    · rfl
    · rw [hb, Bool.true_and] at h
      rw [halls_bad (by omega) h]; rfl)
  have HNil : Hid (m = 0 → r = houseB H ds) := Lib.hid (fun h => by rw [← HR.out]; exact linked_nil (by omega))
  have HAll : Hid ((∀ k, k < m → hallOf H ds (zs.getD k 0) = true) → hallsB H zs = true) := Lib.hid (fun h => halls_ok (fun k hk => by
    have := h k (by omega)
    unfold hallOf at this
    rw [Bool.and_eq_true] at this
    exact this.2))
  have HLk : Hid ((houseB H ds && hallsB H zs) = true → m ≠ 0 → ∀ k, (∀ j, j < k → j < (lk ds zs (zs.getD 0 0) j).length) → (lk ds zs (zs.getD 0 0) k).length = k → r = (List.range m).all fun i => (lk ds zs (zs.getD 0 0) k).contains (zs.getD i 0)) := Lib.hid (fun h h0 k hk he => by
    rw [← HR.out]
    have h1 := (house_form (by rw [Bool.and_eq_true] at h; exact h.1)).h1
    obtain ⟨N, hN⟩ := Int.eq_ofNat_of_zero_le (show 0 ≤ H by omega)
    subst hN
    have := linked_lk h (by omega) hk he
    rw [hz] at this
    exact this)
  have HOk : Hid (0 < m → ∀ k, (∀ j, j < k → j < (lk ds zs (zs.getD 0 0) j).length) → Lk ds zs (zs.getD 0 0) (lk ds zs (zs.getD 0 0) k)) := Lib.hid (fun h k hk => lk_ok (mem_getD (by omega)) k hk)
  clear HR
  obtain ⟨i0, hi, hz0, hz1, hz2⟩ := info_parts infoI
  go_enter Try.func30, Try.ntmps30
  go_wp2_with fail
  have X0 := HouBox.boxH w H A n cap 29 (k := w.heap.size) (by simp)
  have b0 := PointOk.below1 w (Obj.cells #[.int .i64 H, .slice A n cap] 29)
  have HO : ∀ W W' : World, (HouBox.BoxH W (w.heap.size) H A n cap ∧ PtsAt W w.heap.size A ds ∧ IntsAt W w.heap.size B zs ∧ Below w.heap.size w W) → Below W.heap.size W W' → (HouBox.BoxH W' (w.heap.size) H A n cap ∧ PtsAt W' w.heap.size A ds ∧ IntsAt W' w.heap.size B zs ∧ Below w.heap.size w W') := fun W W' ⟨h0, x0, x1, hb⟩ h => ⟨h0.later h, x0.later (h.mono hb.size), x1.later (h.mono hb.size), hb.trans (h.mono hb.size)⟩
  have hz0_ : Hid (((w.alloc (Obj.cells #[.int .i64 H, .slice A n cap] 29))).heap.size = w.heap.size + 1) := Lib.hid (by simp)
  have Y0 : PtsAt ((w.alloc (Obj.cells #[.int .i64 H, .slice A n cap] 29))) w.heap.size A ds := hp.later b0
  have Y1 : IntsAt ((w.alloc (Obj.cells #[.int .i64 H, .slice A n cap] 29))) w.heap.size B zs := hq.later b0
  generalize (w.alloc (Obj.cells #[.int .i64 H, .slice A n cap] 29)) = w0 at X0 Y0 Y1 b0 hz0_ ⊢
  have S0 := (⟨X0, Y0, Y1, b0⟩ : HouBox.BoxH w0 (w.heap.size) H A n cap ∧ PtsAt w0 w.heap.size A ds ∧ IntsAt w0 w.heap.size B zs ∧ Below w.heap.size w w0)
  clear X0 Y0 Y1 b0
  obtain ⟨⟨_, _⟩, _, _, _⟩ := id S0
  replace hz0_ := Lib.hid hz0_.out
  have hsz0 : Hid (w.heap.size + 1 ≤ w0.heap.size) := Lib.hid (by have := hz0_.out; omega)
  clear hz0_
  go_loopw [5] (fun i wr => ∃ k : Nat, k ≤ m ∧ i = .int .i64 k ∧ Hid (∀ j, j < k → hallOf H ds (zs.getD j 0) = true) ∧ Hid (w.heap.size + 1 ≤ wr.heap.size) ∧ (HouBox.BoxH wr (w.heap.size) H A n cap ∧ PtsAt wr w.heap.size A ds ∧ IntsAt wr w.heap.size B zs ∧ Below w.heap.size w wr))
    (fun i _ => m - (intOf i).toNat)
  case atStart => exact ⟨0, Nat.zero_le _, rfl, Lib.hid (fun j hj => absurd hj (by omega)), hsz0, S0⟩
  case round =>
    clear S0 hsz0
    obtain ⟨k, hk, rfl, hall, hsz, S0⟩ := hrel
    obtain ⟨⟨_, _⟩, _, _, _⟩ := id S0
    by_cases hkm : k < m
    · have hk1 : (k : Int) < (m : Int) := by omega
      have hk0 : (0 : Int) ≤ (k : Int) := by omega
      have p0 := at_d (zs := zs) (k := k) (by omega)
      have HB1 := Lib.hid (HBad.out k hkm)
      have HW : Hid (hallOf H ds (zs.getD k 0) = true → ∀ j, j < k + 1 → hallOf H ds (zs.getD j 0) = true) := Lib.hid (fun h j hj => by
        rcases Nat.lt_or_ge j k with h1 | h1
        · exact hall.out j h1
        · obtain rfl : j = k := by omega
          exact h)
      obtain ⟨z, hzz⟩ : ∃ z, zs.getD k 0 = z := ⟨_, rfl⟩
      rw [hzz] at p0 HB1 HW
      obtain ⟨bd, eB, bB, pB⟩ := S0.2.2.1.get p0
      subst eB
      have QH : Hid (∀ w hp, _) := Lib.hid fun w hp => Q2.out z w hp
      obtain ⟨c, hc⟩ : ∃ c, hallOf H ds z = c := ⟨_, rfl⟩
      rw [hc] at QH HB1 HW
      clear p0 hzz hall HBad HNil HAll HLk HOk HNo Q1 Q2 Q3 hc hz
      have HO : ∀ W W' : World, (BoxH W w.heap.size H A n cap ∧ PtsAt W w.heap.size A ds ∧ IntsAt W w.heap.size (some bd) zs ∧ IntAt W bd k z ∧ w.heap.size + 1 ≤ W.heap.size ∧ Below w.heap.size w W) → Below W.heap.size W W' → (BoxH W' w.heap.size H A n cap ∧ PtsAt W' w.heap.size A ds ∧ IntsAt W' w.heap.size (some bd) zs ∧ IntAt W' bd k z ∧ w.heap.size + 1 ≤ W'.heap.size ∧ Below w.heap.size w W') := fun W W' ⟨x0, x1, x2, x3, x4, hb⟩ h => ⟨x0.later h, x1.later (h.mono hb.size), x2.later (h.mono hb.size), x3.later bB (h.mono hb.size), Nat.le_trans x4 h.size, hb.trans (h.mono hb.size)⟩
      replace S0 : (BoxH wr w.heap.size H A n cap ∧ PtsAt wr w.heap.size A ds ∧ IntsAt wr w.heap.size (some bd) zs ∧ IntAt wr bd k z ∧ w.heap.size + 1 ≤ wr.heap.size ∧ Below w.heap.size w wr) := ⟨S0.1, S0.2.1, S0.2.2.1, pB, hsz.out, S0.2.2.2⟩
      clear pB hsz
      obtain ⟨⟨_, _⟩, _, _, ⟨_, _⟩, _, _⟩ := id S0
      cases c
      · have E := Lib.hid (HB1.out rfl)
        clear HB1 HW
        go_wp2_with fail
        refine Settle.region (fun W => BoxH W w.heap.size H A n cap ∧ PtsAt W w.heap.size A ds ∧ IntsAt W w.heap.size (some bd) zs ∧ IntAt W bd k z ∧ w.heap.size + 1 ≤ W.heap.size ∧ Below w.heap.size w W) (by kernel_rfl) (by kernel_rfl) (by kernel_rfl) (by kernel_rfl) (HO _ _ S0 ((Below.refl _ _).drew)) ?_
        clear S0
        repeat (first
          | (refine Settle.Settles.off (by rfl) ?_; simp only [Act.put, List.setIfInBounds_toArray, List.set_cons_zero, List.set_cons_succ])
          | (refine Settle.Settles.quiet (v := ?_) (by rfl) ?_ ?_
             rotate_left
             · (intro W hS; obtain ⟨⟨_, _⟩, _, _, ⟨_, _⟩, _, _⟩ := hS; go_simp; with_reducible rfl)
             simp only [Act.put, List.setIfInBounds_toArray, List.set_cons_zero, List.set_cons_succ])
          | (refine Settle.Settles.call (v := ?_) (f := ?_) (args := ?_) (by rfl) ?_ ?_ ?_
             rotate_left 3
             · (intro W; go_simp; refine ⟨?_, ?_⟩ <;> with_reducible rfl)
             · (intro W hS; first | (go_at_call 57; (with_reducible refine (QH.out _ (hS.2.1.wide hS.2.2.2.2.2.size)).mono ?_); rintro e W1 ⟨rfl, hb⟩; refine ⟨?_, HO _ _ hS hb⟩; with_reducible rfl))
             simp only [Act.put, List.setIfInBounds_toArray, List.set_cons_zero, List.set_cons_succ]))
        refine Settle.Settles.nil ?_
        intro wr S0
        obtain ⟨⟨_, _⟩, _, _, ⟨_, _⟩, _, _⟩ := id S0
        go_wp2_with fail
        go_ret
        exact ⟨ret_bool E.out.symm, S0.2.2.2.2.2⟩
      · have HW2 := Lib.hid (HW.out rfl)
        clear HB1 HW
        go_wp2_with fail
        refine Settle.region (fun W => BoxH W w.heap.size H A n cap ∧ PtsAt W w.heap.size A ds ∧ IntsAt W w.heap.size (some bd) zs ∧ IntAt W bd k z ∧ w.heap.size + 1 ≤ W.heap.size ∧ Below w.heap.size w W) (by kernel_rfl) (by kernel_rfl) (by kernel_rfl) (by kernel_rfl) (HO _ _ S0 ((Below.refl _ _).drew)) ?_
        clear S0
        repeat (first
          | (refine Settle.Settles.off (by rfl) ?_; simp only [Act.put, List.setIfInBounds_toArray, List.set_cons_zero, List.set_cons_succ])
          | (refine Settle.Settles.quiet (v := ?_) (by rfl) ?_ ?_
             rotate_left
             · (intro W hS; obtain ⟨⟨_, _⟩, _, _, ⟨_, _⟩, _, _⟩ := hS; go_simp; with_reducible rfl)
             simp only [Act.put, List.setIfInBounds_toArray, List.set_cons_zero, List.set_cons_succ])
          | (refine Settle.Settles.call (v := ?_) (f := ?_) (args := ?_) (by rfl) ?_ ?_ ?_
             rotate_left 3
             · (intro W; go_simp; refine ⟨?_, ?_⟩ <;> with_reducible rfl)
             · (intro W hS; first | (go_at_call 57; (with_reducible refine (QH.out _ (hS.2.1.wide hS.2.2.2.2.2.size)).mono ?_); rintro e W1 ⟨rfl, hb⟩; refine ⟨?_, HO _ _ hS hb⟩; with_reducible rfl))
             simp only [Act.put, List.setIfInBounds_toArray, List.set_cons_zero, List.set_cons_succ]))
        refine Settle.Settles.nil ?_
        intro wr S0
        obtain ⟨⟨_, _⟩, _, _, ⟨_, _⟩, _, _⟩ := id S0
        go_wp2_with fail
        exact ⟨⟨k + 1, by omega, by go_num, HW2, Lib.hid S0.2.2.2.2.1, S0.1, S0.2.1, S0.2.2.1, S0.2.2.2.2.2⟩, by simp [intOf]; omega⟩
    obtain rfl : k = m := by omega
    have hA := HAll.out hall.out
    clear HBad HAll hall Q2
    cases ch : houseB H ds
    · have E := Lib.hid (HNo.out (by rw [ch]; rfl))
      rw [ch] at Q1
      clear HNo HNil HLk HOk Q3 ch hA hl hz
      go_wp2_with fail
      refine (Q1.out _ (S0.2.1.wide S0.2.2.2.size)).mono ?_
      rintro e w1 ⟨rfl, hb_⟩
      replace S0 := HO _ _ S0 hb_
      clear hb_
      obtain ⟨⟨_, _⟩, _, _, _⟩ := id S0
      go_wp2_with fail
      refine (Q1.out _ (S0.2.1.wide S0.2.2.2.size)).mono ?_
      rintro e w2 ⟨rfl, hb_⟩
      replace S0 := HO _ _ S0 hb_
      clear hb_
      obtain ⟨⟨_, _⟩, _, _, _⟩ := id S0
      go_wp2_with fail
      go_ret
      exact ⟨ret_bool E.out.symm, S0.2.2.2⟩
    rw [ch] at Q1
    by_cases hk0 : k = 0
    · have E : Hid (r = true) := Lib.hid (by rw [HNil.out hk0, ch])
      have hk1 : ((k : Nat) : Int) = 0 := by omega
      clear HNo HNil HLk HOk Q3 ch hA hl hz
      go_wp2_with fail
      refine (Q1.out _ (S0.2.1.wide S0.2.2.2.size)).mono ?_
      rintro e w1 ⟨rfl, hb_⟩
      replace S0 := HO _ _ S0 hb_
      clear hb_
      obtain ⟨⟨_, _⟩, _, _, _⟩ := id S0
      go_wp2_with fail
      refine (Q1.out _ (S0.2.1.wide S0.2.2.2.size)).mono ?_
      rintro e w2 ⟨rfl, hb_⟩
      replace S0 := HO _ _ S0 hb_
      clear hb_
      obtain ⟨⟨_, _⟩, _, _, _⟩ := id S0
      go_wp2_with fail
      go_ret
      exact ⟨ret_bool E.out.symm, S0.2.2.2⟩
    replace HLk := Lib.hid (HLk.out (by rw [ch, hA]; rfl) hk0)
    replace HOk := Lib.hid (HOk.out (by omega))
    have hk1 : ¬ ((k : Nat) : Int) = 0 := by omega
    have hk2 : (((k : Nat) : Int) == 0) = false := beq_eq_false_iff_ne.2 hk1
    have hk3 : (0 : Int) < (k : Int) := by omega
    have p0 := at_d (zs := zs) (k := 0) (by omega)
    obtain ⟨z0, hzz⟩ : ∃ z, zs.getD 0 0 = z := ⟨_, rfl⟩
    rw [hzz] at p0 HLk HOk
    obtain ⟨bd, eB, bB, pB⟩ := S0.2.2.1.get p0
    subst eB
    clear HNo HNil ch hA p0 hzz
    go_wp2_with fail
    refine (Q1.out _ (S0.2.1.wide S0.2.2.2.size)).mono ?_
    rintro e w1 ⟨rfl, hb_⟩
    have hsz1 : w.heap.size + 1 ≤ w1.heap.size := Nat.le_trans hsz.out hb_.size
    have pB1 := here (pB.later bB (hb_.mono S0.2.2.2.size))
    replace S0 := HO _ _ S0 hb_
    clear hb_ hsz pB Q1
    obtain ⟨⟨_, _⟩, _, _, _⟩ := id S0
    obtain ⟨_, _⟩ := id pB1
    have HO : ∀ W W' : World, (BoxH W w.heap.size H A n cap ∧ PtsAt W w.heap.size A ds ∧ IntsAt W w.heap.size (some bd) zs ∧ Below w.heap.size w W) → Below W.heap.size W W' → (BoxH W' w.heap.size H A n cap ∧ PtsAt W' w.heap.size A ds ∧ IntsAt W' w.heap.size (some bd) zs ∧ Below w.heap.size w W') := fun W W' ⟨x0, x1, x2, hb⟩ h => ⟨x0.later h, x1.later (h.mono hb.size), x2.later (h.mono hb.size), hb.trans (h.mono hb.size)⟩
    have HO2 : ∀ W W' : World, (BoxH W w.heap.size H A n cap ∧ PtsAt W w.heap.size A ds ∧ IntsAt W w.heap.size (some bd) zs ∧ Below w.heap.size w W) → Below (w.heap.size + 1) W W' → (BoxH W' w.heap.size H A n cap ∧ PtsAt W' w.heap.size A ds ∧ IntsAt W' w.heap.size (some bd) zs ∧ Below w.heap.size w W') := fun W W' ⟨h0, h1, h2, hb⟩ h => ⟨⟨(h.cell (p := ⟨w.heap.size, 0, none⟩) (by show w.heap.size < w.heap.size + 1; omega)).trans h0.1, (h.cell (p := ⟨w.heap.size, 1, none⟩) (by show w.heap.size < w.heap.size + 1; omega)).trans h0.2⟩, h1.later (h.mono (by omega)), h2.later (h.mono (by omega)), hb.trans (h.mono (by omega))⟩
    replace S0 : (BoxH w1 w.heap.size H A n cap ∧ PtsAt w1 w.heap.size A ds ∧ IntsAt w1 w.heap.size (some bd) zs ∧ Below w.heap.size w w1) := S0
    go_wp2_with fail
    have hlit := World.ownsRow_lit (base := w.heap.size + 1) (e := 3) (size := 1) w1 #[.int .i64 z0] 1 hsz1 (by unfold maxLen; omega) (by simp)
    have hlk0 : lk ds zs z0 0 = [z0] := rfl
    have S1 := HO _ _ S0 (below1 w1 (.cells #[.int .i64 z0] 3))
    have hsz2 : w.heap.size + 1 ≤ (w1.alloc (.cells #[.int .i64 z0] 3)).heap.size := by simp; omega
    clear hk0 hk1 hk2 pB1
    go_loopw [6, 7] (fun v i wr => ∃ t : Nat, i = .int .i64 t ∧ Hid (∀ j, j < t → j < (lk ds zs z0 j).length) ∧ t ≤ (lk ds zs z0 t).length ∧ wr.ownsRow (w.heap.size + 1) 3 1 v (lk ds zs z0 t).length (icells (lk ds zs z0 t)) ∧ w.heap.size + 1 ≤ wr.heap.size ∧ (BoxH wr w.heap.size H A n cap ∧ PtsAt wr w.heap.size A ds ∧ IntsAt wr w.heap.size (some bd) zs ∧ Below w.heap.size w wr))
      (fun _ i _ => k - (intOf i).toNat)
    case atStart => exact ⟨0, rfl, Lib.hid (fun j hj => absurd hj (by omega)), Nat.zero_le _, hlit, hsz2, S1⟩
    case round =>
      clear S0 S1 hlit hlk0 hsz2 hsz1
      obtain ⟨t, rfl, hpath, htl, hown, hsz, S0⟩ := hrel
      have hL := HOk.out t hpath.out
      have hLe := hL.le
      rw [hz] at hLe
      obtain ⟨⟨_, _⟩, _, _, _⟩ := id S0
      by_cases hkt : t < (lk ds zs z0 t).length
      rotate_left
      · have het : (lk ds zs z0 t).length = t := by omega
        have hE := HLk.out t hpath.out het
        have HB : Hid (∀ i, i < k → (lk ds zs z0 t).contains (zs.getD i 0) = false → r = false) := Lib.hid (fun i hi h => by
          rw [hE, List.all_eq_false]
          exact ⟨i, List.mem_range.2 hi, by rw [h]; simp⟩)
        have HG : Hid ((∀ i, i < k → (lk ds zs z0 t).contains (zs.getD i 0) = true) → r = true) := Lib.hid (fun h => by
          rw [hE, List.all_eq_true]
          exact fun i hi => h i (List.mem_range.1 hi))
        rw [het] at hown
        obtain ⟨Ao, co, rfl⟩ := own_shape hown
        clear hE HLk HOk hpath hkt hL htl
        generalize lk ds zs z0 t = l at *
        go_wp2_with fail
        go_loopw [9] (fun i wr => ∃ j : Nat, j ≤ k ∧ i = .int .i64 j ∧ Hid (∀ i, i < j → l.contains (zs.getD i 0) = true) ∧ wr.ownsRow (w.heap.size + 1) 3 1 (.slice Ao t co) t (icells l) ∧ (BoxH wr w.heap.size H A n cap ∧ PtsAt wr w.heap.size A ds ∧ IntsAt wr w.heap.size (some bd) zs ∧ Below w.heap.size w wr))
          (fun i _ => k - (intOf i).toNat)
        case atStart => exact ⟨0, Nat.zero_le _, rfl, Lib.hid (fun j hj => absurd hj (by omega)), hown, S0⟩
        case round =>
          clear S0 hown hsz
          obtain ⟨j, hj, rfl, hall, hown, S0⟩ := hrel
          obtain ⟨⟨_, _⟩, _, _, _⟩ := id S0
          by_cases hjk : j < k
          rotate_left
          · obtain rfl : j = k := by omega
            have E := Lib.hid (HG.out hall.out)
            clear HG HB hall hown
            go_wp2_with fail
            go_ret
            exact ⟨ret_bool E.out.symm, S0.2.2.2⟩
          have hj1 : (j : Int) < (k : Int) := by omega
          have hj0 : (0 : Int) ≤ (j : Int) := by omega
          have p0 := at_d (zs := zs) (k := j) (by omega)
          have HB1 := Lib.hid (HB.out j hjk)
          have HW : Hid (l.contains (zs.getD j 0) = true → ∀ i, i < j + 1 → l.contains (zs.getD i 0) = true) := Lib.hid (fun h i hi => by
            rcases Nat.lt_or_ge i j with h1 | h1
            · exact hall.out i h1
            · obtain rfl : i = j := by omega
              exact h)
          obtain ⟨z, hzz⟩ : ∃ z, zs.getD j 0 = z := ⟨_, rfl⟩
          rw [hzz] at p0 HB1 HW
          obtain ⟨bd', eB, bB', pB⟩ := S0.2.2.1.get p0
          cases eB
          obtain ⟨_, _⟩ := id pB
          have Q5 : Hid (∀ w hq, _) := Lib.hid fun w hq => HouYspec.hasI Ao t co z w l het (by omega) hq
          obtain ⟨c, hc⟩ : ∃ c, l.contains z = c := ⟨_, rfl⟩
          rw [hc] at HB1 HW Q5
          have hOI := own_ints hown het
          replace hown := Lib.hid hown
          clear p0 hzz hall HB HG hc pB
          go_wp2_with fail
          refine (Q5.out _ hOI).mono ?_
          rintro e wx ⟨rfl, hb_⟩
          replace hown := Lib.hid (own_below hown.out hb_)
          replace S0 := HO _ _ S0 hb_
          clear hb_ hOI
          obtain ⟨⟨_, _⟩, _, _, _⟩ := id S0
          cases c
          · have E := Lib.hid (HB1.out rfl)
            clear HB1 HW
            go_wp2_with fail
            go_ret
            exact ⟨ret_bool E.out.symm, S0.2.2.2⟩
          · have HW2 := Lib.hid (HW.out rfl)
            clear HB1 HW
            go_wp2_with fail
            exact ⟨⟨j + 1, by omega, by go_num, HW2, hown.out, S0⟩, by simp [intOf]; omega⟩
      have ht1 : (t : Int) < ((lk ds zs z0 t).length : Int) := by omega
      have ht0 : (0 : Int) ≤ (t : Int) := by omega
      obtain ⟨x, hx⟩ : ∃ x, (lk ds zs z0 t).getD t 0 = x := ⟨_, rfl⟩
      have HIn : Hid (∀ j, j ≤ k → Lk ds zs z0 (inL ds zs x (lk ds zs z0 t) j)) := Lib.hid (fun j hj => hL.inn (by rw [← hx]; exact mem_getD hkt) j (by omega))
      have HPre : Hid (∀ j, (lk ds zs z0 t) <+: inL ds zs x (lk ds zs z0 t) j) := Lib.hid (fun j => in_pre ds zs x _ j)
      have HNext : Hid (lk ds zs z0 (t + 1) = inL ds zs x (lk ds zs z0 t) k) := Lib.hid (by rw [← hx, ← hz]; rfl)
      have HPath2 : Hid (∀ j, j < t + 1 → j < (lk ds zs z0 j).length) := Lib.hid (fun j hj => by
        rcases Nat.lt_or_ge j t with h | h
        · exact hpath.out j h
        · obtain rfl : j = t := by omega
          exact hkt)
      have HStep : Hid (∀ j, inL ds zs x (lk ds zs z0 t) (j + 1) = addZ ds x (inL ds zs x (lk ds zs z0 t) j) (zs.getD j 0)) := Lib.hid (fun j => rfl)
      have HZero : inL ds zs x (lk ds zs z0 t) 0 = lk ds zs z0 t := rfl
      have HAt : Hid (∀ j, (inL ds zs x (lk ds zs z0 t) j).getD t 0 = x ∧ t < (inL ds zs x (lk ds zs z0 t) j).length) := Lib.hid (fun j => by
        have h := HPre.out j
        exact ⟨by rw [pre_get h hkt]; exact hx, Nat.lt_of_lt_of_le hkt h.length_le⟩)
      generalize lk ds zs z0 t = L0 at *
      generalize inL ds zs x L0 = IL at *
      obtain ⟨Ao, co, rfl⟩ := own_shape hown
      replace hown := Lib.hid hown
      clear HLk HOk hpath hL hx HPre
      obtain ⟨q0, hq0⟩ : ∃ q, L0.length = q := ⟨_, rfl⟩
      rw [hq0] at hown ht1 hkt htl hLe ⊢
      go_wp2_with fail
      go_loopw [6, 8] (fun v i wr => ∃ j : Nat, j ≤ k ∧ i = .int .i64 j ∧ wr.ownsRow (w.heap.size + 1) 3 1 v (IL j).length (icells (IL j)) ∧ w.heap.size + 1 ≤ wr.heap.size ∧ (BoxH wr w.heap.size H A n cap ∧ PtsAt wr w.heap.size A ds ∧ IntsAt wr w.heap.size (some bd) zs ∧ Below w.heap.size w wr))
        (fun _ i _ => k - (intOf i).toNat)
      case atStart => exact ⟨0, Nat.zero_le _, rfl, by rw [HZero, hq0]; exact hown.out, hsz, S0⟩
      case round =>
        clear S0 hown hsz HZero
        obtain ⟨j, hj, rfl, hown, hsz, S0⟩ := hrel
        obtain ⟨⟨_, _⟩, _, _, _⟩ := id S0
        have hle := (HIn.out j hj).le
        rw [hz] at hle
        by_cases hjk : j < k
        rotate_left
        · obtain rfl : j = k := by omega
          have hlen2 : t + 1 ≤ (lk ds zs z0 (t + 1)).length := by rw [HNext.out]; exact (HAt.out j).2
          have hown2 : Hid _ := Lib.hid hown
          rw [← HNext.out] at hown2
          clear hown HAt HIn HStep HNext
          go_wp2_with fail
          exact ⟨⟨t + 1, by go_num, HPath2, hlen2, hown2.out, hsz, S0⟩, by simp [intOf]; omega⟩
        have hj1 : (j : Int) < (k : Int) := by omega
        have hj0 : (0 : Int) ≤ (j : Int) := by omega
        have p0 := at_d (zs := zs) (k := j) (by omega)
        have HS1 := Lib.hid (HStep.out j)
        have hat := HAt.out j
        obtain ⟨z, hzz⟩ : ∃ z, zs.getD j 0 = z := ⟨_, rfl⟩
        rw [hzz] at p0 HS1
        obtain ⟨bd', eB, bB', pB⟩ := S0.2.2.1.get p0
        cases eB
        obtain ⟨l, hl2⟩ : ∃ l, IL j = l := ⟨_, rfl⟩
        rw [hl2] at hown hat HS1 hle
        obtain ⟨q, hq⟩ : ∃ q, l.length = q := ⟨_, rfl⟩
        rw [hq] at hown hat hle
        obtain ⟨Ao, co, rfl⟩ := own_shape hown
        obtain ⟨g, rfl, hgb, hgl, hcx, _⟩ := own_cell hown (j := t) hat.2 (x := .int .i64 x) (by
          have h := hat.1
          have ht : t < l.length := by omega
          simp only [List.getD, List.getElem?_eq_getElem ht, Option.getD_some] at h
          rw [icells_at ht, h])
        have htq : (t : Int) < (q : Int) := by omega
        have Q4 : Hid (∀ w hp, _) := Lib.hid fun w hp => Q3.out z x w hp
        have Q5 : Hid (∀ w hq, _) := Lib.hid fun w hq2 => HouYspec.hasI (some ⟨g, 0, none⟩) q co z w l hq (by omega) hq2
        obtain ⟨c1, hc1⟩ : ∃ c, l.contains z = c := ⟨_, rfl⟩
        obtain ⟨c2, hc2⟩ : ∃ c, isDoor ds z x = c := ⟨_, rfl⟩
        have HS2 : Hid (IL (j + 1) = if (!c1 && c2) = true then l ++ [z] else l) := Lib.hid (by rw [HS1.out, ← hc1, ← hc2]; rfl)
        rw [hc1] at Q5
        rw [hc2] at Q4
        clear p0 hzz hl2 hat hc1 hc2 HS1 HStep HAt HIn HNext HPath2
        have HO : ∀ W W' : World, (BoxH W w.heap.size H A n cap ∧ PtsAt W w.heap.size A ds ∧ IntsAt W w.heap.size (some bd) zs ∧ IntAt W bd j z ∧ W.cell? ⟨g, t, none⟩ = some (.int .i64 x) ∧ W.ownsRow (w.heap.size + 1) 3 1 (.slice (some ⟨g, 0, none⟩) q co) q (icells l) ∧ w.heap.size + 1 ≤ W.heap.size ∧ Below w.heap.size w W) → Below W.heap.size W W' → (BoxH W' w.heap.size H A n cap ∧ PtsAt W' w.heap.size A ds ∧ IntsAt W' w.heap.size (some bd) zs ∧ IntAt W' bd j z ∧ W'.cell? ⟨g, t, none⟩ = some (.int .i64 x) ∧ W'.ownsRow (w.heap.size + 1) 3 1 (.slice (some ⟨g, 0, none⟩) q co) q (icells l) ∧ w.heap.size + 1 ≤ W'.heap.size ∧ Below w.heap.size w W') := fun W W' ⟨x0, x1, x2, x3, x4, x5, x6, hb⟩ h => ⟨x0.later h, x1.later (h.mono hb.size), x2.later (h.mono hb.size), x3.later bB (h.mono hb.size), cell_later h x4, own_below x5 h, Nat.le_trans x6 h.size, hb.trans (h.mono hb.size)⟩
        replace S0 : (BoxH wr w.heap.size H A n cap ∧ PtsAt wr w.heap.size A ds ∧ IntsAt wr w.heap.size (some bd) zs ∧ IntAt wr bd j z ∧ wr.cell? ⟨g, t, none⟩ = some (.int .i64 x) ∧ wr.ownsRow (w.heap.size + 1) 3 1 (.slice (some ⟨g, 0, none⟩) q co) q (icells l) ∧ w.heap.size + 1 ≤ wr.heap.size ∧ Below w.heap.size w wr) := ⟨S0.1, S0.2.1, S0.2.2.1, pB, hcx, hown, hsz, S0.2.2.2⟩
        clear pB hcx hown hsz
        obtain ⟨⟨_, _⟩, _, _, ⟨_, _⟩, _, _, _, _⟩ := id S0
        by_cases hcc : (!c1 && c2) = true
        rotate_left
        · have HS3 : Hid (IL (j + 1) = l) := Lib.hid (by rw [HS2.out, if_neg hcc])
          clear HS2
          cases c1
          · have hc : c2 = false := by cases c2 <;> simp_all
            subst hc
            clear hcc
            go_wp2_with fail
            refine Settle.region (fun W => BoxH W w.heap.size H A n cap ∧ PtsAt W w.heap.size A ds ∧ IntsAt W w.heap.size (some bd) zs ∧ IntAt W bd j z ∧ W.cell? ⟨g, t, none⟩ = some (.int .i64 x) ∧ W.ownsRow (w.heap.size + 1) 3 1 (.slice (some ⟨g, 0, none⟩) q co) q (icells l) ∧ w.heap.size + 1 ≤ W.heap.size ∧ Below w.heap.size w W) (by kernel_rfl) (by kernel_rfl) (by kernel_rfl) (by kernel_rfl) (HO _ _ S0 ((Below.refl _ _).drew)) ?_
            clear S0
            repeat (first
              | (refine Settle.Settles.off (by rfl) ?_; simp only [Act.put, List.setIfInBounds_toArray, List.set_cons_zero, List.set_cons_succ])
              | (refine Settle.Settles.quiet (v := ?_) (by rfl) ?_ ?_
                 rotate_left
                 · (intro W hS; obtain ⟨⟨_, _⟩, _, _, ⟨_, _⟩, _, _, _, _⟩ := hS; go_simp; with_reducible rfl)
                 simp only [Act.put, List.setIfInBounds_toArray, List.set_cons_zero, List.set_cons_succ])
              | (refine Settle.Settles.call (v := ?_) (f := ?_) (args := ?_) (by rfl) ?_ ?_ ?_
                 rotate_left 3
                 · (intro W; go_simp; refine ⟨?_, ?_⟩ <;> with_reducible rfl)
                 · (intro W hS; first | (go_at_call 62; (with_reducible refine (Q5.out _ ((own_ints hS.2.2.2.2.2.1 hq).wide (Nat.le_refl _))).mono ?_); rintro e W1 ⟨rfl, hb⟩; refine ⟨?_, HO _ _ hS hb⟩; with_reducible rfl) | (go_at_call 55; (with_reducible refine (Q4.out _ (hS.2.1.wide hS.2.2.2.2.2.2.2.size)).mono ?_); rintro e W1 ⟨rfl, hb⟩; refine ⟨?_, HO _ _ hS hb⟩; with_reducible rfl))
                 simp only [Act.put, List.setIfInBounds_toArray, List.set_cons_zero, List.set_cons_succ]))
            refine Settle.Settles.nil ?_
            intro wr S0
            obtain ⟨⟨_, _⟩, _, _, ⟨_, _⟩, _, _, _, _⟩ := id S0
            go_wp2_with fail
            exact ⟨⟨j + 1, by omega, by go_num, by rw [HS3.out, hq]; exact S0.2.2.2.2.2.1, S0.2.2.2.2.2.2.1, S0.1, S0.2.1, S0.2.2.1, S0.2.2.2.2.2.2.2⟩, by simp [intOf]; omega⟩
          · clear hcc Q4
            go_wp2_with fail
            refine Settle.region (fun W => BoxH W w.heap.size H A n cap ∧ PtsAt W w.heap.size A ds ∧ IntsAt W w.heap.size (some bd) zs ∧ IntAt W bd j z ∧ W.cell? ⟨g, t, none⟩ = some (.int .i64 x) ∧ W.ownsRow (w.heap.size + 1) 3 1 (.slice (some ⟨g, 0, none⟩) q co) q (icells l) ∧ w.heap.size + 1 ≤ W.heap.size ∧ Below w.heap.size w W) (by kernel_rfl) (by kernel_rfl) (by kernel_rfl) (by kernel_rfl) (HO _ _ S0 ((Below.refl _ _).drew)) ?_
            clear S0
            repeat (first
              | (refine Settle.Settles.off (by rfl) ?_; simp only [Act.put, List.setIfInBounds_toArray, List.set_cons_zero, List.set_cons_succ])
              | (refine Settle.Settles.quiet (v := ?_) (by rfl) ?_ ?_
                 rotate_left
                 · (intro W hS; obtain ⟨⟨_, _⟩, _, _, ⟨_, _⟩, _, _, _, _⟩ := hS; go_simp; with_reducible rfl)
                 simp only [Act.put, List.setIfInBounds_toArray, List.set_cons_zero, List.set_cons_succ])
              | (refine Settle.Settles.call (v := ?_) (f := ?_) (args := ?_) (by rfl) ?_ ?_ ?_
                 rotate_left 3
                 · (intro W; go_simp; refine ⟨?_, ?_⟩ <;> with_reducible rfl)
                 · (intro W hS; first | (go_at_call 62; (with_reducible refine (Q5.out _ ((own_ints hS.2.2.2.2.2.1 hq).wide (Nat.le_refl _))).mono ?_); rintro e W1 ⟨rfl, hb⟩; refine ⟨?_, HO _ _ hS hb⟩; with_reducible rfl))
                 simp only [Act.put, List.setIfInBounds_toArray, List.set_cons_zero, List.set_cons_succ]))
            refine Settle.Settles.nil ?_
            intro wr S0
            obtain ⟨⟨_, _⟩, _, _, ⟨_, _⟩, _, _, _, _⟩ := id S0
            go_wp2_with fail
            exact ⟨⟨j + 1, by omega, by go_num, by rw [HS3.out, hq]; exact S0.2.2.2.2.2.1, S0.2.2.2.2.2.2.1, S0.1, S0.2.1, S0.2.2.1, S0.2.2.2.2.2.2.2⟩, by simp [intOf]; omega⟩
        have HS3 : Hid (IL (j + 1) = l ++ [z]) := Lib.hid (by rw [HS2.out, if_pos hcc])
        have hc1 : c1 = false := by cases c1 <;> simp_all
        have hc2 : c2 = true := by cases c2 <;> simp_all
        subst hc1 hc2
        clear HS2 hcc
        go_wp2_with fail
        refine Settle.region (fun W => BoxH W w.heap.size H A n cap ∧ PtsAt W w.heap.size A ds ∧ IntsAt W w.heap.size (some bd) zs ∧ IntAt W bd j z ∧ W.cell? ⟨g, t, none⟩ = some (.int .i64 x) ∧ W.ownsRow (w.heap.size + 1) 3 1 (.slice (some ⟨g, 0, none⟩) q co) q (icells l) ∧ w.heap.size + 1 ≤ W.heap.size ∧ Below w.heap.size w W) (by kernel_rfl) (by kernel_rfl) (by kernel_rfl) (by kernel_rfl) (HO _ _ S0 ((Below.refl _ _).drew)) ?_
        clear S0
        repeat (first
          | (refine Settle.Settles.off (by rfl) ?_; simp only [Act.put, List.setIfInBounds_toArray, List.set_cons_zero, List.set_cons_succ])
          | (refine Settle.Settles.quiet (v := ?_) (by rfl) ?_ ?_
             rotate_left
             · (intro W hS; obtain ⟨⟨_, _⟩, _, _, ⟨_, _⟩, _, _, _, _⟩ := hS; go_simp; with_reducible rfl)
             simp only [Act.put, List.setIfInBounds_toArray, List.set_cons_zero, List.set_cons_succ])
          | (refine Settle.Settles.call (v := ?_) (f := ?_) (args := ?_) (by rfl) ?_ ?_ ?_
             rotate_left 3
             · (intro W; go_simp; refine ⟨?_, ?_⟩ <;> with_reducible rfl)
             · (intro W hS; first | (go_at_call 62; (with_reducible refine (Q5.out _ ((own_ints hS.2.2.2.2.2.1 hq).wide (Nat.le_refl _))).mono ?_); rintro e W1 ⟨rfl, hb⟩; refine ⟨?_, HO _ _ hS hb⟩; with_reducible rfl) | (go_at_call 55; (with_reducible refine (Q4.out _ (hS.2.1.wide hS.2.2.2.2.2.2.2.size)).mono ?_); rintro e W1 ⟨rfl, hb⟩; refine ⟨?_, HO _ _ hS hb⟩; with_reducible rfl))
             simp only [Act.put, List.setIfInBounds_toArray, List.set_cons_zero, List.set_cons_succ]))
        refine Settle.Settles.nil ?_
        intro wr S0
        obtain ⟨⟨_, _⟩, _, _, ⟨_, _⟩, _, _, _, _⟩ := id S0
        have hown := S0.2.2.2.2.2.1
        have hsz := S0.2.2.2.2.2.2.1
        have S5 := Lib.hid S0
        go_wp2_with (at_builtin; refine wpList_append_own _ rfl _ _ 35 rfl (w.heap.size + 1) 3 i0 (.int .i64 0) 1 8 Try.underlying35 hi hz0 hz1 hz2 rfl (by decide) _ _ _ rfl (hown.alloc _) ⟨wr.heap.size, 0, none⟩ 1 1 [.int .i64 z] rfl rfl ?c1 ?c2 ?c3 ?c4 ?c5 ?_)
        case c1 => (intro j u hj; match j, hj with | 0, hj => (simp at hj; subst hj; simp [Addr.add]))
        case c2 => (intro u hu; simp at hu; subst hu; rfl)
        case c3 => (unfold maxLen; omega)
        case c4 => omega
        case c5 => (simp; omega)
        intro v1_ wa_ ho_ hg_ _
        obtain ⟨g2_, c2_, rfl⟩ := ownsRow_succ ho_
        have HN : Hid (wa_.ownsRow (w.heap.size + 1) 3 1 (.slice (some ⟨g2_, 0, none⟩) (q + 1) c2_) (IL (j + 1)).length (icells (IL (j + 1))) ∧ w.heap.size + 1 ≤ wa_.heap.size ∧ (BoxH wa_ w.heap.size H A n cap ∧ PtsAt wa_ w.heap.size A ds ∧ IntsAt wa_ w.heap.size (some bd) zs ∧ Below w.heap.size w wa_)) := Lib.hid (by
          have hb0 : Below (w.heap.size + 1) wr (wr.alloc (Obj.cells #[.int .i64 z] 3)) := (below1 _ _).mono hsz
          have hb1 := hb0.grown hg_ (by simp; omega) (fun g hg => (hown.lt g hg).1)
          rw [HS3.out, icells_snoc, List.length_append, hq]
          exact ⟨ho_, Nat.le_trans hsz hb1.size, HO2 _ _ ⟨S5.out.1, S5.out.2.1, S5.out.2.2.1, S5.out.2.2.2.2.2.2.2⟩ hb1⟩)
        clear ho_ hg_ hown HS3 S0 S5
        go_wp2_with fail
        first
          | exact ⟨⟨j + 1, by omega, by go_num, HN.out.1, HN.out.2.1, HN.out.2.2⟩, by simp [intOf]; omega⟩
          | skip

end Go.Proofs.Ytknnekidfhooeaa.HouLspec

