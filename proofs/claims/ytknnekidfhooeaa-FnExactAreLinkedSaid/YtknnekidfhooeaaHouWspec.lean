/-
  What the model says of distances of halls and of lists of halls, as contracts.
-/
import Derived.Test.YtknnekidfhooeaaHouVspec
import Derived.Test.YtknnekidfhooeaaHouMathB
import Derived.Test.YtknnekidfhooeaaGround
import Derived.Test.YtknnekidfhooeaaJoinMath
namespace Go.Proofs.Ytknnekidfhooeaa.HouWspec
open Go.RowKit Pts Blk HouMath HouMathB HouBox HouMem Ints JoinMath
open Go.Proofs.Ytknnekidfhooeaa.Own (icells icells_length icells_at)
open PointOk (ret_bool ret_i64 below1 below2 below3)

theorem has (H : Int) (A : Option Addr) (n cap : Nat) (x : Int) (w : World) (ds : List (Int × Int)) (hl : ds.length = n) (hn : n ≤ 1048576) (hp : PtsAt w w.heap.size A ds) :
    Calls Try.prog 57 #[.agg #[.int .i64 H, .slice A n cap], .int .i64 x] w fun e w' => e = .returned (.bool (hallOf H ds x)) ∧ Below w.heap.size w w' := by
  have h := HouVspec.has H A n cap x w ds hl hn hp
  rw [show HouVspec.hasB H ds x = hallOf H ds x by unfold HouVspec.hasB hallOf; rw [inH_le]] at h
  exact h

set_option maxRecDepth 100000 in
set_option maxHeartbeats 1600000 in
theorem hallDistance (H : Int) (A : Option Addr) (n cap : Nat) (a b : Int) (w : World) (ds : List (Int × Int)) (hl : ds.length = n) (hn : n ≤ 1048576) (hp : PtsAt w w.heap.size A ds) :
    Calls Try.prog 28 #[.agg #[.int .i64 H, .slice A n cap], .int .i64 a, .int .i64 b] w fun e w' => e = .returned (.int .i64 (hallDistI H ds a b)) ∧ Below w.heap.size w w' := by
  obtain ⟨r, hr⟩ : ∃ r, hallDistI H ds a b = r := ⟨_, rfl⟩
  have HR := Lib.hid hr
  rw [hr]
  clear hr
  have Q1 : Hid (∀ w hp, _) := Lib.hid fun w hp => has H A n cap a w ds hl hn hp
  have Q2 : Hid (∀ w hp, _) := Lib.hid fun w hp => has H A n cap b w ds hl hn hp
  cases ca : hallOf H ds a
  · have E : Hid (r = -1) := Lib.hid (by rw [← HR.out]; exact hallDist_no (by rw [ca]; rfl))
    rw [ca] at Q1
    clear HR Q2 ca
    go_enter Try.func28, Try.ntmps28
    go_wp2_with fail
    have X0 := HouBox.boxH w H A n cap 29 (k := w.heap.size) (by simp)
    have b0 := PointOk.below1 w (Obj.cells #[.int .i64 H, .slice A n cap] 29)
    have HO : ∀ W W' : World, (HouBox.BoxH W (w.heap.size) H A n cap ∧ PtsAt W w.heap.size A ds ∧ Below w.heap.size w W) → Below W.heap.size W W' → (HouBox.BoxH W' (w.heap.size) H A n cap ∧ PtsAt W' w.heap.size A ds ∧ Below w.heap.size w W') := fun W W' ⟨h0, x0, hb⟩ h => ⟨h0.later h, x0.later (h.mono hb.size), hb.trans (h.mono hb.size)⟩
    have hz0_ : Hid (((w.alloc (Obj.cells #[.int .i64 H, .slice A n cap] 29))).heap.size = w.heap.size + 1) := Lib.hid (by simp)
    have Y0 : PtsAt ((w.alloc (Obj.cells #[.int .i64 H, .slice A n cap] 29))) w.heap.size A ds := hp.later b0
    generalize (w.alloc (Obj.cells #[.int .i64 H, .slice A n cap] 29)) = w0 at X0 Y0 b0 hz0_ ⊢
    have S0 := (⟨X0, Y0, b0⟩ : HouBox.BoxH w0 (w.heap.size) H A n cap ∧ PtsAt w0 w.heap.size A ds ∧ Below w.heap.size w w0)
    clear X0 Y0 b0
    obtain ⟨⟨_, _⟩, _, _⟩ := id S0
    refine (Q1.out _ (S0.2.1.wide S0.2.2.size)).mono ?_
    rintro e w1 ⟨rfl, hb_⟩
    replace S0 := HO _ _ S0 hb_
    clear hb_
    obtain ⟨⟨_, _⟩, _, _⟩ := id S0
    go_wp2_with fail
    go_ret
    exact ⟨ret_i64 E.out.symm, S0.2.2⟩
  cases cb : hallOf H ds b
  · have E : Hid (r = -1) := Lib.hid (by rw [← HR.out]; exact hallDist_no (by rw [ca, cb]; rfl))
    rw [ca] at Q1
    rw [cb] at Q2
    clear HR ca cb
    go_enter Try.func28, Try.ntmps28
    go_wp2_with fail
    have X0 := HouBox.boxH w H A n cap 29 (k := w.heap.size) (by simp)
    have b0 := PointOk.below1 w (Obj.cells #[.int .i64 H, .slice A n cap] 29)
    have HO : ∀ W W' : World, (HouBox.BoxH W (w.heap.size) H A n cap ∧ PtsAt W w.heap.size A ds ∧ Below w.heap.size w W) → Below W.heap.size W W' → (HouBox.BoxH W' (w.heap.size) H A n cap ∧ PtsAt W' w.heap.size A ds ∧ Below w.heap.size w W') := fun W W' ⟨h0, x0, hb⟩ h => ⟨h0.later h, x0.later (h.mono hb.size), hb.trans (h.mono hb.size)⟩
    have hz0_ : Hid (((w.alloc (Obj.cells #[.int .i64 H, .slice A n cap] 29))).heap.size = w.heap.size + 1) := Lib.hid (by simp)
    have Y0 : PtsAt ((w.alloc (Obj.cells #[.int .i64 H, .slice A n cap] 29))) w.heap.size A ds := hp.later b0
    generalize (w.alloc (Obj.cells #[.int .i64 H, .slice A n cap] 29)) = w0 at X0 Y0 b0 hz0_ ⊢
    have S0 := (⟨X0, Y0, b0⟩ : HouBox.BoxH w0 (w.heap.size) H A n cap ∧ PtsAt w0 w.heap.size A ds ∧ Below w.heap.size w w0)
    clear X0 Y0 b0
    obtain ⟨⟨_, _⟩, _, _⟩ := id S0
    refine (Q1.out _ (S0.2.1.wide S0.2.2.size)).mono ?_
    rintro e w1 ⟨rfl, hb_⟩
    replace S0 := HO _ _ S0 hb_
    clear hb_
    obtain ⟨⟨_, _⟩, _, _⟩ := id S0
    go_wp2_with fail
    refine (Q2.out _ (S0.2.1.wide S0.2.2.size)).mono ?_
    rintro e w2 ⟨rfl, hb_⟩
    replace S0 := HO _ _ S0 hb_
    clear hb_
    obtain ⟨⟨_, _⟩, _, _⟩ := id S0
    go_wp2_with fail
    go_ret
    exact ⟨ret_i64 E.out.symm, S0.2.2⟩
  obtain ⟨N, a, rfl, rfl, ha, hf⟩ := hall_nat ca
  obtain ⟨N', b, hN, rfl, hb, _⟩ := hall_nat cb
  obtain rfl : N = N' := by omega
  have E : Hid (r = (dist N ds a).getD b 0) := Lib.hid (by rw [← HR.out]; exact hallDist_yes (by rw [ca, cb]; rfl))
  have Q3 := Lib.hid fun w hp => HouDspec.distances N A n cap a w ds hf hl ha hp
  have hDl := dist_len (ds := ds) ha
  have hb0 : (0 : Int) ≤ (b : Int) := by omega
  have hb1 : (b : Int) < (N : Int) := by omega
  generalize dist N ds a = D at *
  rw [ca] at Q1
  rw [cb] at Q2
  clear HR ca cb hf hN
  go_enter Try.func28, Try.ntmps28
  go_wp2_with fail
  have X0 := HouBox.boxH w N A n cap 29 (k := w.heap.size) (by simp)
  have b0 := PointOk.below1 w (Obj.cells #[.int .i64 N, .slice A n cap] 29)
  have HO : ∀ W W' : World, (HouBox.BoxH W (w.heap.size) N A n cap ∧ PtsAt W w.heap.size A ds ∧ Below w.heap.size w W) → Below W.heap.size W W' → (HouBox.BoxH W' (w.heap.size) N A n cap ∧ PtsAt W' w.heap.size A ds ∧ Below w.heap.size w W') := fun W W' ⟨h0, x0, hb⟩ h => ⟨h0.later h, x0.later (h.mono hb.size), hb.trans (h.mono hb.size)⟩
  have hz0_ : Hid (((w.alloc (Obj.cells #[.int .i64 N, .slice A n cap] 29))).heap.size = w.heap.size + 1) := Lib.hid (by simp)
  have Y0 : PtsAt ((w.alloc (Obj.cells #[.int .i64 N, .slice A n cap] 29))) w.heap.size A ds := hp.later b0
  generalize (w.alloc (Obj.cells #[.int .i64 N, .slice A n cap] 29)) = w0 at X0 Y0 b0 hz0_ ⊢
  have S0 := (⟨X0, Y0, b0⟩ : HouBox.BoxH w0 (w.heap.size) N A n cap ∧ PtsAt w0 w.heap.size A ds ∧ Below w.heap.size w w0)
  clear X0 Y0 b0
  obtain ⟨⟨_, _⟩, _, _⟩ := id S0
  refine (Q1.out _ (S0.2.1.wide S0.2.2.size)).mono ?_
  rintro e w1 ⟨rfl, hb_⟩
  replace S0 := HO _ _ S0 hb_
  clear hb_
  obtain ⟨⟨_, _⟩, _, _⟩ := id S0
  go_wp2_with fail
  refine (Q2.out _ (S0.2.1.wide S0.2.2.size)).mono ?_
  rintro e w2 ⟨rfl, hb_⟩
  replace S0 := HO _ _ S0 hb_
  clear hb_
  obtain ⟨⟨_, _⟩, _, _⟩ := id S0
  go_wp2_with fail
  refine (Q3.out _ (S0.2.1.wide S0.2.2.size)).mono ?_
  rintro e w3 ⟨g, rfl, hG, hg, hb_⟩
  replace S0 := HO _ _ S0 hb_
  have cb := HouVspec.dist_cell hG hDl hb
  clear Q1 Q2 Q3 hb_ hg hG hDl
  go_wp2_with fail
  go_ret
  exact ⟨ret_i64 E.out.symm, S0.2.2⟩

set_option maxRecDepth 100000 in
set_option maxHeartbeats 1600000 in
theorem halls (H : Int) (A : Option Addr) (n cap : Nat) (B : Option Addr) (m cb : Nat) (w : World) (ds : List (Int × Int)) (hl : ds.length = n) (hn : n ≤ 1048576) (hp : PtsAt w w.heap.size A ds) (zs : List Int) (hz : zs.length = m) (hm : m ≤ 1048576) (hq : IntsAt w w.heap.size B zs) :
    Calls Try.prog 68 #[.agg #[.int .i64 H, .slice A n cap], .slice B m cb] w fun e w' => e = .returned (.bool (hallsB H zs && houseB H ds)) ∧ Below w.heap.size w w' := by
  obtain ⟨r, hr⟩ : ∃ r, (hallsB H zs && houseB H ds) = r := ⟨_, rfl⟩
  have HR := Lib.hid hr
  rw [hr]
  clear hr
  have Q1 : Hid (∀ w hp, _) := Lib.hid fun w hp => HouVspec.houseOk H A n cap w ds hl hn hp
  obtain ⟨hw, hhw⟩ : ∃ v, IntKind.i64.wrap (H - 1) = v := ⟨_, rfl⟩
  have HH : Hid (houseB H ds = true → hw = H - 1) := Lib.hid (fun h => by
    have h1 := (house_form h).h1
    have h7 := (house_form h).h7
    rw [← hhw]; exact IntWalk.i64_in _ (by omega))
  have HBad : Hid (∀ k, k < m → ¬ (0 ≤ zs.getD k 0 ∧ zs.getD k 0 ≤ hw) → r = false) := Lib.hid (fun k hk h => by
    rw [← HR.out]
    cases hb : houseB H ds
    · simp
    · have e := HH.out hb
      rw [halls_bad (k := k) (by omega) (by
        have : ¬ inH H (zs.getD k 0) = true := by rw [inH_iff]; omega
        simpa using this)]
      rfl)
  have HEnd : Hid ((∀ k, k < m → 0 ≤ zs.getD k 0 ∧ zs.getD k 0 ≤ hw) → r = houseB H ds) := Lib.hid (fun h => by
    rw [← HR.out]
    cases hb : houseB H ds
    · simp
    · have e := HH.out hb
      rw [halls_ok (fun k hk => by have := h k (by omega); rw [inH_iff]; omega)]
      rfl)
  generalize houseB H ds = bb at *
  clear HR HH
  go_enter Try.func68, Try.ntmps68
  go_wp2_with fail
  have X0 := HouBox.boxH w H A n cap 29 (k := w.heap.size) (by simp)
  have b0 := PointOk.below1 w (Obj.cells #[.int .i64 H, .slice A n cap] 29)
  have HO : ∀ W W' : World, (HouBox.BoxH W (w.heap.size) H A n cap ∧ PtsAt W w.heap.size A ds ∧ IntsAt W w.heap.size B zs ∧ Below w.heap.size w W) → Below W.heap.size W W' → (HouBox.BoxH W' (w.heap.size) H A n cap ∧ PtsAt W' w.heap.size A ds ∧ IntsAt W' w.heap.size B zs ∧ Below w.heap.size w W') := fun W W' ⟨h0, x0, x1, hb⟩ h => ⟨h0.later h, x0.later (h.mono hb.size), x1.later (h.mono hb.size), hb.trans (h.mono hb.size)⟩
  have hz0_ : Hid (((w.alloc (Obj.cells #[.int .i64 H, .slice A n cap] 29))).heap.size = w.heap.size + 1) := Lib.hid (by simp)
  have Y0 : PtsAt ((w.alloc (Obj.cells #[.int .i64 H, .slice A n cap] 29))) w.heap.size A ds := hp.later b0
  have Y1 : IntsAt ((w.alloc (Obj.cells #[.int .i64 H, .slice A n cap] 29))) w.heap.size B zs := hq.later b0
  generalize (w.alloc (Obj.cells #[.int .i64 H, .slice A n cap] 29)) = w0 at X0 Y0 Y1 b0 hz0_ ⊢
  have S0 := (⟨X0, Y0, Y1, b0⟩ : HouBox.BoxH w0 (w.heap.size) H A n cap ∧ PtsAt w0 w.heap.size A ds ∧ IntsAt w0 w.heap.size B zs ∧ Below w.heap.size w w0)
  clear X0 Y0 Y1 b0
  obtain ⟨⟨_, _⟩, _, _, _⟩ := id S0
  go_loopw [5] (fun i wr => ∃ k : Nat, k ≤ m ∧ i = .int .i64 k ∧ Hid (∀ j, j < k → 0 ≤ zs.getD j 0 ∧ zs.getD j 0 ≤ hw) ∧ (HouBox.BoxH wr (w.heap.size) H A n cap ∧ PtsAt wr w.heap.size A ds ∧ IntsAt wr w.heap.size B zs ∧ Below w.heap.size w wr))
    (fun i _ => m - (intOf i).toNat)
  case atStart => exact ⟨0, Nat.zero_le _, rfl, Lib.hid (fun j hj => absurd hj (by omega)), S0⟩
  case round =>
    clear S0
    obtain ⟨k, hk, rfl, hall, S0⟩ := hrel
    obtain ⟨⟨_, _⟩, _, _, _⟩ := id S0
    by_cases hkm : k < m
    rotate_left
    · obtain rfl : k = m := by omega
      have E := Lib.hid (HEnd.out hall.out)
      clear HEnd HBad hall hl
      go_wp2_with fail
      refine (Q1.out _ (S0.2.1.wide S0.2.2.2.size)).mono ?_
      rintro e w1 ⟨rfl, hb_⟩
      replace S0 := HO _ _ S0 hb_
      clear hb_
      obtain ⟨⟨_, _⟩, _, _, _⟩ := id S0
      go_wp2_with fail
      go_ret
      exact ⟨ret_bool E.out.symm, S0.2.2.2⟩
    have hk1 : (k : Int) < (m : Int) := by omega
    have hk0 : (0 : Int) ≤ (k : Int) := by omega
    have p0 := at_d (zs := zs) (k := k) (by omega)
    have HB1 := Lib.hid (HBad.out k hkm)
    have HW : Hid (0 ≤ zs.getD k 0 ∧ zs.getD k 0 ≤ hw → ∀ j, j < k + 1 → 0 ≤ zs.getD j 0 ∧ zs.getD j 0 ≤ hw) := Lib.hid (fun h j hj => by
      rcases Nat.lt_or_ge j k with h1 | h1
      · exact hall.out j h1
      · obtain rfl : j = k := by omega
        exact h)
    obtain ⟨z, hz⟩ : ∃ z, zs.getD k 0 = z := ⟨_, rfl⟩
    rw [hz] at p0 HB1 HW
    obtain ⟨bd, eB, bB, pB⟩ := S0.2.2.1.get p0
    subst eB
    have Q2 : Hid (∀ w, _) := Lib.hid fun w => PointOk.l01In z 0 hw w
    obtain ⟨c, hc⟩ : ∃ c, decide (0 ≤ z ∧ z ≤ hw) = c := ⟨_, rfl⟩
    rw [hc] at Q2
    clear p0 hz hall HBad HEnd
    have HO : ∀ W W' : World, (BoxH W w.heap.size H A n cap ∧ PtsAt W w.heap.size A ds ∧ IntsAt W w.heap.size (some bd) zs ∧ IntAt W bd k z ∧ Below w.heap.size w W) → Below W.heap.size W W' → (BoxH W' w.heap.size H A n cap ∧ PtsAt W' w.heap.size A ds ∧ IntsAt W' w.heap.size (some bd) zs ∧ IntAt W' bd k z ∧ Below w.heap.size w W') := fun W W' ⟨x0, x1, x2, x3, hb⟩ h => ⟨x0.later h, x1.later (h.mono hb.size), x2.later (h.mono hb.size), x3.later bB (h.mono hb.size), hb.trans (h.mono hb.size)⟩
    replace S0 : (BoxH wr w.heap.size H A n cap ∧ PtsAt wr w.heap.size A ds ∧ IntsAt wr w.heap.size (some bd) zs ∧ IntAt wr bd k z ∧ Below w.heap.size w wr) := ⟨S0.1, S0.2.1, S0.2.2.1, pB, S0.2.2.2⟩
    clear pB
    obtain ⟨⟨_, _⟩, _, _, ⟨_, _⟩, _⟩ := id S0
    cases c
    · have E := Lib.hid (HB1.out (of_decide_eq_false hc))
      clear HB1 HW hc
      go_wp2_with fail
      refine Settle.region (fun W => BoxH W w.heap.size H A n cap ∧ PtsAt W w.heap.size A ds ∧ IntsAt W w.heap.size (some bd) zs ∧ IntAt W bd k z ∧ Below w.heap.size w W) (by kernel_rfl) (by kernel_rfl) (by kernel_rfl) (by kernel_rfl) (HO _ _ S0 ((Below.refl _ _).drew)) ?_
      clear S0
      repeat (first
        | (refine Settle.Settles.off (by rfl) ?_; simp only [Act.put, List.setIfInBounds_toArray, List.set_cons_zero, List.set_cons_succ])
        | (refine Settle.Settles.quiet (v := ?_) (by rfl) ?_ ?_
           rotate_left
           · (intro W hS; obtain ⟨⟨_, _⟩, _, _, ⟨_, _⟩, _⟩ := hS; go_simp; with_reducible rfl)
           simp only [Act.put, List.setIfInBounds_toArray, List.set_cons_zero, List.set_cons_succ])
        | (refine Settle.Settles.call (v := ?_) (f := ?_) (args := ?_) (by rfl) ?_ ?_ ?_
           rotate_left 3
           · (intro W; go_simp; refine ⟨?_, ?_⟩ <;> with_reducible rfl)
           · (intro W hS; first | (go_at_call 72; (with_reducible refine (Q2.out _).mono ?_); rintro e W1 ⟨rfl, rfl⟩; refine ⟨?_, hS⟩; with_reducible rfl))
           simp only [Act.put, List.setIfInBounds_toArray, List.set_cons_zero, List.set_cons_succ]))
      refine Settle.Settles.nil ?_
      intro wr S0
      obtain ⟨⟨_, _⟩, _, _, ⟨_, _⟩, _⟩ := id S0
      go_wp2_with fail
      go_ret
      exact ⟨ret_bool E.out.symm, S0.2.2.2.2⟩
    · have HW2 := Lib.hid (HW.out (of_decide_eq_true hc))
      clear HB1 HW hc
      go_wp2_with fail
      refine Settle.region (fun W => BoxH W w.heap.size H A n cap ∧ PtsAt W w.heap.size A ds ∧ IntsAt W w.heap.size (some bd) zs ∧ IntAt W bd k z ∧ Below w.heap.size w W) (by kernel_rfl) (by kernel_rfl) (by kernel_rfl) (by kernel_rfl) (HO _ _ S0 ((Below.refl _ _).drew)) ?_
      clear S0
      repeat (first
        | (refine Settle.Settles.off (by rfl) ?_; simp only [Act.put, List.setIfInBounds_toArray, List.set_cons_zero, List.set_cons_succ])
        | (refine Settle.Settles.quiet (v := ?_) (by rfl) ?_ ?_
           rotate_left
           · (intro W hS; obtain ⟨⟨_, _⟩, _, _, ⟨_, _⟩, _⟩ := hS; go_simp; with_reducible rfl)
           simp only [Act.put, List.setIfInBounds_toArray, List.set_cons_zero, List.set_cons_succ])
        | (refine Settle.Settles.call (v := ?_) (f := ?_) (args := ?_) (by rfl) ?_ ?_ ?_
           rotate_left 3
           · (intro W; go_simp; refine ⟨?_, ?_⟩ <;> with_reducible rfl)
           · (intro W hS; first | (go_at_call 72; (with_reducible refine (Q2.out _).mono ?_); rintro e W1 ⟨rfl, rfl⟩; refine ⟨?_, hS⟩; with_reducible rfl))
           simp only [Act.put, List.setIfInBounds_toArray, List.set_cons_zero, List.set_cons_succ]))
      refine Settle.Settles.nil ?_
      intro wr S0
      obtain ⟨⟨_, _⟩, _, _, ⟨_, _⟩, _⟩ := id S0
      go_wp2_with fail
      exact ⟨⟨k + 1, by omega, by go_num, HW2, S0.1, S0.2.1, S0.2.2.1, S0.2.2.2.2⟩, by simp [intOf]; omega⟩

theorem placesOk (H : Int) (A : Option Addr) (n cap : Nat) (B : Option Addr) (m cb : Nat) (w : World) (ds : List (Int × Int)) (hl : ds.length = n) (hn : n ≤ 1048576) (hp : PtsAt w w.heap.size A ds) (zs : List Int) (hz : zs.length = m) (hm : m ≤ 1048576) (hq : IntsAt w w.heap.size B zs) :
    Calls Try.prog 39 #[.agg #[.int .i64 H, .slice A n cap], .slice B m cb] w fun e w' => e = .returned (.bool (houseB H ds && (decide (zs.length ≤ 6) && hallsB H zs))) ∧ Below w.heap.size w w' := by
  obtain ⟨r, hr⟩ : ∃ r, (houseB H ds && (decide (zs.length ≤ 6) && hallsB H zs)) = r := ⟨_, rfl⟩
  have HR := Lib.hid hr
  rw [hr]
  clear hr
  have Q1 : Hid (∀ w hp hq, _) := Lib.hid fun w hp hq => halls H A n cap B m cb w ds hl hn hp zs hz hm hq
  have HE : Hid (r = ((hallsB H zs && houseB H ds) && decide (m ≤ 6))) := Lib.hid (by rw [← HR.out, hz]; cases houseB H ds <;> cases hallsB H zs <;> simp)
  generalize (hallsB H zs && houseB H ds) = bb at *
  clear HR hl hz
  go_enter Try.func39, Try.ntmps39
  go_wp2_with fail
  have X0 := HouBox.boxH w H A n cap 29 (k := w.heap.size) (by simp)
  have b0 := PointOk.below1 w (Obj.cells #[.int .i64 H, .slice A n cap] 29)
  have HO : ∀ W W' : World, (HouBox.BoxH W (w.heap.size) H A n cap ∧ PtsAt W w.heap.size A ds ∧ IntsAt W w.heap.size B zs ∧ Below w.heap.size w W) → Below W.heap.size W W' → (HouBox.BoxH W' (w.heap.size) H A n cap ∧ PtsAt W' w.heap.size A ds ∧ IntsAt W' w.heap.size B zs ∧ Below w.heap.size w W') := fun W W' ⟨h0, x0, x1, hb⟩ h => ⟨h0.later h, x0.later (h.mono hb.size), x1.later (h.mono hb.size), hb.trans (h.mono hb.size)⟩
  have hz0_ : Hid (((w.alloc (Obj.cells #[.int .i64 H, .slice A n cap] 29))).heap.size = w.heap.size + 1) := Lib.hid (by simp)
  have Y0 : PtsAt ((w.alloc (Obj.cells #[.int .i64 H, .slice A n cap] 29))) w.heap.size A ds := hp.later b0
  have Y1 : IntsAt ((w.alloc (Obj.cells #[.int .i64 H, .slice A n cap] 29))) w.heap.size B zs := hq.later b0
  generalize (w.alloc (Obj.cells #[.int .i64 H, .slice A n cap] 29)) = w0 at X0 Y0 Y1 b0 hz0_ ⊢
  have S0 := (⟨X0, Y0, Y1, b0⟩ : HouBox.BoxH w0 (w.heap.size) H A n cap ∧ PtsAt w0 w.heap.size A ds ∧ IntsAt w0 w.heap.size B zs ∧ Below w.heap.size w w0)
  clear X0 Y0 Y1 b0
  obtain ⟨⟨_, _⟩, _, _, _⟩ := id S0
  refine (Q1.out _ (S0.2.1.wide S0.2.2.2.size) (S0.2.2.1.wide S0.2.2.2.size)).mono ?_
  rintro e w1 ⟨rfl, hb_⟩
  replace S0 := HO _ _ S0 hb_
  clear hb_
  obtain ⟨⟨_, _⟩, _, _, _⟩ := id S0
  cases bb
  · have E : Hid (r = false) := Lib.hid (by rw [HE.out]; rfl)
    clear HE Q1
    go_wp2_with fail
    go_ret
    exact ⟨ret_bool E.out.symm, S0.2.2.2⟩
  · clear Q1
    by_cases h6 : m ≤ 6
    · have h6' : (m : Int) ≤ 6 := by omega
      have E : Hid (r = true) := Lib.hid (by rw [HE.out]; simp [h6])
      clear HE
      go_wp2_with fail
      go_ret
      exact ⟨ret_bool E.out.symm, S0.2.2.2⟩
    · have h6' : ¬ (m : Int) ≤ 6 := by omega
      have E : Hid (r = false) := Lib.hid (by rw [HE.out]; simp [h6])
      clear HE
      go_wp2_with fail
      go_ret
      exact ⟨ret_bool (by first | exact E.out.symm | (rw [E.out]; exact decide_eq_false (by omega))), S0.2.2.2⟩

end Go.Proofs.Ytknnekidfhooeaa.HouWspec

