/-
  What the model says of the next hall on a way, as a contract.
-/
import Derived.Test.YtknnekidfhooeaaHouWspec
import Derived.Test.YtknnekidfhooeaaHouReach
namespace Go.Proofs.Ytknnekidfhooeaa.HouTspec
open Go.RowKit Pts Blk HouMath HouMathB HouReach HouBox HouMem Ints FirstMath
open Go.Proofs.Ytknnekidfhooeaa.Own (icells icells_length icells_at icells_snoc own_shape own_cell own_below own_base own_empty GivesI)
open PointOk (ret_bool ret_i64 below1 below2 below3)

set_option maxRecDepth 100000 in
set_option maxHeartbeats 3200000 in
theorem stepTowards (H : Int) (A : Option Addr) (n cap : Nat) (a b : Int) (w : World) (ds : List (Int × Int)) (hl : ds.length = n) (hn : n ≤ 1048576) (hp : PtsAt w w.heap.size A ds) :
    Calls Try.prog 37 #[.agg #[.int .i64 H, .slice A n cap], .int .i64 a, .int .i64 b] w fun e w' => e = .returned (.int .i64 (stepI H ds a b)) ∧ Below w.heap.size w w' := by
  obtain ⟨r, hr⟩ : ∃ r, stepI H ds a b = r := ⟨_, rfl⟩
  have HR := Lib.hid hr
  rw [hr]
  clear hr
  have Q1 : Hid (∀ w hp, _) := Lib.hid fun w hp => HouWspec.has H A n cap a w ds hl hn hp
  have Q2 : Hid (∀ w hp, _) := Lib.hid fun w hp => HouWspec.has H A n cap b w ds hl hn hp
  cases ca : hallOf H ds a
  · have E : Hid (r = -1) := Lib.hid (by rw [← HR.out]; exact step_no (by rw [ca]; rfl))
    rw [ca] at Q1
    clear HR Q2 ca
    go_enter Try.func37, Try.ntmps37
    go_wp2_with fail
    have X0 := HouBox.boxH w H A n cap 29 (k := w.heap.size) (by simp)
    have b0 := PointOk.below1 w (Obj.cells #[.int .i64 H, .slice A n cap] 29)
    have HO : ∀ W W' : World, (HouBox.BoxH W (w.heap.size) H A n cap ∧ PtsAt W w.heap.size A ds ∧ Below w.heap.size w W) → Below W.heap.size W W' → (HouBox.BoxH W' (w.heap.size) H A n cap ∧ PtsAt W' w.heap.size A ds ∧ Below w.heap.size w W') := fun W W' ⟨h0, x0, hb⟩ h => ⟨h0.later h, x0.later (h.mono hb.size), hb.trans (h.mono hb.size)⟩
    have hz0_ : Hid (((w.alloc (Obj.cells #[.int .i64 H, .slice A n cap] 29))).heap.size = w.heap.size + 1) := Lib.hid (by simp)
    have Y0 : PtsAt ((w.alloc (Obj.cells #[.int .i64 H, .slice A n cap] 29))) w.heap.size A ds := hp.later b0
    generalize (w.alloc (Obj.cells #[.int .i64 H, .slice A n cap] 29)) = w0 at X0 Y0 b0 hz0_ ⊢
    have S0 := (⟨X0, Y0, b0⟩ : HouBox.BoxH w0 (w.heap.size) H A n cap ∧ PtsAt w0 w.heap.size A ds ∧ Below w.heap.size w w0)
    clear X0 Y0 b0
    obtain ⟨⟨_, _⟩, _, _⟩ := id S0
    refine (Q1.out _ (S0.2.1.wide S0.2.2.size)).mono ?_
    rintro e w1 ⟨rfl, hb_⟩
    replace S0 := HO _ _ S0 hb_
    clear hb_
    obtain ⟨⟨_, _⟩, _, _⟩ := id S0
    go_wp2_with fail
    go_ret
    exact ⟨ret_i64 E.out.symm, S0.2.2⟩
  cases cb : hallOf H ds b
  · have E : Hid (r = -1) := Lib.hid (by rw [← HR.out]; exact step_no (by rw [ca, cb]; rfl))
    rw [ca] at Q1
    rw [cb] at Q2
    clear HR ca cb
    go_enter Try.func37, Try.ntmps37
    go_wp2_with fail
    have X0 := HouBox.boxH w H A n cap 29 (k := w.heap.size) (by simp)
    have b0 := PointOk.below1 w (Obj.cells #[.int .i64 H, .slice A n cap] 29)
    have HO : ∀ W W' : World, (HouBox.BoxH W (w.heap.size) H A n cap ∧ PtsAt W w.heap.size A ds ∧ Below w.heap.size w W) → Below W.heap.size W W' → (HouBox.BoxH W' (w.heap.size) H A n cap ∧ PtsAt W' w.heap.size A ds ∧ Below w.heap.size w W') := fun W W' ⟨h0, x0, hb⟩ h => ⟨h0.later h, x0.later (h.mono hb.size), hb.trans (h.mono hb.size)⟩
    have hz0_ : Hid (((w.alloc (Obj.cells #[.int .i64 H, .slice A n cap] 29))).heap.size = w.heap.size + 1) := Lib.hid (by simp)
    have Y0 : PtsAt ((w.alloc (Obj.cells #[.int .i64 H, .slice A n cap] 29))) w.heap.size A ds := hp.later b0
    generalize (w.alloc (Obj.cells #[.int .i64 H, .slice A n cap] 29)) = w0 at X0 Y0 b0 hz0_ ⊢
    have S0 := (⟨X0, Y0, b0⟩ : HouBox.BoxH w0 (w.heap.size) H A n cap ∧ PtsAt w0 w.heap.size A ds ∧ Below w.heap.size w w0)
    clear X0 Y0 b0
    obtain ⟨⟨_, _⟩, _, _⟩ := id S0
    refine (Q1.out _ (S0.2.1.wide S0.2.2.size)).mono ?_
    rintro e w1 ⟨rfl, hb_⟩
    replace S0 := HO _ _ S0 hb_
    clear hb_
    obtain ⟨⟨_, _⟩, _, _⟩ := id S0
    go_wp2_with fail
    refine (Q2.out _ (S0.2.1.wide S0.2.2.size)).mono ?_
    rintro e w2 ⟨rfl, hb_⟩
    replace S0 := HO _ _ S0 hb_
    clear hb_
    obtain ⟨⟨_, _⟩, _, _⟩ := id S0
    go_wp2_with fail
    go_ret
    exact ⟨ret_i64 E.out.symm, S0.2.2⟩
  obtain ⟨N, a, rfl, rfl, ha, hf⟩ := hall_nat ca
  obtain ⟨N', b, hN, rfl, hb, _⟩ := hall_nat cb
  obtain rfl : N = N' := by omega
  have HE : Hid (r = stepN N ds (dist N ds b) a) := Lib.hid (by rw [← HR.out]; exact step_yes (by rw [ca, cb]; rfl))
  have Q3 := Lib.hid fun w hp => HouDspec.distances N A n cap b w ds hf hl hb hp
  have Q4 : Hid (∀ (k : Nat) w hp, _) := Lib.hid fun (k : Nat) w hp => HouSpec.door N A n cap k a w ds hl hn hp
  have hDl := dist_len (ds := ds) hb
  have h7 : N ≤ 7 := by have := hf.h7; omega
  have HSelf : Hid (isDoor ds (a : Int) (a : Int) = false) := Lib.hid (isDoor_self hf _)
  have hz0 : (0 : Int) ≤ (a : Int) := by omega
  have hz1 : (a : Int) < (N : Int) := by omega
  generalize dist N ds b = D at *
  have HA : Hid (∀ k, k < N → stepTo ds D a k = true → (∀ j, j < k → stepTo ds D a j = false) → r = (k : Int)) := Lib.hid (fun k hk h h2 => by rw [HE.out]; exact step_at hk h h2)
  have HN : Hid ((∀ k, k < N → stepTo ds D a k = false) → r = (a : Int)) := Lib.hid (fun h => by rw [HE.out]; exact step_none h)
  have HT : Hid (∀ k, stepTo ds D a k = (isDoor ds (k : Int) (a : Int) && decide (D.getD k 0 < D.getD a 0))) := Lib.hid (fun k => rfl)
  rw [ca] at Q1
  rw [cb] at Q2
  clear HR HE ca cb hf hN
  go_enter Try.func37, Try.ntmps37
  go_wp2_with fail
  have X0 := HouBox.boxH w N A n cap 29 (k := w.heap.size) (by simp)
  have b0 := PointOk.below1 w (Obj.cells #[.int .i64 N, .slice A n cap] 29)
  have HO : ∀ W W' : World, (HouBox.BoxH W (w.heap.size) N A n cap ∧ PtsAt W w.heap.size A ds ∧ Below w.heap.size w W) → Below W.heap.size W W' → (HouBox.BoxH W' (w.heap.size) N A n cap ∧ PtsAt W' w.heap.size A ds ∧ Below w.heap.size w W') := fun W W' ⟨h0, x0, hb⟩ h => ⟨h0.later h, x0.later (h.mono hb.size), hb.trans (h.mono hb.size)⟩
  have hz0_ : Hid (((w.alloc (Obj.cells #[.int .i64 N, .slice A n cap] 29))).heap.size = w.heap.size + 1) := Lib.hid (by simp)
  have Y0 : PtsAt ((w.alloc (Obj.cells #[.int .i64 N, .slice A n cap] 29))) w.heap.size A ds := hp.later b0
  generalize (w.alloc (Obj.cells #[.int .i64 N, .slice A n cap] 29)) = w0 at X0 Y0 b0 hz0_ ⊢
  have S0 := (⟨X0, Y0, b0⟩ : HouBox.BoxH w0 (w.heap.size) N A n cap ∧ PtsAt w0 w.heap.size A ds ∧ Below w.heap.size w w0)
  clear X0 Y0 b0
  obtain ⟨⟨_, _⟩, _, _⟩ := id S0
  refine (Q1.out _ (S0.2.1.wide S0.2.2.size)).mono ?_
  rintro e w1 ⟨rfl, hb_⟩
  replace S0 := HO _ _ S0 hb_
  clear hb_
  obtain ⟨⟨_, _⟩, _, _⟩ := id S0
  go_wp2_with fail
  refine (Q2.out _ (S0.2.1.wide S0.2.2.size)).mono ?_
  rintro e w2 ⟨rfl, hb_⟩
  replace S0 := HO _ _ S0 hb_
  clear hb_
  obtain ⟨⟨_, _⟩, _, _⟩ := id S0
  go_wp2_with fail
  refine (Q3.out _ (S0.2.1.wide S0.2.2.size)).mono ?_
  rintro e w3 ⟨g, rfl, hG, hg, hb_⟩
  replace S0 := HO _ _ S0 hb_
  replace hG := Lib.hid hG
  clear Q1 Q2 Q3 hb_ hg
  obtain ⟨⟨_, _⟩, _, _⟩ := id S0
  go_wp2_with fail
  go_loopw [8] (fun i wr => ∃ k : Nat, k ≤ N ∧ i = .int .i64 k ∧ Hid (∀ j, j < k → stepTo ds D a j = false) ∧ Hid (Holds wr g (icells D).toArray 3) ∧ (HouBox.BoxH wr (w.heap.size) N A n cap ∧ PtsAt wr w.heap.size A ds ∧ Below w.heap.size w wr))
    (fun i _ => N - (intOf i).toNat)
  case atStart => exact ⟨0, Nat.zero_le _, rfl, Lib.hid (fun j hj => absurd hj (by omega)), hG, S0⟩
  case round =>
    clear S0 hG
    obtain ⟨k, hk, rfl, hall, hG, S0⟩ := hrel
    obtain ⟨⟨_, _⟩, _, _⟩ := id S0
    by_cases hkm : k < N
    rotate_left
    · obtain rfl : k = N := by omega
      have E := Lib.hid (HN.out hall.out)
      clear HA HN HT HSelf hDl hG hall hl Q4
      go_wp2_with fail
      go_ret
      exact ⟨ret_i64 E.out.symm, S0.2.2⟩
    have hk1 : (k : Int) < (N : Int) := by omega
    have hk0 : (0 : Int) ≤ (k : Int) := by omega
    have HT1 := HT.out k
    have HA1 := Lib.hid (fun h => HA.out k hkm h hall.out)
    have HW : Hid (stepTo ds D a k = false → ∀ j, j < k + 1 → stepTo ds D a j = false) := Lib.hid (fun h j hj => by
      rcases Nat.lt_or_ge j k with h1 | h1
      · exact hall.out j h1
      · obtain rfl : j = k := by omega
        exact h)
    have ck := HouVspec.dist_cell hG.out hDl hkm
    have ca := HouVspec.dist_cell hG.out hDl ha
    have QD : Hid (∀ w hp, _) := Lib.hid fun w hp => Q4.out k w hp
    obtain ⟨o, ho⟩ : ∃ o, isDoor ds (k : Int) (a : Int) = o := ⟨_, rfl⟩
    obtain ⟨dk, hdk⟩ : ∃ d, D.getD k 0 = d := ⟨_, rfl⟩
    obtain ⟨da, hda⟩ : ∃ d, D.getD a 0 = d := ⟨_, rfl⟩
    rw [ho, hdk, hda] at HT1
    rw [ho] at QD
    rw [hdk] at ck
    rw [hda] at ca
    have HT2 := Lib.hid HT1
    have hself : k = a → o = false := fun e => by rw [← ho, e]; exact HSelf.out
    clear HA HN HT HSelf hDl hall hl Q4 ho hdk hda HT1
    have HO : ∀ W W' : World, (BoxH W w.heap.size N A n cap ∧ PtsAt W w.heap.size A ds ∧ W.cell? ⟨g, k, none⟩ = some (.int .i64 dk) ∧ W.cell? ⟨g, a, none⟩ = some (.int .i64 da) ∧ Holds W g (icells D).toArray 3 ∧ Below w.heap.size w W) → Below W.heap.size W W' → (BoxH W' w.heap.size N A n cap ∧ PtsAt W' w.heap.size A ds ∧ W'.cell? ⟨g, k, none⟩ = some (.int .i64 dk) ∧ W'.cell? ⟨g, a, none⟩ = some (.int .i64 da) ∧ Holds W' g (icells D).toArray 3 ∧ Below w.heap.size w W') := fun W W' ⟨x0, x1, x2, x3, x4, hb⟩ h => ⟨x0.later h, x1.later (h.mono hb.size), cell_later h x2, cell_later h x3, x4.later h, hb.trans (h.mono hb.size)⟩
    replace S0 : (BoxH wr w.heap.size N A n cap ∧ PtsAt wr w.heap.size A ds ∧ wr.cell? ⟨g, k, none⟩ = some (.int .i64 dk) ∧ wr.cell? ⟨g, a, none⟩ = some (.int .i64 da) ∧ Holds wr g (icells D).toArray 3 ∧ Below w.heap.size w wr) := ⟨S0.1, S0.2.1, ck, ca, hG.out, S0.2.2⟩
    clear ck ca hG
    obtain ⟨⟨_, _⟩, _, _, _, _, _⟩ := id S0
    by_cases hka : k = a
    · have HW2 := Lib.hid (HW.out (by rw [HT2.out, hself hka]; rfl))
      have hkb : ((k : Int) == (a : Int)) = true := beq_iff_eq.2 (by omega)
      have hkc : ((k : Int) != (a : Int)) = false := by unfold bne; rw [hkb]; rfl
      have hkb2 : (k == a) = true := beq_iff_eq.2 hka
      have hkc2 : (k != a) = false := by unfold bne; rw [hkb2]; rfl
      clear HA1 HW HT2 hself QD
      go_wp2_with fail
      refine Settle.region (fun W => BoxH W w.heap.size N A n cap ∧ PtsAt W w.heap.size A ds ∧ W.cell? ⟨g, k, none⟩ = some (.int .i64 dk) ∧ W.cell? ⟨g, a, none⟩ = some (.int .i64 da) ∧ Holds W g (icells D).toArray 3 ∧ Below w.heap.size w W) (by kernel_rfl) (by kernel_rfl) (by kernel_rfl) (by kernel_rfl) (HO _ _ S0 ((Below.refl _ _).drew)) ?_
      clear S0
      repeat (first
        | (refine Settle.Settles.off (by rfl) ?_; simp only [Act.put, List.setIfInBounds_toArray, List.set_cons_zero, List.set_cons_succ])
        | (refine Settle.Settles.quiet (v := ?_) (by rfl) ?_ ?_
           rotate_left
           · (intro W hS; obtain ⟨⟨_, _⟩, _, _, _, _, _⟩ := hS; go_simp; with_reducible rfl)
           simp only [Act.put, List.setIfInBounds_toArray, List.set_cons_zero, List.set_cons_succ])
        | (refine Settle.Settles.call (v := ?_) (f := ?_) (args := ?_) (by rfl) ?_ ?_ ?_
           rotate_left 3
           · (intro W; go_simp; refine ⟨?_, ?_⟩ <;> with_reducible rfl)
           · (intro W hS; fail)
           simp only [Act.put, List.setIfInBounds_toArray, List.set_cons_zero, List.set_cons_succ]))
      refine Settle.Settles.nil ?_
      intro wr S0
      obtain ⟨⟨_, _⟩, _, _, _, _, _⟩ := id S0
      go_wp2_with fail
      exact ⟨⟨k + 1, by omega, by go_num, HW2, Lib.hid S0.2.2.2.2.1, S0.1, S0.2.1, S0.2.2.2.2.2⟩, by simp [intOf]; omega⟩
    have hka2 : ¬ (k : Int) = (a : Int) := by omega
    have hkb : ((k : Int) == (a : Int)) = false := beq_eq_false_iff_ne.2 hka2
    have hkc : ((k : Int) != (a : Int)) = true := by unfold bne; rw [hkb]; rfl
    have hkb2 : (k == a) = false := beq_eq_false_iff_ne.2 hka
    have hkc2 : (k != a) = true := by unfold bne; rw [hkb2]; rfl
    clear hself
    cases o
    · have HW2 := Lib.hid (HW.out (by rw [HT2.out]; rfl))
      clear HA1 HW HT2
      go_wp2_with fail
      refine Settle.region (fun W => BoxH W w.heap.size N A n cap ∧ PtsAt W w.heap.size A ds ∧ W.cell? ⟨g, k, none⟩ = some (.int .i64 dk) ∧ W.cell? ⟨g, a, none⟩ = some (.int .i64 da) ∧ Holds W g (icells D).toArray 3 ∧ Below w.heap.size w W) (by kernel_rfl) (by kernel_rfl) (by kernel_rfl) (by kernel_rfl) (HO _ _ S0 ((Below.refl _ _).drew)) ?_
      clear S0
      repeat (first
        | (refine Settle.Settles.off (by rfl) ?_; simp only [Act.put, List.setIfInBounds_toArray, List.set_cons_zero, List.set_cons_succ])
        | (refine Settle.Settles.quiet (v := ?_) (by rfl) ?_ ?_
           rotate_left
           · (intro W hS; obtain ⟨⟨_, _⟩, _, _, _, _, _⟩ := hS; go_simp; with_reducible rfl)
           simp only [Act.put, List.setIfInBounds_toArray, List.set_cons_zero, List.set_cons_succ])
        | (refine Settle.Settles.call (v := ?_) (f := ?_) (args := ?_) (by rfl) ?_ ?_ ?_
           rotate_left 3
           · (intro W; go_simp; refine ⟨?_, ?_⟩ <;> with_reducible rfl)
           · (intro W hS; first | (go_at_call 55; (with_reducible refine (QD.out _ (hS.2.1.wide hS.2.2.2.2.2.size)).mono ?_); rintro e W1 ⟨rfl, hb⟩; refine ⟨?_, HO _ _ hS hb⟩; with_reducible rfl))
           simp only [Act.put, List.setIfInBounds_toArray, List.set_cons_zero, List.set_cons_succ]))
      refine Settle.Settles.nil ?_
      intro wr S0
      obtain ⟨⟨_, _⟩, _, _, _, _, _⟩ := id S0
      go_wp2_with fail
      exact ⟨⟨k + 1, by omega, by go_num, HW2, Lib.hid S0.2.2.2.2.1, S0.1, S0.2.1, S0.2.2.2.2.2⟩, by simp [intOf]; omega⟩
    by_cases hlt : dk < da
    · have E := Lib.hid (HA1.out (by rw [HT2.out, decide_eq_true hlt]; rfl))
      clear HA1 HW HT2
      go_wp2_with fail
      refine Settle.region (fun W => BoxH W w.heap.size N A n cap ∧ PtsAt W w.heap.size A ds ∧ W.cell? ⟨g, k, none⟩ = some (.int .i64 dk) ∧ W.cell? ⟨g, a, none⟩ = some (.int .i64 da) ∧ Holds W g (icells D).toArray 3 ∧ Below w.heap.size w W) (by kernel_rfl) (by kernel_rfl) (by kernel_rfl) (by kernel_rfl) (HO _ _ S0 ((Below.refl _ _).drew)) ?_
      clear S0
      repeat (first
        | (refine Settle.Settles.off (by rfl) ?_; simp only [Act.put, List.setIfInBounds_toArray, List.set_cons_zero, List.set_cons_succ])
        | (refine Settle.Settles.quiet (v := ?_) (by rfl) ?_ ?_
           rotate_left
           · (intro W hS; obtain ⟨⟨_, _⟩, _, _, _, _, _⟩ := hS; go_simp; with_reducible rfl)
           simp only [Act.put, List.setIfInBounds_toArray, List.set_cons_zero, List.set_cons_succ])
        | (refine Settle.Settles.call (v := ?_) (f := ?_) (args := ?_) (by rfl) ?_ ?_ ?_
           rotate_left 3
           · (intro W; go_simp; refine ⟨?_, ?_⟩ <;> with_reducible rfl)
           · (intro W hS; first | (go_at_call 55; (with_reducible refine (QD.out _ (hS.2.1.wide hS.2.2.2.2.2.size)).mono ?_); rintro e W1 ⟨rfl, hb⟩; refine ⟨?_, HO _ _ hS hb⟩; with_reducible rfl))
           simp only [Act.put, List.setIfInBounds_toArray, List.set_cons_zero, List.set_cons_succ]))
      refine Settle.Settles.nil ?_
      intro wr S0
      obtain ⟨⟨_, _⟩, _, _, _, _, _⟩ := id S0
      go_wp2_with fail
      go_ret
      exact ⟨ret_i64 E.out.symm, S0.2.2.2.2.2⟩
    · have HW2 := Lib.hid (HW.out (by rw [HT2.out, decide_eq_false hlt]; rfl))
      clear HA1 HW HT2
      go_wp2_with fail
      refine Settle.region (fun W => BoxH W w.heap.size N A n cap ∧ PtsAt W w.heap.size A ds ∧ W.cell? ⟨g, k, none⟩ = some (.int .i64 dk) ∧ W.cell? ⟨g, a, none⟩ = some (.int .i64 da) ∧ Holds W g (icells D).toArray 3 ∧ Below w.heap.size w W) (by kernel_rfl) (by kernel_rfl) (by kernel_rfl) (by kernel_rfl) (HO _ _ S0 ((Below.refl _ _).drew)) ?_
      clear S0
      repeat (first
        | (refine Settle.Settles.off (by rfl) ?_; simp only [Act.put, List.setIfInBounds_toArray, List.set_cons_zero, List.set_cons_succ])
        | (refine Settle.Settles.quiet (v := ?_) (by rfl) ?_ ?_
           rotate_left
           · (intro W hS; obtain ⟨⟨_, _⟩, _, _, _, _, _⟩ := hS; go_simp; with_reducible rfl)
           simp only [Act.put, List.setIfInBounds_toArray, List.set_cons_zero, List.set_cons_succ])
        | (refine Settle.Settles.call (v := ?_) (f := ?_) (args := ?_) (by rfl) ?_ ?_ ?_
           rotate_left 3
           · (intro W; go_simp; refine ⟨?_, ?_⟩ <;> with_reducible rfl)
           · (intro W hS; first | (go_at_call 55; (with_reducible refine (QD.out _ (hS.2.1.wide hS.2.2.2.2.2.size)).mono ?_); rintro e W1 ⟨rfl, hb⟩; refine ⟨?_, HO _ _ hS hb⟩; with_reducible rfl))
           simp only [Act.put, List.setIfInBounds_toArray, List.set_cons_zero, List.set_cons_succ]))
      refine Settle.Settles.nil ?_
      intro wr S0
      obtain ⟨⟨_, _⟩, _, _, _, _, _⟩ := id S0
      go_wp2_with fail
      exact ⟨⟨k + 1, by omega, by go_num, HW2, Lib.hid S0.2.2.2.2.1, S0.1, S0.2.1, S0.2.2.2.2.2⟩, by simp [intOf]; omega⟩

end Go.Proofs.Ytknnekidfhooeaa.HouTspec

