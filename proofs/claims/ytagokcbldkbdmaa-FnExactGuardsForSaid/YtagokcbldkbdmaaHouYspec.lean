/-
  What the model says of orders of halls and of the cost of ways, as contracts.
-/
import Derived.Test.YtagokcbldkbdmaaHouWspec
import Derived.Test.YtagokcbldkbdmaaHouMathC

namespace Go.Proofs.Ytagokcbldkbdmaa.HouYspec
open Go.RowKit Pts Blk HouMath HouMathB HouMathC HouBox HouMem Ints JoinMath RoomMath
open Go.Proofs.Ytagokcbldkbdmaa.Own (icells icells_length icells_at)
open PointOk (ret_bool ret_i64 below1 below2 below3)

theorem ints_take {w : World} {b : Nat} {A : Option Addr} {zs : List Int} (h : IntsAt w b A zs) (k : Nat) : IntsAt w b A (zs.take k) := by
  intro j hj
  have hj2 : j < zs.length := by rw [List.length_take] at hj; omega
  obtain ⟨ad, h1, h2, h3⟩ := h j hj2
  refine ⟨ad, h1, h2, h3.trans ?_⟩
  rw [List.getElem_take]

set_option maxRecDepth 100000 in
set_option maxHeartbeats 1600000 in
theorem hasI (B : Option Addr) (m cb : Nat) (z : Int) (w : World) (zs : List Int) (hz : zs.length = m) (hm : m ≤ 1048576) (hq : IntsAt w w.heap.size B zs) :
    Calls Try.prog 117 #[.slice B m cb, .int .i64 z] w fun e w' => e = .returned (.bool (zs.contains z)) ∧ Below w.heap.size w w' := by
  obtain ⟨r, hr⟩ : ∃ r, zs.contains z = r := ⟨_, rfl⟩
  have HR := Lib.hid hr
  rw [hr]
  clear hr
  have HA : Hid (∀ k, k < m → zs.getD k 0 = z → r = true) := Lib.hid (fun k hk h => by
    rw [← HR.out, List.contains_iff_mem, ← h]
    have hk : k < zs.length := by omega
    simp [List.getD, hk])
  have HN : Hid ((∀ k, k < m → zs.getD k 0 ≠ z) → r = false) := Lib.hid (fun h => by
    rw [← HR.out, Bool.eq_false_iff]
    intro hc
    rw [List.contains_iff_mem] at hc
    obtain ⟨k, hk, e⟩ := List.mem_iff_getElem.1 hc
    exact h k (by omega) (by simp [List.getD, hk, e]))
  clear HR
  go_enter Try.func117, Try.ntmps117
  go_wp2_with fail
  have HO : ∀ W W' : World, (IntsAt W w.heap.size B zs ∧ Below w.heap.size w W) → Below W.heap.size W W' → (IntsAt W' w.heap.size B zs ∧ Below w.heap.size w W') := fun W W' ⟨x0, hb⟩ h => ⟨x0.later (h.mono hb.size), hb.trans (h.mono hb.size)⟩
  have S0 : IntsAt w w.heap.size B zs ∧ Below w.heap.size w w := ⟨hq, Below.refl _ _⟩
  clear hq
  go_loopw [5] (fun q wr => ∃ k : Nat, k ≤ m ∧ q = .int .i64 k ∧ Hid (∀ j, j < k → zs.getD j 0 ≠ z) ∧ (IntsAt wr w.heap.size B zs ∧ Below w.heap.size w wr))
    (fun q _ => m - (intOf q).toNat)
  case atStart => exact ⟨0, Nat.zero_le _, rfl, Lib.hid (fun t ht => absurd ht (by omega)), S0⟩
  case round =>
    clear S0
    obtain ⟨k, hk, rfl, hno, S0⟩ := hrel
    obtain ⟨_, _⟩ := id S0
    by_cases hkm : k < m
    · have hk1 : (k : Int) < (m : Int) := by omega
      have hk0 : (0 : Int) ≤ (k : Int) := by omega
      have p0 := at_d (zs := zs) (k := k) (by omega)
      have HAk := Lib.hid (fun h => HA.out k hkm h)
      have HW : Hid (zs.getD k 0 ≠ z → ∀ j, j < k + 1 → zs.getD j 0 ≠ z) := Lib.hid (fun h j hj => by
        rcases Nat.lt_or_ge j k with h1 | h1
        · exact hno.out j h1
        · obtain rfl : j = k := by omega
          exact h)
      obtain ⟨x, hx⟩ : ∃ x, zs.getD k 0 = x := ⟨_, rfl⟩
      rw [hx] at p0 HAk HW
      obtain ⟨ad, eA, bA, pA⟩ := S0.1.get p0
      subst eA
      obtain ⟨_, _⟩ := id pA
      clear p0 hx pA HA HN hno hz
      by_cases hzx : x = z
      · have E : Hid (r = true) := Lib.hid (HAk.out hzx)
        subst hzx
        clear HAk HW
        go_wp2_with fail
        go_ret
        exact ⟨ret_bool E.out.symm, S0.2⟩
      · have hb : (x == z) = false := beq_eq_false_iff_ne.2 hzx
        have HW2 := Lib.hid (HW.out hzx)
        clear HAk HW
        go_wp2_with fail
        exact ⟨⟨k + 1, by omega, by go_num, HW2, S0⟩, by simp [intOf]; omega⟩
    · obtain rfl : m = k := by omega
      have E : Hid (r = false) := Lib.hid (HN.out hno.out)
      clear hno hz HA HN
      go_wp2_with fail
      go_ret
      exact ⟨ret_bool E.out.symm, S0.2⟩

set_option maxRecDepth 100000 in
set_option maxHeartbeats 1600000 in
theorem orderOk (H : Int) (A : Option Addr) (n cap : Nat) (B : Option Addr) (m cb : Nat) (w : World) (ds : List (Int × Int)) (hl : ds.length = n) (hn : n ≤ 1048576) (hp : PtsAt w w.heap.size A ds) (zs : List Int) (hz : zs.length = m) (hm : m ≤ 1048576) (hq : IntsAt w w.heap.size B zs) (hcap : m ≤ cb) :
    Calls Try.prog 71 #[.agg #[.int .i64 H, .slice A n cap], .slice B m cb] w fun e w' => e = .returned (.bool (orderB H ds zs)) ∧ Below w.heap.size w w' := by
  obtain ⟨r, hr⟩ : ∃ r, orderB H ds zs = r := ⟨_, rfl⟩
  have HR := Lib.hid hr
  rw [hr]
  clear hr
  have Q1 : Hid (∀ w hp, _) := Lib.hid fun w hp => HouVspec.houseOk H A n cap w ds hl hn hp
  obtain ⟨hw, hhw⟩ : ∃ v, IntKind.i64.wrap (H - 1) = v := ⟨_, rfl⟩
  have HH : Hid (houseB H ds = true → hw = H - 1) := Lib.hid (fun h => by
    have h1 := (house_form h).h1
    have h7 := (house_form h).h7
    rw [← hhw]; exact IntWalk.i64_in _ (by omega))
  have HBad : Hid (∀ k, k < m → ¬ (0 ≤ zs.getD k 0 ∧ zs.getD k 0 ≤ hw) → r = false) := Lib.hid (fun k hk h => by
    rw [← HR.out]
    unfold orderB
    cases hb : houseB H ds
    · rfl
    · have e := HH.out hb
      rw [halls_bad (k := k) (by omega) (by
        have : ¬ inH H (zs.getD k 0) = true := by rw [inH_iff]; omega
        simpa using this)]
      simp)
  have HBad2 : Hid (∀ k, k < m → (zs.take k).contains (zs.getD k 0) = true → r = false) := Lib.hid (fun k hk h => by
    rw [← HR.out]
    unfold orderB
    rw [once_bad (k := k) (by omega) h]
    simp)
  have HEnd : Hid ((∀ k, k < m → (0 ≤ zs.getD k 0 ∧ zs.getD k 0 ≤ hw) ∧ (zs.take k).contains (zs.getD k 0) = false) → r = (houseB H ds && decide ((m : Int) = H))) := Lib.hid (fun h => by
    rw [← HR.out]
    unfold orderB
    cases hb : houseB H ds
    · rfl
    · have e := HH.out hb
      rw [halls_ok (fun k hk => by have := (h k (by omega)).1; rw [inH_iff]; omega), once_ok (fun k hk => (h k (by omega)).2), hz]
      simp)
  generalize houseB H ds = bb at *
  clear HR HH
  go_enter Try.func71, Try.ntmps71
  go_wp2_with fail
  have X0 := HouBox.boxH w H A n cap 30 (k := w.heap.size) (by simp)
  have b0 := PointOk.below1 w (Obj.cells #[.int .i64 H, .slice A n cap] 30)
  have HO : ∀ W W' : World, (HouBox.BoxH W (w.heap.size) H A n cap ∧ PtsAt W w.heap.size A ds ∧ IntsAt W w.heap.size B zs ∧ Below w.heap.size w W) → Below W.heap.size W W' → (HouBox.BoxH W' (w.heap.size) H A n cap ∧ PtsAt W' w.heap.size A ds ∧ IntsAt W' w.heap.size B zs ∧ Below w.heap.size w W') := fun W W' ⟨h0, x0, x1, hb⟩ h => ⟨h0.later h, x0.later (h.mono hb.size), x1.later (h.mono hb.size), hb.trans (h.mono hb.size)⟩
  have hz0_ : Hid (((w.alloc (Obj.cells #[.int .i64 H, .slice A n cap] 30))).heap.size = w.heap.size + 1) := Lib.hid (by simp)
  have Y0 : PtsAt ((w.alloc (Obj.cells #[.int .i64 H, .slice A n cap] 30))) w.heap.size A ds := hp.later b0
  have Y1 : IntsAt ((w.alloc (Obj.cells #[.int .i64 H, .slice A n cap] 30))) w.heap.size B zs := hq.later b0
  generalize (w.alloc (Obj.cells #[.int .i64 H, .slice A n cap] 30)) = w0 at X0 Y0 Y1 b0 hz0_ ⊢
  have S0 := (⟨X0, Y0, Y1, b0⟩ : HouBox.BoxH w0 (w.heap.size) H A n cap ∧ PtsAt w0 w.heap.size A ds ∧ IntsAt w0 w.heap.size B zs ∧ Below w.heap.size w w0)
  clear X0 Y0 Y1 b0
  obtain ⟨⟨_, _⟩, _, _, _⟩ := id S0
  go_loopw [5] (fun i wr => ∃ k : Nat, k ≤ m ∧ i = .int .i64 k ∧ Hid (∀ j, j < k → (0 ≤ zs.getD j 0 ∧ zs.getD j 0 ≤ hw) ∧ (zs.take j).contains (zs.getD j 0) = false) ∧ (HouBox.BoxH wr (w.heap.size) H A n cap ∧ PtsAt wr w.heap.size A ds ∧ IntsAt wr w.heap.size B zs ∧ Below w.heap.size w wr))
    (fun i _ => m - (intOf i).toNat)
  case atStart => exact ⟨0, Nat.zero_le _, rfl, Lib.hid (fun j hj => absurd hj (by omega)), S0⟩
  case round =>
    clear S0
    obtain ⟨k, hk, rfl, hall, S0⟩ := hrel
    obtain ⟨⟨_, _⟩, _, _, _⟩ := id S0
    by_cases hkm : k < m
    rotate_left
    · obtain rfl : k = m := by omega
      have E := Lib.hid (HEnd.out hall.out)
      clear HEnd HBad HBad2 hall hl
      go_wp2_with fail
      refine (Q1.out _ (S0.2.1.wide S0.2.2.2.size)).mono ?_
      rintro e w1 ⟨rfl, hb_⟩
      replace S0 := HO _ _ S0 hb_
      clear hb_
      obtain ⟨⟨_, _⟩, _, _, _⟩ := id S0
      cases bb
      · have E2 : Hid (r = false) := Lib.hid (by rw [E.out]; rfl)
        clear E
        go_wp2_with fail
        go_ret
        exact ⟨ret_bool E2.out.symm, S0.2.2.2⟩
      · by_cases hH : (k : Int) = H
        · have E2 : Hid (r = true) := Lib.hid (by rw [E.out]; simp [hH])
          clear E
          go_wp2_with fail
          go_ret
          exact ⟨ret_bool (by first | exact E2.out.symm | (rw [E2.out]; simp [hH])), S0.2.2.2⟩
        · have E2 : Hid (r = false) := Lib.hid (by rw [E.out]; simp [hH])
          have hx : ((k : Int) == H) = false := beq_eq_false_iff_ne.2 hH
          clear E
          go_wp2_with fail
          go_ret
          exact ⟨ret_bool (by first | exact E2.out.symm | (rw [E2.out]; simp [hH])), S0.2.2.2⟩
    have hk1 : (k : Int) < (m : Int) := by omega
    have hk0 : (0 : Int) ≤ (k : Int) := by omega
    have hkc : (k : Int) ≤ (cb : Int) := by omega
    have p0 := at_d (zs := zs) (k := k) (by omega)
    have HB1 := Lib.hid (HBad.out k hkm)
    have HB2 := Lib.hid (HBad2.out k hkm)
    have HW : Hid ((0 ≤ zs.getD k 0 ∧ zs.getD k 0 ≤ hw) → (zs.take k).contains (zs.getD k 0) = false → ∀ j, j < k + 1 → (0 ≤ zs.getD j 0 ∧ zs.getD j 0 ≤ hw) ∧ (zs.take j).contains (zs.getD j 0) = false) := Lib.hid (fun h g j hj => by
      rcases Nat.lt_or_ge j k with h1 | h1
      · exact hall.out j h1
      · obtain rfl : j = k := by omega
        exact ⟨h, g⟩)
    have htk : (zs.take k).length = k := by rw [List.length_take]; omega
    obtain ⟨z, hz⟩ : ∃ z, zs.getD k 0 = z := ⟨_, rfl⟩
    rw [hz] at p0 HB1 HB2 HW
    obtain ⟨bd, eB, bB, pB⟩ := S0.2.2.1.get p0
    subst eB
    have Q2 : Hid (∀ w, _) := Lib.hid fun w => PointOk.l01In z 0 hw w
    have Q3 : Hid (∀ w hq, _) := Lib.hid fun w hq => hasI (some bd) k cb z w (zs.take k) htk (by omega) hq
    obtain ⟨c, hc⟩ : ∃ c, decide (0 ≤ z ∧ z ≤ hw) = c := ⟨_, rfl⟩
    obtain ⟨c2, hc2⟩ : ∃ c, (zs.take k).contains z = c := ⟨_, rfl⟩
    rw [hc] at Q2
    rw [hc2] at Q3 HB2 HW
    clear p0 hz hall HBad HBad2 HEnd hc2 htk
    have HO : ∀ W W' : World, (BoxH W w.heap.size H A n cap ∧ PtsAt W w.heap.size A ds ∧ IntsAt W w.heap.size (some bd) zs ∧ IntAt W bd k z ∧ Below w.heap.size w W) → Below W.heap.size W W' → (BoxH W' w.heap.size H A n cap ∧ PtsAt W' w.heap.size A ds ∧ IntsAt W' w.heap.size (some bd) zs ∧ IntAt W' bd k z ∧ Below w.heap.size w W') := fun W W' ⟨x0, x1, x2, x3, hb⟩ h => ⟨x0.later h, x1.later (h.mono hb.size), x2.later (h.mono hb.size), x3.later bB (h.mono hb.size), hb.trans (h.mono hb.size)⟩
    replace S0 : (BoxH wr w.heap.size H A n cap ∧ PtsAt wr w.heap.size A ds ∧ IntsAt wr w.heap.size (some bd) zs ∧ IntAt wr bd k z ∧ Below w.heap.size w wr) := ⟨S0.1, S0.2.1, S0.2.2.1, pB, S0.2.2.2⟩
    clear pB
    obtain ⟨⟨_, _⟩, _, _, ⟨_, _⟩, _⟩ := id S0
    cases c
    · have E := Lib.hid (HB1.out (of_decide_eq_false hc))
      clear HB1 HB2 HW hc Q3
      go_wp2_with fail
      refine Settle.region (fun W => BoxH W w.heap.size H A n cap ∧ PtsAt W w.heap.size A ds ∧ IntsAt W w.heap.size (some bd) zs ∧ IntAt W bd k z ∧ Below w.heap.size w W) (by kernel_rfl) (by kernel_rfl) (by kernel_rfl) (by kernel_rfl) (HO _ _ S0 ((Below.refl _ _).drew)) ?_
      clear S0
      repeat (first
        | (refine Settle.Settles.off (by rfl) ?_; simp only [Act.put, List.setIfInBounds_toArray, List.set_cons_zero, List.set_cons_succ])
        | (refine Settle.Settles.quiet (v := ?_) (by rfl) ?_ ?_
           rotate_left
           · (intro W hS; obtain ⟨⟨_, _⟩, _, _, ⟨_, _⟩, _⟩ := hS; go_simp; with_reducible rfl)
           simp only [Act.put, List.setIfInBounds_toArray, List.set_cons_zero, List.set_cons_succ])
        | (refine Settle.Settles.call (v := ?_) (f := ?_) (args := ?_) (by rfl) ?_ ?_ ?_
           rotate_left 3
           · (intro W; go_simp; refine ⟨?_, ?_⟩ <;> with_reducible rfl)
           · (intro W hS; first | (go_at_call 54; (with_reducible refine (Q2.out _).mono ?_); rintro e W1 ⟨rfl, rfl⟩; refine ⟨?_, hS⟩; with_reducible rfl))
           simp only [Act.put, List.setIfInBounds_toArray, List.set_cons_zero, List.set_cons_succ]))
      refine Settle.Settles.nil ?_
      intro wr S0
      obtain ⟨⟨_, _⟩, _, _, ⟨_, _⟩, _⟩ := id S0
      go_wp2_with fail
      go_ret
      exact ⟨ret_bool E.out.symm, S0.2.2.2.2⟩
    replace HW := Lib.hid (HW.out (of_decide_eq_true hc))
    clear HB1 hc
    cases c2
    · have HW2 := Lib.hid (HW.out rfl)
      clear HB2 HW
      go_wp2_with fail
      refine Settle.region (fun W => BoxH W w.heap.size H A n cap ∧ PtsAt W w.heap.size A ds ∧ IntsAt W w.heap.size (some bd) zs ∧ IntAt W bd k z ∧ Below w.heap.size w W) (by kernel_rfl) (by kernel_rfl) (by kernel_rfl) (by kernel_rfl) (HO _ _ S0 ((Below.refl _ _).drew)) ?_
      clear S0
      repeat (first
        | (refine Settle.Settles.off (by rfl) ?_; simp only [Act.put, List.setIfInBounds_toArray, List.set_cons_zero, List.set_cons_succ])
        | (refine Settle.Settles.quiet (v := ?_) (by rfl) ?_ ?_
           rotate_left
           · (intro W hS; obtain ⟨⟨_, _⟩, _, _, ⟨_, _⟩, _⟩ := hS; go_simp; with_reducible rfl)
           simp only [Act.put, List.setIfInBounds_toArray, List.set_cons_zero, List.set_cons_succ])
        | (refine Settle.Settles.call (v := ?_) (f := ?_) (args := ?_) (by rfl) ?_ ?_ ?_
           rotate_left 3
           · (intro W; go_simp; refine ⟨?_, ?_⟩ <;> with_reducible rfl)
           · (intro W hS; first | (go_at_call 54; (with_reducible refine (Q2.out _).mono ?_); rintro e W1 ⟨rfl, rfl⟩; refine ⟨?_, hS⟩; with_reducible rfl) | (go_at_call 117; (with_reducible refine (Q3.out _ ((ints_take hS.2.2.1 k).wide hS.2.2.2.2.size)).mono ?_); rintro e W1 ⟨rfl, hb⟩; refine ⟨?_, HO _ _ hS hb⟩; with_reducible rfl))
           simp only [Act.put, List.setIfInBounds_toArray, List.set_cons_zero, List.set_cons_succ]))
      refine Settle.Settles.nil ?_
      intro wr S0
      obtain ⟨⟨_, _⟩, _, _, ⟨_, _⟩, _⟩ := id S0
      go_wp2_with fail
      exact ⟨⟨k + 1, by omega, by go_num, HW2, S0.1, S0.2.1, S0.2.2.1, S0.2.2.2.2⟩, by simp [intOf]; omega⟩
    · have E := Lib.hid (HB2.out rfl)
      clear HB2 HW
      go_wp2_with fail
      refine Settle.region (fun W => BoxH W w.heap.size H A n cap ∧ PtsAt W w.heap.size A ds ∧ IntsAt W w.heap.size (some bd) zs ∧ IntAt W bd k z ∧ Below w.heap.size w W) (by kernel_rfl) (by kernel_rfl) (by kernel_rfl) (by kernel_rfl) (HO _ _ S0 ((Below.refl _ _).drew)) ?_
      clear S0
      repeat (first
        | (refine Settle.Settles.off (by rfl) ?_; simp only [Act.put, List.setIfInBounds_toArray, List.set_cons_zero, List.set_cons_succ])
        | (refine Settle.Settles.quiet (v := ?_) (by rfl) ?_ ?_
           rotate_left
           · (intro W hS; obtain ⟨⟨_, _⟩, _, _, ⟨_, _⟩, _⟩ := hS; go_simp; with_reducible rfl)
           simp only [Act.put, List.setIfInBounds_toArray, List.set_cons_zero, List.set_cons_succ])
        | (refine Settle.Settles.call (v := ?_) (f := ?_) (args := ?_) (by rfl) ?_ ?_ ?_
           rotate_left 3
           · (intro W; go_simp; refine ⟨?_, ?_⟩ <;> with_reducible rfl)
           · (intro W hS; first | (go_at_call 54; (with_reducible refine (Q2.out _).mono ?_); rintro e W1 ⟨rfl, rfl⟩; refine ⟨?_, hS⟩; with_reducible rfl) | (go_at_call 117; (with_reducible refine (Q3.out _ ((ints_take hS.2.2.1 k).wide hS.2.2.2.2.size)).mono ?_); rintro e W1 ⟨rfl, hb⟩; refine ⟨?_, HO _ _ hS hb⟩; with_reducible rfl))
           simp only [Act.put, List.setIfInBounds_toArray, List.set_cons_zero, List.set_cons_succ]))
      refine Settle.Settles.nil ?_
      intro wr S0
      obtain ⟨⟨_, _⟩, _, _, ⟨_, _⟩, _⟩ := id S0
      go_wp2_with fail
      go_ret
      exact ⟨ret_bool E.out.symm, S0.2.2.2.2⟩

end Go.Proofs.Ytagokcbldkbdmaa.HouYspec

