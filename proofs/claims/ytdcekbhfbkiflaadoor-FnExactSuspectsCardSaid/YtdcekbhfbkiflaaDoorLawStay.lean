/-
  The law's own copy of a Stay, and of a slice of them, as contracts.
-/
import Derived.Test.YtdcekbhfbkiflaaDoorGround
import Derived.Test.YtdcekbhfbkiflaaDoorLawRoom
import Derived.Test.YtdcekbhfbkiflaaDoorTup4
import Derived.Test.YtdcekbhfbkiflaaDoorLawInt
namespace Go.Proofs.YtdcekbhfbkiflaaDoor.LawStay
open Go.RowKit PointOk Blk Tup4 Go.Lib Own LawInt

theorem facts {w : World} {k : Nat} {v0 v1 v2 v3 : Value} {T : TypeId} (h : Holds w k #[v0, v1, v2, v3] T) :
    (w.cell? ⟨k, 0, none⟩ = some v0 ∧ w.cell? ⟨k, 1, none⟩ = some v1 ∧ w.cell? ⟨k, 2, none⟩ = some v2 ∧ w.cell? ⟨k, 3, none⟩ = some v3) ∧ w.frozen? ⟨k, 0, none⟩ = false ∧ w.frozen? ⟨k, 1, none⟩ = false ∧ w.frozen? ⟨k, 2, none⟩ = false ∧ w.frozen? ⟨k, 3, none⟩ = false := by
  have c0 := cell_of_row w k 0 _ _ _ h
  have c1 := cell_of_row w k 1 _ _ _ h
  have c2 := cell_of_row w k 2 _ _ _ h
  have c3 := cell_of_row w k 3 _ _ _ h
  unfold Holds at h
  simp at c0 c1 c2 c3
  exact ⟨⟨c0, c1, c2, c3⟩, by simp [World.frozen?, h], by simp [World.frozen?, h], by simp [World.frozen?, h], by simp [World.frozen?, h]⟩

set_option maxHeartbeats 800000 in
theorem toStay (z0 z1 z2 z3 : Int) (w : World) : Calls Tryd.prog 52 #[.agg #[.int .i64 z0, .int .i64 z1, .int .i64 z2, .int .i64 z3]] w fun e w' => e = .returned (.agg #[.int .i64 z0, .int .i64 z1, .int .i64 z2, .int .i64 z3]) ∧ Below w.heap.size w w' := by
  go_enter Tryd.func52, Tryd.ntmps52
  go_wp2_with fail
  refine bodyPost_ret (v := .agg #[.int .i64 z0, .int .i64 z1, .int .i64 z2, .int .i64 z3]) (by simp [results, Tryd.results52, go_sem]) rfl ⟨rfl, ?_⟩
  exact below3 _ _ _ _

theorem infoStay : (Tryd.prog.info? 81).map (fun i => (i.zero, i.size, i.bytes)) = some (some (.agg #[.int .i64 0, .int .i64 0, .int .i64 0, .int .i64 0]), 4, 32) := by kernel_rfl
set_option maxHeartbeats 800000 in
theorem toStayS (A : Option Addr) (ps : List Tu) (n cap : Nat) (w : World) (hl : ps.length = n) (hn : n ≤ 1048576) (hp : TsAt w w.heap.size A ps) :
    Calls Tryd.prog 25 #[.slice A n cap] w fun e w' => ∃ g, e = .returned (.slice (some ⟨g, 0, none⟩) n n) ∧ Row w' g 81 ps ∧ w.heap.size ≤ g ∧ g < w'.heap.size ∧ Below w.heap.size w w' := by
  obtain ⟨i0, hi, hz0, hz1, hz2⟩ := info_parts infoStay
  go_enter Tryd.func25, Tryd.ntmps25
  go_wp2_with (at_make; go_must (refine wpList_make_full _ rfl _ _ 37 rfl w.heap.size 81 i0 (.agg #[.int .i64 0, .int .i64 0, .int .i64 0, .int .i64 0]) 4 Tryd.underlying37 hi hz0 hz1 _ _ _ _ n rfl rfl (by omega) (by omega) ?b2 ?b3 (Nat.le_refl _) ?_))
  case b2 => rw [hz2]; omega
  case b3 => unfold maxLen; omega
  intro w0 hown0 hgr0
  have hb0 : Below w.heap.size w w0 := Below.grown (Below.refl _ _) hgr0 (Nat.le_refl _) (fun g' hg' => by cases hg')
  rw [zeros n] at hown0
  obtain ⟨R0, _, hlt0⟩ := Row.of_owns hown0
  replace hp := hp.later hb0
  clear hown0 hgr0
  go_wp2_with fail
  obtain ⟨g, hg⟩ : ∃ g, w.heap.size = g := ⟨_, rfl⟩
  rw [hg] at hp hb0 R0 hlt0 ⊢
  go_loopw [4] (fun i wr => ∃ (k : Nat) (qs : List Tu), k ≤ n ∧ i = .int .i64 k ∧ qs.length = n ∧ Hid (∀ j, j < k → qs[j]? = ps[j]?) ∧ Row wr g 81 qs ∧ TsAt wr g A ps ∧ g < wr.heap.size ∧ Below g w wr)
    (fun i _ => n - (intOf i).toNat)
  case atStart => exact ⟨0, List.replicate n (0, 0, 0, 0), Nat.zero_le _, rfl, by simp, Lib.hid (fun j hj => absurd hj (by omega)), R0, hp, hlt0, hb0⟩
  case round =>
    clear R0 hp hb0 hlt0
    obtain ⟨k, qs, hk, rfl, hq, hsame, R, hp, hlt, hb⟩ := hrel
    by_cases hkn : k < n
    · obtain ⟨ad, rfl, hbl, c0, c1, c2, c3⟩ := hp k (by omega)
      have hk1 : (k : Int) < (n : Int) := by omega
      obtain ⟨p, hpk⟩ : ∃ p, ps[k]'(by omega) = p := ⟨_, rfl⟩
      have HP : Hid (ps[k]? = some p) := Lib.hid (by rw [List.getElem?_eq_getElem (by omega), hpk])
      rw [hpk] at c0 c1 c2 c3
      have HQ := Lib.hid hq
      have HL := Lib.hid hl
      clear hq hl hpk
      obtain ⟨z0, z1, z2, z3⟩ := p
      go_wp2_with fail
      refine (toStay z0 z1 z2 z3 _).mono ?_
      rintro e w1 ⟨rfl, hb1⟩
      replace R := R.below hb1 hlt
      replace hp := hp.later (hb1.mono (Nat.le_of_lt hlt))
      replace hb := hb.trans (hb1.mono (Nat.le_of_lt hlt))
      replace hlt := Nat.lt_of_lt_of_le hlt hb1.size
      clear hb1
      obtain ⟨⟨d0, d1, d2, d3⟩, f0, f1, f2, f3⟩ := R.facts k (by rw [HQ.out]; exact hkn)
      have R2 := Lib.hid (R.set k z0 z1 z2 z3)
      have hb2 := Lib.hid ((((hb.setCell (p := ⟨g, k * 4, none⟩) (Nat.le_refl _) (.int .i64 z0)).setCell (p := ⟨g, k * 4 + 1, none⟩) (Nat.le_refl _) (.int .i64 z1)).setCell (p := ⟨g, k * 4 + 2, none⟩) (Nat.le_refl _) (.int .i64 z2)).setCell (p := ⟨g, k * 4 + 3, none⟩) (Nat.le_refl _) (.int .i64 z3))
      clear R hb
      go_wp2_with fail
      refine ⟨⟨k + 1, qs.set k (z0, z1, z2, z3), by omega, by go_num, by rw [List.length_set]; exact HQ.out, Lib.hid ?_, R2.out, hp.later (((((Below.refl g w1).setCell (p := ⟨g, k * 4, none⟩) (Nat.le_refl _) (.int .i64 z0)).setCell (p := ⟨g, k * 4 + 1, none⟩) (Nat.le_refl _) (.int .i64 z1)).setCell (p := ⟨g, k * 4 + 2, none⟩) (Nat.le_refl _) (.int .i64 z2)).setCell (p := ⟨g, k * 4 + 3, none⟩) (Nat.le_refl _) (.int .i64 z3)), by simpa [World.setCell] using hlt, hb2.out⟩, by simp [intOf]; omega⟩
      intro j hj
      rcases Nat.lt_or_ge j k with h | h
      · rw [List.getElem?_set_ne (by omega)]; exact hsame.out j h
      · obtain rfl : j = k := by omega
        rw [HP.out, List.getElem?_set_self (by rw [HQ.out]; exact hkn)]
    · obtain rfl : k = n := by omega
      obtain rfl : qs = ps := by
        apply List.ext_getElem?
        intro j
        rcases Nat.lt_or_ge j k with h | h
        · exact hsame.out j h
        · rw [List.getElem?_eq_none (by omega), List.getElem?_eq_none (by omega)]
      have HL := Lib.hid hl
      clear hl hq hp
      go_wp2_with fail
      go_ret
      exact ⟨g, rfl, R, Nat.le_refl _, hlt, hb⟩

theorem szStaySL (A : Option Addr) (n cap : Nat) (L : Int) (hn : n ≤ 9223372036854775807) (hL : 0 ≤ L ∧ L ≤ 1048576) (w : World) :
    Calls Tryd.prog 23 #[.slice A n cap, .int .i64 L] w fun e w' => e = .returned (.int .i64 (if (n : Int) ≤ L then L - (n : Int) else -1)) ∧ w = w' := by
  have u1 : IntKind.i64.wrap (L - (n : Int)) = L - (n : Int) := IntWalk.i64_in _ (by omega)
  by_cases h : (n : Int) ≤ L
  · simp only [h, if_true]
    have h2 : ¬ (L - (n : Int) < 0) := by omega
    go_enter Tryd.func23, Tryd.ntmps23
    go_wp2_with fail
    go_ret
    exact ⟨rfl, rfl⟩
  · simp only [h, if_false]
    have h2 : (L - (n : Int) < 0) := by omega
    go_enter Tryd.func23, Tryd.ntmps23
    go_wp2_with fail
    go_ret
    exact ⟨rfl, rfl⟩

set_option maxHeartbeats 800000 in
theorem eqStay_same (z0 z1 z2 z3 : Int) (w : World) :
    Calls Tryd.prog 55 #[.agg #[.int .i64 z0, .int .i64 z1, .int .i64 z2, .int .i64 z3], .agg #[.int .i64 z0, .int .i64 z1, .int .i64 z2, .int .i64 z3]] w fun e w' => e = .returned (.bool true) ∧ Below w.heap.size w w' := by
  go_enter Tryd.func55, Tryd.ntmps55
  go_wp2_with fail
  go_ret
  exact ⟨rfl, below2 _ _ _⟩

set_option maxHeartbeats 800000 in
theorem eqStayS_same (A B : Option Addr) (ps : List Tu) (n ca cb : Nat) (w : World) (hl : ps.length = n) (hn : n ≤ 1048576) (hA : TsAt w w.heap.size A ps) (hB : TsAt w w.heap.size B ps) :
    Calls Tryd.prog 27 #[.slice A n ca, .slice B n cb] w fun e w' => e = .returned (.bool true) ∧ Below w.heap.size w w' := by
  go_enter Tryd.func27, Tryd.ntmps27
  go_wp2_with fail
  go_loopw [5] (fun i wr => ∃ k : Nat, k ≤ n ∧ i = .int .i64 k ∧ TsAt wr w.heap.size A ps ∧ TsAt wr w.heap.size B ps ∧ Below w.heap.size w wr)
    (fun i _ => n - (intOf i).toNat)
  case atStart => exact ⟨0, Nat.zero_le _, rfl, hA, hB, Below.refl _ _⟩
  case round =>
    clear hA hB
    obtain ⟨k, hk, rfl, hA, hB, hb⟩ := hrel
    by_cases hkn : k < n
    · obtain ⟨p, hpk⟩ : ∃ p, ps[k]'(by omega) = p := ⟨_, rfl⟩
      obtain ⟨ad, eA, bA, pA⟩ := hA.at_ k (by omega)
      obtain ⟨ae, eB, bB, pB⟩ := hB.at_ k (by omega)
      rw [hpk] at pA pB
      subst eA eB
      obtain ⟨z0, z1, z2, z3⟩ := p
      have hk1 : (k : Int) < (n : Int) := by omega
      have HL := Lib.hid hl
      clear hl hpk
      have HO : ∀ W W' : World, (TsAt W w.heap.size (some ad) ps ∧ TsAt W w.heap.size (some ae) ps ∧ TAt W ad k z0 z1 z2 z3 ∧ TAt W ae k z0 z1 z2 z3 ∧ Below w.heap.size w W) → Below W.heap.size W W' → (TsAt W' w.heap.size (some ad) ps ∧ TsAt W' w.heap.size (some ae) ps ∧ TAt W' ad k z0 z1 z2 z3 ∧ TAt W' ae k z0 z1 z2 z3 ∧ Below w.heap.size w W') := fun W W' ⟨x0, x1, x2, x3, hb⟩ h => ⟨x0.later (h.mono hb.size), x1.later (h.mono hb.size), x2.later bA (h.mono hb.size), x3.later bB (h.mono hb.size), hb.trans (h.mono hb.size)⟩
      have S0 : TsAt wr w.heap.size (some ad) ps ∧ TsAt wr w.heap.size (some ae) ps ∧ TAt wr ad k z0 z1 z2 z3 ∧ TAt wr ae k z0 z1 z2 z3 ∧ Below w.heap.size w wr := ⟨hA, hB, pA, pB, hb⟩
      clear hA hB pA pB hb
      obtain ⟨_, _, ⟨_, _, _, _⟩, ⟨_, _, _, _⟩, _⟩ := id S0
      go_wp2_with fail
      refine Settle.region (fun W => TsAt W w.heap.size (some ad) ps ∧ TsAt W w.heap.size (some ae) ps ∧ TAt W ad k z0 z1 z2 z3 ∧ TAt W ae k z0 z1 z2 z3 ∧ Below w.heap.size w W) (by kernel_rfl) (by kernel_rfl) (by kernel_rfl) (by kernel_rfl) (HO _ _ S0 ((Below.refl _ _).drew)) ?_
      clear S0
      repeat (first
        | (refine Settle.Settles.off (by rfl) ?_; simp only [Act.put, List.setIfInBounds_toArray, List.set_cons_zero, List.set_cons_succ])
        | (refine Settle.Settles.quiet (v := ?_) (by rfl) ?_ ?_
           rotate_left
           · (intro W hS; obtain ⟨_, _, ⟨_, _, _, _⟩, ⟨_, _, _, _⟩, _⟩ := hS; go_simp; with_reducible rfl)
           simp only [Act.put, List.setIfInBounds_toArray, List.set_cons_zero, List.set_cons_succ])
        | (refine Settle.Settles.call (v := ?_) (f := ?_) (args := ?_) (by rfl) ?_ ?_ ?_
           rotate_left 3
           · (intro W; go_simp; refine ⟨?_, ?_⟩ <;> with_reducible rfl)
           · (intro W hS; first | (go_at_call 55; (with_reducible refine (eqStay_same z0 z1 z2 z3 _).mono ?_); rintro e W1 ⟨rfl, hb⟩; refine ⟨?_, HO _ _ hS hb⟩; with_reducible rfl))
           simp only [Act.put, List.setIfInBounds_toArray, List.set_cons_zero, List.set_cons_succ]))
      refine Settle.Settles.nil ?_
      intro wr S0
      obtain ⟨_, _, ⟨_, _, _, _⟩, ⟨_, _, _, _⟩, _⟩ := id S0
      go_wp2_with fail
      exact ⟨⟨k + 1, by omega, by go_num, S0.1, S0.2.1, S0.2.2.2.2⟩, by simp [intOf]; omega⟩
    · obtain rfl : k = n := by omega
      clear hA hB
      go_wp2_with fail
      go_ret
      exact ⟨rfl, hb⟩

theorem own_of_row {w : World} {g n b : Nat} {T : TypeId} {ps : List Tu} (h : Row w g T ps) (hl : ps.length = n) (hn : n ≤ 1048576) (hb : b ≤ g) : w.ownsRow b T 4 (.slice (some ⟨g, 0, none⟩) n n) n (cellsT ps) :=
  ⟨by rw [cellsT_length, hl], .inr ⟨g, n, _, rfl, hb, h, Nat.le_refl _, by unfold maxLen; omega, by simp [cellsT_length, hl], List.take_of_length_le (by simp [cellsT_length, hl])⟩⟩

set_option maxRecDepth 100000 in
set_option maxHeartbeats 3200000 in
theorem markStaySL (w : World) (b n k : Nat) (hn : n ≤ 1048576) (hk : 0 < k) (hk2 : k ≤ 20000000) (v : Value) (xs : List Value) (h1 : w.ownsRow b 81 4 v n xs) :
    Calls Tryd.prog 28 #[v, .int .i64 (k : Int)] w (MarkP w b 81 4 v k n) := by
  have hlen : xs.length = n * 4 := h1.1
  have HLen := Lib.hid hlen
  obtain ⟨A1, c1, rfl⟩ := own_shape h1
  have H1 := Lib.hid h1
  clear hlen h1
  go_enter Tryd.func28, Tryd.ntmps28
  go_wp2_with fail
  go_loopw [1, 5] (fun kk i wr => ∃ j m : Nat, j ≤ n ∧ i = .int .i64 j ∧ kk = .int .i64 (m : Int) ∧ Hid (m = k + j * 4) ∧ Hid (wr.ownsRow b 81 4 (.slice A1 n c1) n (marks k (j * 4) ++ xs.drop (j * 4))) ∧ Hid (w.grownBy wr (Value.slice A1 n c1).ownBlock)) (fun _ i _ => n - (intOf i).toNat)
  case atStart => exact ⟨0, k, Nat.zero_le _, rfl, rfl, Lib.hid rfl, Lib.hid H1.out, Lib.hid (World.grownBy.refl w _)⟩
  case round =>
    obtain ⟨j, m, hj, rfl, rfl, hm, hown, hgr⟩ := hrel
    by_cases hlt : j < n
    · have hm0 : 0 < m := by have := hm.out; omega
      have hm1 : m ≤ 40000000 := by have := hm.out; omega
      have ho0 := hown.out
      have hxl0 : (marks k (j * 4) ++ xs.drop (j * 4)).length = n * 4 := ho0.1
      obtain ⟨g, hA, _, _, hc0, hf0⟩ := own_cellN ho0 (by omega) (by rw [hxl0]; omega) (mark_cell (n := n * 4) HLen.out (by omega))
      obtain rfl := hA
      have hst0 := ho0.stored (j * 4) (.int .i64 ((m : Nat) : Int))
      rw [hm.out, marks_set (n := n * 4) HLen.out (by omega), ← hm.out] at hst0
      have ho1 := hst0.1
      have hxl1 : (marks k (j * 4 + 1) ++ xs.drop (j * 4 + 1)).length = n * 4 := ho1.1
      obtain ⟨g0_, hA0_, _, _, hc1, hf1⟩ := own_cellN ho1 (by omega) (by rw [hxl1]; omega) (mark_cell (n := n * 4) HLen.out (by omega))
      injection hA0_ with hA0_
      injection hA0_ with hA0_
      subst hA0_
      obtain ⟨g0b, hA0b, _, _, hd1, he1⟩ := own_cellN ho0 (by omega) (j := j * 4 + 1) (by rw [hxl0]; omega) (x := xs[j * 4 + 1]'(by rw [HLen.out]; omega)) (by
        rw [List.getElem?_append_right (by rw [marks_length]; omega), marks_length, List.getElem?_drop, show j * 4 + (j * 4 + 1 - j * 4) = j * 4 + 1 by omega, List.getElem?_eq_getElem (by rw [HLen.out]; omega)])
      injection hA0b with hA0b
      injection hA0b with hA0b
      subst hA0b
      have hst1 := ho1.stored (j * 4 + 1) (.int .i64 ((m + 1 : Nat) : Int))
      rw [show m + 1 = k + (j * 4 + 1) by rw [hm.out]; omega, marks_set (n := n * 4) HLen.out (by omega), show k + (j * 4 + 1) = m + 1 by rw [hm.out]; omega] at hst1
      have ho2 := hst1.1
      have hxl2 : (marks k (j * 4 + 1 + 1) ++ xs.drop (j * 4 + 1 + 1)).length = n * 4 := ho2.1
      obtain ⟨g1_, hA1_, _, _, hc2, hf2⟩ := own_cellN ho2 (by omega) (by rw [hxl2]; omega) (mark_cell (n := n * 4) HLen.out (by omega))
      injection hA1_ with hA1_
      injection hA1_ with hA1_
      subst hA1_
      obtain ⟨g1b, hA1b, _, _, hd2, he2⟩ := own_cellN ho0 (by omega) (j := j * 4 + 2) (by rw [hxl0]; omega) (x := xs[j * 4 + 2]'(by rw [HLen.out]; omega)) (by
        rw [List.getElem?_append_right (by rw [marks_length]; omega), marks_length, List.getElem?_drop, show j * 4 + (j * 4 + 2 - j * 4) = j * 4 + 2 by omega, List.getElem?_eq_getElem (by rw [HLen.out]; omega)])
      injection hA1b with hA1b
      injection hA1b with hA1b
      subst hA1b
      have hst2 := ho2.stored (j * 4 + 2) (.int .i64 ((m + 2 : Nat) : Int))
      rw [show m + 2 = k + (j * 4 + 2) by rw [hm.out]; omega, marks_set (n := n * 4) HLen.out (by omega), show k + (j * 4 + 2) = m + 2 by rw [hm.out]; omega] at hst2
      have ho3 := hst2.1
      have hxl3 : (marks k (j * 4 + 2 + 1) ++ xs.drop (j * 4 + 2 + 1)).length = n * 4 := ho3.1
      obtain ⟨g2_, hA2_, _, _, hc3, hf3⟩ := own_cellN ho3 (by omega) (by rw [hxl3]; omega) (mark_cell (n := n * 4) HLen.out (by omega))
      injection hA2_ with hA2_
      injection hA2_ with hA2_
      subst hA2_
      obtain ⟨g2b, hA2b, _, _, hd3, he3⟩ := own_cellN ho0 (by omega) (j := j * 4 + 3) (by rw [hxl0]; omega) (x := xs[j * 4 + 3]'(by rw [HLen.out]; omega)) (by
        rw [List.getElem?_append_right (by rw [marks_length]; omega), marks_length, List.getElem?_drop, show j * 4 + (j * 4 + 3 - j * 4) = j * 4 + 3 by omega, List.getElem?_eq_getElem (by rw [HLen.out]; omega)])
      injection hA2b with hA2b
      injection hA2b with hA2b
      subst hA2b
      have hst3 := ho3.stored (j * 4 + 3) (.int .i64 ((m + 3 : Nat) : Int))
      rw [show m + 3 = k + (j * 4 + 3) by rw [hm.out]; omega, marks_set (n := n * 4) HLen.out (by omega), show k + (j * 4 + 3) = m + 3 by rw [hm.out]; omega] at hst3
      have ho4 := hst3.1
      have HG := Lib.hid (grown_trans (grown_trans (grown_trans (grown_trans hgr.out hst0.2) hst1.2) hst2.2) hst3.2)
      have HS := Lib.hid hst3.1
      clear ho0 ho1 ho2 ho3 ho4 hst0 hst1 hst2 hst3 hxl0 hxl1 hxl2 hxl3
      have hk0 : (0 : Int) ≤ (j : Int) := by omega
      have hk1 : (j : Int) < (n : Int) := by omega
      have hcast1 : ((m + 1 : Nat) : Int) = (m : Int) + 1 := by omega
      have hcast2 : ((m + 2 : Nat) : Int) = (m : Int) + 2 := by omega
      have hcast3 : ((m + 3 : Nat) : Int) = (m : Int) + 3 := by omega
      rw [hcast1, hcast2, hcast3] at HG
      rw [hcast1, hcast2, hcast3] at HS
      generalize (xs[j * 4]'(by rw [HLen.out]; omega)) = x0_ at hc0
      generalize (xs[j * 4 + 1]'(by rw [HLen.out]; omega)) = x1_ at hc1 hd1
      generalize (xs[j * 4 + 2]'(by rw [HLen.out]; omega)) = x2_ at hc2 hd2
      generalize (xs[j * 4 + 3]'(by rw [HLen.out]; omega)) = x3_ at hc3 hd3
      go_wp2_with fail
      go_roundw
      case rel => exact ⟨j + 1, m + 4, by omega, by go_num, by go_num, Lib.hid (by rw [hm.out]; omega), Lib.hid (by rw [show (j + 1) * 4 = j * 4 + 3 + 1 by omega]; exact HS.out), HG⟩
      case measure => simp [intOf]; omega
    · have hjn : j = n := by omega
      have HF : Hid (wr.ownsRow b 81 4 (.slice A1 n c1) n (marks k (n * 4))) := Lib.hid (by have := hown.out; rw [hjn, List.drop_of_length_le (by rw [HLen.out]; exact Nat.le_refl _), List.append_nil] at this; exact this)
      have HM : Hid ((k + n * 4 : Nat) = m) := Lib.hid (by rw [hm.out]; omega)
      clear hjn
      go_wp2_with fail
      go_ret
      exact ⟨ret_i64 (by rw [HM.out]), HF.out, hgr.out⟩

end Go.Proofs.YtdcekbhfbkiflaaDoor.LawStay

