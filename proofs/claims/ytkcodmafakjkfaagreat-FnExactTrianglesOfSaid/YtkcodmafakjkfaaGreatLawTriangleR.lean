/-
  The law's own helpers on slices of Triangles that come back: they compare, they mark, they look whether the marks are held: as contracts over rows that the call itself made.
-/
import Derived.Test.YtkcodmafakjkfaaGreatLawInt
import Derived.Test.YtkcodmafakjkfaaGreatTup3
import Derived.Test.YtkcodmafakjkfaaGreatGround
namespace Go.Proofs.YtkcodmafakjkfaaGreat.LawTriangleR
open Go.RowKit PointOk Blk Tup3 Go.Lib Own LawInt

/-- A row of structs as a slice of structs in memory. -/
theorem own_ts {w : World} {b e n : Nat} {v : Value} {ps : List Tu} (h : w.ownsRow b e 3 v n (cellsT ps)) : ∃ A cap, v = .slice A n cap ∧ ps.length = n ∧ TsAt w w.heap.size A ps := by
  obtain ⟨A, cap, rfl⟩ := own_shape h
  have hl := h.1
  rw [cellsT_length] at hl
  refine ⟨A, cap, rfl, by omega, fun j hj => ?_⟩
  obtain ⟨e0, e1, e2⟩ := cellsT_at ps j hj
  obtain ⟨g, rfl, _, hg, c0, _⟩ := own_cellN h (by omega) (by rw [cellsT_length]; omega) e0
  obtain ⟨g1, x1, _, _, c1, _⟩ := own_cellN h (by omega) (by rw [cellsT_length]; omega) e1
  injection x1 with x1
  injection x1 with x1
  subst x1
  obtain ⟨g2, x2, _, _, c2, _⟩ := own_cellN h (by omega) (by rw [cellsT_length]; omega) e2
  injection x2 with x2
  injection x2 with x2
  subst x2
  exact ⟨_, rfl, hg, by rw [Pts.add_head]; exact c0, by rw [Pts.add_head]; exact c1, by rw [Pts.add_head]; exact c2⟩
set_option maxHeartbeats 800000 in
theorem eqTriangle_same (z0 z1 z2 : Int) (w : World) :
    Calls Tryz.prog 65 #[.agg #[.int .i64 z0, .int .i64 z1, .int .i64 z2], .agg #[.int .i64 z0, .int .i64 z1, .int .i64 z2]] w fun e w' => e = .returned (.bool true) ∧ Below w.heap.size w w' := by
  go_enter Tryz.func65, Tryz.ntmps65
  go_wp2_with fail
  go_ret
  exact ⟨rfl, below2 _ _ _⟩
set_option maxHeartbeats 800000 in
theorem eqTriangleS_same (A B : Option Addr) (ps : List Tu) (n ca cb : Nat) (w : World) (hl : ps.length = n) (hn : n ≤ 1048576) (hA : TsAt w w.heap.size A ps) (hB : TsAt w w.heap.size B ps) :
    Calls Tryz.prog 19 #[.slice A n ca, .slice B n cb] w fun e w' => e = .returned (.bool true) ∧ Below w.heap.size w w' := by
  go_enter Tryz.func19, Tryz.ntmps19
  go_wp2_with fail
  go_loopw [5] (fun i wr => ∃ k : Nat, k ≤ n ∧ i = .int .i64 k ∧ TsAt wr w.heap.size A ps ∧ TsAt wr w.heap.size B ps ∧ Below w.heap.size w wr)
    (fun i _ => n - (intOf i).toNat)
  case atStart => exact ⟨0, Nat.zero_le _, rfl, hA, hB, Below.refl _ _⟩
  case round =>
    clear hA hB
    obtain ⟨k, hk, rfl, hA, hB, hb⟩ := hrel
    by_cases hkn : k < n
    · obtain ⟨p, hpk⟩ : ∃ p, ps[k]'(by omega) = p := ⟨_, rfl⟩
      obtain ⟨ad, eA, bA, pA⟩ := hA.at_ k (by omega)
      obtain ⟨ae, eB, bB, pB⟩ := hB.at_ k (by omega)
      rw [hpk] at pA pB
      subst eA eB
      obtain ⟨z0, z1, z2⟩ := p
      have hk1 : (k : Int) < (n : Int) := by omega
      have HL := Lib.hid hl
      clear hl hpk
      have HO : ∀ W W' : World, (TsAt W w.heap.size (some ad) ps ∧ TsAt W w.heap.size (some ae) ps ∧ TAt W ad k z0 z1 z2 ∧ TAt W ae k z0 z1 z2 ∧ Below w.heap.size w W) → Below W.heap.size W W' → (TsAt W' w.heap.size (some ad) ps ∧ TsAt W' w.heap.size (some ae) ps ∧ TAt W' ad k z0 z1 z2 ∧ TAt W' ae k z0 z1 z2 ∧ Below w.heap.size w W') := fun W W' ⟨x0, x1, x2, x3, hb⟩ h => ⟨x0.later (h.mono hb.size), x1.later (h.mono hb.size), x2.later bA (h.mono hb.size), x3.later bB (h.mono hb.size), hb.trans (h.mono hb.size)⟩
      have S0 : TsAt wr w.heap.size (some ad) ps ∧ TsAt wr w.heap.size (some ae) ps ∧ TAt wr ad k z0 z1 z2 ∧ TAt wr ae k z0 z1 z2 ∧ Below w.heap.size w wr := ⟨hA, hB, pA, pB, hb⟩
      clear hA hB pA pB hb
      obtain ⟨_, _, ⟨_, _, _⟩, ⟨_, _, _⟩, _⟩ := id S0
      go_wp2_with fail
      refine Settle.region (fun W => TsAt W w.heap.size (some ad) ps ∧ TsAt W w.heap.size (some ae) ps ∧ TAt W ad k z0 z1 z2 ∧ TAt W ae k z0 z1 z2 ∧ Below w.heap.size w W) (by kernel_rfl) (by kernel_rfl) (by kernel_rfl) (by kernel_rfl) (HO _ _ S0 ((Below.refl _ _).drew)) ?_
      clear S0
      repeat (first
        | (refine Settle.Settles.off (by rfl) ?_; simp only [Act.put, List.setIfInBounds_toArray, List.set_cons_zero, List.set_cons_succ])
        | (refine Settle.Settles.quiet (v := ?_) (by rfl) ?_ ?_
           rotate_left
           · (intro W hS; obtain ⟨_, _, ⟨_, _, _⟩, ⟨_, _, _⟩, _⟩ := hS; go_simp; with_reducible rfl)
           simp only [Act.put, List.setIfInBounds_toArray, List.set_cons_zero, List.set_cons_succ])
        | (refine Settle.Settles.call (v := ?_) (f := ?_) (args := ?_) (by rfl) ?_ ?_ ?_
           rotate_left 3
           · (intro W; go_simp; refine ⟨?_, ?_⟩ <;> with_reducible rfl)
           · (intro W hS; first | (go_at_call 65; (with_reducible refine (eqTriangle_same z0 z1 z2 _).mono ?_); rintro e W1 ⟨rfl, hb⟩; refine ⟨?_, HO _ _ hS hb⟩; with_reducible rfl))
           simp only [Act.put, List.setIfInBounds_toArray, List.set_cons_zero, List.set_cons_succ]))
      refine Settle.Settles.nil ?_
      intro wr S0
      obtain ⟨_, _, ⟨_, _, _⟩, ⟨_, _, _⟩, _⟩ := id S0
      go_wp2_with fail
      exact ⟨⟨k + 1, by omega, by go_num, S0.1, S0.2.1, S0.2.2.2.2⟩, by simp [intOf]; omega⟩
    · obtain rfl : k = n := by omega
      clear hA hB
      go_wp2_with fail
      go_ret
      exact ⟨rfl, hb⟩

theorem eqT (w : World) (b1 b2 n : Nat) (hn : n ≤ 1048576) (v1 v2 : Value) (ps : List Tu) (h1 : w.ownsRow b1 65 3 v1 n (cellsT ps)) (h2 : w.ownsRow b2 65 3 v2 n (cellsT ps)) :
    Calls Tryz.prog 19 #[v1, v2] w fun e w' => e = .returned (.bool true) ∧ Below w.heap.size w w' := by
  obtain ⟨A1, c1, rfl, hl, hp1⟩ := own_ts h1
  obtain ⟨A2, c2, rfl, _, hp2⟩ := own_ts h2
  exact eqTriangleS_same A1 A2 ps n c1 c2 w hl hn hp1 hp2
theorem own_of_row {w : World} {g n b : Nat} {T : TypeId} {ps : List Tu} (h : Row w g T ps) (hl : ps.length = n) (hn : n ≤ 1048576) (hb : b ≤ g) : w.ownsRow b T 3 (.slice (some ⟨g, 0, none⟩) n n) n (cellsT ps) :=
  ⟨by rw [cellsT_length, hl], .inr ⟨g, n, _, rfl, hb, h, Nat.le_refl _, by unfold maxLen; omega, by simp [cellsT_length, hl], List.take_of_length_le (by simp [cellsT_length, hl])⟩⟩

set_option maxRecDepth 100000 in
set_option maxHeartbeats 3200000 in
theorem markTriangleSL (w : World) (b n k : Nat) (hn : n ≤ 1048576) (hk : 0 < k) (hk2 : k ≤ 100000) (v : Value) (xs : List Value) (h1 : w.ownsRow b 65 3 v n xs) :
    Calls Tryz.prog 22 #[v, .int .i64 (k : Int)] w (MarkP w b 65 3 v k n) := by
  have hlen : xs.length = n * 3 := h1.1
  have HLen := Lib.hid hlen
  obtain ⟨A1, c1, rfl⟩ := own_shape h1
  have H1 := Lib.hid h1
  clear hlen h1
  go_enter Tryz.func22, Tryz.ntmps22
  go_wp2_with fail
  go_loopw [1, 5] (fun kk i wr => ∃ j m : Nat, j ≤ n ∧ i = .int .i64 j ∧ kk = .int .i64 (m : Int) ∧ Hid (m = k + j * 3) ∧ Hid (wr.ownsRow b 65 3 (.slice A1 n c1) n (marks k (j * 3) ++ xs.drop (j * 3))) ∧ Hid (w.grownBy wr (Value.slice A1 n c1).ownBlock)) (fun _ i _ => n - (intOf i).toNat)
  case atStart => exact ⟨0, k, Nat.zero_le _, rfl, rfl, Lib.hid rfl, Lib.hid H1.out, Lib.hid (World.grownBy.refl w _)⟩
  case round =>
    obtain ⟨j, m, hj, rfl, rfl, hm, hown, hgr⟩ := hrel
    by_cases hlt : j < n
    · have hm0 : 0 < m := by have := hm.out; omega
      have hm1 : m ≤ 8000000 := by have := hm.out; omega
      have ho0 := hown.out
      have hxl0 : (marks k (j * 3) ++ xs.drop (j * 3)).length = n * 3 := ho0.1
      obtain ⟨g, hA, _, _, hc0, hf0⟩ := own_cellN ho0 (by omega) (by rw [hxl0]; omega) (mark_cell (n := n * 3) HLen.out (by omega))
      obtain rfl := hA
      have hst0 := ho0.stored (j * 3) (.int .i64 ((m : Nat) : Int))
      rw [hm.out, marks_set (n := n * 3) HLen.out (by omega), ← hm.out] at hst0
      have ho1 := hst0.1
      have hxl1 : (marks k (j * 3 + 1) ++ xs.drop (j * 3 + 1)).length = n * 3 := ho1.1
      obtain ⟨g0_, hA0_, _, _, hc1, hf1⟩ := own_cellN ho1 (by omega) (by rw [hxl1]; omega) (mark_cell (n := n * 3) HLen.out (by omega))
      injection hA0_ with hA0_
      injection hA0_ with hA0_
      subst hA0_
      obtain ⟨g0b, hA0b, _, _, hd1, he1⟩ := own_cellN ho0 (by omega) (j := j * 3 + 1) (by rw [hxl0]; omega) (x := xs[j * 3 + 1]'(by rw [HLen.out]; omega)) (by
        rw [List.getElem?_append_right (by rw [marks_length]; omega), marks_length, List.getElem?_drop, show j * 3 + (j * 3 + 1 - j * 3) = j * 3 + 1 by omega, List.getElem?_eq_getElem (by rw [HLen.out]; omega)])
      injection hA0b with hA0b
      injection hA0b with hA0b
      subst hA0b
      have hst1 := ho1.stored (j * 3 + 1) (.int .i64 ((m + 1 : Nat) : Int))
      rw [show m + 1 = k + (j * 3 + 1) by rw [hm.out]; omega, marks_set (n := n * 3) HLen.out (by omega), show k + (j * 3 + 1) = m + 1 by rw [hm.out]; omega] at hst1
      have ho2 := hst1.1
      have hxl2 : (marks k (j * 3 + 1 + 1) ++ xs.drop (j * 3 + 1 + 1)).length = n * 3 := ho2.1
      obtain ⟨g1_, hA1_, _, _, hc2, hf2⟩ := own_cellN ho2 (by omega) (by rw [hxl2]; omega) (mark_cell (n := n * 3) HLen.out (by omega))
      injection hA1_ with hA1_
      injection hA1_ with hA1_
      subst hA1_
      obtain ⟨g1b, hA1b, _, _, hd2, he2⟩ := own_cellN ho0 (by omega) (j := j * 3 + 2) (by rw [hxl0]; omega) (x := xs[j * 3 + 2]'(by rw [HLen.out]; omega)) (by
        rw [List.getElem?_append_right (by rw [marks_length]; omega), marks_length, List.getElem?_drop, show j * 3 + (j * 3 + 2 - j * 3) = j * 3 + 2 by omega, List.getElem?_eq_getElem (by rw [HLen.out]; omega)])
      injection hA1b with hA1b
      injection hA1b with hA1b
      subst hA1b
      have hst2 := ho2.stored (j * 3 + 2) (.int .i64 ((m + 2 : Nat) : Int))
      rw [show m + 2 = k + (j * 3 + 2) by rw [hm.out]; omega, marks_set (n := n * 3) HLen.out (by omega), show k + (j * 3 + 2) = m + 2 by rw [hm.out]; omega] at hst2
      have ho3 := hst2.1
      have HG := Lib.hid (grown_trans (grown_trans (grown_trans hgr.out hst0.2) hst1.2) hst2.2)
      have HS := Lib.hid hst2.1
      clear ho0 ho1 ho2 ho3 hst0 hst1 hst2 hxl0 hxl1 hxl2
      have hk0 : (0 : Int) ≤ (j : Int) := by omega
      have hk1 : (j : Int) < (n : Int) := by omega
      have hcast1 : ((m + 1 : Nat) : Int) = (m : Int) + 1 := by omega
      have hcast2 : ((m + 2 : Nat) : Int) = (m : Int) + 2 := by omega
      rw [hcast1, hcast2] at HG
      rw [hcast1, hcast2] at HS
      generalize (xs[j * 3]'(by rw [HLen.out]; omega)) = x0_ at hc0
      generalize (xs[j * 3 + 1]'(by rw [HLen.out]; omega)) = x1_ at hc1 hd1
      generalize (xs[j * 3 + 2]'(by rw [HLen.out]; omega)) = x2_ at hc2 hd2
      go_wp2_with fail
      go_roundw
      case rel => exact ⟨j + 1, m + 3, by omega, by go_num, by go_num, Lib.hid (by rw [hm.out]; omega), Lib.hid (by rw [show (j + 1) * 3 = j * 3 + 2 + 1 by omega]; exact HS.out), HG⟩
      case measure => simp [intOf]; omega
    · have hjn : j = n := by omega
      have HF : Hid (wr.ownsRow b 65 3 (.slice A1 n c1) n (marks k (n * 3))) := Lib.hid (by have := hown.out; rw [hjn, List.drop_of_length_le (by rw [HLen.out]; exact Nat.le_refl _), List.append_nil] at this; exact this)
      have HM : Hid ((k + n * 3 : Nat) = m) := Lib.hid (by rw [hm.out]; omega)
      clear hjn
      go_wp2_with fail
      go_ret
      exact ⟨ret_i64 (by rw [HM.out]), HF.out, hgr.out⟩


set_option maxRecDepth 100000 in
set_option maxHeartbeats 3200000 in
theorem heldT (w : World) (b n k : Nat) (hn : n ≤ 1048576) (hk : 0 < k) (hk2 : k ≤ 100000) (v : Value) (h1 : w.ownsRow b 65 3 v n (marks k (n * 3))) :
    Calls Tryz.prog 23 #[v, .int .i64 (k : Int)] w (HeldP w k (n * 3)) := by
  obtain ⟨A1, c1, rfl⟩ := own_shape h1
  have H1 := Lib.hid h1
  clear h1
  go_enter Tryz.func23, Tryz.ntmps23
  go_wp2_with fail
  go_loopw [1, 5] (fun kk i wr => ∃ j m : Nat, j ≤ n ∧ i = .int .i64 j ∧ kk = .int .i64 (m : Int) ∧ Hid (m = k + j * 3) ∧ Hid (Below w.heap.size w wr)) (fun _ i _ => n - (intOf i).toNat)
  case atStart => exact ⟨0, k, Nat.zero_le _, rfl, rfl, Lib.hid rfl, Lib.hid (Below.refl _ _)⟩
  case round =>
    obtain ⟨j, m, hj, rfl, rfl, hm, hbel⟩ := hrel
    by_cases hlt : j < n
    · have hm0 : 0 < m := by have := hm.out; omega
      have hm1 : m ≤ 40000000 := by have := hm.out; omega
      have ho := own_below H1.out hbel.out
      obtain ⟨g, hA, _, hgl, hc0, _⟩ := own_cellN ho (by omega) (j := j * 3) (by rw [marks_length]; omega) (marks_at (by omega))
      rw [← hm.out] at hc0
      obtain ⟨g1, hA1, _, _, hc1, _⟩ := own_cellN ho (by omega) (j := j * 3 + 1) (by rw [marks_length]; omega) (marks_at (by omega))
      rw [show k + (j * 3 + 1) = m + 1 by rw [hm.out]; omega, show ((m + 1 : Nat) : Int) = (m : Int) + 1 by omega] at hc1
      rw [hA] at hA1
      injection hA1 with hA1
      injection hA1 with hA1
      subst hA1
      obtain ⟨g2, hA2, _, _, hc2, _⟩ := own_cellN ho (by omega) (j := j * 3 + 2) (by rw [marks_length]; omega) (marks_at (by omega))
      rw [show k + (j * 3 + 2) = m + 2 by rw [hm.out]; omega, show ((m + 2 : Nat) : Int) = (m : Int) + 2 by omega] at hc2
      rw [hA] at hA2
      injection hA2 with hA2
      injection hA2 with hA2
      subst hA2
      obtain rfl := hA
      have hk0 : (0 : Int) ≤ (j : Int) := by omega
      have hk1 : (j : Int) < (n : Int) := by omega
      clear ho
      go_wp2_with fail
      go_roundw
      case rel => exact ⟨j + 1, m + 3, by omega, by go_num, by go_num, Lib.hid (by rw [hm.out]; omega), hbel⟩
      case measure => simp [intOf]; omega
    · have HM : Hid ((k + n * 3 : Nat) = m) := Lib.hid (by rw [hm.out]; omega)
      go_wp2_with fail
      go_ret
      exact ⟨ret_i64 (by rw [HM.out]), hbel.out⟩
end Go.Proofs.YtkcodmafakjkfaaGreat.LawTriangleR

