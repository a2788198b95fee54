/-
  What WalkOk and PatrolOk do, as contracts: what each answers; new memory alone is written.
-/
import Derived.Test.YtonbpmabmjhdgacInSpec
import Derived.Test.YtonbpmabmjhdgacWalkMath
namespace Go.Proofs.Ytonbpmabmjhdgac.WalkSpec
open Go.RowKit Own PointMath WallMath RoomMath Pts Blk AreaMath PlaceMath FloorMath LineMath CutsMath SightMath KernMath WalkMath 
open PointOk (ret_bool ret_i64 below1 below2 below3)
set_option maxRecDepth 100000 in
set_option maxHeartbeats 6400000 in
theorem walkOk (A : Option Addr) (n cap : Nat) (B : Option Addr) (m cb : Nat) (w : World) (ps : List (Int × Int)) (hl : ps.length = n) (hn : n ≤ 1048576) (hp : PtsAt w w.heap.size A ps) (qs : List (Int × Int)) (hl2 : qs.length = m) (hn2 : m ≤ 1048576) (hq : PtsAt w w.heap.size B qs) :
    Calls Try.prog 109 #[.agg #[.slice A n cap], .slice B m cb] w fun e w' => e = .returned (.bool (walkB ps qs)) ∧ Below w.heap.size w w' := by
  obtain ⟨r, hr⟩ : ∃ r, walkB ps qs = r := ⟨_, rfl⟩
  have HR := Lib.hid hr
  rw [hr]
  clear hr
  go_enter Try.func109, Try.ntmps109
  go_wp2_with fail
  have X0 := Pts.boxR w (.slice A n cap) 30 (k := w.heap.size) (by simp)
  have b0 := PointOk.below1 w (Obj.cells #[.slice A n cap] 30)
  have HO : ∀ W W' : World, (Pts.BoxR W (w.heap.size) (.slice A n cap) ∧ PtsAt W w.heap.size A ps ∧ PtsAt W w.heap.size B qs ∧ Below w.heap.size w W) → Below W.heap.size W W' → (Pts.BoxR W' (w.heap.size) (.slice A n cap) ∧ PtsAt W' w.heap.size A ps ∧ PtsAt W' w.heap.size B qs ∧ Below w.heap.size w W') := fun W W' ⟨h0, x0, x1, hb⟩ h => ⟨h0.later h, x0.later (h.mono hb.size), x1.later (h.mono hb.size), hb.trans (h.mono hb.size)⟩
  have hz0_ : Hid (((w.alloc (Obj.cells #[.slice A n cap] 30))).heap.size = w.heap.size + 1) := Lib.hid (by simp)
  have Y0 : PtsAt ((w.alloc (Obj.cells #[.slice A n cap] 30))) w.heap.size A ps := hp.later b0
  have Y1 : PtsAt ((w.alloc (Obj.cells #[.slice A n cap] 30))) w.heap.size B qs := hq.later b0
  generalize (w.alloc (Obj.cells #[.slice A n cap] 30)) = w0 at X0 Y0 Y1 b0 hz0_ ⊢
  have S0 := (⟨X0, Y0, Y1, b0⟩ : Pts.BoxR w0 (w.heap.size) (.slice A n cap) ∧ PtsAt w0 w.heap.size A ps ∧ PtsAt w0 w.heap.size B qs ∧ Below w.heap.size w w0)
  clear X0 Y0 Y1 b0
  obtain ⟨⟨_, _⟩, _, _, _⟩ := id S0
  refine (InSpec.l13In A n cap B m cb _ ps hl hn (S0.2.1.wide S0.2.2.2.size) qs hl2 hn2 (S0.2.2.1.wide S0.2.2.2.size)).mono ?_
  rintro e w1 ⟨rfl, hb_⟩
  replace S0 := HO _ _ S0 hb_
  clear hb_
  obtain ⟨⟨_, _⟩, _, _, _⟩ := id S0
  cases hi : allIn ps qs
  · have E : Hid (r = false) := Lib.hid (by rw [← HR.out]; unfold walkB; rw [hi]; rfl)
    clear hl hl2 HR
    go_wp2_with fail
    go_ret
    exact ⟨ret_bool E.out.symm, S0.2.2.2⟩
  by_cases h40 : m ≤ 40
  rotate_left
  · have h41 : (40 : Int) < (m : Int) := by omega
    have E : Hid (r = false) := Lib.hid (by rw [← HR.out]; unfold walkB; rw [hl2, show decide (m ≤ 40) = false from decide_eq_false h40]; simp)
    clear hl hl2 HR
    go_wp2_with fail
    go_ret
    exact ⟨ret_bool E.out.symm, S0.2.2.2⟩
  have h41 : ¬ (40 : Int) < (m : Int) := by omega
  have hall := Lib.hid (allIn_at hi)
  replace hi := Lib.hid hi
  go_wp2_with fail
  go_loopw [5] (fun q wr => ∃ k : Nat, 1 ≤ k ∧ (k ≤ m ∨ k = 1) ∧ q = .int .i64 k ∧ Hid (∀ j, j ≤ k → j ≤ m → wayTo ps qs j = true) ∧ (Pts.BoxR wr (w.heap.size) (.slice A n cap) ∧ PtsAt wr w.heap.size A ps ∧ PtsAt wr w.heap.size B qs ∧ Below w.heap.size w wr))
    (fun q _ => m + 1 - (intOf q).toNat)
  case atStart => exact ⟨1, Nat.le_refl _, .inr rfl, rfl, Lib.hid (fun j hj _ => by match j, hj with | 0, _ => rfl | 1, _ => rfl), S0⟩
  case round =>
    clear S0
    obtain ⟨k, hk, hkm, rfl, hw, S0⟩ := hrel
    obtain ⟨⟨_, _⟩, _, _, _⟩ := id S0
    by_cases hlt : k < m
    rotate_left
    · have hk1 : ¬ ((k : Int) < (m : Int)) := by omega
      have E : Hid (r = true) := Lib.hid (by
        rw [← HR.out]; unfold walkB
        rw [hi.out, hl2, show decide (m ≤ 40) = true from decide_eq_true h40, hw.out m (by omega) (Nat.le_refl _)]; rfl)
      clear hl hl2 HR hw
      go_wp2_with fail
      go_ret
      exact ⟨ret_bool E.out.symm, S0.2.2.2⟩
    have hk1 : (k : Int) < (m : Int) := by omega
    have hk0 : (0 : Int) ≤ (k : Int) := by omega
    have HN : Hid (seesM ps (pt qs (k - 1)) (pt qs k) = true → ∀ j, j ≤ k + 1 → j ≤ m → wayTo ps qs j = true) := Lib.hid (by
      intro h j hj hjm
      rcases Nat.lt_or_ge k j with h1 | h1
      · obtain rfl : j = k + 1 := by omega
        show (wayTo ps qs k && (decide (k = 0) || seesM ps (pt qs (k - 1)) (pt qs k))) = true
        rw [hw.out k (Nat.le_refl _) (by omega), h]; simp
      · exact hw.out j h1 hjm)
    have HF : Hid (seesM ps (pt qs (k - 1)) (pt qs k) = false → r = false) := Lib.hid (by
      intro h
      rw [← HR.out]; unfold walkB
      rw [hl2, wayTo_not (by omega) h m hlt]; simp)
    obtain ⟨j, hkj⟩ : ∃ j, k - 1 = j := ⟨_, rfl⟩
    have uj : IntKind.i64.wrap ((k : Int) - 1) = (j : Int) := by rw [IntWalk.i64_in _ (by omega)]; omega
    have hj1 : (j : Int) < (m : Int) := by omega
    have hj0 : (0 : Int) ≤ (j : Int) := by omega
    rw [hkj] at HN HF
    have p0 := pt_at (ps := qs) (k := k) (by omega)
    have p1 := pt_at (ps := qs) (k := j) (by omega)
    have in0 := hall.out.2 (k) (by omega)
    have in1 := hall.out.2 (j) (by omega)
    obtain ⟨gx, gy, hg⟩ : ∃ x y, pt qs (k) = (x, y) := ⟨_, _, rfl⟩
    obtain ⟨jx, jy, hj⟩ : ∃ x y, pt qs (j) = (x, y) := ⟨_, _, rfl⟩
    rw [hg] at p0 in0 HN HF
    rw [hj] at p1 in1 HN HF
    have Q1 : Hid (∀ w hp, _) := Lib.hid fun w hp => SeenSpec.seesIn A n cap jx jy gx gy w ps hl in1 in0 hp
    obtain ⟨s, hs⟩ : ∃ s, seesM ps (jx, jy) (gx, gy) = s := ⟨_, rfl⟩
    rw [hs] at Q1 HN HF
    obtain ⟨bd, eB, bB, pB⟩ := S0.2.2.1.get p0
    subst eB
    obtain ⟨bd2, eB2, _, pJ⟩ := S0.2.2.1.get p1
    injection eB2 with eB2
    subst eB2
    have HO : ∀ W W' : World, (BoxR W w.heap.size (.slice A n cap) ∧ PtsAt W w.heap.size A ps ∧ PtsAt W w.heap.size (some bd) qs ∧ PtAt W bd k gx gy ∧ PtAt W bd j jx jy ∧ Below w.heap.size w W) → Below W.heap.size W W' → (BoxR W' w.heap.size (.slice A n cap) ∧ PtsAt W' w.heap.size A ps ∧ PtsAt W' w.heap.size (some bd) qs ∧ PtAt W' bd k gx gy ∧ PtAt W' bd j jx jy ∧ Below w.heap.size w W') := fun W W' ⟨x0, x1, x2, x3, x4, hb⟩ h => ⟨x0.later h, x1.later (h.mono hb.size), x2.later (h.mono hb.size), x3.later bB (h.mono hb.size), x4.later bB (h.mono hb.size), hb.trans (h.mono hb.size)⟩
    replace S0 : BoxR wr w.heap.size (.slice A n cap) ∧ PtsAt wr w.heap.size A ps ∧ PtsAt wr w.heap.size (some bd) qs ∧ PtAt wr bd k gx gy ∧ PtAt wr bd j jx jy ∧ Below w.heap.size w wr := ⟨S0.1, S0.2.1, S0.2.2.1, pB, pJ, S0.2.2.2⟩
    clear pB pJ p0 p1
    obtain ⟨⟨_, _⟩, _, _, ⟨_, _⟩, ⟨_, _⟩, _⟩ := id S0
    clear hl hl2 in0 in1 hall hs hg hj HR hw hi
    cases s
    · have E := Lib.hid (HF.out rfl)
      clear HN HF
      go_wp2_with fail
      refine Settle.region (fun W => BoxR W w.heap.size (.slice A n cap) ∧ PtsAt W w.heap.size A ps ∧ PtsAt W w.heap.size (some bd) qs ∧ PtAt W bd k gx gy ∧ PtAt W bd j jx jy ∧ Below w.heap.size w W) (by kernel_rfl) (by kernel_rfl) (by kernel_rfl) (by kernel_rfl) (HO _ _ S0 ((Below.refl _ _).drew)) ?_
      clear S0
      repeat (first
        | (refine Settle.Settles.off (by rfl) ?_; simp only [Act.put, List.setIfInBounds_toArray, List.set_cons_zero, List.set_cons_succ])
        | (refine Settle.Settles.quiet (v := ?_) (by rfl) ?_ ?_
           rotate_left
           · (intro W hS; obtain ⟨⟨_, _⟩, _, _, ⟨_, _⟩, ⟨_, _⟩, _⟩ := hS; go_simp; with_reducible rfl)
           simp only [Act.put, List.setIfInBounds_toArray, List.set_cons_zero, List.set_cons_succ])
        | (refine Settle.Settles.call (v := ?_) (f := ?_) (args := ?_) (by rfl) ?_ ?_ ?_
           rotate_left 3
           · (intro W; go_simp; refine ⟨?_, ?_⟩ <;> with_reducible rfl)
           · (intro W hS; first | (go_at_call 77; (with_reducible refine (Q1.out _ (hS.2.1.wide hS.2.2.2.2.2.size)).mono ?_); rintro e W1 ⟨rfl, hb⟩; refine ⟨?_, HO _ _ hS hb⟩; with_reducible rfl))
           simp only [Act.put, List.setIfInBounds_toArray, List.set_cons_zero, List.set_cons_succ]))
      refine Settle.Settles.nil ?_
      intro wr S0
      obtain ⟨⟨_, _⟩, _, _, ⟨_, _⟩, ⟨_, _⟩, _⟩ := id S0
      go_wp2_with fail
      go_ret
      exact ⟨ret_bool E.out.symm, S0.2.2.2.2.2⟩
    · have HN2 := Lib.hid (HN.out rfl)
      clear HN HF
      go_wp2_with fail
      refine Settle.region (fun W => BoxR W w.heap.size (.slice A n cap) ∧ PtsAt W w.heap.size A ps ∧ PtsAt W w.heap.size (some bd) qs ∧ PtAt W bd k gx gy ∧ PtAt W bd j jx jy ∧ Below w.heap.size w W) (by kernel_rfl) (by kernel_rfl) (by kernel_rfl) (by kernel_rfl) (HO _ _ S0 ((Below.refl _ _).drew)) ?_
      clear S0
      repeat (first
        | (refine Settle.Settles.off (by rfl) ?_; simp only [Act.put, List.setIfInBounds_toArray, List.set_cons_zero, List.set_cons_succ])
        | (refine Settle.Settles.quiet (v := ?_) (by rfl) ?_ ?_
           rotate_left
           · (intro W hS; obtain ⟨⟨_, _⟩, _, _, ⟨_, _⟩, ⟨_, _⟩, _⟩ := hS; go_simp; with_reducible rfl)
           simp only [Act.put, List.setIfInBounds_toArray, List.set_cons_zero, List.set_cons_succ])
        | (refine Settle.Settles.call (v := ?_) (f := ?_) (args := ?_) (by rfl) ?_ ?_ ?_
           rotate_left 3
           · (intro W; go_simp; refine ⟨?_, ?_⟩ <;> with_reducible rfl)
           · (intro W hS; first | (go_at_call 77; (with_reducible refine (Q1.out _ (hS.2.1.wide hS.2.2.2.2.2.size)).mono ?_); rintro e W1 ⟨rfl, hb⟩; refine ⟨?_, HO _ _ hS hb⟩; with_reducible rfl))
           simp only [Act.put, List.setIfInBounds_toArray, List.set_cons_zero, List.set_cons_succ]))
      refine Settle.Settles.nil ?_
      intro wr S0
      obtain ⟨⟨_, _⟩, _, _, ⟨_, _⟩, ⟨_, _⟩, _⟩ := id S0
      go_wp2_with fail
      first
        | exact ⟨⟨k + 1, by omega, by omega, by go_num, HN2, S0.1, S0.2.1, S0.2.2.1, S0.2.2.2.2.2⟩, by simp [intOf]; omega⟩
        | (go_roundw <;> first | exact ⟨k + 1, by omega, by omega, by go_num, HN2, S0.1, S0.2.1, S0.2.2.1, S0.2.2.2.2.2⟩ | (simp [intOf]; omega))

set_option maxRecDepth 100000 in
set_option maxHeartbeats 6400000 in
theorem patrolOk (A : Option Addr) (n cap : Nat) (B : Option Addr) (m cb : Nat) (w : World) (ps : List (Int × Int)) (hl : ps.length = n) (hn : n ≤ 1048576) (hp : PtsAt w w.heap.size A ps) (qs : List (Int × Int)) (hl2 : qs.length = m) (hn2 : m ≤ 1048576) (hq : PtsAt w w.heap.size B qs) :
    Calls Try.prog 64 #[.agg #[.slice A n cap], .slice B m cb] w fun e w' => e = .returned (.bool (patrolB ps qs)) ∧ Below w.heap.size w w' := by
  obtain ⟨r, hr⟩ : ∃ r, patrolB ps qs = r := ⟨_, rfl⟩
  have HR := Lib.hid hr
  rw [hr]
  clear hr
  go_enter Try.func64, Try.ntmps64
  go_wp2_with fail
  have X0 := Pts.boxR w (.slice A n cap) 30 (k := w.heap.size) (by simp)
  have b0 := PointOk.below1 w (Obj.cells #[.slice A n cap] 30)
  have HO : ∀ W W' : World, (Pts.BoxR W (w.heap.size) (.slice A n cap) ∧ PtsAt W w.heap.size A ps ∧ PtsAt W w.heap.size B qs ∧ Below w.heap.size w W) → Below W.heap.size W W' → (Pts.BoxR W' (w.heap.size) (.slice A n cap) ∧ PtsAt W' w.heap.size A ps ∧ PtsAt W' w.heap.size B qs ∧ Below w.heap.size w W') := fun W W' ⟨h0, x0, x1, hb⟩ h => ⟨h0.later h, x0.later (h.mono hb.size), x1.later (h.mono hb.size), hb.trans (h.mono hb.size)⟩
  have hz0_ : Hid (((w.alloc (Obj.cells #[.slice A n cap] 30))).heap.size = w.heap.size + 1) := Lib.hid (by simp)
  have Y0 : PtsAt ((w.alloc (Obj.cells #[.slice A n cap] 30))) w.heap.size A ps := hp.later b0
  have Y1 : PtsAt ((w.alloc (Obj.cells #[.slice A n cap] 30))) w.heap.size B qs := hq.later b0
  generalize (w.alloc (Obj.cells #[.slice A n cap] 30)) = w0 at X0 Y0 Y1 b0 hz0_ ⊢
  have S0 := (⟨X0, Y0, Y1, b0⟩ : Pts.BoxR w0 (w.heap.size) (.slice A n cap) ∧ PtsAt w0 w.heap.size A ps ∧ PtsAt w0 w.heap.size B qs ∧ Below w.heap.size w w0)
  clear X0 Y0 Y1 b0
  obtain ⟨⟨_, _⟩, _, _, _⟩ := id S0
  have Q1 : Hid (∀ w, _) := Lib.hid fun w => PointOk.l01In (m : Int) 1 40 w
  have QW : Hid (∀ w hp hq, _) := Lib.hid fun w hp hq => walkOk A n cap B m cb w ps hl hn hp qs hl2 hn2 hq
  by_cases h1 : 1 ≤ m ∧ m ≤ 40
  rotate_left
  · have E : Hid (r = false) := Lib.hid (by
      rw [← HR.out]; unfold patrolB walkB; rw [hl2]
      rcases Nat.lt_or_ge m 1 with h | h
      · rw [show decide (1 ≤ m) = false from decide_eq_false (by omega)]; rfl
      · rw [show decide (m ≤ 40) = false from decide_eq_false (by omega)]; simp)
    rw [show decide ((1 : Int) ≤ (m : Int) ∧ (m : Int) ≤ 40) = false from decide_eq_false (by omega)] at Q1
    clear hl hl2 HR QW
    go_wp2_with fail
    refine Settle.region (fun W => Pts.BoxR W (w.heap.size) (.slice A n cap) ∧ PtsAt W w.heap.size A ps ∧ PtsAt W w.heap.size B qs ∧ Below w.heap.size w W) (by kernel_rfl) (by kernel_rfl) (by kernel_rfl) (by kernel_rfl) (HO _ _ S0 ((Below.refl _ _).drew)) ?_
    clear S0
    repeat (first
      | (refine Settle.Settles.off (by rfl) ?_; simp only [Act.put, List.setIfInBounds_toArray, List.set_cons_zero, List.set_cons_succ])
      | (refine Settle.Settles.quiet (v := ?_) (by rfl) ?_ ?_
         rotate_left
         · (intro W hS; obtain ⟨⟨_, _⟩, _, _, _⟩ := hS; go_simp; with_reducible rfl)
         simp only [Act.put, List.setIfInBounds_toArray, List.set_cons_zero, List.set_cons_succ])
      | (refine Settle.Settles.call (v := ?_) (f := ?_) (args := ?_) (by rfl) ?_ ?_ ?_
         rotate_left 3
         · (intro W; go_simp; refine ⟨?_, ?_⟩ <;> with_reducible rfl)
         · (intro W hS; first | (go_at_call 104; (with_reducible refine (Q1.out _).mono ?_); rintro e W1 ⟨rfl, rfl⟩; refine ⟨?_, hS⟩; with_reducible rfl))
         simp only [Act.put, List.setIfInBounds_toArray, List.set_cons_zero, List.set_cons_succ]))
    refine Settle.Settles.nil ?_
    intro wr S0
    obtain ⟨⟨_, _⟩, _, _, _⟩ := id S0
    go_wp2_with fail
    go_ret
    exact ⟨ret_bool E.out.symm, S0.2.2.2⟩
  rw [show decide ((1 : Int) ≤ (m : Int) ∧ (m : Int) ≤ 40) = true from decide_eq_true (by omega)] at Q1
  obtain ⟨v, hv⟩ : ∃ v, walkB ps qs = v := ⟨_, rfl⟩
  cases v
  · have E : Hid (r = false) := Lib.hid (by rw [← HR.out]; unfold patrolB; rw [hv]; simp)
    rw [hv] at QW
    clear hl hl2 HR hv
    go_wp2_with fail
    refine Settle.region (fun W => Pts.BoxR W (w.heap.size) (.slice A n cap) ∧ PtsAt W w.heap.size A ps ∧ PtsAt W w.heap.size B qs ∧ Below w.heap.size w W) (by kernel_rfl) (by kernel_rfl) (by kernel_rfl) (by kernel_rfl) (HO _ _ S0 ((Below.refl _ _).drew)) ?_
    clear S0
    repeat (first
      | (refine Settle.Settles.off (by rfl) ?_; simp only [Act.put, List.setIfInBounds_toArray, List.set_cons_zero, List.set_cons_succ])
      | (refine Settle.Settles.quiet (v := ?_) (by rfl) ?_ ?_
         rotate_left
         · (intro W hS; obtain ⟨⟨_, _⟩, _, _, _⟩ := hS; go_simp; with_reducible rfl)
         simp only [Act.put, List.setIfInBounds_toArray, List.set_cons_zero, List.set_cons_succ])
      | (refine Settle.Settles.call (v := ?_) (f := ?_) (args := ?_) (by rfl) ?_ ?_ ?_
         rotate_left 3
         · (intro W; go_simp; refine ⟨?_, ?_⟩ <;> with_reducible rfl)
         · (intro W hS; first | (go_at_call 104; (with_reducible refine (Q1.out _).mono ?_); rintro e W1 ⟨rfl, rfl⟩; refine ⟨?_, hS⟩; with_reducible rfl) | (go_at_call 109; (with_reducible refine (QW.out _ (hS.2.1.wide hS.2.2.2.size) (hS.2.2.1.wide hS.2.2.2.size)).mono ?_); rintro e W1 ⟨rfl, hb⟩; refine ⟨?_, HO _ _ hS hb⟩; with_reducible rfl))
         simp only [Act.put, List.setIfInBounds_toArray, List.set_cons_zero, List.set_cons_succ]))
    refine Settle.Settles.nil ?_
    intro wr S0
    obtain ⟨⟨_, _⟩, _, _, _⟩ := id S0
    go_wp2_with fail
    go_ret
    exact ⟨ret_bool E.out.symm, S0.2.2.2⟩
  have hall := Lib.hid (allIn_at (walk_parts hv).1)
  have HE : Hid (seesM ps (pt qs 0) (pt qs (m - 1)) = r) := Lib.hid (by rw [← HR.out]; unfold patrolB; rw [hv, hl2, show decide (1 ≤ m) = true from decide_eq_true h1.1]; rfl)
  rw [hv] at QW
  obtain ⟨k, hk⟩ : ∃ k : Nat, m - 1 = k := ⟨_, rfl⟩
  have uj : IntKind.i64.wrap ((m : Int) - 1) = (k : Int) := by rw [IntWalk.i64_in _ (by omega)]; omega
  have hk1 : (k : Int) < (m : Int) := by omega
  have hk0 : (0 : Int) ≤ (k : Int) := by omega
  have hm0 : (0 : Int) < (m : Int) := by omega
  have g0n : 0 < m := by omega
  rw [hk] at HE
  clear HR hv
  have p0 := pt_at (ps := qs) (k := k) (by omega)
  have p1 := pt_at (ps := qs) (k := 0) (by omega)
  have in0 := hall.out.2 (k) (by omega)
  have in1 := hall.out.2 (0) (by omega)
  obtain ⟨gx, gy, hg⟩ : ∃ x y, pt qs (k) = (x, y) := ⟨_, _, rfl⟩
  obtain ⟨jx, jy, hj⟩ : ∃ x y, pt qs (0) = (x, y) := ⟨_, _, rfl⟩
  rw [hg] at p0 in0 HE
  rw [hj] at p1 in1 HE
  have Q2 : Hid (∀ w hp, _) := Lib.hid fun w hp => SeenSpec.seesIn A n cap jx jy gx gy w ps hl in1 in0 hp
  rw [HE.out] at Q2
  obtain ⟨bd, eB, bB, pB⟩ := S0.2.2.1.get p0
  subst eB
  obtain ⟨bd2, eB2, _, pJ⟩ := S0.2.2.1.get p1
  injection eB2 with eB2
  subst eB2
  have HO : ∀ W W' : World, (BoxR W w.heap.size (.slice A n cap) ∧ PtsAt W w.heap.size A ps ∧ PtsAt W w.heap.size (some bd) qs ∧ PtAt W bd k gx gy ∧ PtHere W bd jx jy ∧ Below w.heap.size w W) → Below W.heap.size W W' → (BoxR W' w.heap.size (.slice A n cap) ∧ PtsAt W' w.heap.size A ps ∧ PtsAt W' w.heap.size (some bd) qs ∧ PtAt W' bd k gx gy ∧ PtHere W' bd jx jy ∧ Below w.heap.size w W') := fun W W' ⟨x0, x1, x2, x3, x4, hb⟩ h => ⟨x0.later h, x1.later (h.mono hb.size), x2.later (h.mono hb.size), x3.later bB (h.mono hb.size), x4.later bB (h.mono hb.size), hb.trans (h.mono hb.size)⟩
  have PJ_ := pJ.zero
  replace S0 : BoxR w0 w.heap.size (.slice A n cap) ∧ PtsAt w0 w.heap.size A ps ∧ PtsAt w0 w.heap.size (some bd) qs ∧ PtAt w0 bd k gx gy ∧ PtHere w0 bd jx jy ∧ Below w.heap.size w w0 := ⟨S0.1, S0.2.1, S0.2.2.1, pB, PJ_, S0.2.2.2⟩
  clear pB pJ PJ_ p0 p1
  obtain ⟨⟨_, _⟩, _, _, ⟨_, _⟩, ⟨_, _⟩, _⟩ := id S0
  clear hl hl2 in0 in1 hall hg hj HE
  go_wp2_with fail
  refine Settle.region (fun W => BoxR W w.heap.size (.slice A n cap) ∧ PtsAt W w.heap.size A ps ∧ PtsAt W w.heap.size (some bd) qs ∧ PtAt W bd k gx gy ∧ PtHere W bd jx jy ∧ Below w.heap.size w W) (by kernel_rfl) (by kernel_rfl) (by kernel_rfl) (by kernel_rfl) (HO _ _ S0 ((Below.refl _ _).drew)) ?_
  clear S0
  repeat (first
    | (refine Settle.Settles.off (by rfl) ?_; simp only [Act.put, List.setIfInBounds_toArray, List.set_cons_zero, List.set_cons_succ])
    | (refine Settle.Settles.quiet (v := ?_) (by rfl) ?_ ?_
       rotate_left
       · (intro W hS; obtain ⟨⟨_, _⟩, _, _, ⟨_, _⟩, ⟨_, _⟩, _⟩ := hS; go_simp; with_reducible rfl)
       simp only [Act.put, List.setIfInBounds_toArray, List.set_cons_zero, List.set_cons_succ])
    | (refine Settle.Settles.call (v := ?_) (f := ?_) (args := ?_) (by rfl) ?_ ?_ ?_
       rotate_left 3
       · (intro W; go_simp; refine ⟨?_, ?_⟩ <;> with_reducible rfl)
       · (intro W hS; first | (go_at_call 104; (with_reducible refine (Q1.out _).mono ?_); rintro e W1 ⟨rfl, rfl⟩; refine ⟨?_, hS⟩; with_reducible rfl) | (go_at_call 109; (with_reducible refine (QW.out _ (hS.2.1.wide hS.2.2.2.2.2.size) (hS.2.2.1.wide hS.2.2.2.2.2.size)).mono ?_); rintro e W1 ⟨rfl, hb⟩; refine ⟨?_, HO _ _ hS hb⟩; with_reducible rfl) | (go_at_call 77; (with_reducible refine (Q2.out _ (hS.2.1.wide hS.2.2.2.2.2.size)).mono ?_); rintro e W1 ⟨rfl, hb⟩; refine ⟨?_, HO _ _ hS hb⟩; with_reducible rfl))
       simp only [Act.put, List.setIfInBounds_toArray, List.set_cons_zero, List.set_cons_succ]))
  refine Settle.Settles.nil ?_
  intro wr S0
  obtain ⟨⟨_, _⟩, _, _, ⟨_, _⟩, ⟨_, _⟩, _⟩ := id S0
  go_wp2_with fail
  go_ret
  exact ⟨rfl, S0.2.2.2.2.2⟩

end Go.Proofs.Ytonbpmabmjhdgac.WalkSpec

