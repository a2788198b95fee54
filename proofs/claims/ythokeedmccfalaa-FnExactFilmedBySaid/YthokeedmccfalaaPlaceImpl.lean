/-
  What the landed functions on places do, as contracts: what each answers; new memory alone is written.
-/
import Derived.Test.YthokeedmccfalaaRoomOkImpl
import Derived.Test.YthokeedmccfalaaFacts
namespace Go.Proofs.Ythokeedmccfalaa.PlaceImpl
open Go.RowKit PointMath WallMath RoomMath Pts Blk AreaMath PlaceMath
open PointOk (ret_bool ret_i64 below1 below2 below3)

set_option maxRecDepth 100000 in
set_option maxHeartbeats 1600000 in
theorem wallWith (A : Option Addr) (n cap : Nat) (px py : Int) (w : World) (ps : List (Int × Int)) (hl : ps.length = n) (hn : n ≤ 1048576) (hs : smAll ps) (sp : smP px py) (hp : PtsAt w w.heap.size A ps) :
    Calls Try.prog 164 #[.slice A n cap, .agg #[.int .i64 px, .int .i64 py]] w fun e w' => e = .returned (.int .i64 (wallM ps (px, py))) ∧ Below w.heap.size w w' := by
  obtain ⟨r, hr⟩ : ∃ r, wallM ps (px, py) = r := ⟨_, rfl⟩
  have HR := Lib.hid hr
  rw [hr]
  clear hr
  go_enter Try.func164, Try.ntmps164
  go_wp2_with fail
  have X0 := PointOk.box1 w px py 49 (k := w.heap.size) (by simp)
  have b0 := PointOk.below1 w (Obj.cells #[.int .i64 px, .int .i64 py] 49)
  have HO : ∀ W W' : World, (PointOk.Box W (w.heap.size) px py ∧ PtsAt W w.heap.size A ps ∧ Below w.heap.size w W) → Below W.heap.size W W' → (PointOk.Box W' (w.heap.size) px py ∧ PtsAt W' w.heap.size A ps ∧ Below w.heap.size w W') := fun W W' ⟨h0, x0, hb⟩ h => ⟨h0.later h, x0.later (h.mono hb.size), hb.trans (h.mono hb.size)⟩
  have hz0_ : Hid (((w.alloc (Obj.cells #[.int .i64 px, .int .i64 py] 49))).heap.size = w.heap.size + 1) := Lib.hid (by simp)
  have Y0 : PtsAt ((w.alloc (Obj.cells #[.int .i64 px, .int .i64 py] 49))) w.heap.size A ps := hp.later b0
  generalize (w.alloc (Obj.cells #[.int .i64 px, .int .i64 py] 49)) = w0 at X0 Y0 b0 hz0_ ⊢
  have S0 := (⟨X0, Y0, b0⟩ : PointOk.Box w0 (w.heap.size) px py ∧ PtsAt w0 w.heap.size A ps ∧ Below w.heap.size w w0)
  clear X0 Y0 b0
  obtain ⟨⟨_, _⟩, _, _⟩ := id S0
  go_loopw [8] (fun i wr => ∃ k : Nat, k ≤ n ∧ i = .int .i64 k ∧ Hid (∀ j, j < k → onK ps (px, py) j = false) ∧ (PointOk.Box wr (w.heap.size) px py ∧ PtsAt wr w.heap.size A ps ∧ Below w.heap.size w wr))
    (fun i _ => n - (intOf i).toNat)
  case atStart => exact ⟨0, Nat.zero_le _, rfl, Lib.hid (fun j hj => absurd hj (by omega)), S0⟩
  case round =>
    clear S0
    obtain ⟨k, hkn, rfl, hno, S0⟩ := hrel
    obtain ⟨⟨_, _⟩, _, _⟩ := id S0
    by_cases hlt : k < n
    · have hk1 : (k : Int) < (n : Int) := by omega
      have QW : Hid (∀ w hp, _) := Lib.hid fun w hp => RoomOkImpl.wallBehind A n cap k w ps hl hn hlt hp
      have s0 := hs k (by omega)
      have s1 := hs ((k + 1) % n) (by rw [hl]; exact Nat.mod_lt _ (by omega))
      have HK : Hid (onK ps (px, py) k = btwP (px, py) (pt ps k) (pt ps ((k + 1) % n))) := Lib.hid (by unfold onK; rw [hl])
      generalize pt ps k = a at *
      generalize pt ps ((k + 1) % n) = b at *
      have QH : Hid (∀ w, _) := Lib.hid fun w => WallImpl.holds a.1 a.2 b.1 b.2 px py s0 s1 sp w
      obtain ⟨o, ho⟩ : ∃ o, btwB px py a.1 a.2 b.1 b.2 = o := ⟨_, rfl⟩
      rw [ho] at QH
      replace HK : Hid (onK ps (px, py) k = o) := Lib.hid (by rw [HK.out, ← ho]; rfl)
      clear ho s0 s1
      go_wp2_with fail
      refine Settle.region (fun W => PointOk.Box W (w.heap.size) px py ∧ PtsAt W w.heap.size A ps ∧ Below w.heap.size w W) (by kernel_rfl) (by kernel_rfl) (by kernel_rfl) (by kernel_rfl) (HO _ _ S0 ((Below.refl _ _).drew)) ?_
      clear S0
      repeat (first
        | (refine Settle.Settles.off (by rfl) ?_; simp only [Act.put, List.setIfInBounds_toArray, List.set_cons_zero, List.set_cons_succ])
        | (refine Settle.Settles.quiet (v := ?_) (by rfl) ?_ ?_
           rotate_left
           · (intro W hS; obtain ⟨⟨_, _⟩, _, _⟩ := hS; go_simp; with_reducible rfl)
           simp only [Act.put, List.setIfInBounds_toArray, List.set_cons_zero, List.set_cons_succ])
        | (refine Settle.Settles.call (v := ?_) (f := ?_) (args := ?_) (by rfl) ?_ ?_ ?_
           rotate_left 3
           · (intro W; go_simp; refine ⟨?_, ?_⟩ <;> with_reducible rfl)
           · (intro W hS; first | (go_at_call 161; (with_reducible refine (QW.out _ (hS.2.1.wide hS.2.2.size)).mono ?_); rintro e W1 ⟨rfl, hb⟩; refine ⟨?_, HO _ _ hS hb⟩; with_reducible rfl) | (go_at_call 182; (with_reducible refine (QH.out _).mono ?_); rintro e W1 ⟨rfl, hb⟩; refine ⟨?_, HO _ _ hS hb⟩; with_reducible rfl))
           simp only [Act.put, List.setIfInBounds_toArray, List.set_cons_zero, List.set_cons_succ]))
      refine Settle.Settles.nil ?_
      intro wr S0
      obtain ⟨⟨_, _⟩, _, _⟩ := id S0
      cases o
      · have hno2 : Hid (∀ j, j < k + 1 → onK ps (px, py) j = false) := Lib.hid (by
          intro j hj
          rcases Nat.lt_or_ge j k with h | h
          · exact hno.out j h
          · obtain rfl : j = k := by omega
            exact HK.out)
        clear hl HR hno HK
        go_wp2_with fail
        first
          | exact ⟨⟨k + 1, by omega, by go_num, hno2, S0⟩, by simp [intOf]; omega⟩
          | (go_roundw <;> first | exact ⟨k + 1, by omega, by go_num, hno2, S0⟩ | (simp [intOf]; omega))
      · have E : Hid ((k : Int) = r) := Lib.hid (by rw [← HR.out, wallM_at (k := k) (by omega) HK.out hno.out])
        clear hl HR hno HK
        go_wp2_with fail
        go_ret
        exact ⟨ret_i64 E.out, S0.2.2⟩
    · obtain rfl : n = k := by omega
      have E : Hid (r = -1) := Lib.hid (by rw [← HR.out, wallM_none (by rw [hl]; exact hno.out)])
      clear hl HR hno
      go_wp2_with fail
      go_ret
      exact ⟨ret_i64 E.out.symm, S0.2.2⟩

set_option maxRecDepth 100000 in
set_option maxHeartbeats 1600000 in
theorem isRightOf (ax ay bx bY px py : Int) (ha : smP ax ay) (hb : smP bx bY) (hp : smP px py) (w : World) :
    Calls Try.prog 188 #[.agg #[.int .i64 ax, .int .i64 ay, .int .i64 bx, .int .i64 bY], .agg #[.int .i64 px, .int .i64 py]] w fun e w' => e = .returned (.bool (riseB (ax, ay) (bx, bY) (px, py))) ∧ Below w.heap.size w w' := by
  obtain ⟨t, ht⟩ : ∃ t, turnI ax ay bx bY px py = t := ⟨_, rfl⟩
  have Q : Hid (∀ w, _) := Lib.hid fun w => PointImpl.turn ax ay bx bY px py ha hb hp w
  rw [ht] at Q
  have E : Hid (riseB (ax, ay) (bx, bY) (px, py) = (decide (ay < py) && decide (py ≤ bY) && decide (0 < t) || decide (bY < py) && decide (py ≤ ay) && decide (t < 0))) := Lib.hid (by unfold riseB turnP; rw [ht])
  rw [E.out]
  clear E ha hb hp ht
  by_cases h1 : ay < py
  · have g1 : ¬ py ≤ ay := by omega
    have d1 : decide (ay < py) = true := decide_eq_true h1
    have e1 : decide (py ≤ ay) = false := decide_eq_false g1
    rw [d1, e1]
    by_cases h2 : bY < py
    · have g2 : ¬ py ≤ bY := by omega
      have d2 : decide (bY < py) = true := decide_eq_true h2
      have e2 : decide (py ≤ bY) = false := decide_eq_false g2
      rw [d2, e2]
      go_enter Try.func188, Try.ntmps188
      go_wp2_with fail
      have X0 := (PointOk.box4 w ax ay bx bY 143 (k := w.heap.size) (by simp)).alloc (Obj.cells #[.int .i64 px, .int .i64 py] 49)
      have X1 := PointOk.box1 (w.alloc (Obj.cells #[.int .i64 ax, .int .i64 ay, .int .i64 bx, .int .i64 bY] 143)) px py 49 (k := w.heap.size + 1) (by simp)
      have b0 := PointOk.below2 w (Obj.cells #[.int .i64 ax, .int .i64 ay, .int .i64 bx, .int .i64 bY] 143) (Obj.cells #[.int .i64 px, .int .i64 py] 49)
      have HO : ∀ W W' : World, (PointOk.Box4 W (w.heap.size) ax ay bx bY ∧ PointOk.Box W (w.heap.size + 1) px py ∧ Below w.heap.size w W) → Below W.heap.size W W' → (PointOk.Box4 W' (w.heap.size) ax ay bx bY ∧ PointOk.Box W' (w.heap.size + 1) px py ∧ Below w.heap.size w W') := fun W W' ⟨h0, h1, hb⟩ h => ⟨h0.later h, h1.later h, hb.trans (h.mono hb.size)⟩
      have hz0_ : Hid ((((w.alloc (Obj.cells #[.int .i64 ax, .int .i64 ay, .int .i64 bx, .int .i64 bY] 143)).alloc (Obj.cells #[.int .i64 px, .int .i64 py] 49))).heap.size = w.heap.size + 1 + 1) := Lib.hid (by simp)
      generalize ((w.alloc (Obj.cells #[.int .i64 ax, .int .i64 ay, .int .i64 bx, .int .i64 bY] 143)).alloc (Obj.cells #[.int .i64 px, .int .i64 py] 49)) = w0 at X0 X1 b0 hz0_ ⊢
      have S0 := (⟨X0, X1, b0⟩ : PointOk.Box4 w0 (w.heap.size) ax ay bx bY ∧ PointOk.Box w0 (w.heap.size + 1) px py ∧ Below w.heap.size w w0)
      clear X0 X1 b0
      obtain ⟨⟨_, _, _, _⟩, ⟨_, _⟩, _⟩ := id S0
      refine Settle.region (fun W => PointOk.Box4 W (w.heap.size) ax ay bx bY ∧ PointOk.Box W (w.heap.size + 1) px py ∧ Below w.heap.size w W) (by kernel_rfl) (by kernel_rfl) (by kernel_rfl) (by kernel_rfl) (HO _ _ S0 ((Below.refl _ _).drew)) ?_
      clear S0
      repeat (first
        | (refine Settle.Settles.off (by rfl) ?_; simp only [Act.put, List.setIfInBounds_toArray, List.set_cons_zero, List.set_cons_succ])
        | (refine Settle.Settles.quiet (v := ?_) (by rfl) ?_ ?_
           rotate_left
           · (intro W hS; obtain ⟨⟨_, _, _, _⟩, ⟨_, _⟩, _⟩ := hS; go_simp; with_reducible rfl)
           simp only [Act.put, List.setIfInBounds_toArray, List.set_cons_zero, List.set_cons_succ])
        | (refine Settle.Settles.call (v := ?_) (f := ?_) (args := ?_) (by rfl) ?_ ?_ ?_
           rotate_left 3
           · (intro W; go_simp; refine ⟨?_, ?_⟩ <;> with_reducible rfl)
           · (intro W hS; fail)
           simp only [Act.put, List.setIfInBounds_toArray, List.set_cons_zero, List.set_cons_succ]))
      refine Settle.Settles.nil ?_
      intro wr S0
      obtain ⟨⟨_, _, _, _⟩, ⟨_, _⟩, _⟩ := id S0
      go_wp2_with fail
      refine (Q.out _).mono ?_
      rintro e w1 ⟨rfl, hb_⟩
      replace S0 := HO _ _ S0 hb_
      clear hb_
      obtain ⟨⟨_, _, _, _⟩, ⟨_, _⟩, _⟩ := id S0
      go_wp2_with fail
      go_ret
      exact ⟨rfl, S0.2.2⟩
    · have g2 : py ≤ bY := by omega
      have d2 : decide (bY < py) = false := decide_eq_false h2
      have e2 : decide (py ≤ bY) = true := decide_eq_true g2
      rw [d2, e2]
      go_enter Try.func188, Try.ntmps188
      go_wp2_with fail
      have X0 := (PointOk.box4 w ax ay bx bY 143 (k := w.heap.size) (by simp)).alloc (Obj.cells #[.int .i64 px, .int .i64 py] 49)
      have X1 := PointOk.box1 (w.alloc (Obj.cells #[.int .i64 ax, .int .i64 ay, .int .i64 bx, .int .i64 bY] 143)) px py 49 (k := w.heap.size + 1) (by simp)
      have b0 := PointOk.below2 w (Obj.cells #[.int .i64 ax, .int .i64 ay, .int .i64 bx, .int .i64 bY] 143) (Obj.cells #[.int .i64 px, .int .i64 py] 49)
      have HO : ∀ W W' : World, (PointOk.Box4 W (w.heap.size) ax ay bx bY ∧ PointOk.Box W (w.heap.size + 1) px py ∧ Below w.heap.size w W) → Below W.heap.size W W' → (PointOk.Box4 W' (w.heap.size) ax ay bx bY ∧ PointOk.Box W' (w.heap.size + 1) px py ∧ Below w.heap.size w W') := fun W W' ⟨h0, h1, hb⟩ h => ⟨h0.later h, h1.later h, hb.trans (h.mono hb.size)⟩
      have hz0_ : Hid ((((w.alloc (Obj.cells #[.int .i64 ax, .int .i64 ay, .int .i64 bx, .int .i64 bY] 143)).alloc (Obj.cells #[.int .i64 px, .int .i64 py] 49))).heap.size = w.heap.size + 1 + 1) := Lib.hid (by simp)
      generalize ((w.alloc (Obj.cells #[.int .i64 ax, .int .i64 ay, .int .i64 bx, .int .i64 bY] 143)).alloc (Obj.cells #[.int .i64 px, .int .i64 py] 49)) = w0 at X0 X1 b0 hz0_ ⊢
      have S0 := (⟨X0, X1, b0⟩ : PointOk.Box4 w0 (w.heap.size) ax ay bx bY ∧ PointOk.Box w0 (w.heap.size + 1) px py ∧ Below w.heap.size w w0)
      clear X0 X1 b0
      obtain ⟨⟨_, _, _, _⟩, ⟨_, _⟩, _⟩ := id S0
      refine Settle.region (fun W => PointOk.Box4 W (w.heap.size) ax ay bx bY ∧ PointOk.Box W (w.heap.size + 1) px py ∧ Below w.heap.size w W) (by kernel_rfl) (by kernel_rfl) (by kernel_rfl) (by kernel_rfl) (HO _ _ S0 ((Below.refl _ _).drew)) ?_
      clear S0
      repeat (first
        | (refine Settle.Settles.off (by rfl) ?_; simp only [Act.put, List.setIfInBounds_toArray, List.set_cons_zero, List.set_cons_succ])
        | (refine Settle.Settles.quiet (v := ?_) (by rfl) ?_ ?_
           rotate_left
           · (intro W hS; obtain ⟨⟨_, _, _, _⟩, ⟨_, _⟩, _⟩ := hS; go_simp; with_reducible rfl)
           simp only [Act.put, List.setIfInBounds_toArray, List.set_cons_zero, List.set_cons_succ])
        | (refine Settle.Settles.call (v := ?_) (f := ?_) (args := ?_) (by rfl) ?_ ?_ ?_
           rotate_left 3
           · (intro W; go_simp; refine ⟨?_, ?_⟩ <;> with_reducible rfl)
           · (intro W hS; fail)
           simp only [Act.put, List.setIfInBounds_toArray, List.set_cons_zero, List.set_cons_succ]))
      refine Settle.Settles.nil ?_
      intro wr S0
      obtain ⟨⟨_, _, _, _⟩, ⟨_, _⟩, _⟩ := id S0
      go_wp2_with fail
      refine (Q.out _).mono ?_
      rintro e w2 ⟨rfl, hb_⟩
      replace S0 := HO _ _ S0 hb_
      clear hb_
      obtain ⟨⟨_, _, _, _⟩, ⟨_, _⟩, _⟩ := id S0
      go_wp2_with fail
      all_goals go_ret
      all_goals exact ⟨ret_bool (by simp), S0.2.2⟩
  · have g1 : py ≤ ay := by omega
    have d1 : decide (ay < py) = false := decide_eq_false h1
    have e1 : decide (py ≤ ay) = true := decide_eq_true g1
    rw [d1, e1]
    by_cases h2 : bY < py
    · have g2 : ¬ py ≤ bY := by omega
      have d2 : decide (bY < py) = true := decide_eq_true h2
      have e2 : decide (py ≤ bY) = false := decide_eq_false g2
      rw [d2, e2]
      go_enter Try.func188, Try.ntmps188
      go_wp2_with fail
      have X0 := (PointOk.box4 w ax ay bx bY 143 (k := w.heap.size) (by simp)).alloc (Obj.cells #[.int .i64 px, .int .i64 py] 49)
      have X1 := PointOk.box1 (w.alloc (Obj.cells #[.int .i64 ax, .int .i64 ay, .int .i64 bx, .int .i64 bY] 143)) px py 49 (k := w.heap.size + 1) (by simp)
      have b0 := PointOk.below2 w (Obj.cells #[.int .i64 ax, .int .i64 ay, .int .i64 bx, .int .i64 bY] 143) (Obj.cells #[.int .i64 px, .int .i64 py] 49)
      have HO : ∀ W W' : World, (PointOk.Box4 W (w.heap.size) ax ay bx bY ∧ PointOk.Box W (w.heap.size + 1) px py ∧ Below w.heap.size w W) → Below W.heap.size W W' → (PointOk.Box4 W' (w.heap.size) ax ay bx bY ∧ PointOk.Box W' (w.heap.size + 1) px py ∧ Below w.heap.size w W') := fun W W' ⟨h0, h1, hb⟩ h => ⟨h0.later h, h1.later h, hb.trans (h.mono hb.size)⟩
      have hz0_ : Hid ((((w.alloc (Obj.cells #[.int .i64 ax, .int .i64 ay, .int .i64 bx, .int .i64 bY] 143)).alloc (Obj.cells #[.int .i64 px, .int .i64 py] 49))).heap.size = w.heap.size + 1 + 1) := Lib.hid (by simp)
      generalize ((w.alloc (Obj.cells #[.int .i64 ax, .int .i64 ay, .int .i64 bx, .int .i64 bY] 143)).alloc (Obj.cells #[.int .i64 px, .int .i64 py] 49)) = w0 at X0 X1 b0 hz0_ ⊢
      have S0 := (⟨X0, X1, b0⟩ : PointOk.Box4 w0 (w.heap.size) ax ay bx bY ∧ PointOk.Box w0 (w.heap.size + 1) px py ∧ Below w.heap.size w w0)
      clear X0 X1 b0
      obtain ⟨⟨_, _, _, _⟩, ⟨_, _⟩, _⟩ := id S0
      refine Settle.region (fun W => PointOk.Box4 W (w.heap.size) ax ay bx bY ∧ PointOk.Box W (w.heap.size + 1) px py ∧ Below w.heap.size w W) (by kernel_rfl) (by kernel_rfl) (by kernel_rfl) (by kernel_rfl) (HO _ _ S0 ((Below.refl _ _).drew)) ?_
      clear S0
      repeat (first
        | (refine Settle.Settles.off (by rfl) ?_; simp only [Act.put, List.setIfInBounds_toArray, List.set_cons_zero, List.set_cons_succ])
        | (refine Settle.Settles.quiet (v := ?_) (by rfl) ?_ ?_
           rotate_left
           · (intro W hS; obtain ⟨⟨_, _, _, _⟩, ⟨_, _⟩, _⟩ := hS; go_simp; with_reducible rfl)
           simp only [Act.put, List.setIfInBounds_toArray, List.set_cons_zero, List.set_cons_succ])
        | (refine Settle.Settles.call (v := ?_) (f := ?_) (args := ?_) (by rfl) ?_ ?_ ?_
           rotate_left 3
           · (intro W; go_simp; refine ⟨?_, ?_⟩ <;> with_reducible rfl)
           · (intro W hS; fail)
           simp only [Act.put, List.setIfInBounds_toArray, List.set_cons_zero, List.set_cons_succ]))
      refine Settle.Settles.nil ?_
      intro wr S0
      obtain ⟨⟨_, _, _, _⟩, ⟨_, _⟩, _⟩ := id S0
      go_wp2_with fail
      refine (Q.out _).mono ?_
      rintro e w3 ⟨rfl, hb_⟩
      replace S0 := HO _ _ S0 hb_
      clear hb_
      obtain ⟨⟨_, _, _, _⟩, ⟨_, _⟩, _⟩ := id S0
      go_wp2_with fail
      all_goals go_ret
      all_goals exact ⟨ret_bool (by simp), S0.2.2⟩
    · have g2 : py ≤ bY := by omega
      have d2 : decide (bY < py) = false := decide_eq_false h2
      have e2 : decide (py ≤ bY) = true := decide_eq_true g2
      rw [d2, e2]
      go_enter Try.func188, Try.ntmps188
      go_wp2_with fail
      have X0 := (PointOk.box4 w ax ay bx bY 143 (k := w.heap.size) (by simp)).alloc (Obj.cells #[.int .i64 px, .int .i64 py] 49)
      have X1 := PointOk.box1 (w.alloc (Obj.cells #[.int .i64 ax, .int .i64 ay, .int .i64 bx, .int .i64 bY] 143)) px py 49 (k := w.heap.size + 1) (by simp)
      have b0 := PointOk.below2 w (Obj.cells #[.int .i64 ax, .int .i64 ay, .int .i64 bx, .int .i64 bY] 143) (Obj.cells #[.int .i64 px, .int .i64 py] 49)
      have HO : ∀ W W' : World, (PointOk.Box4 W (w.heap.size) ax ay bx bY ∧ PointOk.Box W (w.heap.size + 1) px py ∧ Below w.heap.size w W) → Below W.heap.size W W' → (PointOk.Box4 W' (w.heap.size) ax ay bx bY ∧ PointOk.Box W' (w.heap.size + 1) px py ∧ Below w.heap.size w W') := fun W W' ⟨h0, h1, hb⟩ h => ⟨h0.later h, h1.later h, hb.trans (h.mono hb.size)⟩
      have hz0_ : Hid ((((w.alloc (Obj.cells #[.int .i64 ax, .int .i64 ay, .int .i64 bx, .int .i64 bY] 143)).alloc (Obj.cells #[.int .i64 px, .int .i64 py] 49))).heap.size = w.heap.size + 1 + 1) := Lib.hid (by simp)
      generalize ((w.alloc (Obj.cells #[.int .i64 ax, .int .i64 ay, .int .i64 bx, .int .i64 bY] 143)).alloc (Obj.cells #[.int .i64 px, .int .i64 py] 49)) = w0 at X0 X1 b0 hz0_ ⊢
      have S0 := (⟨X0, X1, b0⟩ : PointOk.Box4 w0 (w.heap.size) ax ay bx bY ∧ PointOk.Box w0 (w.heap.size + 1) px py ∧ Below w.heap.size w w0)
      clear X0 X1 b0
      obtain ⟨⟨_, _, _, _⟩, ⟨_, _⟩, _⟩ := id S0
      refine Settle.region (fun W => PointOk.Box4 W (w.heap.size) ax ay bx bY ∧ PointOk.Box W (w.heap.size + 1) px py ∧ Below w.heap.size w W) (by kernel_rfl) (by kernel_rfl) (by kernel_rfl) (by kernel_rfl) (HO _ _ S0 ((Below.refl _ _).drew)) ?_
      clear S0
      repeat (first
        | (refine Settle.Settles.off (by rfl) ?_; simp only [Act.put, List.setIfInBounds_toArray, List.set_cons_zero, List.set_cons_succ])
        | (refine Settle.Settles.quiet (v := ?_) (by rfl) ?_ ?_
           rotate_left
           · (intro W hS; obtain ⟨⟨_, _, _, _⟩, ⟨_, _⟩, _⟩ := hS; go_simp; with_reducible rfl)
           simp only [Act.put, List.setIfInBounds_toArray, List.set_cons_zero, List.set_cons_succ])
        | (refine Settle.Settles.call (v := ?_) (f := ?_) (args := ?_) (by rfl) ?_ ?_ ?_
           rotate_left 3
           · (intro W; go_simp; refine ⟨?_, ?_⟩ <;> with_reducible rfl)
           · (intro W hS; fail)
           simp only [Act.put, List.setIfInBounds_toArray, List.set_cons_zero, List.set_cons_succ]))
      refine Settle.Settles.nil ?_
      intro wr S0
      obtain ⟨⟨_, _, _, _⟩, ⟨_, _⟩, _⟩ := id S0
      go_wp2_with fail
      refine (Q.out _).mono ?_
      rintro e w4 ⟨rfl, hb_⟩
      replace S0 := HO _ _ S0 hb_
      clear hb_
      obtain ⟨⟨_, _, _, _⟩, ⟨_, _⟩, _⟩ := id S0
      go_wp2_with fail
      all_goals go_ret
      all_goals exact ⟨ret_bool (by simp), S0.2.2⟩

set_option maxRecDepth 100000 in
set_option maxHeartbeats 800000 in
/-- The closure that counts: it writes the counter alone. -/
theorem counts (ax ay bx bY px py c : Int) (P C : Nat) (w : World) (ha : smP ax ay) (hb : smP bx bY) (hp : smP px py) (hc : 0 ≤ c ∧ c ≤ 1048576) (bP : PointOk.Box w P px py) (hC : Blk.Holds w C #[.int .i64 c] 3) :
    Calls Try.prog 187 #[.agg #[.int .i64 ax, .int .i64 ay, .int .i64 bx, .int .i64 bY], .pointer (some ⟨P, 0, none⟩), .pointer (some ⟨C, 0, none⟩)] w
      fun e w' => e = .returned (.tuple #[]) ∧ Blk.Holds w' C #[.int .i64 (if riseB (ax, ay) (bx, bY) (px, py) then c + 1 else c)] 3 ∧ Below C w w' := by
  have hlt := hC.lt
  obtain ⟨b, hbb⟩ : ∃ b, riseB (ax, ay) (bx, bY) (px, py) = b := ⟨_, rfl⟩
  have Q : Hid (∀ w, _) := Lib.hid fun w => isRightOf ax ay bx bY px py ha hb hp w
  rw [hbb] at Q ⊢
  clear hbb ha hb hp
  have u1 : IntKind.i64.wrap (c + 1) = c + 1 := IntWalk.i64_in _ (by omega)
  obtain ⟨_, _⟩ := id bP
  obtain ⟨_, _⟩ := hC.one
  have hb1 := below1 w (Obj.cells #[.int .i64 ax, .int .i64 ay, .int .i64 bx, .int .i64 bY] 143)
  have X := PointOk.box4 w ax ay bx bY 143 (k := w.heap.size) rfl
  obtain ⟨_, _⟩ := bP.later hb1
  have hC1 := hC.later hb1
  obtain ⟨_, _⟩ := hC1.one
  obtain ⟨_, _, _, _⟩ := X
  go_enter Try.func187, Try.ntmps187
  go_wp2_with fail
  refine (Q.out _).mono ?_
  rintro e w2 ⟨rfl, hb2⟩
  have hC2 := hC1.later hb2
  have hb3 : Below w.heap.size w w2 := hb1.trans (hb2.mono hb1.size)
  obtain ⟨_, _⟩ := hC2.one
  clear hb1 hb2
  cases b
  · go_wp2_with fail
    try simp only [Exit.inBlock, Exit.then]
    exact bodyPost_end (v := .tuple #[]) (by simp [results, Try.results187, go_sem]) rfl ⟨rfl, hC2, hb3.mono (Nat.le_of_lt hlt)⟩
  · have hC3 := Blk.set_own hC2 0 (.int .i64 (c + 1))
    go_wp2_with fail
    try simp only [Exit.inBlock, Exit.then]
    exact bodyPost_end (v := .tuple #[]) (by simp [results, Try.results187, go_sem]) rfl ⟨rfl, hC3, (hb3.mono (Nat.le_of_lt hlt)).setCell (p := ⟨C, 0, none⟩) (Nat.le_refl _) _⟩

set_option maxRecDepth 100000 in
set_option maxHeartbeats 1600000 in
theorem surrounded (A : Option Addr) (n cap : Nat) (px py : Int) (w : World) (ps : List (Int × Int)) (hl : ps.length = n) (hn : n ≤ 1048576) (hs : smAll ps) (sp : smP px py) (hp : PtsAt w w.heap.size A ps) :
    Calls Try.prog 165 #[.slice A n cap, .agg #[.int .i64 px, .int .i64 py]] w fun e w' => e = .returned (.bool (parI ps (px, py) n)) ∧ Below w.heap.size w w' := by
  obtain ⟨r, hr⟩ : ∃ r, parI ps (px, py) n = r := ⟨_, rfl⟩
  have HR := Lib.hid hr
  rw [hr]
  clear hr
  have hbx := below2 w (Obj.cells #[.int .i64 px, .int .i64 py] 49) (Obj.cells #[.int .i64 0] 3)
  have X := (PointOk.box1 w px py 49 (k := w.heap.size) rfl).alloc (Obj.cells #[.int .i64 0] 3)
  have hC : Blk.Holds ((w.alloc (Obj.cells #[.int .i64 px, .int .i64 py] 49)).alloc (Obj.cells #[.int .i64 0] 3)) (w.heap.size + 1) #[.int .i64 0] 3 := Blk.Holds.box _ _ _ (by simp)
  obtain ⟨B, hB⟩ : ∃ B, w.heap.size = B := ⟨_, rfl⟩
  have hpx := hp.later hbx
  rw [hB] at X hC hpx hbx
  replace hB := Lib.hid hB
  go_enter Try.func165, Try.ntmps165
  go_wp2_with fail
  generalize (w.alloc (Obj.cells #[.int .i64 px, .int .i64 py] 49)).alloc (Obj.cells #[.int .i64 0] 3) = w0 at *
  rw [hB.out]
  go_loopw [11] (fun i wr => ∃ k : Nat, k ≤ n ∧ i = .int .i64 k ∧ Blk.Holds wr (B + 1) #[.int .i64 (crossTo ps (px, py) k)] 3 ∧ PointOk.Box wr B px py ∧ PtsAt wr B A ps ∧ Below B w wr)
    (fun i _ => n - (intOf i).toNat)
  case atStart => exact ⟨0, Nat.zero_le _, rfl, hC, X, hpx, hbx⟩
  case round =>
    clear hC X hpx hbx hp
    obtain ⟨k, hkn, rfl, hC, X, hp, hb⟩ := hrel
    obtain ⟨_, _⟩ := id X
    obtain ⟨_, _⟩ := hC.one
    by_cases hlt : k < n
    · have hk1 : (k : Int) < (n : Int) := by omega
      have QW : Hid (∀ w hp, _) := Lib.hid fun w hp => RoomOkImpl.wallBehind A n cap k w ps hl hn hlt hp
      have s0 := hs k (by omega)
      have s1 := hs ((k + 1) % n) (by rw [hl]; exact Nat.mod_lt _ (by omega))
      have hcl := crossTo_le ps (px, py) k
      have HC : Hid (crossTo ps (px, py) (k + 1) = if riseB (pt ps k) (pt ps ((k + 1) % n)) (px, py) then crossTo ps (px, py) k + 1 else crossTo ps (px, py) k) := Lib.hid (by rw [← hl]; rfl)
      generalize pt ps k = a at *
      generalize pt ps ((k + 1) % n) = b at *
      generalize crossTo ps (px, py) k = c at *
      clear hl HR
      go_wp2_with fail
      have hbs : B ≤ wr.heap.size := by have := hb.size; have := hB.out; omega
      refine (QW.out _ (hp.wide hbs)).mono ?_
      rintro e w1 ⟨rfl, hb1⟩
      replace hp := hp.later (hb1.mono hbs)
      replace hb := hb.trans (hb1.mono hbs)
      replace hC := hC.later hb1
      replace X := X.later hb1
      have QC := counts a.1 a.2 b.1 b.2 px py (c : Int) B (B + 1) w1 s0 s1 sp (by omega) X hC
      clear hb1 hC s0 s1 QW
      go_wp2_with (go_at_call 187; refine QC.mono ?_; rintro e w2 ⟨rfl, hC2, hb2⟩)
      have hcc : ((crossTo ps (px, py) (k + 1) : Nat) : Int) = if riseB (a.1, a.2) (b.1, b.2) (px, py) then (c : Int) + 1 else (c : Int) := by
        rw [HC.out]
        show ((if riseB (a.1, a.2) (b.1, b.2) (px, py) = true then c + 1 else c : Nat) : Int) = _
        split <;> simp
      rw [← hcc] at hC2
      have hN : Hid (Blk.Holds w2 (B + 1) #[.int .i64 (crossTo ps (px, py) (k + 1))] 3 ∧ PointOk.Box w2 B px py ∧ PtsAt w2 B A ps ∧ Below B w w2) := Lib.hid ⟨hC2, X.laterB (by omega) hb2, hp.later (hb2.mono (by omega)), hb.trans (hb2.mono (by omega))⟩
      clear hC2 hcc X hp hb hb2 HC
      first
        | exact ⟨⟨k + 1, by omega, by go_num, hN.out⟩, by simp [intOf]; omega⟩
        | (go_roundw <;> first | exact ⟨k + 1, by omega, by go_num, hN.out⟩ | (simp [intOf]; omega))
    · obtain rfl : n = k := by omega
      have E : Hid (r = decide (crossTo ps (px, py) n % 2 = 1)) := Lib.hid (by rw [← HR.out, Bool.eq_iff_iff]; simp [crossTo_par])
      have hcl := crossTo_le ps (px, py) n
      generalize crossTo ps (px, py) n = c at *
      have hB2 := hB.out
      clear hl HR
      have e1 : (c : Int).tmod 2 = ((c % 2 : Nat) : Int) := by rw [Int.tmod_eq_emod_of_nonneg (by omega)]; omega
      rcases Nat.mod_two_eq_zero_or_one c with h | h
      · rw [h] at e1 E
        go_wp2_with fail
        go_ret
        exact ⟨ret_bool (by rw [E.out]; first | rfl | (rw [e1]; rfl) | simp [e1]), by first | exact hb | (rw [hB2]; exact hb)⟩
      · rw [h] at e1 E
        go_wp2_with fail
        go_ret
        exact ⟨ret_bool (by rw [E.out]; first | rfl | (rw [e1]; rfl) | simp [e1]), by first | exact hb | (rw [hB2]; exact hb)⟩

set_option maxRecDepth 100000 in
set_option maxHeartbeats 800000 in
theorem placeOf (A : Option Addr) (n cap : Nat) (px py : Int) (w : World) (ps : List (Int × Int)) (hl : ps.length = n) (hn : n ≤ 1048576) (hs : smAll ps) (sp : smP px py) (hp : PtsAt w w.heap.size A ps) :
    Calls Try.prog 131 #[.slice A n cap, .agg #[.int .i64 px, .int .i64 py]] w fun e w' => e = .returned (.int .i64 (placeM ps (px, py))) ∧ Below w.heap.size w w' := by
  have E : Hid (placeM ps (px, py) = if 0 ≤ wallM ps (px, py) then 1 else if parI ps (px, py) n then 2 else 0) := Lib.hid (by rw [placeM_impl, hl])
  rw [E.out]
  clear E
  have QW : Hid (∀ w hp, _) := Lib.hid fun w hp => wallWith A n cap px py w ps hl hn hs sp hp
  have QS : Hid (∀ w hp, _) := Lib.hid fun w hp => surrounded A n cap px py w ps hl hn hs sp hp
  generalize wallM ps (px, py) = v at *
  generalize parI ps (px, py) n = b at *
  clear hl hs
  by_cases h0 : 0 ≤ v
  · rw [if_pos h0]
    go_enter Try.func131, Try.ntmps131
    go_wp2_with fail
    have X0 := PointOk.box1 w px py 49 (k := w.heap.size) (by simp)
    have b0 := PointOk.below1 w (Obj.cells #[.int .i64 px, .int .i64 py] 49)
    have HO : ∀ W W' : World, (PointOk.Box W (w.heap.size) px py ∧ PtsAt W w.heap.size A ps ∧ Below w.heap.size w W) → Below W.heap.size W W' → (PointOk.Box W' (w.heap.size) px py ∧ PtsAt W' w.heap.size A ps ∧ Below w.heap.size w W') := fun W W' ⟨h0, x0, hb⟩ h => ⟨h0.later h, x0.later (h.mono hb.size), hb.trans (h.mono hb.size)⟩
    have hz0_ : Hid (((w.alloc (Obj.cells #[.int .i64 px, .int .i64 py] 49))).heap.size = w.heap.size + 1) := Lib.hid (by simp)
    have Y0 : PtsAt ((w.alloc (Obj.cells #[.int .i64 px, .int .i64 py] 49))) w.heap.size A ps := hp.later b0
    generalize (w.alloc (Obj.cells #[.int .i64 px, .int .i64 py] 49)) = w0 at X0 Y0 b0 hz0_ ⊢
    have S0 := (⟨X0, Y0, b0⟩ : PointOk.Box w0 (w.heap.size) px py ∧ PtsAt w0 w.heap.size A ps ∧ Below w.heap.size w w0)
    clear X0 Y0 b0
    obtain ⟨⟨_, _⟩, _, _⟩ := id S0
    refine (QW.out _ (S0.2.1.wide S0.2.2.size)).mono ?_
    rintro e w1 ⟨rfl, hb_⟩
    replace S0 := HO _ _ S0 hb_
    clear hb_
    obtain ⟨⟨_, _⟩, _, _⟩ := id S0
    go_wp2_with fail
    go_ret
    exact ⟨rfl, S0.2.2⟩
  rw [if_neg h0]
  cases b
  · skip
    go_enter Try.func131, Try.ntmps131
    go_wp2_with fail
    have X0 := PointOk.box1 w px py 49 (k := w.heap.size) (by simp)
    have b0 := PointOk.below1 w (Obj.cells #[.int .i64 px, .int .i64 py] 49)
    have HO : ∀ W W' : World, (PointOk.Box W (w.heap.size) px py ∧ PtsAt W w.heap.size A ps ∧ Below w.heap.size w W) → Below W.heap.size W W' → (PointOk.Box W' (w.heap.size) px py ∧ PtsAt W' w.heap.size A ps ∧ Below w.heap.size w W') := fun W W' ⟨h0, x0, hb⟩ h => ⟨h0.later h, x0.later (h.mono hb.size), hb.trans (h.mono hb.size)⟩
    have hz0_ : Hid (((w.alloc (Obj.cells #[.int .i64 px, .int .i64 py] 49))).heap.size = w.heap.size + 1) := Lib.hid (by simp)
    have Y0 : PtsAt ((w.alloc (Obj.cells #[.int .i64 px, .int .i64 py] 49))) w.heap.size A ps := hp.later b0
    generalize (w.alloc (Obj.cells #[.int .i64 px, .int .i64 py] 49)) = w0 at X0 Y0 b0 hz0_ ⊢
    have S0 := (⟨X0, Y0, b0⟩ : PointOk.Box w0 (w.heap.size) px py ∧ PtsAt w0 w.heap.size A ps ∧ Below w.heap.size w w0)
    clear X0 Y0 b0
    obtain ⟨⟨_, _⟩, _, _⟩ := id S0
    refine (QW.out _ (S0.2.1.wide S0.2.2.size)).mono ?_
    rintro e w2 ⟨rfl, hb_⟩
    replace S0 := HO _ _ S0 hb_
    clear hb_
    obtain ⟨⟨_, _⟩, _, _⟩ := id S0
    go_wp2_with fail
    refine (QS.out _ (S0.2.1.wide S0.2.2.size)).mono ?_
    rintro e w3 ⟨rfl, hb_⟩
    replace S0 := HO _ _ S0 hb_
    clear hb_
    obtain ⟨⟨_, _⟩, _, _⟩ := id S0
    go_wp2_with fail
    go_ret
    exact ⟨rfl, S0.2.2⟩
  · skip
    go_enter Try.func131, Try.ntmps131
    go_wp2_with fail
    have X0 := PointOk.box1 w px py 49 (k := w.heap.size) (by simp)
    have b0 := PointOk.below1 w (Obj.cells #[.int .i64 px, .int .i64 py] 49)
    have HO : ∀ W W' : World, (PointOk.Box W (w.heap.size) px py ∧ PtsAt W w.heap.size A ps ∧ Below w.heap.size w W) → Below W.heap.size W W' → (PointOk.Box W' (w.heap.size) px py ∧ PtsAt W' w.heap.size A ps ∧ Below w.heap.size w W') := fun W W' ⟨h0, x0, hb⟩ h => ⟨h0.later h, x0.later (h.mono hb.size), hb.trans (h.mono hb.size)⟩
    have hz0_ : Hid (((w.alloc (Obj.cells #[.int .i64 px, .int .i64 py] 49))).heap.size = w.heap.size + 1) := Lib.hid (by simp)
    have Y0 : PtsAt ((w.alloc (Obj.cells #[.int .i64 px, .int .i64 py] 49))) w.heap.size A ps := hp.later b0
    generalize (w.alloc (Obj.cells #[.int .i64 px, .int .i64 py] 49)) = w0 at X0 Y0 b0 hz0_ ⊢
    have S0 := (⟨X0, Y0, b0⟩ : PointOk.Box w0 (w.heap.size) px py ∧ PtsAt w0 w.heap.size A ps ∧ Below w.heap.size w w0)
    clear X0 Y0 b0
    obtain ⟨⟨_, _⟩, _, _⟩ := id S0
    refine (QW.out _ (S0.2.1.wide S0.2.2.size)).mono ?_
    rintro e w4 ⟨rfl, hb_⟩
    replace S0 := HO _ _ S0 hb_
    clear hb_
    obtain ⟨⟨_, _⟩, _, _⟩ := id S0
    go_wp2_with fail
    refine (QS.out _ (S0.2.1.wide S0.2.2.size)).mono ?_
    rintro e w5 ⟨rfl, hb_⟩
    replace S0 := HO _ _ S0 hb_
    clear hb_
    obtain ⟨⟨_, _⟩, _, _⟩ := id S0
    go_wp2_with fail
    go_ret
    exact ⟨rfl, S0.2.2⟩

set_option maxRecDepth 100000 in
set_option maxHeartbeats 800000 in
theorem placeIn (A : Option Addr) (n cap : Nat) (x y : Int) (w : World) (ps : List (Int × Int)) (hl : ps.length = n) (hn : n ≤ 1048576) (hp : PtsAt w w.heap.size A ps) :
    Calls Try.prog 167 #[.agg #[.slice A n cap], .agg #[.int .i64 x, .int .i64 y]] w fun e w' => e = .returned (.int .i64 (placeI ps x y)) ∧ Below w.heap.size w w' := by
  obtain ⟨r, hr⟩ : ∃ r, placeI ps x y = r := ⟨_, rfl⟩
  have HR := Lib.hid hr
  rw [hr]
  clear hr
  go_enter Try.func167, Try.ntmps167
  go_wp2_with fail
  have X0 := (Pts.boxR w (.slice A n cap) 37 (k := w.heap.size) (by simp)).alloc (Obj.cells #[.int .i64 x, .int .i64 y] 49)
  have X1 := PointOk.box1 (w.alloc (Obj.cells #[.slice A n cap] 37)) x y 49 (k := w.heap.size + 1) (by simp)
  have b0 := PointOk.below2 w (Obj.cells #[.slice A n cap] 37) (Obj.cells #[.int .i64 x, .int .i64 y] 49)
  have HO : ∀ W W' : World, (Pts.BoxR W (w.heap.size) (.slice A n cap) ∧ PointOk.Box W (w.heap.size + 1) x y ∧ PtsAt W w.heap.size A ps ∧ Below w.heap.size w W) → Below W.heap.size W W' → (Pts.BoxR W' (w.heap.size) (.slice A n cap) ∧ PointOk.Box W' (w.heap.size + 1) x y ∧ PtsAt W' w.heap.size A ps ∧ Below w.heap.size w W') := fun W W' ⟨h0, h1, x0, hb⟩ h => ⟨h0.later h, h1.later h, x0.later (h.mono hb.size), hb.trans (h.mono hb.size)⟩
  have hz0_ : Hid ((((w.alloc (Obj.cells #[.slice A n cap] 37)).alloc (Obj.cells #[.int .i64 x, .int .i64 y] 49))).heap.size = w.heap.size + 1 + 1) := Lib.hid (by simp)
  have Y0 : PtsAt (((w.alloc (Obj.cells #[.slice A n cap] 37)).alloc (Obj.cells #[.int .i64 x, .int .i64 y] 49))) w.heap.size A ps := hp.later b0
  generalize ((w.alloc (Obj.cells #[.slice A n cap] 37)).alloc (Obj.cells #[.int .i64 x, .int .i64 y] 49)) = w0 at X0 X1 Y0 b0 hz0_ ⊢
  have S0 := (⟨X0, X1, Y0, b0⟩ : Pts.BoxR w0 (w.heap.size) (.slice A n cap) ∧ PointOk.Box w0 (w.heap.size + 1) x y ∧ PtsAt w0 w.heap.size A ps ∧ Below w.heap.size w w0)
  clear X0 X1 Y0 b0
  obtain ⟨⟨_, _⟩, ⟨_, _⟩, _, _⟩ := id S0
  refine (RoomOkImpl.roomOk A n cap _ ps hl hn (S0.2.2.1.wide S0.2.2.2.size)).mono ?_
  rintro e w1 ⟨rfl, hb_⟩
  replace S0 := HO _ _ S0 hb_
  clear hb_
  obtain ⟨⟨_, _⟩, ⟨_, _⟩, _, _⟩ := id S0
  cases hr : roomB ps
  · have E : Hid (r = 0) := Lib.hid (by rw [← HR.out]; unfold placeI; rw [hr]; rfl)
    clear hl HR
    go_wp2_with fail
    go_ret
    exact ⟨ret_i64 E.out.symm, S0.2.2.2⟩
  go_wp2_with fail
  refine (PointOkImpl.pointOk x y _).mono ?_
  rintro e w2 ⟨rfl, hb_⟩
  replace S0 := HO _ _ S0 hb_
  clear hb_
  obtain ⟨⟨_, _⟩, ⟨_, _⟩, _, _⟩ := id S0
  cases ho : okP x y
  · have E : Hid (r = 0) := Lib.hid (by rw [← HR.out]; unfold placeI; rw [ho]; simp)
    clear hl HR
    go_wp2_with fail
    go_ret
    exact ⟨ret_i64 E.out.symm, S0.2.2.2⟩
  obtain ⟨h3, hok, _, _⟩ := roomB_yes hr
  have E : Hid (placeM ps (x, y) = r) := Lib.hid (by rw [← HR.out]; unfold placeI; rw [hr, ho]; rfl)
  have Q : Hid (∀ w hp, _) := Lib.hid fun w hp => placeOf A n cap x y w ps hl hn (smAll_of hok) (okP_sm ho) hp
  rw [E.out] at Q
  clear hl HR hr ho hok E
  go_wp2_with fail
  refine (Q.out _ (S0.2.2.1.wide S0.2.2.2.size)).mono ?_
  rintro e w3 ⟨rfl, hb_⟩
  replace S0 := HO _ _ S0 hb_
  clear hb_
  obtain ⟨⟨_, _⟩, ⟨_, _⟩, _, _⟩ := id S0
  go_wp2_with fail
  go_ret
  exact ⟨rfl, S0.2.2.2⟩

theorem isIn (A : Option Addr) (n cap : Nat) (x y : Int) (w : World) (ps : List (Int × Int)) (hl : ps.length = n) (hn : n ≤ 1048576) (hp : PtsAt w w.heap.size A ps) :
    Calls Try.prog 133 #[.agg #[.slice A n cap], .agg #[.int .i64 x, .int .i64 y]] w fun e w' => e = .returned (.bool (inB ps x y)) ∧ Below w.heap.size w w' := by
  obtain ⟨r, hr⟩ : ∃ r, inB ps x y = r := ⟨_, rfl⟩
  have HR := Lib.hid hr
  rw [hr]
  clear hr
  go_enter Try.func133, Try.ntmps133
  go_wp2_with fail
  have X0 := (Pts.boxR w (.slice A n cap) 37 (k := w.heap.size) (by simp)).alloc (Obj.cells #[.int .i64 x, .int .i64 y] 49)
  have X1 := PointOk.box1 (w.alloc (Obj.cells #[.slice A n cap] 37)) x y 49 (k := w.heap.size + 1) (by simp)
  have b0 := PointOk.below2 w (Obj.cells #[.slice A n cap] 37) (Obj.cells #[.int .i64 x, .int .i64 y] 49)
  have HO : ∀ W W' : World, (Pts.BoxR W (w.heap.size) (.slice A n cap) ∧ PointOk.Box W (w.heap.size + 1) x y ∧ PtsAt W w.heap.size A ps ∧ Below w.heap.size w W) → Below W.heap.size W W' → (Pts.BoxR W' (w.heap.size) (.slice A n cap) ∧ PointOk.Box W' (w.heap.size + 1) x y ∧ PtsAt W' w.heap.size A ps ∧ Below w.heap.size w W') := fun W W' ⟨h0, h1, x0, hb⟩ h => ⟨h0.later h, h1.later h, x0.later (h.mono hb.size), hb.trans (h.mono hb.size)⟩
  have hz0_ : Hid ((((w.alloc (Obj.cells #[.slice A n cap] 37)).alloc (Obj.cells #[.int .i64 x, .int .i64 y] 49))).heap.size = w.heap.size + 1 + 1) := Lib.hid (by simp)
  have Y0 : PtsAt (((w.alloc (Obj.cells #[.slice A n cap] 37)).alloc (Obj.cells #[.int .i64 x, .int .i64 y] 49))) w.heap.size A ps := hp.later b0
  generalize ((w.alloc (Obj.cells #[.slice A n cap] 37)).alloc (Obj.cells #[.int .i64 x, .int .i64 y] 49)) = w0 at X0 X1 Y0 b0 hz0_ ⊢
  have S0 := (⟨X0, X1, Y0, b0⟩ : Pts.BoxR w0 (w.heap.size) (.slice A n cap) ∧ PointOk.Box w0 (w.heap.size + 1) x y ∧ PtsAt w0 w.heap.size A ps ∧ Below w.heap.size w w0)
  clear X0 X1 Y0 b0
  obtain ⟨⟨_, _⟩, ⟨_, _⟩, _, _⟩ := id S0
  refine (placeIn A n cap x y _ ps hl hn (S0.2.2.1.wide S0.2.2.2.size)).mono ?_
  rintro e w1 ⟨rfl, hb_⟩
  replace S0 := HO _ _ S0 hb_
  clear hb_
  obtain ⟨⟨_, _⟩, ⟨_, _⟩, _, _⟩ := id S0
  by_cases h0 : placeI ps x y = 0
  · have E : Hid (r = false) := Lib.hid (by rw [← HR.out]; unfold inB; rw [h0]; rfl)
    rw [h0]
    clear hl HR h0
    go_wp2_with fail
    go_ret
    exact ⟨ret_bool (by rw [E.out]), S0.2.2.2⟩
  · have E : Hid (r = true) := Lib.hid (by rw [← HR.out]; unfold inB; exact decide_eq_true h0)
    generalize placeI ps x y = v at *
    have hv : (v == 0) = false := beq_eq_false_iff_ne.2 h0
    clear hl HR
    go_wp2_with fail
    go_ret
    exact ⟨ret_bool (by rw [E.out]; first | rfl | simp [h0]), S0.2.2.2⟩

end Go.Proofs.Ythokeedmccfalaa.PlaceImpl

