/-
  What the model's functions on walls do, as contracts: what each answers; new memory alone is written.
-/
import Derived.Test.YthokeedmccfalaaPointSpec
import Derived.Test.YthokeedmccfalaaFacts
namespace Go.Proofs.Ythokeedmccfalaa.WallSpec
open Go.RowKit PointMath WallMath
open PointOk (ret_bool ret_i64 below1 below2 below3)

theorem wallOk (ax ay bx bY : Int) (w : World) :
    Calls Try.prog 152 #[.agg #[.int .i64 ax, .int .i64 ay, .int .i64 bx, .int .i64 bY]] w fun e w' => e = .returned (.bool (okW ax ay bx bY)) ∧ Below w.heap.size w w' := by
  go_enter Try.func152, Try.ntmps152
  go_wp2_with fail
  have X0 := PointOk.box4 w ax ay bx bY 143 (k := w.heap.size) (by simp)
  have b0 := PointOk.below1 w (Obj.cells #[.int .i64 ax, .int .i64 ay, .int .i64 bx, .int .i64 bY] 143)
  have HO : ∀ W W' : World, (PointOk.Box4 W (w.heap.size) ax ay bx bY ∧ Below w.heap.size w W) → Below W.heap.size W W' → (PointOk.Box4 W' (w.heap.size) ax ay bx bY ∧ Below w.heap.size w W') := fun W W' ⟨h0, hb⟩ h => ⟨h0.later h, hb.trans (h.mono hb.size)⟩
  have hz0_ : Hid (((w.alloc (Obj.cells #[.int .i64 ax, .int .i64 ay, .int .i64 bx, .int .i64 bY] 143))).heap.size = w.heap.size + 1) := Lib.hid (by simp)
  generalize (w.alloc (Obj.cells #[.int .i64 ax, .int .i64 ay, .int .i64 bx, .int .i64 bY] 143)) = w0 at X0 b0 hz0_ ⊢
  have S0 := (⟨X0, b0⟩ : PointOk.Box4 w0 (w.heap.size) ax ay bx bY ∧ Below w.heap.size w w0)
  clear X0 b0
  obtain ⟨⟨_, _, _, _⟩, _⟩ := id S0
  refine (PointOk.pointOk ax ay _).mono ?_
  rintro e w1 ⟨rfl, hb_⟩
  replace S0 := HO _ _ S0 hb_
  clear hb_
  obtain ⟨⟨_, _, _, _⟩, _⟩ := id S0
  cases ha : okP ax ay
  · go_wp2_with fail
    go_ret
    exact ⟨by simp [okW, ha], S0.2⟩
  replace ha := Lib.hid ha
  go_wp2_with fail
  refine (PointOk.pointOk bx bY _).mono ?_
  rintro e w2 ⟨rfl, hb_⟩
  replace S0 := HO _ _ S0 hb_
  clear hb_
  obtain ⟨⟨_, _, _, _⟩, _⟩ := id S0
  cases hb : okP bx bY
  · go_wp2_with fail
    go_ret
    exact ⟨by simp [okW, hb], S0.2⟩
  replace hb := Lib.hid hb
  go_wp2_with fail
  go_wp2_with fail
  all_goals go_ret
  all_goals exact ⟨ret_bool (by have a_ := ha.out; have b_ := hb.out; clear ha hb S0 HO; simp [okW, a_, b_]; omega), S0.2⟩

theorem isOnWall (ax ay bx bY px py : Int) (w : World) :
    Calls Try.prog 154 #[.agg #[.int .i64 ax, .int .i64 ay, .int .i64 bx, .int .i64 bY], .agg #[.int .i64 px, .int .i64 py]] w fun e w' => e = .returned (.bool (onB ax ay bx bY px py)) ∧ Below w.heap.size w w' := by
  go_enter Try.func154, Try.ntmps154
  go_wp2_with fail
  have X0 := (PointOk.box4 w ax ay bx bY 143 (k := w.heap.size) (by simp)).alloc (Obj.cells #[.int .i64 px, .int .i64 py] 49)
  have X1 := PointOk.box1 (w.alloc (Obj.cells #[.int .i64 ax, .int .i64 ay, .int .i64 bx, .int .i64 bY] 143)) px py 49 (k := w.heap.size + 1) (by simp)
  have b0 := PointOk.below2 w (Obj.cells #[.int .i64 ax, .int .i64 ay, .int .i64 bx, .int .i64 bY] 143) (Obj.cells #[.int .i64 px, .int .i64 py] 49)
  have HO : ∀ W W' : World, (PointOk.Box4 W (w.heap.size) ax ay bx bY ∧ PointOk.Box W (w.heap.size + 1) px py ∧ Below w.heap.size w W) → Below W.heap.size W W' → (PointOk.Box4 W' (w.heap.size) ax ay bx bY ∧ PointOk.Box W' (w.heap.size + 1) px py ∧ Below w.heap.size w W') := fun W W' ⟨h0, h1, hb⟩ h => ⟨h0.later h, h1.later h, hb.trans (h.mono hb.size)⟩
  have hz0_ : Hid ((((w.alloc (Obj.cells #[.int .i64 ax, .int .i64 ay, .int .i64 bx, .int .i64 bY] 143)).alloc (Obj.cells #[.int .i64 px, .int .i64 py] 49))).heap.size = w.heap.size + 1 + 1) := Lib.hid (by simp)
  generalize ((w.alloc (Obj.cells #[.int .i64 ax, .int .i64 ay, .int .i64 bx, .int .i64 bY] 143)).alloc (Obj.cells #[.int .i64 px, .int .i64 py] 49)) = w0 at X0 X1 b0 hz0_ ⊢
  have S0 := (⟨X0, X1, b0⟩ : PointOk.Box4 w0 (w.heap.size) ax ay bx bY ∧ PointOk.Box w0 (w.heap.size + 1) px py ∧ Below w.heap.size w w0)
  clear X0 X1 b0
  obtain ⟨⟨_, _, _, _⟩, ⟨_, _⟩, _⟩ := id S0
  refine (wallOk ax ay bx bY _).mono ?_
  rintro e w1 ⟨rfl, hb_⟩
  replace S0 := HO _ _ S0 hb_
  clear hb_
  obtain ⟨⟨_, _, _, _⟩, ⟨_, _⟩, _⟩ := id S0
  cases hw : okW ax ay bx bY
  · go_wp2_with fail
    go_ret
    exact ⟨by simp [onB, hw], S0.2.2⟩
  replace hw := Lib.hid hw
  go_wp2_with fail
  refine (PointSpec.isBetween px py ax ay bx bY _).mono ?_
  rintro e w2 ⟨rfl, hb_⟩
  replace S0 := HO _ _ S0 hb_
  clear hb_
  obtain ⟨⟨_, _, _, _⟩, ⟨_, _⟩, _⟩ := id S0
  go_wp2_with fail
  go_ret
  exact ⟨ret_bool (by simp [onB, hw.out]), S0.2.2⟩

theorem l03Sign (n : Int) (w : World) : Calls Try.prog 163 #[.int .i64 n] w fun e w' => e = .returned (.int .i64 (sgn n)) ∧ w = w' := by
  rcases sgn_cases n with ⟨h, e⟩ | ⟨h, e⟩ | ⟨h, e⟩
  · replace e := Lib.hid e
    go_enter Try.func163, Try.ntmps163
    go_wp2_with fail
    go_ret
    exact ⟨ret_i64 e.out.symm, rfl⟩
  · replace e := Lib.hid e
    go_enter Try.func163, Try.ntmps163
    go_wp2_with fail
    go_ret
    exact ⟨ret_i64 e.out.symm, rfl⟩
  · replace e := Lib.hid e
    subst h
    go_enter Try.func163, Try.ntmps163
    go_wp2_with fail
    go_ret
    exact ⟨ret_i64 e.out.symm, rfl⟩

/-- The crossing of walls whose ends are small, of any size. -/
theorem l03Cross (ax ay bx bY cx cy dx dy : Int) (ha : smP ax ay) (hb : smP bx bY) (hc : smP cx cy) (hd : smP dx dy) (w : World) :
    Calls Try.prog 127 #[.agg #[.int .i64 ax, .int .i64 ay], .agg #[.int .i64 bx, .int .i64 bY], .agg #[.int .i64 cx, .int .i64 cy], .agg #[.int .i64 dx, .int .i64 dy]] w fun e w' => e = .returned (.bool (sepW ax ay bx bY cx cy dx dy && sepW cx cy dx dy ax ay bx bY)) ∧ Below w.heap.size w w' := by
  obtain ⟨t1, h1⟩ : ∃ t, sgn (turnI ax ay bx bY cx cy) * sgn (turnI ax ay bx bY dx dy) = t := ⟨_, rfl⟩
  obtain ⟨t2, h2⟩ : ∃ t, sgn (turnI cx cy dx dy ax ay) * sgn (turnI cx cy dx dy bx bY) = t := ⟨_, rfl⟩
  have q1 : -1 ≤ t1 ∧ t1 ≤ 1 := by have := sgn_bound (turnI ax ay bx bY cx cy) (turnI ax ay bx bY dx dy); omega
  have q2 : -1 ≤ t2 ∧ t2 ≤ 1 := by have := sgn_bound (turnI cx cy dx dy ax ay) (turnI cx cy dx dy bx bY); omega
  have E1 : Hid (sepW ax ay bx bY cx cy dx dy = decide (t1 < 0)) := Lib.hid (by rw [← h1, sgn_sep]; rfl)
  have E2 : Hid (sepW cx cy dx dy ax ay bx bY = decide (t2 < 0)) := Lib.hid (by rw [← h2, sgn_sep]; rfl)
  have u1 : IntKind.i64.wrap (sgn (turnI ax ay bx bY cx cy) * sgn (turnI ax ay bx bY dx dy)) = t1 := by rw [h1]; exact IntWalk.i64_in _ (by omega)
  have u2 : IntKind.i64.wrap (sgn (turnI cx cy dx dy ax ay) * sgn (turnI cx cy dx dy bx bY)) = t2 := by rw [h2]; exact IntWalk.i64_in _ (by omega)
  replace h1 := Lib.hid h1
  replace h2 := Lib.hid h2
  go_enter Try.func127, Try.ntmps127
  go_wp2_with fail
  have X0 := (((PointOk.box1 w ax ay 49 (k := w.heap.size) (by simp)).alloc (Obj.cells #[.int .i64 bx, .int .i64 bY] 49)).alloc (Obj.cells #[.int .i64 cx, .int .i64 cy] 49)).alloc (Obj.cells #[.int .i64 dx, .int .i64 dy] 49)
  have X1 := ((PointOk.box1 (w.alloc (Obj.cells #[.int .i64 ax, .int .i64 ay] 49)) bx bY 49 (k := w.heap.size + 1) (by simp)).alloc (Obj.cells #[.int .i64 cx, .int .i64 cy] 49)).alloc (Obj.cells #[.int .i64 dx, .int .i64 dy] 49)
  have X2 := (PointOk.box1 ((w.alloc (Obj.cells #[.int .i64 ax, .int .i64 ay] 49)).alloc (Obj.cells #[.int .i64 bx, .int .i64 bY] 49)) cx cy 49 (k := w.heap.size + 1 + 1) (by simp)).alloc (Obj.cells #[.int .i64 dx, .int .i64 dy] 49)
  have X3 := PointOk.box1 (((w.alloc (Obj.cells #[.int .i64 ax, .int .i64 ay] 49)).alloc (Obj.cells #[.int .i64 bx, .int .i64 bY] 49)).alloc (Obj.cells #[.int .i64 cx, .int .i64 cy] 49)) dx dy 49 (k := w.heap.size + 1 + 1 + 1) (by simp)
  have b0 := PointOk.below4 w (Obj.cells #[.int .i64 ax, .int .i64 ay] 49) (Obj.cells #[.int .i64 bx, .int .i64 bY] 49) (Obj.cells #[.int .i64 cx, .int .i64 cy] 49) (Obj.cells #[.int .i64 dx, .int .i64 dy] 49)
  have HO : ∀ W W' : World, (PointOk.Box W (w.heap.size) ax ay ∧ PointOk.Box W (w.heap.size + 1) bx bY ∧ PointOk.Box W (w.heap.size + 1 + 1) cx cy ∧ PointOk.Box W (w.heap.size + 1 + 1 + 1) dx dy ∧ Below w.heap.size w W) → Below W.heap.size W W' → (PointOk.Box W' (w.heap.size) ax ay ∧ PointOk.Box W' (w.heap.size + 1) bx bY ∧ PointOk.Box W' (w.heap.size + 1 + 1) cx cy ∧ PointOk.Box W' (w.heap.size + 1 + 1 + 1) dx dy ∧ Below w.heap.size w W') := fun W W' ⟨h0, h1, h2, h3, hb⟩ h => ⟨h0.later h, h1.later h, h2.later h, h3.later h, hb.trans (h.mono hb.size)⟩
  have hz0_ : Hid ((((((w.alloc (Obj.cells #[.int .i64 ax, .int .i64 ay] 49)).alloc (Obj.cells #[.int .i64 bx, .int .i64 bY] 49)).alloc (Obj.cells #[.int .i64 cx, .int .i64 cy] 49)).alloc (Obj.cells #[.int .i64 dx, .int .i64 dy] 49))).heap.size = w.heap.size + 1 + 1 + 1 + 1) := Lib.hid (by simp)
  generalize ((((w.alloc (Obj.cells #[.int .i64 ax, .int .i64 ay] 49)).alloc (Obj.cells #[.int .i64 bx, .int .i64 bY] 49)).alloc (Obj.cells #[.int .i64 cx, .int .i64 cy] 49)).alloc (Obj.cells #[.int .i64 dx, .int .i64 dy] 49)) = w0 at X0 X1 X2 X3 b0 hz0_ ⊢
  have S0 := (⟨X0, X1, X2, X3, b0⟩ : PointOk.Box w0 (w.heap.size) ax ay ∧ PointOk.Box w0 (w.heap.size + 1) bx bY ∧ PointOk.Box w0 (w.heap.size + 1 + 1) cx cy ∧ PointOk.Box w0 (w.heap.size + 1 + 1 + 1) dx dy ∧ Below w.heap.size w w0)
  clear X0 X1 X2 X3 b0
  obtain ⟨⟨_, _⟩, ⟨_, _⟩, ⟨_, _⟩, ⟨_, _⟩, _⟩ := id S0
  refine Settle.region (fun W => PointOk.Box W (w.heap.size) ax ay ∧ PointOk.Box W (w.heap.size + 1) bx bY ∧ PointOk.Box W (w.heap.size + 1 + 1) cx cy ∧ PointOk.Box W (w.heap.size + 1 + 1 + 1) dx dy ∧ Below w.heap.size w W) (by kernel_rfl) (by kernel_rfl) (by kernel_rfl) (by kernel_rfl) (HO _ _ S0 ((Below.refl _ _).drew)) ?_
  clear S0
  repeat (first
    | (refine Settle.Settles.off (by rfl) ?_; simp only [Act.put, List.setIfInBounds_toArray, List.set_cons_zero, List.set_cons_succ])
    | (refine Settle.Settles.quiet (v := ?_) (by rfl) ?_ ?_
       rotate_left
       · (intro W hS; obtain ⟨⟨_, _⟩, ⟨_, _⟩, ⟨_, _⟩, ⟨_, _⟩, _⟩ := hS; go_simp; with_reducible rfl)
       simp only [Act.put, List.setIfInBounds_toArray, List.set_cons_zero, List.set_cons_succ])
    | (refine Settle.Settles.call (v := ?_) (f := ?_) (args := ?_) (by rfl) ?_ ?_ ?_
       rotate_left 3
       · (intro W; go_simp; refine ⟨?_, ?_⟩ <;> with_reducible rfl)
       · (intro W hS; first | (go_at_call 113; (with_reducible refine (PointSpec.l02Turn _ _ _ _ _ _ (by assumption) (by assumption) (by assumption) _).mono ?_); rintro e W1 ⟨rfl, hb⟩; refine ⟨?_, HO _ _ hS hb⟩; with_reducible rfl) | (go_at_call 163; (with_reducible refine (l03Sign _ _).mono ?_); rintro e W1 ⟨rfl, rfl⟩; refine ⟨?_, hS⟩; with_reducible rfl))
       simp only [Act.put, List.setIfInBounds_toArray, List.set_cons_zero, List.set_cons_succ]))
  cases k1 : decide (t1 < 0)
  · skip
    repeat (first
      | (refine Settle.Settles.off (by rfl) ?_; simp only [Act.put, List.setIfInBounds_toArray, List.set_cons_zero, List.set_cons_succ])
      | (refine Settle.Settles.quiet (v := ?_) (by rfl) ?_ ?_
         rotate_left
         · (intro W hS; obtain ⟨⟨_, _⟩, ⟨_, _⟩, ⟨_, _⟩, ⟨_, _⟩, _⟩ := hS; go_simp; with_reducible rfl)
         simp only [Act.put, List.setIfInBounds_toArray, List.set_cons_zero, List.set_cons_succ])
      | (refine Settle.Settles.call (v := ?_) (f := ?_) (args := ?_) (by rfl) ?_ ?_ ?_
         rotate_left 3
         · (intro W; go_simp; refine ⟨?_, ?_⟩ <;> with_reducible rfl)
         · (intro W hS; first | (go_at_call 113; (with_reducible refine (PointSpec.l02Turn _ _ _ _ _ _ (by assumption) (by assumption) (by assumption) _).mono ?_); rintro e W1 ⟨rfl, hb⟩; refine ⟨?_, HO _ _ hS hb⟩; with_reducible rfl) | (go_at_call 163; (with_reducible refine (l03Sign _ _).mono ?_); rintro e W1 ⟨rfl, rfl⟩; refine ⟨?_, hS⟩; with_reducible rfl))
         simp only [Act.put, List.setIfInBounds_toArray, List.set_cons_zero, List.set_cons_succ]))
    refine Settle.Settles.nil ?_
    intro wr S0
    obtain ⟨⟨_, _⟩, ⟨_, _⟩, ⟨_, _⟩, ⟨_, _⟩, _⟩ := id S0
    go_wp2_with fail
    go_ret
    exact ⟨ret_bool (by rw [E1.out, k1]; rfl), S0.2.2.2.2⟩
  replace k1 := Lib.hid k1
  repeat (first
    | (refine Settle.Settles.off (by rfl) ?_; simp only [Act.put, List.setIfInBounds_toArray, List.set_cons_zero, List.set_cons_succ])
    | (refine Settle.Settles.quiet (v := ?_) (by rfl) ?_ ?_
       rotate_left
       · (intro W hS; obtain ⟨⟨_, _⟩, ⟨_, _⟩, ⟨_, _⟩, ⟨_, _⟩, _⟩ := hS; go_simp; with_reducible rfl)
       simp only [Act.put, List.setIfInBounds_toArray, List.set_cons_zero, List.set_cons_succ])
    | (refine Settle.Settles.call (v := ?_) (f := ?_) (args := ?_) (by rfl) ?_ ?_ ?_
       rotate_left 3
       · (intro W; go_simp; refine ⟨?_, ?_⟩ <;> with_reducible rfl)
       · (intro W hS; first | (go_at_call 113; (with_reducible refine (PointSpec.l02Turn _ _ _ _ _ _ (by assumption) (by assumption) (by assumption) _).mono ?_); rintro e W1 ⟨rfl, hb⟩; refine ⟨?_, HO _ _ hS hb⟩; with_reducible rfl) | (go_at_call 163; (with_reducible refine (l03Sign _ _).mono ?_); rintro e W1 ⟨rfl, rfl⟩; refine ⟨?_, hS⟩; with_reducible rfl))
       simp only [Act.put, List.setIfInBounds_toArray, List.set_cons_zero, List.set_cons_succ]))
  refine Settle.Settles.nil ?_
  intro wr S0
  obtain ⟨⟨_, _⟩, ⟨_, _⟩, ⟨_, _⟩, ⟨_, _⟩, _⟩ := id S0
  go_wp2_with fail
  go_ret
  exact ⟨ret_bool (by rw [E1.out, k1.out, E2.out]; rfl), S0.2.2.2.2⟩

theorem doCross (ax ay bx bY cx cy dx dy : Int) (w : World) :
    Calls Try.prog 153 #[.agg #[.int .i64 ax, .int .i64 ay, .int .i64 bx, .int .i64 bY], .agg #[.int .i64 cx, .int .i64 cy, .int .i64 dx, .int .i64 dy]] w fun e w' => e = .returned (.bool (crossB ax ay bx bY cx cy dx dy)) ∧ Below w.heap.size w w' := by
  go_enter Try.func153, Try.ntmps153
  go_wp2_with fail
  have X0 := (PointOk.box4 w ax ay bx bY 143 (k := w.heap.size) (by simp)).alloc (Obj.cells #[.int .i64 cx, .int .i64 cy, .int .i64 dx, .int .i64 dy] 143)
  have X1 := PointOk.box4 (w.alloc (Obj.cells #[.int .i64 ax, .int .i64 ay, .int .i64 bx, .int .i64 bY] 143)) cx cy dx dy 143 (k := w.heap.size + 1) (by simp)
  have b0 := PointOk.below2 w (Obj.cells #[.int .i64 ax, .int .i64 ay, .int .i64 bx, .int .i64 bY] 143) (Obj.cells #[.int .i64 cx, .int .i64 cy, .int .i64 dx, .int .i64 dy] 143)
  have HO : ∀ W W' : World, (PointOk.Box4 W (w.heap.size) ax ay bx bY ∧ PointOk.Box4 W (w.heap.size + 1) cx cy dx dy ∧ Below w.heap.size w W) → Below W.heap.size W W' → (PointOk.Box4 W' (w.heap.size) ax ay bx bY ∧ PointOk.Box4 W' (w.heap.size + 1) cx cy dx dy ∧ Below w.heap.size w W') := fun W W' ⟨h0, h1, hb⟩ h => ⟨h0.later h, h1.later h, hb.trans (h.mono hb.size)⟩
  have hz0_ : Hid ((((w.alloc (Obj.cells #[.int .i64 ax, .int .i64 ay, .int .i64 bx, .int .i64 bY] 143)).alloc (Obj.cells #[.int .i64 cx, .int .i64 cy, .int .i64 dx, .int .i64 dy] 143))).heap.size = w.heap.size + 1 + 1) := Lib.hid (by simp)
  generalize ((w.alloc (Obj.cells #[.int .i64 ax, .int .i64 ay, .int .i64 bx, .int .i64 bY] 143)).alloc (Obj.cells #[.int .i64 cx, .int .i64 cy, .int .i64 dx, .int .i64 dy] 143)) = w0 at X0 X1 b0 hz0_ ⊢
  have S0 := (⟨X0, X1, b0⟩ : PointOk.Box4 w0 (w.heap.size) ax ay bx bY ∧ PointOk.Box4 w0 (w.heap.size + 1) cx cy dx dy ∧ Below w.heap.size w w0)
  clear X0 X1 b0
  obtain ⟨⟨_, _, _, _⟩, ⟨_, _, _, _⟩, _⟩ := id S0
  refine (wallOk ax ay bx bY _).mono ?_
  rintro e w1 ⟨rfl, hb_⟩
  replace S0 := HO _ _ S0 hb_
  clear hb_
  obtain ⟨⟨_, _, _, _⟩, ⟨_, _, _, _⟩, _⟩ := id S0
  cases hv : okW ax ay bx bY
  · go_wp2_with fail
    go_ret
    exact ⟨by simp [crossB, hv], S0.2.2⟩
  replace hv := Lib.hid hv
  go_wp2_with fail
  refine (wallOk cx cy dx dy _).mono ?_
  rintro e w2 ⟨rfl, hb_⟩
  replace S0 := HO _ _ S0 hb_
  clear hb_
  obtain ⟨⟨_, _, _, _⟩, ⟨_, _, _, _⟩, _⟩ := id S0
  cases hw : okW cx cy dx dy
  · go_wp2_with fail
    go_ret
    exact ⟨by simp [crossB, hw], S0.2.2⟩
  replace hw := Lib.hid hw
  go_wp2_with fail
  have pv := okW_parts hv.out
  have pw := okW_parts hw.out
  have s1 := okP_sm pv.1
  have s2 := okP_sm pv.2.1
  have s3 := okP_sm pw.1
  have s4 := okP_sm pw.2.1
  clear pv pw
  refine (l03Cross ax ay bx bY cx cy dx dy s1 s2 s3 s4 _).mono ?_
  rintro e w3 ⟨rfl, hb_⟩
  replace S0 := HO _ _ S0 hb_
  clear hb_
  obtain ⟨⟨_, _, _, _⟩, ⟨_, _, _, _⟩, _⟩ := id S0
  go_wp2_with fail
  go_ret
  exact ⟨ret_bool (by simp [crossB, hv.out, hw.out]), S0.2.2⟩

theorem doMeet (ax ay bx bY cx cy dx dy : Int) (w : World) :
    Calls Try.prog 115 #[.agg #[.int .i64 ax, .int .i64 ay, .int .i64 bx, .int .i64 bY], .agg #[.int .i64 cx, .int .i64 cy, .int .i64 dx, .int .i64 dy]] w fun e w' => e = .returned (.bool (meetB ax ay bx bY cx cy dx dy)) ∧ Below w.heap.size w w' := by
  go_enter Try.func115, Try.ntmps115
  go_wp2_with fail
  have X0 := (PointOk.box4 w ax ay bx bY 143 (k := w.heap.size) (by simp)).alloc (Obj.cells #[.int .i64 cx, .int .i64 cy, .int .i64 dx, .int .i64 dy] 143)
  have X1 := PointOk.box4 (w.alloc (Obj.cells #[.int .i64 ax, .int .i64 ay, .int .i64 bx, .int .i64 bY] 143)) cx cy dx dy 143 (k := w.heap.size + 1) (by simp)
  have b0 := PointOk.below2 w (Obj.cells #[.int .i64 ax, .int .i64 ay, .int .i64 bx, .int .i64 bY] 143) (Obj.cells #[.int .i64 cx, .int .i64 cy, .int .i64 dx, .int .i64 dy] 143)
  have HO : ∀ W W' : World, (PointOk.Box4 W (w.heap.size) ax ay bx bY ∧ PointOk.Box4 W (w.heap.size + 1) cx cy dx dy ∧ Below w.heap.size w W) → Below W.heap.size W W' → (PointOk.Box4 W' (w.heap.size) ax ay bx bY ∧ PointOk.Box4 W' (w.heap.size + 1) cx cy dx dy ∧ Below w.heap.size w W') := fun W W' ⟨h0, h1, hb⟩ h => ⟨h0.later h, h1.later h, hb.trans (h.mono hb.size)⟩
  have hz0_ : Hid ((((w.alloc (Obj.cells #[.int .i64 ax, .int .i64 ay, .int .i64 bx, .int .i64 bY] 143)).alloc (Obj.cells #[.int .i64 cx, .int .i64 cy, .int .i64 dx, .int .i64 dy] 143))).heap.size = w.heap.size + 1 + 1) := Lib.hid (by simp)
  generalize ((w.alloc (Obj.cells #[.int .i64 ax, .int .i64 ay, .int .i64 bx, .int .i64 bY] 143)).alloc (Obj.cells #[.int .i64 cx, .int .i64 cy, .int .i64 dx, .int .i64 dy] 143)) = w0 at X0 X1 b0 hz0_ ⊢
  have S0 := (⟨X0, X1, b0⟩ : PointOk.Box4 w0 (w.heap.size) ax ay bx bY ∧ PointOk.Box4 w0 (w.heap.size + 1) cx cy dx dy ∧ Below w.heap.size w w0)
  clear X0 X1 b0
  obtain ⟨⟨_, _, _, _⟩, ⟨_, _, _, _⟩, _⟩ := id S0
  refine (wallOk ax ay bx bY _).mono ?_
  rintro e w1 ⟨rfl, hb_⟩
  replace S0 := HO _ _ S0 hb_
  clear hb_
  obtain ⟨⟨_, _, _, _⟩, ⟨_, _, _, _⟩, _⟩ := id S0
  cases hv : okW ax ay bx bY
  · go_wp2_with fail
    go_ret
    exact ⟨by simp [meetB, hv], S0.2.2⟩
  replace hv := Lib.hid hv
  go_wp2_with fail
  refine (wallOk cx cy dx dy _).mono ?_
  rintro e w2 ⟨rfl, hb_⟩
  replace S0 := HO _ _ S0 hb_
  clear hb_
  obtain ⟨⟨_, _, _, _⟩, ⟨_, _, _, _⟩, _⟩ := id S0
  cases hw : okW cx cy dx dy
  · go_wp2_with fail
    go_ret
    exact ⟨by simp [meetB, hw], S0.2.2⟩
  replace hw := Lib.hid hw
  go_wp2_with fail
  refine (doCross ax ay bx bY cx cy dx dy _).mono ?_
  rintro e w3 ⟨rfl, hb_⟩
  replace S0 := HO _ _ S0 hb_
  clear hb_
  obtain ⟨⟨_, _, _, _⟩, ⟨_, _, _, _⟩, _⟩ := id S0
  cases hc : crossB ax ay bx bY cx cy dx dy
  rotate_left
  · go_wp2_with fail
    go_ret
    exact ⟨by simp [meetB, hv.out, hw.out, hc], S0.2.2⟩
  replace hc := Lib.hid hc
  go_wp2_with fail
  refine (isOnWall ax ay bx bY cx cy _).mono ?_
  rintro e w4 ⟨rfl, hb_⟩
  replace S0 := HO _ _ S0 hb_
  clear hb_
  obtain ⟨⟨_, _, _, _⟩, ⟨_, _, _, _⟩, _⟩ := id S0
  cases h1 : onB ax ay bx bY cx cy
  rotate_left
  · go_wp2_with fail
    go_ret
    exact ⟨by simp [meetB, hv.out, hw.out, h1], S0.2.2⟩
  replace h1 := Lib.hid h1
  go_wp2_with fail
  refine (isOnWall ax ay bx bY dx dy _).mono ?_
  rintro e w5 ⟨rfl, hb_⟩
  replace S0 := HO _ _ S0 hb_
  clear hb_
  obtain ⟨⟨_, _, _, _⟩, ⟨_, _, _, _⟩, _⟩ := id S0
  cases h2 : onB ax ay bx bY dx dy
  rotate_left
  · go_wp2_with fail
    go_ret
    exact ⟨by simp [meetB, hv.out, hw.out, h2], S0.2.2⟩
  replace h2 := Lib.hid h2
  go_wp2_with fail
  refine (isOnWall cx cy dx dy ax ay _).mono ?_
  rintro e w6 ⟨rfl, hb_⟩
  replace S0 := HO _ _ S0 hb_
  clear hb_
  obtain ⟨⟨_, _, _, _⟩, ⟨_, _, _, _⟩, _⟩ := id S0
  cases h3 : onB cx cy dx dy ax ay
  rotate_left
  · go_wp2_with fail
    go_ret
    exact ⟨by simp [meetB, hv.out, hw.out, h3], S0.2.2⟩
  replace h3 := Lib.hid h3
  go_wp2_with fail
  refine (isOnWall cx cy dx dy bx bY _).mono ?_
  rintro e w7 ⟨rfl, hb_⟩
  replace S0 := HO _ _ S0 hb_
  clear hb_
  obtain ⟨⟨_, _, _, _⟩, ⟨_, _, _, _⟩, _⟩ := id S0
  go_wp2_with fail
  go_ret
  exact ⟨ret_bool (by simp [meetB, hv.out, hw.out, hc.out, h1.out, h2.out, h3.out]), S0.2.2⟩

end Go.Proofs.Ythokeedmccfalaa.WallSpec

