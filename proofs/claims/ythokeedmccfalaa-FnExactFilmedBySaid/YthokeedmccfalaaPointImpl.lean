/-
  What the landed functions on points do, as contracts: what each answers; new memory alone is written.
-/
import Derived.Test.YthokeedmccfalaaPointOkImpl
import Derived.WalkLawsBesides
import Derived.Lib.MinMax
namespace Go.Proofs.Ythokeedmccfalaa.PointImpl
open Go.RowKit PointMath PointOkImpl
open PointOk (ret_bool ret_i64 below1 below2 below3 Box box1 Box.later Box.alloc)

theorem turn (px py ax ay bx bY : Int) (hp : smP px py) (ha : smP ax ay) (hb : smP bx bY) (w : World) :
    Calls Try.prog 157 #[.agg #[.int .i64 px, .int .i64 py], .agg #[.int .i64 ax, .int .i64 ay], .agg #[.int .i64 bx, .int .i64 bY]] w fun e w' => e = .returned (.int .i64 (turnI px py ax ay bx bY)) ∧ Below w.heap.size w w' := by
  have p := turn_small hp ha hb
  go_enter Try.func157, Try.ntmps157
  go_wp2_with fail
  have X0 := ((PointOk.box1 w px py 49 (k := w.heap.size) (by simp)).alloc (Obj.cells #[.int .i64 ax, .int .i64 ay] 49)).alloc (Obj.cells #[.int .i64 bx, .int .i64 bY] 49)
  have X1 := (PointOk.box1 (w.alloc (Obj.cells #[.int .i64 px, .int .i64 py] 49)) ax ay 49 (k := w.heap.size + 1) (by simp)).alloc (Obj.cells #[.int .i64 bx, .int .i64 bY] 49)
  have X2 := PointOk.box1 ((w.alloc (Obj.cells #[.int .i64 px, .int .i64 py] 49)).alloc (Obj.cells #[.int .i64 ax, .int .i64 ay] 49)) bx bY 49 (k := w.heap.size + 1 + 1) (by simp)
  have b0 := PointOk.below3 w (Obj.cells #[.int .i64 px, .int .i64 py] 49) (Obj.cells #[.int .i64 ax, .int .i64 ay] 49) (Obj.cells #[.int .i64 bx, .int .i64 bY] 49)
  have HO : ∀ W W' : World, (PointOk.Box W (w.heap.size) px py ∧ PointOk.Box W (w.heap.size + 1) ax ay ∧ PointOk.Box W (w.heap.size + 1 + 1) bx bY ∧ Below w.heap.size w W) → Below W.heap.size W W' → (PointOk.Box W' (w.heap.size) px py ∧ PointOk.Box W' (w.heap.size + 1) ax ay ∧ PointOk.Box W' (w.heap.size + 1 + 1) bx bY ∧ Below w.heap.size w W') := fun W W' ⟨h0, h1, h2, hb⟩ h => ⟨h0.later h, h1.later h, h2.later h, hb.trans (h.mono hb.size)⟩
  have hz0_ : Hid (((((w.alloc (Obj.cells #[.int .i64 px, .int .i64 py] 49)).alloc (Obj.cells #[.int .i64 ax, .int .i64 ay] 49)).alloc (Obj.cells #[.int .i64 bx, .int .i64 bY] 49))).heap.size = w.heap.size + 1 + 1 + 1) := Lib.hid (by simp)
  generalize (((w.alloc (Obj.cells #[.int .i64 px, .int .i64 py] 49)).alloc (Obj.cells #[.int .i64 ax, .int .i64 ay] 49)).alloc (Obj.cells #[.int .i64 bx, .int .i64 bY] 49)) = w0 at X0 X1 X2 b0 hz0_ ⊢
  have S0 := (⟨X0, X1, X2, b0⟩ : PointOk.Box w0 (w.heap.size) px py ∧ PointOk.Box w0 (w.heap.size + 1) ax ay ∧ PointOk.Box w0 (w.heap.size + 1 + 1) bx bY ∧ Below w.heap.size w w0)
  clear X0 X1 X2 b0
  obtain ⟨⟨_, _⟩, ⟨_, _⟩, ⟨_, _⟩, _⟩ := id S0
  refine Settle.region (fun W => PointOk.Box W (w.heap.size) px py ∧ PointOk.Box W (w.heap.size + 1) ax ay ∧ PointOk.Box W (w.heap.size + 1 + 1) bx bY ∧ Below w.heap.size w W) (by kernel_rfl) (by kernel_rfl) (by kernel_rfl) (by kernel_rfl) (HO _ _ S0 ((Below.refl _ _).drew)) ?_
  clear S0
  repeat (first
    | (refine Settle.Settles.off (by rfl) ?_; simp only [Act.put, List.setIfInBounds_toArray, List.set_cons_zero, List.set_cons_succ])
    | (refine Settle.Settles.quiet (v := ?_) (by rfl) ?_ ?_
       rotate_left
       · (intro W hS; obtain ⟨⟨_, _⟩, ⟨_, _⟩, ⟨_, _⟩, _⟩ := hS; go_simp; with_reducible rfl)
       simp only [Act.put, List.setIfInBounds_toArray, List.set_cons_zero, List.set_cons_succ])
    | (refine Settle.Settles.call (v := ?_) (f := ?_) (args := ?_) (by rfl) ?_ ?_ ?_
       rotate_left 3
       · (intro W; go_simp; refine ⟨?_, ?_⟩ <;> with_reducible rfl)
       · (intro W hS; first | (go_at_call 183; (with_reducible refine (minus _ _ _ _ (by assumption) (by assumption) _).mono ?_); rintro e W1 ⟨rfl, hb⟩; refine ⟨?_, HO _ _ hS hb⟩; with_reducible rfl) | (go_at_call 162; (with_reducible refine (cross _ _ _ _ (by omega) (by omega) _).mono ?_); rintro e W1 ⟨rfl, hb⟩; refine ⟨?_, HO _ _ hS hb⟩; with_reducible rfl))
       simp only [Act.put, List.setIfInBounds_toArray, List.set_cons_zero, List.set_cons_succ]))
  refine Settle.Settles.nil ?_
  intro wr S0
  obtain ⟨⟨_, _⟩, ⟨_, _⟩, ⟨_, _⟩, _⟩ := id S0
  go_wp2_with fail
  go_ret
  exact ⟨rfl, S0.2.2.2⟩

theorem turnOf (ax ay bx bY cx cy : Int) (w : World) :
    Calls Try.prog 166 #[.agg #[.int .i64 ax, .int .i64 ay], .agg #[.int .i64 bx, .int .i64 bY], .agg #[.int .i64 cx, .int .i64 cy]] w fun e w' => e = .returned (.int .i64 (PointMath.turnOf ax ay bx bY cx cy)) ∧ Below w.heap.size w w' := by
  go_enter Try.func166, Try.ntmps166
  go_wp2_with fail
  have X0 := ((PointOk.box1 w ax ay 49 (k := w.heap.size) (by simp)).alloc (Obj.cells #[.int .i64 bx, .int .i64 bY] 49)).alloc (Obj.cells #[.int .i64 cx, .int .i64 cy] 49)
  have X1 := (PointOk.box1 (w.alloc (Obj.cells #[.int .i64 ax, .int .i64 ay] 49)) bx bY 49 (k := w.heap.size + 1) (by simp)).alloc (Obj.cells #[.int .i64 cx, .int .i64 cy] 49)
  have X2 := PointOk.box1 ((w.alloc (Obj.cells #[.int .i64 ax, .int .i64 ay] 49)).alloc (Obj.cells #[.int .i64 bx, .int .i64 bY] 49)) cx cy 49 (k := w.heap.size + 1 + 1) (by simp)
  have b0 := PointOk.below3 w (Obj.cells #[.int .i64 ax, .int .i64 ay] 49) (Obj.cells #[.int .i64 bx, .int .i64 bY] 49) (Obj.cells #[.int .i64 cx, .int .i64 cy] 49)
  have HO : ∀ W W' : World, (PointOk.Box W (w.heap.size) ax ay ∧ PointOk.Box W (w.heap.size + 1) bx bY ∧ PointOk.Box W (w.heap.size + 1 + 1) cx cy ∧ Below w.heap.size w W) → Below W.heap.size W W' → (PointOk.Box W' (w.heap.size) ax ay ∧ PointOk.Box W' (w.heap.size + 1) bx bY ∧ PointOk.Box W' (w.heap.size + 1 + 1) cx cy ∧ Below w.heap.size w W') := fun W W' ⟨h0, h1, h2, hb⟩ h => ⟨h0.later h, h1.later h, h2.later h, hb.trans (h.mono hb.size)⟩
  have hz0_ : Hid (((((w.alloc (Obj.cells #[.int .i64 ax, .int .i64 ay] 49)).alloc (Obj.cells #[.int .i64 bx, .int .i64 bY] 49)).alloc (Obj.cells #[.int .i64 cx, .int .i64 cy] 49))).heap.size = w.heap.size + 1 + 1 + 1) := Lib.hid (by simp)
  generalize (((w.alloc (Obj.cells #[.int .i64 ax, .int .i64 ay] 49)).alloc (Obj.cells #[.int .i64 bx, .int .i64 bY] 49)).alloc (Obj.cells #[.int .i64 cx, .int .i64 cy] 49)) = w0 at X0 X1 X2 b0 hz0_ ⊢
  have S0 := (⟨X0, X1, X2, b0⟩ : PointOk.Box w0 (w.heap.size) ax ay ∧ PointOk.Box w0 (w.heap.size + 1) bx bY ∧ PointOk.Box w0 (w.heap.size + 1 + 1) cx cy ∧ Below w.heap.size w w0)
  clear X0 X1 X2 b0
  obtain ⟨⟨_, _⟩, ⟨_, _⟩, ⟨_, _⟩, _⟩ := id S0
  refine (pointOk ax ay _).mono ?_
  rintro e w1 ⟨rfl, hb_⟩
  replace S0 := HO _ _ S0 hb_
  clear hb_
  obtain ⟨⟨_, _⟩, ⟨_, _⟩, ⟨_, _⟩, _⟩ := id S0
  cases ha : okP ax ay
  · go_wp2_with fail
    go_ret
    exact ⟨by simp [PointMath.turnOf, ha], S0.2.2.2⟩
  replace ha := Lib.hid ha
  go_wp2_with fail
  refine (pointOk bx bY _).mono ?_
  rintro e w2 ⟨rfl, hb_⟩
  replace S0 := HO _ _ S0 hb_
  clear hb_
  obtain ⟨⟨_, _⟩, ⟨_, _⟩, ⟨_, _⟩, _⟩ := id S0
  cases hb : okP bx bY
  · go_wp2_with fail
    go_ret
    exact ⟨by simp [PointMath.turnOf, hb], S0.2.2.2⟩
  replace hb := Lib.hid hb
  go_wp2_with fail
  refine (pointOk cx cy _).mono ?_
  rintro e w3 ⟨rfl, hb_⟩
  replace S0 := HO _ _ S0 hb_
  clear hb_
  obtain ⟨⟨_, _⟩, ⟨_, _⟩, ⟨_, _⟩, _⟩ := id S0
  cases hc : okP cx cy
  · go_wp2_with fail
    go_ret
    exact ⟨by simp [PointMath.turnOf, hc], S0.2.2.2⟩
  replace hc := Lib.hid hc
  go_wp2_with fail
  refine (turn ax ay bx bY cx cy (okP_sm ha.out) (okP_sm hb.out) (okP_sm hc.out) _).mono ?_
  rintro e w4 ⟨rfl, hb_⟩
  replace S0 := HO _ _ S0 hb_
  clear hb_
  obtain ⟨⟨_, _⟩, ⟨_, _⟩, ⟨_, _⟩, _⟩ := id S0
  go_wp2_with fail
  go_ret
  exact ⟨ret_i64 (by simp [PointMath.turnOf, ha.out, hb.out, hc.out]), S0.2.2.2⟩

theorem squareOf (ax ay bx bY : Int) (w : World) :
    Calls Try.prog 169 #[.agg #[.int .i64 ax, .int .i64 ay], .agg #[.int .i64 bx, .int .i64 bY]] w fun e w' => e = .returned (.int .i64 (PointMath.squareOf ax ay bx bY)) ∧ Below w.heap.size w w' := by
  go_enter Try.func169, Try.ntmps169
  go_wp2_with fail
  have X0 := (PointOk.box1 w ax ay 49 (k := w.heap.size) (by simp)).alloc (Obj.cells #[.int .i64 bx, .int .i64 bY] 49)
  have X1 := PointOk.box1 (w.alloc (Obj.cells #[.int .i64 ax, .int .i64 ay] 49)) bx bY 49 (k := w.heap.size + 1) (by simp)
  have b0 := PointOk.below2 w (Obj.cells #[.int .i64 ax, .int .i64 ay] 49) (Obj.cells #[.int .i64 bx, .int .i64 bY] 49)
  have HO : ∀ W W' : World, (PointOk.Box W (w.heap.size) ax ay ∧ PointOk.Box W (w.heap.size + 1) bx bY ∧ Below w.heap.size w W) → Below W.heap.size W W' → (PointOk.Box W' (w.heap.size) ax ay ∧ PointOk.Box W' (w.heap.size + 1) bx bY ∧ Below w.heap.size w W') := fun W W' ⟨h0, h1, hb⟩ h => ⟨h0.later h, h1.later h, hb.trans (h.mono hb.size)⟩
  have hz0_ : Hid ((((w.alloc (Obj.cells #[.int .i64 ax, .int .i64 ay] 49)).alloc (Obj.cells #[.int .i64 bx, .int .i64 bY] 49))).heap.size = w.heap.size + 1 + 1) := Lib.hid (by simp)
  generalize ((w.alloc (Obj.cells #[.int .i64 ax, .int .i64 ay] 49)).alloc (Obj.cells #[.int .i64 bx, .int .i64 bY] 49)) = w0 at X0 X1 b0 hz0_ ⊢
  have S0 := (⟨X0, X1, b0⟩ : PointOk.Box w0 (w.heap.size) ax ay ∧ PointOk.Box w0 (w.heap.size + 1) bx bY ∧ Below w.heap.size w w0)
  clear X0 X1 b0
  obtain ⟨⟨_, _⟩, ⟨_, _⟩, _⟩ := id S0
  refine (pointOk ax ay _).mono ?_
  rintro e w1 ⟨rfl, hb_⟩
  replace S0 := HO _ _ S0 hb_
  clear hb_
  obtain ⟨⟨_, _⟩, ⟨_, _⟩, _⟩ := id S0
  cases ha : okP ax ay
  · go_wp2_with fail
    go_ret
    exact ⟨by simp [PointMath.squareOf, ha], S0.2.2⟩
  replace ha := Lib.hid ha
  go_wp2_with fail
  refine (pointOk bx bY _).mono ?_
  rintro e w2 ⟨rfl, hb_⟩
  replace S0 := HO _ _ S0 hb_
  clear hb_
  obtain ⟨⟨_, _⟩, ⟨_, _⟩, _⟩ := id S0
  cases hb : okP bx bY
  · go_wp2_with fail
    go_ret
    exact ⟨by simp [PointMath.squareOf, hb], S0.2.2⟩
  replace hb := Lib.hid hb
  go_wp2_with fail
  have sa := okP_sm ha.out
  have sb := okP_sm hb.out
  have p := square_parts ha.out hb.out
  refine (minus bx bY ax ay sb sa _).mono ?_
  rintro e w3 ⟨rfl, hb_⟩
  replace S0 := HO _ _ S0 hb_
  clear hb_
  obtain ⟨⟨_, _⟩, ⟨_, _⟩, _⟩ := id S0
  go_wp2_with fail
  go_ret
  refine ⟨ret_i64 (by simp [PointMath.squareOf, ha.out, hb.out, squareI]), ?_⟩
  exact S0.2.2.alloc S0.2.2.size _

theorem isInSpan (n a b : Int) (w : World) : Calls Try.prog 201 #[.int .i64 n, .int .i64 a, .int .i64 b] w fun e w' => e = .returned (.bool (midB n a b)) ∧ w = w' := by
  obtain ⟨m, hm⟩ : ∃ m, min a b = m := ⟨_, rfl⟩
  obtain ⟨M, hM⟩ : ∃ M, max a b = M := ⟨_, rfl⟩
  have E : Hid (midB n a b = decide (m ≤ n ∧ n ≤ M)) := Lib.hid (by unfold midB; rw [hm, hM])
  generalize midB n a b = r at E ⊢
  by_cases h1 : m ≤ n
  · by_cases h2 : n ≤ M
    · go_enter Try.func201, Try.ntmps201
      go_wp2_with fail
      go_ret
      exact ⟨ret_bool (by rw [E.out]; simp [h1, h2]), rfl⟩
    · go_enter Try.func201, Try.ntmps201
      go_wp2_with fail
      go_ret
      exact ⟨ret_bool (by rw [E.out]; simp [h1, h2]), rfl⟩
  · go_enter Try.func201, Try.ntmps201
    go_wp2_with fail
    go_ret
    exact ⟨ret_bool (by rw [E.out]; simp; omega), rfl⟩

theorem isInBox (px py ax ay bx bY : Int) (w : World) :
    Calls Try.prog 200 #[.agg #[.int .i64 px, .int .i64 py], .agg #[.int .i64 ax, .int .i64 ay], .agg #[.int .i64 bx, .int .i64 bY]] w fun e w' => e = .returned (.bool (midB px ax bx && midB py ay bY)) ∧ Below w.heap.size w w' := by
  go_enter Try.func200, Try.ntmps200
  go_wp2_with fail
  have X0 := ((PointOk.box1 w px py 49 (k := w.heap.size) (by simp)).alloc (Obj.cells #[.int .i64 ax, .int .i64 ay] 49)).alloc (Obj.cells #[.int .i64 bx, .int .i64 bY] 49)
  have X1 := (PointOk.box1 (w.alloc (Obj.cells #[.int .i64 px, .int .i64 py] 49)) ax ay 49 (k := w.heap.size + 1) (by simp)).alloc (Obj.cells #[.int .i64 bx, .int .i64 bY] 49)
  have X2 := PointOk.box1 ((w.alloc (Obj.cells #[.int .i64 px, .int .i64 py] 49)).alloc (Obj.cells #[.int .i64 ax, .int .i64 ay] 49)) bx bY 49 (k := w.heap.size + 1 + 1) (by simp)
  have b0 := PointOk.below3 w (Obj.cells #[.int .i64 px, .int .i64 py] 49) (Obj.cells #[.int .i64 ax, .int .i64 ay] 49) (Obj.cells #[.int .i64 bx, .int .i64 bY] 49)
  have HO : ∀ W W' : World, (PointOk.Box W (w.heap.size) px py ∧ PointOk.Box W (w.heap.size + 1) ax ay ∧ PointOk.Box W (w.heap.size + 1 + 1) bx bY ∧ Below w.heap.size w W) → Below W.heap.size W W' → (PointOk.Box W' (w.heap.size) px py ∧ PointOk.Box W' (w.heap.size + 1) ax ay ∧ PointOk.Box W' (w.heap.size + 1 + 1) bx bY ∧ Below w.heap.size w W') := fun W W' ⟨h0, h1, h2, hb⟩ h => ⟨h0.later h, h1.later h, h2.later h, hb.trans (h.mono hb.size)⟩
  have hz0_ : Hid (((((w.alloc (Obj.cells #[.int .i64 px, .int .i64 py] 49)).alloc (Obj.cells #[.int .i64 ax, .int .i64 ay] 49)).alloc (Obj.cells #[.int .i64 bx, .int .i64 bY] 49))).heap.size = w.heap.size + 1 + 1 + 1) := Lib.hid (by simp)
  generalize (((w.alloc (Obj.cells #[.int .i64 px, .int .i64 py] 49)).alloc (Obj.cells #[.int .i64 ax, .int .i64 ay] 49)).alloc (Obj.cells #[.int .i64 bx, .int .i64 bY] 49)) = w0 at X0 X1 X2 b0 hz0_ ⊢
  have S0 := (⟨X0, X1, X2, b0⟩ : PointOk.Box w0 (w.heap.size) px py ∧ PointOk.Box w0 (w.heap.size + 1) ax ay ∧ PointOk.Box w0 (w.heap.size + 1 + 1) bx bY ∧ Below w.heap.size w w0)
  clear X0 X1 X2 b0
  obtain ⟨⟨_, _⟩, ⟨_, _⟩, ⟨_, _⟩, _⟩ := id S0
  refine (isInSpan px ax bx _).mono ?_
  rintro e w_ ⟨rfl, rfl⟩
  cases hx : midB px ax bx
  · go_wp2_with fail
    go_ret
    exact ⟨by simp [hx], S0.2.2.2⟩
  replace hx := Lib.hid hx
  go_wp2_with fail
  refine (isInSpan py ay bY _).mono ?_
  rintro e w_ ⟨rfl, rfl⟩
  go_wp2_with fail
  go_ret
  exact ⟨by simp [hx.out], S0.2.2.2⟩

theorem btw (px py ax ay bx bY : Int) (hp : smP px py) (ha : smP ax ay) (hb : smP bx bY) (w : World) :
    Calls Try.prog 198 #[.agg #[.int .i64 px, .int .i64 py], .agg #[.int .i64 ax, .int .i64 ay], .agg #[.int .i64 bx, .int .i64 bY]] w fun e w' => e = .returned (.bool (btwB px py ax ay bx bY)) ∧ Below w.heap.size w w' := by
  go_enter Try.func198, Try.ntmps198
  go_wp2_with fail
  have X0 := ((PointOk.box1 w px py 49 (k := w.heap.size) (by simp)).alloc (Obj.cells #[.int .i64 ax, .int .i64 ay] 49)).alloc (Obj.cells #[.int .i64 bx, .int .i64 bY] 49)
  have X1 := (PointOk.box1 (w.alloc (Obj.cells #[.int .i64 px, .int .i64 py] 49)) ax ay 49 (k := w.heap.size + 1) (by simp)).alloc (Obj.cells #[.int .i64 bx, .int .i64 bY] 49)
  have X2 := PointOk.box1 ((w.alloc (Obj.cells #[.int .i64 px, .int .i64 py] 49)).alloc (Obj.cells #[.int .i64 ax, .int .i64 ay] 49)) bx bY 49 (k := w.heap.size + 1 + 1) (by simp)
  have b0 := PointOk.below3 w (Obj.cells #[.int .i64 px, .int .i64 py] 49) (Obj.cells #[.int .i64 ax, .int .i64 ay] 49) (Obj.cells #[.int .i64 bx, .int .i64 bY] 49)
  have HO : ∀ W W' : World, (PointOk.Box W (w.heap.size) px py ∧ PointOk.Box W (w.heap.size + 1) ax ay ∧ PointOk.Box W (w.heap.size + 1 + 1) bx bY ∧ Below w.heap.size w W) → Below W.heap.size W W' → (PointOk.Box W' (w.heap.size) px py ∧ PointOk.Box W' (w.heap.size + 1) ax ay ∧ PointOk.Box W' (w.heap.size + 1 + 1) bx bY ∧ Below w.heap.size w W') := fun W W' ⟨h0, h1, h2, hb⟩ h => ⟨h0.later h, h1.later h, h2.later h, hb.trans (h.mono hb.size)⟩
  have hz0_ : Hid (((((w.alloc (Obj.cells #[.int .i64 px, .int .i64 py] 49)).alloc (Obj.cells #[.int .i64 ax, .int .i64 ay] 49)).alloc (Obj.cells #[.int .i64 bx, .int .i64 bY] 49))).heap.size = w.heap.size + 1 + 1 + 1) := Lib.hid (by simp)
  generalize (((w.alloc (Obj.cells #[.int .i64 px, .int .i64 py] 49)).alloc (Obj.cells #[.int .i64 ax, .int .i64 ay] 49)).alloc (Obj.cells #[.int .i64 bx, .int .i64 bY] 49)) = w0 at X0 X1 X2 b0 hz0_ ⊢
  have S0 := (⟨X0, X1, X2, b0⟩ : PointOk.Box w0 (w.heap.size) px py ∧ PointOk.Box w0 (w.heap.size + 1) ax ay ∧ PointOk.Box w0 (w.heap.size + 1 + 1) bx bY ∧ Below w.heap.size w w0)
  clear X0 X1 X2 b0
  obtain ⟨⟨_, _⟩, ⟨_, _⟩, ⟨_, _⟩, _⟩ := id S0
  refine (turn ax ay bx bY px py ha hb hp _).mono ?_
  rintro e w1 ⟨rfl, hb_⟩
  replace S0 := HO _ _ S0 hb_
  clear hb_
  obtain ⟨⟨_, _⟩, ⟨_, _⟩, ⟨_, _⟩, _⟩ := id S0
  have E : Hid (btwB px py ax ay bx bY = (decide (turnI ax ay bx bY px py = 0) && (midB px ax bx && midB py ay bY))) := Lib.hid (by simp [btwB, Bool.and_assoc])
  generalize turnI ax ay bx bY px py = t at E ⊢
  by_cases h0 : t = 0
  · subst h0
    go_wp2_with fail
    refine (isInBox px py ax ay bx bY _).mono ?_
    rintro e w2 ⟨rfl, hb_⟩
    replace S0 := HO _ _ S0 hb_
    clear hb_
    obtain ⟨⟨_, _⟩, ⟨_, _⟩, ⟨_, _⟩, _⟩ := id S0
    go_wp2_with fail
    go_ret
    exact ⟨ret_bool (by rw [E.out]; simp), S0.2.2.2⟩
  · have hd : decide (t = 0) = false := by simpa using h0
    go_wp2_with fail
    go_ret
    exact ⟨ret_bool (by rw [E.out]; simp [h0]), S0.2.2.2⟩

end Go.Proofs.Ythokeedmccfalaa.PointImpl

