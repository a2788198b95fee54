/-
  What the model's functions on points do, as contracts: what each answers; new memory alone is written.
-/
import Derived.Test.YthokeedmccfalaaGround
import Derived.WalkLawsBesides
import Derived.Lib.MinMax
namespace Go.Proofs.Ythokeedmccfalaa.PointSpec
open Go.RowKit PointMath PointOk

/-- The turn of points of any size whose steps are small. -/
theorem l02Turn (ax ay bx bY cx cy : Int) (ha : smP ax ay) (hb : smP bx bY) (hc : smP cx cy) (w : World) :
    Calls Try.prog 113 #[.agg #[.int .i64 ax, .int .i64 ay], .agg #[.int .i64 bx, .int .i64 bY], .agg #[.int .i64 cx, .int .i64 cy]] w fun e w' => e = .returned (.int .i64 (turnI ax ay bx bY cx cy)) ∧ Below w.heap.size w w' := by
  have hp := turn_small ha hb hc
  have h1 : -1000000 ≤ ax ∧ ax ≤ 1000000 ∧ -1000000 ≤ ay ∧ ay ≤ 1000000 := ha
  have h2 : -1000000 ≤ bx ∧ bx ≤ 1000000 ∧ -1000000 ≤ bY ∧ bY ≤ 1000000 := hb
  have h3 : -1000000 ≤ cx ∧ cx ≤ 1000000 ∧ -1000000 ≤ cy ∧ cy ≤ 1000000 := hc
  clear ha hb hc
  have E : Hid (turnI ax ay bx bY cx cy = (bx - ax) * (cy - ay) - (bY - ay) * (cx - ax)) := Lib.hid rfl
  generalize turnI ax ay bx bY cx cy = t at E ⊢
  go_enter Try.func113, Try.ntmps113
  go_wp2_with fail
  go_ret
  exact ⟨ret_i64 E.out.symm, below3 _ _ _ _⟩

theorem squareOf (ax ay bx bY : Int) (w : World) :
    Calls Try.prog 126 #[.agg #[.int .i64 ax, .int .i64 ay], .agg #[.int .i64 bx, .int .i64 bY]] w fun e w' => e = .returned (.int .i64 (PointMath.squareOf ax ay bx bY)) ∧ Below w.heap.size w w' := by
  go_enter Try.func126, Try.ntmps126
  go_wp2_with fail
  have X0 := (PointOk.box1 w ax ay 49 (k := w.heap.size) (by simp)).alloc (Obj.cells #[.int .i64 bx, .int .i64 bY] 49)
  have X1 := PointOk.box1 (w.alloc (Obj.cells #[.int .i64 ax, .int .i64 ay] 49)) bx bY 49 (k := w.heap.size + 1) (by simp)
  have b0 := PointOk.below2 w (Obj.cells #[.int .i64 ax, .int .i64 ay] 49) (Obj.cells #[.int .i64 bx, .int .i64 bY] 49)
  have HO : ∀ W W' : World, (PointOk.Box W (w.heap.size) ax ay ∧ PointOk.Box W (w.heap.size + 1) bx bY ∧ Below w.heap.size w W) → Below W.heap.size W W' → (PointOk.Box W' (w.heap.size) ax ay ∧ PointOk.Box W' (w.heap.size + 1) bx bY ∧ Below w.heap.size w W') := fun W W' ⟨h0, h1, hb⟩ h => ⟨h0.later h, h1.later h, hb.trans (h.mono hb.size)⟩
  have hz0_ : Hid ((((w.alloc (Obj.cells #[.int .i64 ax, .int .i64 ay] 49)).alloc (Obj.cells #[.int .i64 bx, .int .i64 bY] 49))).heap.size = w.heap.size + 1 + 1) := Lib.hid (by simp)
  generalize ((w.alloc (Obj.cells #[.int .i64 ax, .int .i64 ay] 49)).alloc (Obj.cells #[.int .i64 bx, .int .i64 bY] 49)) = w0 at X0 X1 b0 hz0_ ⊢
  have S0 := (⟨X0, X1, b0⟩ : PointOk.Box w0 (w.heap.size) ax ay ∧ PointOk.Box w0 (w.heap.size + 1) bx bY ∧ Below w.heap.size w w0)
  clear X0 X1 b0
  obtain ⟨⟨_, _⟩, ⟨_, _⟩, _⟩ := id S0
  refine (pointOk ax ay _).mono ?_
  rintro e w1 ⟨rfl, hb_⟩
  replace S0 := HO _ _ S0 hb_
  clear hb_
  obtain ⟨⟨_, _⟩, ⟨_, _⟩, _⟩ := id S0
  cases ha : okP ax ay
  · go_wp2_with fail
    go_ret
    exact ⟨by simp [PointMath.squareOf, ha], S0.2.2⟩
  replace ha := Lib.hid ha
  go_wp2_with fail
  refine (pointOk bx bY _).mono ?_
  rintro e w2 ⟨rfl, hb_⟩
  replace S0 := HO _ _ S0 hb_
  clear hb_
  obtain ⟨⟨_, _⟩, ⟨_, _⟩, _⟩ := id S0
  cases hb : okP bx bY
  · go_wp2_with fail
    go_ret
    exact ⟨by simp [PointMath.squareOf, hb], S0.2.2⟩
  have p := square_parts ha.out hb
  have q := okP_yes ha.out
  have q2 := okP_yes hb
  replace hb := Lib.hid hb
  go_wp2_with fail
  go_ret
  exact ⟨ret_i64 (by simp [PointMath.squareOf, ha.out, hb.out, squareI]), S0.2.2⟩

theorem l02Between (px py ax ay bx bY : Int) (hp : smP px py) (ha : smP ax ay) (hb : smP bx bY) (w : World) :
    Calls Try.prog 128 #[.agg #[.int .i64 px, .int .i64 py], .agg #[.int .i64 ax, .int .i64 ay], .agg #[.int .i64 bx, .int .i64 bY]] w fun e w' => e = .returned (.bool (decide (turnI ax ay bx bY px py = 0) && midB px ax bx && midB py ay bY)) ∧ Below w.heap.size w w' := by
  go_enter Try.func128, Try.ntmps128
  go_wp2_with fail
  have X0 := ((PointOk.box1 w px py 49 (k := w.heap.size) (by simp)).alloc (Obj.cells #[.int .i64 ax, .int .i64 ay] 49)).alloc (Obj.cells #[.int .i64 bx, .int .i64 bY] 49)
  have X1 := (PointOk.box1 (w.alloc (Obj.cells #[.int .i64 px, .int .i64 py] 49)) ax ay 49 (k := w.heap.size + 1) (by simp)).alloc (Obj.cells #[.int .i64 bx, .int .i64 bY] 49)
  have X2 := PointOk.box1 ((w.alloc (Obj.cells #[.int .i64 px, .int .i64 py] 49)).alloc (Obj.cells #[.int .i64 ax, .int .i64 ay] 49)) bx bY 49 (k := w.heap.size + 1 + 1) (by simp)
  have b0 := PointOk.below3 w (Obj.cells #[.int .i64 px, .int .i64 py] 49) (Obj.cells #[.int .i64 ax, .int .i64 ay] 49) (Obj.cells #[.int .i64 bx, .int .i64 bY] 49)
  have HO : ∀ W W' : World, (PointOk.Box W (w.heap.size) px py ∧ PointOk.Box W (w.heap.size + 1) ax ay ∧ PointOk.Box W (w.heap.size + 1 + 1) bx bY ∧ Below w.heap.size w W) → Below W.heap.size W W' → (PointOk.Box W' (w.heap.size) px py ∧ PointOk.Box W' (w.heap.size + 1) ax ay ∧ PointOk.Box W' (w.heap.size + 1 + 1) bx bY ∧ Below w.heap.size w W') := fun W W' ⟨h0, h1, h2, hb⟩ h => ⟨h0.later h, h1.later h, h2.later h, hb.trans (h.mono hb.size)⟩
  have hz0_ : Hid (((((w.alloc (Obj.cells #[.int .i64 px, .int .i64 py] 49)).alloc (Obj.cells #[.int .i64 ax, .int .i64 ay] 49)).alloc (Obj.cells #[.int .i64 bx, .int .i64 bY] 49))).heap.size = w.heap.size + 1 + 1 + 1) := Lib.hid (by simp)
  generalize (((w.alloc (Obj.cells #[.int .i64 px, .int .i64 py] 49)).alloc (Obj.cells #[.int .i64 ax, .int .i64 ay] 49)).alloc (Obj.cells #[.int .i64 bx, .int .i64 bY] 49)) = w0 at X0 X1 X2 b0 hz0_ ⊢
  have S0 := (⟨X0, X1, X2, b0⟩ : PointOk.Box w0 (w.heap.size) px py ∧ PointOk.Box w0 (w.heap.size + 1) ax ay ∧ PointOk.Box w0 (w.heap.size + 1 + 1) bx bY ∧ Below w.heap.size w w0)
  clear X0 X1 X2 b0
  obtain ⟨⟨_, _⟩, ⟨_, _⟩, ⟨_, _⟩, _⟩ := id S0
  refine (l02Turn ax ay bx bY px py ha hb hp _).mono ?_
  rintro e w1 ⟨rfl, hb_⟩
  replace S0 := HO _ _ S0 hb_
  clear hb_
  obtain ⟨⟨_, _⟩, ⟨_, _⟩, ⟨_, _⟩, _⟩ := id S0
  obtain ⟨t, hT⟩ : ∃ t, Hid (turnI ax ay bx bY px py = t) := ⟨_, Lib.hid rfl⟩
  rw [hT.out]
  by_cases h0 : t = 0
  · subst h0
    go_wp2_with fail
    refine (l01In px (min ax bx) (max ax bx) _).mono ?_
    rintro e w_ ⟨rfl, rfl⟩
    cases hx : decide (min ax bx ≤ px ∧ px ≤ max ax bx)
    · go_wp2_with fail
      go_ret
      exact ⟨ret_bool (by rw [show midB px ax bx = false from hx]; simp), S0.2.2.2⟩
    replace hx := Lib.hid hx
    go_wp2_with fail
    refine (l01In py (min ay bY) (max ay bY) _).mono ?_
    rintro e w_ ⟨rfl, rfl⟩
    go_wp2_with fail
    go_ret
    exact ⟨ret_bool (by rw [hT.out, show midB px ax bx = true from hx.out]; simp [midB]), S0.2.2.2⟩
  · have hd : decide (t = 0) = false := by simpa using h0
    go_wp2_with fail
    go_ret
    exact ⟨ret_bool (by rw [hT.out]; simp [h0]), S0.2.2.2⟩

theorem l02Btw (px py ax ay bx bY : Int) (hp : smP px py) (ha : smP ax ay) (hb : smP bx bY) (w : World) :
    Calls Try.prog 128 #[.agg #[.int .i64 px, .int .i64 py], .agg #[.int .i64 ax, .int .i64 ay], .agg #[.int .i64 bx, .int .i64 bY]] w fun e w' => e = .returned (.bool (btwB px py ax ay bx bY)) ∧ Below w.heap.size w w' := l02Between px py ax ay bx bY hp ha hb w

theorem isBetween (px py ax ay bx bY : Int) (w : World) :
    Calls Try.prog 179 #[.agg #[.int .i64 px, .int .i64 py], .agg #[.int .i64 ax, .int .i64 ay], .agg #[.int .i64 bx, .int .i64 bY]] w fun e w' => e = .returned (.bool (betweenB px py ax ay bx bY)) ∧ Below w.heap.size w w' := by
  go_enter Try.func179, Try.ntmps179
  go_wp2_with fail
  have X0 := ((PointOk.box1 w px py 49 (k := w.heap.size) (by simp)).alloc (Obj.cells #[.int .i64 ax, .int .i64 ay] 49)).alloc (Obj.cells #[.int .i64 bx, .int .i64 bY] 49)
  have X1 := (PointOk.box1 (w.alloc (Obj.cells #[.int .i64 px, .int .i64 py] 49)) ax ay 49 (k := w.heap.size + 1) (by simp)).alloc (Obj.cells #[.int .i64 bx, .int .i64 bY] 49)
  have X2 := PointOk.box1 ((w.alloc (Obj.cells #[.int .i64 px, .int .i64 py] 49)).alloc (Obj.cells #[.int .i64 ax, .int .i64 ay] 49)) bx bY 49 (k := w.heap.size + 1 + 1) (by simp)
  have b0 := PointOk.below3 w (Obj.cells #[.int .i64 px, .int .i64 py] 49) (Obj.cells #[.int .i64 ax, .int .i64 ay] 49) (Obj.cells #[.int .i64 bx, .int .i64 bY] 49)
  have HO : ∀ W W' : World, (PointOk.Box W (w.heap.size) px py ∧ PointOk.Box W (w.heap.size + 1) ax ay ∧ PointOk.Box W (w.heap.size + 1 + 1) bx bY ∧ Below w.heap.size w W) → Below W.heap.size W W' → (PointOk.Box W' (w.heap.size) px py ∧ PointOk.Box W' (w.heap.size + 1) ax ay ∧ PointOk.Box W' (w.heap.size + 1 + 1) bx bY ∧ Below w.heap.size w W') := fun W W' ⟨h0, h1, h2, hb⟩ h => ⟨h0.later h, h1.later h, h2.later h, hb.trans (h.mono hb.size)⟩
  have hz0_ : Hid (((((w.alloc (Obj.cells #[.int .i64 px, .int .i64 py] 49)).alloc (Obj.cells #[.int .i64 ax, .int .i64 ay] 49)).alloc (Obj.cells #[.int .i64 bx, .int .i64 bY] 49))).heap.size = w.heap.size + 1 + 1 + 1) := Lib.hid (by simp)
  generalize (((w.alloc (Obj.cells #[.int .i64 px, .int .i64 py] 49)).alloc (Obj.cells #[.int .i64 ax, .int .i64 ay] 49)).alloc (Obj.cells #[.int .i64 bx, .int .i64 bY] 49)) = w0 at X0 X1 X2 b0 hz0_ ⊢
  have S0 := (⟨X0, X1, X2, b0⟩ : PointOk.Box w0 (w.heap.size) px py ∧ PointOk.Box w0 (w.heap.size + 1) ax ay ∧ PointOk.Box w0 (w.heap.size + 1 + 1) bx bY ∧ Below w.heap.size w w0)
  clear X0 X1 X2 b0
  obtain ⟨⟨_, _⟩, ⟨_, _⟩, ⟨_, _⟩, _⟩ := id S0
  refine (pointOk px py _).mono ?_
  rintro e w1 ⟨rfl, hb_⟩
  replace S0 := HO _ _ S0 hb_
  clear hb_
  obtain ⟨⟨_, _⟩, ⟨_, _⟩, ⟨_, _⟩, _⟩ := id S0
  cases hp : okP px py
  · go_wp2_with fail
    go_ret
    exact ⟨by simp [betweenB, hp], S0.2.2.2⟩
  replace hp := Lib.hid hp
  go_wp2_with fail
  refine (pointOk ax ay _).mono ?_
  rintro e w2 ⟨rfl, hb_⟩
  replace S0 := HO _ _ S0 hb_
  clear hb_
  obtain ⟨⟨_, _⟩, ⟨_, _⟩, ⟨_, _⟩, _⟩ := id S0
  cases ha : okP ax ay
  · go_wp2_with fail
    go_ret
    exact ⟨by simp [betweenB, ha], S0.2.2.2⟩
  replace ha := Lib.hid ha
  go_wp2_with fail
  refine (pointOk bx bY _).mono ?_
  rintro e w3 ⟨rfl, hb_⟩
  replace S0 := HO _ _ S0 hb_
  clear hb_
  obtain ⟨⟨_, _⟩, ⟨_, _⟩, ⟨_, _⟩, _⟩ := id S0
  cases hb : okP bx bY
  · go_wp2_with fail
    go_ret
    exact ⟨by simp [betweenB, hb], S0.2.2.2⟩
  replace hb := Lib.hid hb
  go_wp2_with fail
  refine (l02Between px py ax ay bx bY (okP_sm hp.out) (okP_sm ha.out) (okP_sm hb.out) _).mono ?_
  rintro e w4 ⟨rfl, hb_⟩
  replace S0 := HO _ _ S0 hb_
  clear hb_
  obtain ⟨⟨_, _⟩, ⟨_, _⟩, ⟨_, _⟩, _⟩ := id S0
  go_wp2_with fail
  go_ret
  exact ⟨ret_bool (by simp [betweenB, hp.out, ha.out, hb.out]), S0.2.2.2⟩

end Go.Proofs.Ythokeedmccfalaa.PointSpec

