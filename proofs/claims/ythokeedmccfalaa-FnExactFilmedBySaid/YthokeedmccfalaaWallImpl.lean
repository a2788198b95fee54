/-
  What the landed functions on walls do, as contracts: what each answers; new memory alone is written.
-/
import Derived.Test.YthokeedmccfalaaPointImpl
import Derived.Test.YthokeedmccfalaaFacts
namespace Go.Proofs.Ythokeedmccfalaa.WallImpl
open Go.RowKit PointMath WallMath
open PointOk (ret_bool ret_i64 below1 below2 below3)

theorem wallOk (ax ay bx bY : Int) (w : World) :
    Calls Try.prog 199 #[.agg #[.int .i64 ax, .int .i64 ay, .int .i64 bx, .int .i64 bY]] w fun e w' => e = .returned (.bool (okW ax ay bx bY)) ∧ Below w.heap.size w w' := by
  go_enter Try.func199, Try.ntmps199
  go_wp2_with fail
  have X0 := PointOk.box4 w ax ay bx bY 143 (k := w.heap.size) (by simp)
  have b0 := PointOk.below1 w (Obj.cells #[.int .i64 ax, .int .i64 ay, .int .i64 bx, .int .i64 bY] 143)
  have HO : ∀ W W' : World, (PointOk.Box4 W (w.heap.size) ax ay bx bY ∧ Below w.heap.size w W) → Below W.heap.size W W' → (PointOk.Box4 W' (w.heap.size) ax ay bx bY ∧ Below w.heap.size w W') := fun W W' ⟨h0, hb⟩ h => ⟨h0.later h, hb.trans (h.mono hb.size)⟩
  have hz0_ : Hid (((w.alloc (Obj.cells #[.int .i64 ax, .int .i64 ay, .int .i64 bx, .int .i64 bY] 143))).heap.size = w.heap.size + 1) := Lib.hid (by simp)
  generalize (w.alloc (Obj.cells #[.int .i64 ax, .int .i64 ay, .int .i64 bx, .int .i64 bY] 143)) = w0 at X0 b0 hz0_ ⊢
  have S0 := (⟨X0, b0⟩ : PointOk.Box4 w0 (w.heap.size) ax ay bx bY ∧ Below w.heap.size w w0)
  clear X0 b0
  obtain ⟨⟨_, _, _, _⟩, _⟩ := id S0
  refine (PointOkImpl.pointOk ax ay _).mono ?_
  rintro e w1 ⟨rfl, hb_⟩
  replace S0 := HO _ _ S0 hb_
  clear hb_
  obtain ⟨⟨_, _, _, _⟩, _⟩ := id S0
  cases ha : okP ax ay
  · go_wp2_with fail
    go_ret
    exact ⟨by simp [okW, ha], S0.2⟩
  replace ha := Lib.hid ha
  go_wp2_with fail
  refine (PointOkImpl.pointOk bx bY _).mono ?_
  rintro e w2 ⟨rfl, hb_⟩
  replace S0 := HO _ _ S0 hb_
  clear hb_
  obtain ⟨⟨_, _, _, _⟩, _⟩ := id S0
  cases hb : okP bx bY
  · go_wp2_with fail
    go_ret
    exact ⟨by simp [okW, hb], S0.2⟩
  replace hb := Lib.hid hb
  go_wp2_with fail
  go_wp2_with fail
  all_goals go_ret
  all_goals exact ⟨ret_bool (by have a_ := ha.out; have b_ := hb.out; clear ha hb S0 HO; simp [okW, a_, b_]; omega), S0.2⟩

theorem areWallsOk (ax ay bx bY cx cy dx dy : Int) (w : World) :
    Calls Try.prog 185 #[.agg #[.int .i64 ax, .int .i64 ay, .int .i64 bx, .int .i64 bY], .agg #[.int .i64 cx, .int .i64 cy, .int .i64 dx, .int .i64 dy]] w fun e w' => e = .returned (.bool (okW ax ay bx bY && okW cx cy dx dy)) ∧ Below w.heap.size w w' := by
  go_enter Try.func185, Try.ntmps185
  go_wp2_with fail
  have X0 := (PointOk.box4 w ax ay bx bY 143 (k := w.heap.size) (by simp)).alloc (Obj.cells #[.int .i64 cx, .int .i64 cy, .int .i64 dx, .int .i64 dy] 143)
  have X1 := PointOk.box4 (w.alloc (Obj.cells #[.int .i64 ax, .int .i64 ay, .int .i64 bx, .int .i64 bY] 143)) cx cy dx dy 143 (k := w.heap.size + 1) (by simp)
  have b0 := PointOk.below2 w (Obj.cells #[.int .i64 ax, .int .i64 ay, .int .i64 bx, .int .i64 bY] 143) (Obj.cells #[.int .i64 cx, .int .i64 cy, .int .i64 dx, .int .i64 dy] 143)
  have HO : ∀ W W' : World, (PointOk.Box4 W (w.heap.size) ax ay bx bY ∧ PointOk.Box4 W (w.heap.size + 1) cx cy dx dy ∧ Below w.heap.size w W) → Below W.heap.size W W' → (PointOk.Box4 W' (w.heap.size) ax ay bx bY ∧ PointOk.Box4 W' (w.heap.size + 1) cx cy dx dy ∧ Below w.heap.size w W') := fun W W' ⟨h0, h1, hb⟩ h => ⟨h0.later h, h1.later h, hb.trans (h.mono hb.size)⟩
  have hz0_ : Hid ((((w.alloc (Obj.cells #[.int .i64 ax, .int .i64 ay, .int .i64 bx, .int .i64 bY] 143)).alloc (Obj.cells #[.int .i64 cx, .int .i64 cy, .int .i64 dx, .int .i64 dy] 143))).heap.size = w.heap.size + 1 + 1) := Lib.hid (by simp)
  generalize ((w.alloc (Obj.cells #[.int .i64 ax, .int .i64 ay, .int .i64 bx, .int .i64 bY] 143)).alloc (Obj.cells #[.int .i64 cx, .int .i64 cy, .int .i64 dx, .int .i64 dy] 143)) = w0 at X0 X1 b0 hz0_ ⊢
  have S0 := (⟨X0, X1, b0⟩ : PointOk.Box4 w0 (w.heap.size) ax ay bx bY ∧ PointOk.Box4 w0 (w.heap.size + 1) cx cy dx dy ∧ Below w.heap.size w w0)
  clear X0 X1 b0
  obtain ⟨⟨_, _, _, _⟩, ⟨_, _, _, _⟩, _⟩ := id S0
  refine (wallOk ax ay bx bY _).mono ?_
  rintro e w1 ⟨rfl, hb_⟩
  replace S0 := HO _ _ S0 hb_
  clear hb_
  obtain ⟨⟨_, _, _, _⟩, ⟨_, _, _, _⟩, _⟩ := id S0
  cases hv : okW ax ay bx bY
  · go_wp2_with fail
    go_ret
    exact ⟨by simp [hv], S0.2.2⟩
  replace hv := Lib.hid hv
  go_wp2_with fail
  refine (wallOk cx cy dx dy _).mono ?_
  rintro e w2 ⟨rfl, hb_⟩
  replace S0 := HO _ _ S0 hb_
  clear hb_
  obtain ⟨⟨_, _, _, _⟩, ⟨_, _, _, _⟩, _⟩ := id S0
  go_wp2_with fail
  go_ret
  exact ⟨by simp [hv.out], S0.2.2⟩

/-- Are the ends of the second wall on different sides of the first one's line? The points may be any. -/
theorem separates (ax ay bx bY cx cy dx dy : Int) (ha : smP ax ay) (hb : smP bx bY) (hc : smP cx cy) (hd : smP dx dy) (w : World) :
    Calls Try.prog 174 #[.agg #[.int .i64 ax, .int .i64 ay, .int .i64 bx, .int .i64 bY], .agg #[.int .i64 cx, .int .i64 cy, .int .i64 dx, .int .i64 dy]] w fun e w' => e = .returned (.bool (sepW ax ay bx bY cx cy dx dy)) ∧ Below w.heap.size w w' := by
  obtain ⟨s, hs⟩ : ∃ t, turnI ax ay bx bY cx cy = t := ⟨_, rfl⟩
  obtain ⟨t, ht⟩ : ∃ t, turnI ax ay bx bY dx dy = t := ⟨_, rfl⟩
  have Q1 : Hid (∀ w, _) := Lib.hid fun w => PointImpl.turn ax ay bx bY cx cy ha hb hc w
  have Q2 : Hid (∀ w, _) := Lib.hid fun w => PointImpl.turn ax ay bx bY dx dy ha hb hd w
  rw [hs] at Q1
  rw [ht] at Q2
  have E : Hid (sepW ax ay bx bY cx cy dx dy = sepB s t) := Lib.hid (by unfold sepW; rw [hs, ht])
  clear hs ht ha hb hc hd
  go_enter Try.func174, Try.ntmps174
  go_wp2_with fail
  have X0 := (PointOk.box4 w ax ay bx bY 143 (k := w.heap.size) (by simp)).alloc (Obj.cells #[.int .i64 cx, .int .i64 cy, .int .i64 dx, .int .i64 dy] 143)
  have X1 := PointOk.box4 (w.alloc (Obj.cells #[.int .i64 ax, .int .i64 ay, .int .i64 bx, .int .i64 bY] 143)) cx cy dx dy 143 (k := w.heap.size + 1) (by simp)
  have b0 := PointOk.below2 w (Obj.cells #[.int .i64 ax, .int .i64 ay, .int .i64 bx, .int .i64 bY] 143) (Obj.cells #[.int .i64 cx, .int .i64 cy, .int .i64 dx, .int .i64 dy] 143)
  have HO : ∀ W W' : World, (PointOk.Box4 W (w.heap.size) ax ay bx bY ∧ PointOk.Box4 W (w.heap.size + 1) cx cy dx dy ∧ Below w.heap.size w W) → Below W.heap.size W W' → (PointOk.Box4 W' (w.heap.size) ax ay bx bY ∧ PointOk.Box4 W' (w.heap.size + 1) cx cy dx dy ∧ Below w.heap.size w W') := fun W W' ⟨h0, h1, hb⟩ h => ⟨h0.later h, h1.later h, hb.trans (h.mono hb.size)⟩
  have hz0_ : Hid ((((w.alloc (Obj.cells #[.int .i64 ax, .int .i64 ay, .int .i64 bx, .int .i64 bY] 143)).alloc (Obj.cells #[.int .i64 cx, .int .i64 cy, .int .i64 dx, .int .i64 dy] 143))).heap.size = w.heap.size + 1 + 1) := Lib.hid (by simp)
  generalize ((w.alloc (Obj.cells #[.int .i64 ax, .int .i64 ay, .int .i64 bx, .int .i64 bY] 143)).alloc (Obj.cells #[.int .i64 cx, .int .i64 cy, .int .i64 dx, .int .i64 dy] 143)) = w0 at X0 X1 b0 hz0_ ⊢
  have S0 := (⟨X0, X1, b0⟩ : PointOk.Box4 w0 (w.heap.size) ax ay bx bY ∧ PointOk.Box4 w0 (w.heap.size + 1) cx cy dx dy ∧ Below w.heap.size w w0)
  clear X0 X1 b0
  obtain ⟨⟨_, _, _, _⟩, ⟨_, _, _, _⟩, _⟩ := id S0
  refine Settle.region (fun W => PointOk.Box4 W (w.heap.size) ax ay bx bY ∧ PointOk.Box4 W (w.heap.size + 1) cx cy dx dy ∧ Below w.heap.size w W) (by kernel_rfl) (by kernel_rfl) (by kernel_rfl) (by kernel_rfl) (HO _ _ S0 ((Below.refl _ _).drew)) ?_
  clear S0
  repeat (first
    | (refine Settle.Settles.off (by rfl) ?_; simp only [Act.put, List.setIfInBounds_toArray, List.set_cons_zero, List.set_cons_succ])
    | (refine Settle.Settles.quiet (v := ?_) (by rfl) ?_ ?_
       rotate_left
       · (intro W hS; obtain ⟨⟨_, _, _, _⟩, ⟨_, _, _, _⟩, _⟩ := hS; go_simp; with_reducible rfl)
       simp only [Act.put, List.setIfInBounds_toArray, List.set_cons_zero, List.set_cons_succ])
    | (refine Settle.Settles.call (v := ?_) (f := ?_) (args := ?_) (by rfl) ?_ ?_ ?_
       rotate_left 3
       · (intro W; go_simp; refine ⟨?_, ?_⟩ <;> with_reducible rfl)
       · (intro W hS; first | (go_at_call 157; (with_reducible refine (Q1.out _).mono ?_); rintro e W1 ⟨rfl, hb⟩; refine ⟨?_, HO _ _ hS hb⟩; with_reducible rfl) | (go_at_call 157; (with_reducible refine (Q2.out _).mono ?_); rintro e W1 ⟨rfl, hb⟩; refine ⟨?_, HO _ _ hS hb⟩; with_reducible rfl))
       simp only [Act.put, List.setIfInBounds_toArray, List.set_cons_zero, List.set_cons_succ]))
  refine Settle.Settles.nil ?_
  intro wr S0
  obtain ⟨⟨_, _, _, _⟩, ⟨_, _, _, _⟩, _⟩ := id S0
  by_cases a1 : s < 0
  · by_cases a2 : 0 < t
    · skip
      go_wp2_with fail
      go_ret
      exact ⟨ret_bool (by rw [E.out]; simp [sepB]; omega), S0.2.2⟩
    · skip
      go_wp2_with fail
      go_ret
      exact ⟨ret_bool (by rw [E.out]; simp [sepB]; omega), S0.2.2⟩
  · by_cases a2 : 0 < s
    · by_cases a3 : t < 0
      · skip
        go_wp2_with fail
        go_ret
        exact ⟨ret_bool (by rw [E.out]; simp [sepB]; omega), S0.2.2⟩
      · skip
        go_wp2_with fail
        go_ret
        exact ⟨ret_bool (by rw [E.out]; simp [sepB]; omega), S0.2.2⟩
    · skip
      go_wp2_with fail
      go_ret
      exact ⟨ret_bool (by rw [E.out]; simp [sepB]; omega), S0.2.2⟩

theorem crosses (ax ay bx bY cx cy dx dy : Int) (ha : smP ax ay) (hb : smP bx bY) (hc : smP cx cy) (hd : smP dx dy) (w : World) :
    Calls Try.prog 144 #[.agg #[.int .i64 ax, .int .i64 ay, .int .i64 bx, .int .i64 bY], .agg #[.int .i64 cx, .int .i64 cy, .int .i64 dx, .int .i64 dy]] w fun e w' => e = .returned (.bool (cutW ax ay bx bY cx cy dx dy)) ∧ Below w.heap.size w w' := by
  go_enter Try.func144, Try.ntmps144
  go_wp2_with fail
  have X0 := (PointOk.box4 w ax ay bx bY 143 (k := w.heap.size) (by simp)).alloc (Obj.cells #[.int .i64 cx, .int .i64 cy, .int .i64 dx, .int .i64 dy] 143)
  have X1 := PointOk.box4 (w.alloc (Obj.cells #[.int .i64 ax, .int .i64 ay, .int .i64 bx, .int .i64 bY] 143)) cx cy dx dy 143 (k := w.heap.size + 1) (by simp)
  have b0 := PointOk.below2 w (Obj.cells #[.int .i64 ax, .int .i64 ay, .int .i64 bx, .int .i64 bY] 143) (Obj.cells #[.int .i64 cx, .int .i64 cy, .int .i64 dx, .int .i64 dy] 143)
  have HO : ∀ W W' : World, (PointOk.Box4 W (w.heap.size) ax ay bx bY ∧ PointOk.Box4 W (w.heap.size + 1) cx cy dx dy ∧ Below w.heap.size w W) → Below W.heap.size W W' → (PointOk.Box4 W' (w.heap.size) ax ay bx bY ∧ PointOk.Box4 W' (w.heap.size + 1) cx cy dx dy ∧ Below w.heap.size w W') := fun W W' ⟨h0, h1, hb⟩ h => ⟨h0.later h, h1.later h, hb.trans (h.mono hb.size)⟩
  have hz0_ : Hid ((((w.alloc (Obj.cells #[.int .i64 ax, .int .i64 ay, .int .i64 bx, .int .i64 bY] 143)).alloc (Obj.cells #[.int .i64 cx, .int .i64 cy, .int .i64 dx, .int .i64 dy] 143))).heap.size = w.heap.size + 1 + 1) := Lib.hid (by simp)
  generalize ((w.alloc (Obj.cells #[.int .i64 ax, .int .i64 ay, .int .i64 bx, .int .i64 bY] 143)).alloc (Obj.cells #[.int .i64 cx, .int .i64 cy, .int .i64 dx, .int .i64 dy] 143)) = w0 at X0 X1 b0 hz0_ ⊢
  have S0 := (⟨X0, X1, b0⟩ : PointOk.Box4 w0 (w.heap.size) ax ay bx bY ∧ PointOk.Box4 w0 (w.heap.size + 1) cx cy dx dy ∧ Below w.heap.size w w0)
  clear X0 X1 b0
  obtain ⟨⟨_, _, _, _⟩, ⟨_, _, _, _⟩, _⟩ := id S0
  refine (separates ax ay bx bY cx cy dx dy ha hb hc hd _).mono ?_
  rintro e w1 ⟨rfl, hb_⟩
  replace S0 := HO _ _ S0 hb_
  clear hb_
  obtain ⟨⟨_, _, _, _⟩, ⟨_, _, _, _⟩, _⟩ := id S0
  cases h1 : sepW ax ay bx bY cx cy dx dy
  · go_wp2_with fail
    go_ret
    exact ⟨by simp [cutW, h1], S0.2.2⟩
  replace h1 := Lib.hid h1
  go_wp2_with fail
  refine (separates cx cy dx dy ax ay bx bY hc hd ha hb _).mono ?_
  rintro e w2 ⟨rfl, hb_⟩
  replace S0 := HO _ _ S0 hb_
  clear hb_
  obtain ⟨⟨_, _, _, _⟩, ⟨_, _, _, _⟩, _⟩ := id S0
  go_wp2_with fail
  go_ret
  exact ⟨ret_bool (by simp [cutW, h1.out]), S0.2.2⟩

theorem holds (ax ay bx bY px py : Int) (ha : smP ax ay) (hb : smP bx bY) (hp : smP px py) (w : World) :
    Calls Try.prog 182 #[.agg #[.int .i64 ax, .int .i64 ay, .int .i64 bx, .int .i64 bY], .agg #[.int .i64 px, .int .i64 py]] w fun e w' => e = .returned (.bool (btwB px py ax ay bx bY)) ∧ Below w.heap.size w w' := by
  go_enter Try.func182, Try.ntmps182
  go_wp2_with fail
  have X0 := (PointOk.box4 w ax ay bx bY 143 (k := w.heap.size) (by simp)).alloc (Obj.cells #[.int .i64 px, .int .i64 py] 49)
  have X1 := PointOk.box1 (w.alloc (Obj.cells #[.int .i64 ax, .int .i64 ay, .int .i64 bx, .int .i64 bY] 143)) px py 49 (k := w.heap.size + 1) (by simp)
  have b0 := PointOk.below2 w (Obj.cells #[.int .i64 ax, .int .i64 ay, .int .i64 bx, .int .i64 bY] 143) (Obj.cells #[.int .i64 px, .int .i64 py] 49)
  have HO : ∀ W W' : World, (PointOk.Box4 W (w.heap.size) ax ay bx bY ∧ PointOk.Box W (w.heap.size + 1) px py ∧ Below w.heap.size w W) → Below W.heap.size W W' → (PointOk.Box4 W' (w.heap.size) ax ay bx bY ∧ PointOk.Box W' (w.heap.size + 1) px py ∧ Below w.heap.size w W') := fun W W' ⟨h0, h1, hb⟩ h => ⟨h0.later h, h1.later h, hb.trans (h.mono hb.size)⟩
  have hz0_ : Hid ((((w.alloc (Obj.cells #[.int .i64 ax, .int .i64 ay, .int .i64 bx, .int .i64 bY] 143)).alloc (Obj.cells #[.int .i64 px, .int .i64 py] 49))).heap.size = w.heap.size + 1 + 1) := Lib.hid (by simp)
  generalize ((w.alloc (Obj.cells #[.int .i64 ax, .int .i64 ay, .int .i64 bx, .int .i64 bY] 143)).alloc (Obj.cells #[.int .i64 px, .int .i64 py] 49)) = w0 at X0 X1 b0 hz0_ ⊢
  have S0 := (⟨X0, X1, b0⟩ : PointOk.Box4 w0 (w.heap.size) ax ay bx bY ∧ PointOk.Box w0 (w.heap.size + 1) px py ∧ Below w.heap.size w w0)
  clear X0 X1 b0
  obtain ⟨⟨_, _, _, _⟩, ⟨_, _⟩, _⟩ := id S0
  refine (PointImpl.btw px py ax ay bx bY hp ha hb _).mono ?_
  rintro e w1 ⟨rfl, hb_⟩
  replace S0 := HO _ _ S0 hb_
  clear hb_
  obtain ⟨⟨_, _, _, _⟩, ⟨_, _⟩, _⟩ := id S0
  go_wp2_with fail
  go_ret
  exact ⟨rfl, S0.2.2⟩

theorem holdsEndOf (ax ay bx bY cx cy dx dy : Int) (ha : smP ax ay) (hb : smP bx bY) (hc : smP cx cy) (hd : smP dx dy) (w : World) :
    Calls Try.prog 186 #[.agg #[.int .i64 ax, .int .i64 ay, .int .i64 bx, .int .i64 bY], .agg #[.int .i64 cx, .int .i64 cy, .int .i64 dx, .int .i64 dy]] w fun e w' => e = .returned (.bool (btwB cx cy ax ay bx bY || btwB dx dy ax ay bx bY)) ∧ Below w.heap.size w w' := by
  go_enter Try.func186, Try.ntmps186
  go_wp2_with fail
  have X0 := (PointOk.box4 w ax ay bx bY 143 (k := w.heap.size) (by simp)).alloc (Obj.cells #[.int .i64 cx, .int .i64 cy, .int .i64 dx, .int .i64 dy] 143)
  have X1 := PointOk.box4 (w.alloc (Obj.cells #[.int .i64 ax, .int .i64 ay, .int .i64 bx, .int .i64 bY] 143)) cx cy dx dy 143 (k := w.heap.size + 1) (by simp)
  have b0 := PointOk.below2 w (Obj.cells #[.int .i64 ax, .int .i64 ay, .int .i64 bx, .int .i64 bY] 143) (Obj.cells #[.int .i64 cx, .int .i64 cy, .int .i64 dx, .int .i64 dy] 143)
  have HO : ∀ W W' : World, (PointOk.Box4 W (w.heap.size) ax ay bx bY ∧ PointOk.Box4 W (w.heap.size + 1) cx cy dx dy ∧ Below w.heap.size w W) → Below W.heap.size W W' → (PointOk.Box4 W' (w.heap.size) ax ay bx bY ∧ PointOk.Box4 W' (w.heap.size + 1) cx cy dx dy ∧ Below w.heap.size w W') := fun W W' ⟨h0, h1, hb⟩ h => ⟨h0.later h, h1.later h, hb.trans (h.mono hb.size)⟩
  have hz0_ : Hid ((((w.alloc (Obj.cells #[.int .i64 ax, .int .i64 ay, .int .i64 bx, .int .i64 bY] 143)).alloc (Obj.cells #[.int .i64 cx, .int .i64 cy, .int .i64 dx, .int .i64 dy] 143))).heap.size = w.heap.size + 1 + 1) := Lib.hid (by simp)
  generalize ((w.alloc (Obj.cells #[.int .i64 ax, .int .i64 ay, .int .i64 bx, .int .i64 bY] 143)).alloc (Obj.cells #[.int .i64 cx, .int .i64 cy, .int .i64 dx, .int .i64 dy] 143)) = w0 at X0 X1 b0 hz0_ ⊢
  have S0 := (⟨X0, X1, b0⟩ : PointOk.Box4 w0 (w.heap.size) ax ay bx bY ∧ PointOk.Box4 w0 (w.heap.size + 1) cx cy dx dy ∧ Below w.heap.size w w0)
  clear X0 X1 b0
  obtain ⟨⟨_, _, _, _⟩, ⟨_, _, _, _⟩, _⟩ := id S0
  refine (holds ax ay bx bY cx cy ha hb hc _).mono ?_
  rintro e w1 ⟨rfl, hb_⟩
  replace S0 := HO _ _ S0 hb_
  clear hb_
  obtain ⟨⟨_, _, _, _⟩, ⟨_, _, _, _⟩, _⟩ := id S0
  cases h1 : btwB cx cy ax ay bx bY
  rotate_left
  · go_wp2_with fail
    go_ret
    exact ⟨by simp [h1], S0.2.2⟩
  replace h1 := Lib.hid h1
  go_wp2_with fail
  refine (holds ax ay bx bY dx dy ha hb hd _).mono ?_
  rintro e w2 ⟨rfl, hb_⟩
  replace S0 := HO _ _ S0 hb_
  clear hb_
  obtain ⟨⟨_, _, _, _⟩, ⟨_, _, _, _⟩, _⟩ := id S0
  go_wp2_with fail
  go_ret
  exact ⟨by simp [h1.out], S0.2.2⟩

theorem doMeet (ax ay bx bY cx cy dx dy : Int) (w : World) :
    Calls Try.prog 160 #[.agg #[.int .i64 ax, .int .i64 ay, .int .i64 bx, .int .i64 bY], .agg #[.int .i64 cx, .int .i64 cy, .int .i64 dx, .int .i64 dy]] w fun e w' => e = .returned (.bool (meetB ax ay bx bY cx cy dx dy)) ∧ Below w.heap.size w w' := by
  obtain ⟨r, hr⟩ : ∃ r, meetB ax ay bx bY cx cy dx dy = r := ⟨_, rfl⟩
  have HR := Lib.hid hr
  rw [hr]
  clear hr
  go_enter Try.func160, Try.ntmps160
  go_wp2_with fail
  have X0 := (PointOk.box4 w ax ay bx bY 143 (k := w.heap.size) (by simp)).alloc (Obj.cells #[.int .i64 cx, .int .i64 cy, .int .i64 dx, .int .i64 dy] 143)
  have X1 := PointOk.box4 (w.alloc (Obj.cells #[.int .i64 ax, .int .i64 ay, .int .i64 bx, .int .i64 bY] 143)) cx cy dx dy 143 (k := w.heap.size + 1) (by simp)
  have b0 := PointOk.below2 w (Obj.cells #[.int .i64 ax, .int .i64 ay, .int .i64 bx, .int .i64 bY] 143) (Obj.cells #[.int .i64 cx, .int .i64 cy, .int .i64 dx, .int .i64 dy] 143)
  have HO : ∀ W W' : World, (PointOk.Box4 W (w.heap.size) ax ay bx bY ∧ PointOk.Box4 W (w.heap.size + 1) cx cy dx dy ∧ Below w.heap.size w W) → Below W.heap.size W W' → (PointOk.Box4 W' (w.heap.size) ax ay bx bY ∧ PointOk.Box4 W' (w.heap.size + 1) cx cy dx dy ∧ Below w.heap.size w W') := fun W W' ⟨h0, h1, hb⟩ h => ⟨h0.later h, h1.later h, hb.trans (h.mono hb.size)⟩
  have hz0_ : Hid ((((w.alloc (Obj.cells #[.int .i64 ax, .int .i64 ay, .int .i64 bx, .int .i64 bY] 143)).alloc (Obj.cells #[.int .i64 cx, .int .i64 cy, .int .i64 dx, .int .i64 dy] 143))).heap.size = w.heap.size + 1 + 1) := Lib.hid (by simp)
  generalize ((w.alloc (Obj.cells #[.int .i64 ax, .int .i64 ay, .int .i64 bx, .int .i64 bY] 143)).alloc (Obj.cells #[.int .i64 cx, .int .i64 cy, .int .i64 dx, .int .i64 dy] 143)) = w0 at X0 X1 b0 hz0_ ⊢
  have S0 := (⟨X0, X1, b0⟩ : PointOk.Box4 w0 (w.heap.size) ax ay bx bY ∧ PointOk.Box4 w0 (w.heap.size + 1) cx cy dx dy ∧ Below w.heap.size w w0)
  clear X0 X1 b0
  obtain ⟨⟨_, _, _, _⟩, ⟨_, _, _, _⟩, _⟩ := id S0
  refine (areWallsOk ax ay bx bY cx cy dx dy _).mono ?_
  rintro e w1 ⟨rfl, hb_⟩
  replace S0 := HO _ _ S0 hb_
  clear hb_
  obtain ⟨⟨_, _, _, _⟩, ⟨_, _, _, _⟩, _⟩ := id S0
  cases hv : (okW ax ay bx bY && okW cx cy dx dy)
  · go_wp2_with fail
    go_ret
    exact ⟨by rw [← HR.out]; unfold meetB; rw [hv]; rfl, S0.2.2⟩
  replace hv := Lib.hid hv
  go_wp2_with fail
  have hp : Hid (okW ax ay bx bY = true ∧ okW cx cy dx dy = true) := Lib.hid (by simpa using hv.out)
  have hs : Hid (_ ∧ _ ∧ _ ∧ _) := Lib.hid (okW_sm2 hp.out.1 hp.out.2)
  replace HR : Hid (meet2 ax ay bx bY cx cy dx dy = r) := Lib.hid (by rw [← HR.out, meetB_meet2 hp.out.1 hp.out.2])
  refine (crosses ax ay bx bY cx cy dx dy hs.out.1 hs.out.2.1 hs.out.2.2.1 hs.out.2.2.2 _).mono ?_
  rintro e w2 ⟨rfl, hb_⟩
  replace S0 := HO _ _ S0 hb_
  clear hb_
  obtain ⟨⟨_, _, _, _⟩, ⟨_, _, _, _⟩, _⟩ := id S0
  cases hc : cutW ax ay bx bY cx cy dx dy
  rotate_left
  · go_wp2_with fail
    go_ret
    exact ⟨ret_bool (by rw [← HR.out]; unfold meet2; rw [hc]; simp), S0.2.2⟩
  replace hc := Lib.hid hc
  go_wp2_with fail
  refine (holdsEndOf ax ay bx bY cx cy dx dy hs.out.1 hs.out.2.1 hs.out.2.2.1 hs.out.2.2.2 _).mono ?_
  rintro e w3 ⟨rfl, hb_⟩
  replace S0 := HO _ _ S0 hb_
  clear hb_
  obtain ⟨⟨_, _, _, _⟩, ⟨_, _, _, _⟩, _⟩ := id S0
  cases h1 : (btwB cx cy ax ay bx bY || btwB dx dy ax ay bx bY)
  rotate_left
  · go_wp2_with fail
    go_ret
    exact ⟨ret_bool (by rw [← HR.out]; unfold meet2; rw [hc.out, h1]; simp), S0.2.2⟩
  replace h1 := Lib.hid h1
  go_wp2_with fail
  refine (holdsEndOf cx cy dx dy ax ay bx bY hs.out.2.2.1 hs.out.2.2.2 hs.out.1 hs.out.2.1 _).mono ?_
  rintro e w4 ⟨rfl, hb_⟩
  replace S0 := HO _ _ S0 hb_
  clear hb_
  obtain ⟨⟨_, _, _, _⟩, ⟨_, _, _, _⟩, _⟩ := id S0
  go_wp2_with fail
  go_ret
  exact ⟨ret_bool (by rw [← HR.out]; unfold meet2; rw [hc.out, h1.out]; simp), S0.2.2⟩

end Go.Proofs.Ythokeedmccfalaa.WallImpl

