/-
  What the functions on frames, sightings and cameras do, as contracts: what each answers; new memory alone is written.
-/
import Derived.Test.YtonbpmabmjhdgaaPointSpec
import Derived.Test.YtonbpmabmjhdgaaTrackMath
import Derived.Test.YtonbpmabmjhdgaaTup3
import Derived.Test.YtonbpmabmjhdgaaTup7
import Derived.Test.YtonbpmabmjhdgaaGround
namespace Go.Proofs.Ytonbpmabmjhdgaa.TrackSpec
open Go.RowKit PointMath TrackMath
open PointOk (ret_bool ret_i64 below1 below2 below3)

theorem frameOk (a b c : Int) (w : World) :
    Calls Try.prog 24 #[.agg #[.int .i64 a, .int .i64 b, .int .i64 c]] w fun e w' => e = .returned (.bool (frameB a b c)) ∧ Below w.heap.size w w' := by
  go_enter Try.func24, Try.ntmps24
  go_wp2_with fail
  have X0 := Tup3.box1 w a b c 41 (k := w.heap.size) (by simp)
  have b0 := PointOk.below1 w (Obj.cells #[.int .i64 a, .int .i64 b, .int .i64 c] 41)
  have HO : ∀ W W' : World, (Tup3.Box W (w.heap.size) a b c ∧ Below w.heap.size w W) → Below W.heap.size W W' → (Tup3.Box W' (w.heap.size) a b c ∧ Below w.heap.size w W') := fun W W' ⟨h0, hb⟩ h => ⟨h0.later h, hb.trans (h.mono hb.size)⟩
  have hz0_ : Hid (((w.alloc (Obj.cells #[.int .i64 a, .int .i64 b, .int .i64 c] 41))).heap.size = w.heap.size + 1) := Lib.hid (by simp)
  generalize (w.alloc (Obj.cells #[.int .i64 a, .int .i64 b, .int .i64 c] 41)) = w0 at X0 b0 hz0_ ⊢
  have S0 := (⟨X0, b0⟩ : Tup3.Box w0 (w.heap.size) a b c ∧ Below w.heap.size w w0)
  clear X0 b0
  obtain ⟨⟨_, _, _⟩, _⟩ := id S0
  refine (PointOk.l01In a 0 100000 _).mono ?_
  rintro e w_ ⟨rfl, rfl⟩
  cases h0 : decide (0 ≤ a ∧ a ≤ 100000)
  · go_wp2_with fail
    go_ret
    exact ⟨ret_bool (by unfold frameB; rw [h0]; rfl), S0.2⟩
  replace h0 := Lib.hid h0
  go_wp2_with fail
  refine (PointOk.l01In b 0 1000000 _).mono ?_
  rintro e w_ ⟨rfl, rfl⟩
  cases h1 : decide (0 ≤ b ∧ b ≤ 1000000)
  · go_wp2_with fail
    go_ret
    exact ⟨ret_bool (by unfold frameB; rw [h0.out, h1]; rfl), S0.2⟩
  replace h1 := Lib.hid h1
  go_wp2_with fail
  refine (PointOk.l01In c 0 999999 _).mono ?_
  rintro e w_ ⟨rfl, rfl⟩
  cases h2 : decide (0 ≤ c ∧ c ≤ 999999)
  · go_wp2_with fail
    go_ret
    exact ⟨ret_bool (by unfold frameB; rw [h0.out, h1.out, h2]; rfl), S0.2⟩
  replace h2 := Lib.hid h2
  go_wp2_with fail
  go_ret
  exact ⟨ret_bool (by unfold frameB; rw [h0.out, h1.out, h2.out]; rfl), S0.2⟩

theorem sightingOk (t x y : Int) (w : World) :
    Calls Try.prog 42 #[.agg #[.int .i64 t, .int .i64 x, .int .i64 y]] w fun e w' => e = .returned (.bool (sightB t x y)) ∧ Below w.heap.size w w' := by
  go_enter Try.func42, Try.ntmps42
  go_wp2_with fail
  have X0 := Tup3.box1 w t x y 63 (k := w.heap.size) (by simp)
  have b0 := PointOk.below1 w (Obj.cells #[.int .i64 t, .int .i64 x, .int .i64 y] 63)
  have HO : ∀ W W' : World, (Tup3.Box W (w.heap.size) t x y ∧ Below w.heap.size w W) → Below W.heap.size W W' → (Tup3.Box W' (w.heap.size) t x y ∧ Below w.heap.size w W') := fun W W' ⟨h0, hb⟩ h => ⟨h0.later h, hb.trans (h.mono hb.size)⟩
  have hz0_ : Hid (((w.alloc (Obj.cells #[.int .i64 t, .int .i64 x, .int .i64 y] 63))).heap.size = w.heap.size + 1) := Lib.hid (by simp)
  generalize (w.alloc (Obj.cells #[.int .i64 t, .int .i64 x, .int .i64 y] 63)) = w0 at X0 b0 hz0_ ⊢
  have S0 := (⟨X0, b0⟩ : Tup3.Box w0 (w.heap.size) t x y ∧ Below w.heap.size w w0)
  clear X0 b0
  obtain ⟨⟨_, _, _⟩, _⟩ := id S0
  refine (PointOk.l01In t 0 1000 _).mono ?_
  rintro e w_ ⟨rfl, rfl⟩
  cases h0 : decide (0 ≤ t ∧ t ≤ 1000)
  · go_wp2_with fail
    go_ret
    exact ⟨ret_bool (by unfold sightB; rw [h0]; rfl), S0.2⟩
  replace h0 := Lib.hid h0
  go_wp2_with fail
  refine (PointOk.pointOk x y _).mono ?_
  rintro e w2 ⟨rfl, hb_⟩
  replace S0 := HO _ _ S0 hb_
  clear hb_
  obtain ⟨⟨_, _, _⟩, _⟩ := id S0
  go_wp2_with fail
  go_ret
  exact ⟨ret_bool (by unfold sightB; rw [h0.out]; rfl), S0.2⟩

set_option maxHeartbeats 1600000 in
theorem canBeSame (t x y t2 x2 y2 s : Int) (w : World) :
    Calls Try.prog 45 #[.agg #[.int .i64 t, .int .i64 x, .int .i64 y], .agg #[.int .i64 t2, .int .i64 x2, .int .i64 y2], .int .i64 s] w fun e w' => e = .returned (.bool (sameB t x y t2 x2 y2 s)) ∧ Below w.heap.size w w' := by
  obtain ⟨r, hr⟩ : ∃ r, sameB t x y t2 x2 y2 s = r := ⟨_, rfl⟩
  have HR := Lib.hid hr
  rw [hr]
  clear hr
  by_cases h4 : t < t2
  rotate_left
  · have n4 : t2 ≤ t := by omega
    go_enter Try.func45, Try.ntmps45
    go_wp2_with fail
    have X0 := (Tup3.box1 w t x y 63 (k := w.heap.size) (by simp)).alloc (Obj.cells #[.int .i64 t2, .int .i64 x2, .int .i64 y2] 63)
    have X1 := Tup3.box1 (w.alloc (Obj.cells #[.int .i64 t, .int .i64 x, .int .i64 y] 63)) t2 x2 y2 63 (k := w.heap.size + 1) (by simp)
    have b0 := PointOk.below2 w (Obj.cells #[.int .i64 t, .int .i64 x, .int .i64 y] 63) (Obj.cells #[.int .i64 t2, .int .i64 x2, .int .i64 y2] 63)
    have HO : ∀ W W' : World, (Tup3.Box W (w.heap.size) t x y ∧ Tup3.Box W (w.heap.size + 1) t2 x2 y2 ∧ Below w.heap.size w W) → Below W.heap.size W W' → (Tup3.Box W' (w.heap.size) t x y ∧ Tup3.Box W' (w.heap.size + 1) t2 x2 y2 ∧ Below w.heap.size w W') := fun W W' ⟨h0, h1, hb⟩ h => ⟨h0.later h, h1.later h, hb.trans (h.mono hb.size)⟩
    have hz0_ : Hid ((((w.alloc (Obj.cells #[.int .i64 t, .int .i64 x, .int .i64 y] 63)).alloc (Obj.cells #[.int .i64 t2, .int .i64 x2, .int .i64 y2] 63))).heap.size = w.heap.size + 1 + 1) := Lib.hid (by simp)
    generalize ((w.alloc (Obj.cells #[.int .i64 t, .int .i64 x, .int .i64 y] 63)).alloc (Obj.cells #[.int .i64 t2, .int .i64 x2, .int .i64 y2] 63)) = w0 at X0 X1 b0 hz0_ ⊢
    have S0 := (⟨X0, X1, b0⟩ : Tup3.Box w0 (w.heap.size) t x y ∧ Tup3.Box w0 (w.heap.size + 1) t2 x2 y2 ∧ Below w.heap.size w w0)
    clear X0 X1 b0
    obtain ⟨⟨_, _, _⟩, ⟨_, _, _⟩, _⟩ := id S0
    refine (sightingOk t x y _).mono ?_
    rintro e w1 ⟨rfl, hb_⟩
    replace S0 := HO _ _ S0 hb_
    clear hb_
    obtain ⟨⟨_, _, _⟩, ⟨_, _, _⟩, _⟩ := id S0
    cases h1 : sightB t x y
    · go_wp2_with fail
      go_ret
      exact ⟨ret_bool (by rw [← HR.out]; unfold sameB; rw [h1]; rfl), S0.2.2⟩
    replace h1 := Lib.hid h1
    go_wp2_with fail
    refine (sightingOk t2 x2 y2 _).mono ?_
    rintro e w2 ⟨rfl, hb_⟩
    replace S0 := HO _ _ S0 hb_
    clear hb_
    obtain ⟨⟨_, _, _⟩, ⟨_, _, _⟩, _⟩ := id S0
    cases h2 : sightB t2 x2 y2
    · go_wp2_with fail
      go_ret
      exact ⟨ret_bool (by rw [← HR.out]; unfold sameB; rw [h1.out, h2]; rfl), S0.2.2⟩
    replace h2 := Lib.hid h2
    go_wp2_with fail
    refine (PointOk.l01In s 1 20 _).mono ?_
    rintro e w_ ⟨rfl, rfl⟩
    cases h3 : decide (1 ≤ s ∧ s ≤ 20)
    · go_wp2_with fail
      go_ret
      exact ⟨ret_bool (by rw [← HR.out]; unfold sameB speedB; rw [h1.out, h2.out, h3]; rfl), S0.2.2⟩
    replace h3 := Lib.hid h3
    go_wp2_with fail
    go_ret
    exact ⟨ret_bool (by rw [← HR.out]; unfold sameB; rw [show decide (t < t2) = false from decide_eq_false (by omega)]; simp), S0.2.2⟩
  have n4 : ¬ t2 ≤ t := by omega
  go_enter Try.func45, Try.ntmps45
  go_wp2_with fail
  have X0 := (Tup3.box1 w t x y 63 (k := w.heap.size) (by simp)).alloc (Obj.cells #[.int .i64 t2, .int .i64 x2, .int .i64 y2] 63)
  have X1 := Tup3.box1 (w.alloc (Obj.cells #[.int .i64 t, .int .i64 x, .int .i64 y] 63)) t2 x2 y2 63 (k := w.heap.size + 1) (by simp)
  have b0 := PointOk.below2 w (Obj.cells #[.int .i64 t, .int .i64 x, .int .i64 y] 63) (Obj.cells #[.int .i64 t2, .int .i64 x2, .int .i64 y2] 63)
  have HO : ∀ W W' : World, (Tup3.Box W (w.heap.size) t x y ∧ Tup3.Box W (w.heap.size + 1) t2 x2 y2 ∧ Below w.heap.size w W) → Below W.heap.size W W' → (Tup3.Box W' (w.heap.size) t x y ∧ Tup3.Box W' (w.heap.size + 1) t2 x2 y2 ∧ Below w.heap.size w W') := fun W W' ⟨h0, h1, hb⟩ h => ⟨h0.later h, h1.later h, hb.trans (h.mono hb.size)⟩
  have hz0_ : Hid ((((w.alloc (Obj.cells #[.int .i64 t, .int .i64 x, .int .i64 y] 63)).alloc (Obj.cells #[.int .i64 t2, .int .i64 x2, .int .i64 y2] 63))).heap.size = w.heap.size + 1 + 1) := Lib.hid (by simp)
  generalize ((w.alloc (Obj.cells #[.int .i64 t, .int .i64 x, .int .i64 y] 63)).alloc (Obj.cells #[.int .i64 t2, .int .i64 x2, .int .i64 y2] 63)) = w0 at X0 X1 b0 hz0_ ⊢
  have S0 := (⟨X0, X1, b0⟩ : Tup3.Box w0 (w.heap.size) t x y ∧ Tup3.Box w0 (w.heap.size + 1) t2 x2 y2 ∧ Below w.heap.size w w0)
  clear X0 X1 b0
  obtain ⟨⟨_, _, _⟩, ⟨_, _, _⟩, _⟩ := id S0
  refine (sightingOk t x y _).mono ?_
  rintro e w4 ⟨rfl, hb_⟩
  replace S0 := HO _ _ S0 hb_
  clear hb_
  obtain ⟨⟨_, _, _⟩, ⟨_, _, _⟩, _⟩ := id S0
  cases h1 : sightB t x y
  · go_wp2_with fail
    go_ret
    exact ⟨ret_bool (by rw [← HR.out]; unfold sameB; rw [h1]; rfl), S0.2.2⟩
  replace h1 := Lib.hid h1
  go_wp2_with fail
  refine (sightingOk t2 x2 y2 _).mono ?_
  rintro e w5 ⟨rfl, hb_⟩
  replace S0 := HO _ _ S0 hb_
  clear hb_
  obtain ⟨⟨_, _, _⟩, ⟨_, _, _⟩, _⟩ := id S0
  cases h2 : sightB t2 x2 y2
  · go_wp2_with fail
    go_ret
    exact ⟨ret_bool (by rw [← HR.out]; unfold sameB; rw [h1.out, h2]; rfl), S0.2.2⟩
  replace h2 := Lib.hid h2
  go_wp2_with fail
  refine (PointOk.l01In s 1 20 _).mono ?_
  rintro e w_ ⟨rfl, rfl⟩
  cases h3 : decide (1 ≤ s ∧ s ≤ 20)
  · skip
    go_wp2_with fail
    go_ret
    exact ⟨ret_bool (by rw [← HR.out]; unfold sameB speedB; rw [h1.out, h2.out, h3]; rfl), S0.2.2⟩
  have p1 := sight_parts h1.out
  have p2 := sight_parts h2.out
  have p3 : 1 ≤ s ∧ s ≤ 20 := of_decide_eq_true h3
  have rb := reach_bound (s := s) (d := t2 - t) p3 (by omega)
  have rs := reach_square rb
  have u1 : IntKind.i64.wrap (t2 - t) = t2 - t := IntWalk.i64_in _ (by omega)
  have u2 : IntKind.i64.wrap (s * (t2 - t)) = s * (t2 - t) := IntWalk.i64_in _ (by omega)
  have E : Hid (r = decide (squareI x y x2 y2 ≤ s * (t2 - t) * (s * (t2 - t)))) := Lib.hid (by
    rw [← HR.out]; unfold sameB
    rw [h1.out, h2.out, show speedB s = true from h3, show decide (t < t2) = true from decide_eq_true h4]; rfl)
  clear HR
  have QS : Hid (∀ w, _) := Lib.hid fun w => PointSpec.squareOf x y x2 y2 w
  rw [show PointMath.squareOf x y x2 y2 = squareI x y x2 y2 by unfold PointMath.squareOf; rw [p1.2, p2.2]; rfl] at QS
  generalize squareI x y x2 y2 = sq at *
  obtain ⟨q, hq⟩ : ∃ q, s * (t2 - t) = q := ⟨_, rfl⟩
  rw [hq] at u2 E rs
  have u3 : IntKind.i64.wrap (q * q) = q * q := IntWalk.i64_in _ (by omega)
  clear h1 h2 p1 p2 p3 h3 rb rs h4
  go_wp2_with fail
  refine (QS.out _).mono ?_
  rintro e w7 ⟨rfl, hb_⟩
  replace S0 := HO _ _ S0 hb_
  clear hb_
  obtain ⟨⟨_, _, _⟩, ⟨_, _, _⟩, _⟩ := id S0
  go_wp2_with fail
  go_ret
  exact ⟨ret_bool E.out.symm, S0.2.2⟩

set_option maxHeartbeats 1600000 in
theorem cameraOk (ax ay rx ry lx ly q : Int) (w : World) :
    Calls Try.prog 15 #[.agg #[.int .i64 ax, .int .i64 ay, .int .i64 rx, .int .i64 ry, .int .i64 lx, .int .i64 ly, .int .i64 q]] w fun e w' => e = .returned (.bool (camB ax ay rx ry lx ly q)) ∧ Below w.heap.size w w' := by
  obtain ⟨r, hr⟩ : ∃ r, camB ax ay rx ry lx ly q = r := ⟨_, rfl⟩
  have HR := Lib.hid hr
  rw [hr]
  clear hr
  go_enter Try.func15, Try.ntmps15
  go_wp2_with fail
  have X0 := Tup7.box1 w ax ay rx ry lx ly q 29 (k := w.heap.size) (by simp)
  have b0 := PointOk.below1 w (Obj.cells #[.int .i64 ax, .int .i64 ay, .int .i64 rx, .int .i64 ry, .int .i64 lx, .int .i64 ly, .int .i64 q] 29)
  have HO : ∀ W W' : World, (Tup7.Box W (w.heap.size) ax ay rx ry lx ly q ∧ Below w.heap.size w W) → Below W.heap.size W W' → (Tup7.Box W' (w.heap.size) ax ay rx ry lx ly q ∧ Below w.heap.size w W') := fun W W' ⟨h0, hb⟩ h => ⟨h0.later h, hb.trans (h.mono hb.size)⟩
  have hz0_ : Hid (((w.alloc (Obj.cells #[.int .i64 ax, .int .i64 ay, .int .i64 rx, .int .i64 ry, .int .i64 lx, .int .i64 ly, .int .i64 q] 29))).heap.size = w.heap.size + 1) := Lib.hid (by simp)
  generalize (w.alloc (Obj.cells #[.int .i64 ax, .int .i64 ay, .int .i64 rx, .int .i64 ry, .int .i64 lx, .int .i64 ly, .int .i64 q] 29)) = w0 at X0 b0 hz0_ ⊢
  have S0 := (⟨X0, b0⟩ : Tup7.Box w0 (w.heap.size) ax ay rx ry lx ly q ∧ Below w.heap.size w w0)
  clear X0 b0
  obtain ⟨⟨_, _, _, _, _, _, _⟩, _⟩ := id S0
  refine (PointOk.pointOk ax ay _).mono ?_
  rintro e w1 ⟨rfl, hb_⟩
  replace S0 := HO _ _ S0 hb_
  clear hb_
  obtain ⟨⟨_, _, _, _, _, _, _⟩, _⟩ := id S0
  cases ha : okP ax ay
  · go_wp2_with fail
    go_ret
    exact ⟨ret_bool (by rw [← HR.out]; unfold camB; rw [ha]; rfl), S0.2⟩
  replace ha := Lib.hid ha
  go_wp2_with fail
  refine (PointOk.pointOk rx ry _).mono ?_
  rintro e w2 ⟨rfl, hb_⟩
  replace S0 := HO _ _ S0 hb_
  clear hb_
  obtain ⟨⟨_, _, _, _, _, _, _⟩, _⟩ := id S0
  cases hb : okP rx ry
  · go_wp2_with fail
    go_ret
    exact ⟨ret_bool (by rw [← HR.out]; unfold camB; rw [ha.out, hb]; rfl), S0.2⟩
  replace hb := Lib.hid hb
  go_wp2_with fail
  refine (PointOk.pointOk lx ly _).mono ?_
  rintro e w3 ⟨rfl, hb_⟩
  replace S0 := HO _ _ S0 hb_
  clear hb_
  obtain ⟨⟨_, _, _, _, _, _, _⟩, _⟩ := id S0
  cases hc : okP lx ly
  · go_wp2_with fail
    go_ret
    exact ⟨ret_bool (by rw [← HR.out]; unfold camB; rw [ha.out, hb.out, hc]; rfl), S0.2⟩
  replace hc := Lib.hid hc
  go_wp2_with fail
  refine (PointSpec.l02Turn ax ay rx ry lx ly (okP_sm ha.out) (okP_sm hb.out) (okP_sm hc.out) _).mono ?_
  rintro e w4 ⟨rfl, hb_⟩
  replace S0 := HO _ _ S0 hb_
  clear hb_
  obtain ⟨⟨_, _, _, _, _, _, _⟩, _⟩ := id S0
  have E : Hid (r = (decide (0 < turnI ax ay rx ry lx ly) && decide (1 ≤ q ∧ q ≤ 100))) := Lib.hid (by rw [← HR.out]; unfold camB; rw [ha.out, hb.out, hc.out]; rfl)
  clear HR
  generalize turnI ax ay rx ry lx ly = t at *
  by_cases h5 : 0 < t
  rotate_left
  · skip
    go_wp2_with fail
    go_ret
    exact ⟨ret_bool (by rw [E.out, show decide (0 < t) = false from decide_eq_false (by omega)]; rfl), S0.2⟩
  go_wp2_with fail
  refine (PointOk.l01In q 1 100 _).mono ?_
  rintro e w_ ⟨rfl, rfl⟩
  cases h6 : decide (1 ≤ q ∧ q ≤ 100)
  · go_wp2_with fail
    go_ret
    exact ⟨ret_bool (by rw [E.out, h6]; simp), S0.2⟩
  replace h6 := Lib.hid h6
  go_wp2_with fail
  go_ret
  exact ⟨ret_bool (by rw [E.out, show decide (0 < t) = true from decide_eq_true h5, h6.out]; rfl), S0.2⟩

set_option maxRecDepth 100000 in
set_option maxHeartbeats 3200000 in
theorem inField (ax ay rx ry lx ly q x y : Int) (w : World) :
    Calls Try.prog 18 #[.agg #[.int .i64 ax, .int .i64 ay, .int .i64 rx, .int .i64 ry, .int .i64 lx, .int .i64 ly, .int .i64 q], .agg #[.int .i64 x, .int .i64 y]] w fun e w' => e = .returned (.bool (fieldB ax ay rx ry lx ly q x y)) ∧ Below w.heap.size w w' := by
  obtain ⟨r, hr⟩ : ∃ r, fieldB ax ay rx ry lx ly q x y = r := ⟨_, rfl⟩
  have HR := Lib.hid hr
  rw [hr]
  clear hr
  go_enter Try.func18, Try.ntmps18
  go_wp2_with fail
  have X0 := (Tup7.box1 w ax ay rx ry lx ly q 29 (k := w.heap.size) (by simp)).alloc (Obj.cells #[.int .i64 x, .int .i64 y] 27)
  have X1 := PointOk.box1 (w.alloc (Obj.cells #[.int .i64 ax, .int .i64 ay, .int .i64 rx, .int .i64 ry, .int .i64 lx, .int .i64 ly, .int .i64 q] 29)) x y 27 (k := w.heap.size + 1) (by simp)
  have b0 := PointOk.below2 w (Obj.cells #[.int .i64 ax, .int .i64 ay, .int .i64 rx, .int .i64 ry, .int .i64 lx, .int .i64 ly, .int .i64 q] 29) (Obj.cells #[.int .i64 x, .int .i64 y] 27)
  have HO : ∀ W W' : World, (Tup7.Box W (w.heap.size) ax ay rx ry lx ly q ∧ PointOk.Box W (w.heap.size + 1) x y ∧ Below w.heap.size w W) → Below W.heap.size W W' → (Tup7.Box W' (w.heap.size) ax ay rx ry lx ly q ∧ PointOk.Box W' (w.heap.size + 1) x y ∧ Below w.heap.size w W') := fun W W' ⟨h0, h1, hb⟩ h => ⟨h0.later h, h1.later h, hb.trans (h.mono hb.size)⟩
  have hz0_ : Hid ((((w.alloc (Obj.cells #[.int .i64 ax, .int .i64 ay, .int .i64 rx, .int .i64 ry, .int .i64 lx, .int .i64 ly, .int .i64 q] 29)).alloc (Obj.cells #[.int .i64 x, .int .i64 y] 27))).heap.size = w.heap.size + 1 + 1) := Lib.hid (by simp)
  generalize ((w.alloc (Obj.cells #[.int .i64 ax, .int .i64 ay, .int .i64 rx, .int .i64 ry, .int .i64 lx, .int .i64 ly, .int .i64 q] 29)).alloc (Obj.cells #[.int .i64 x, .int .i64 y] 27)) = w0 at X0 X1 b0 hz0_ ⊢
  have S0 := (⟨X0, X1, b0⟩ : Tup7.Box w0 (w.heap.size) ax ay rx ry lx ly q ∧ PointOk.Box w0 (w.heap.size + 1) x y ∧ Below w.heap.size w w0)
  clear X0 X1 b0
  obtain ⟨⟨_, _, _, _, _, _, _⟩, ⟨_, _⟩, _⟩ := id S0
  have QC : Hid (∀ w, _) := Lib.hid fun w => cameraOk ax ay rx ry lx ly q w
  have QP : Hid (∀ w, _) := Lib.hid fun w => PointOk.pointOk x y w
  cases hc : camB ax ay rx ry lx ly q
  · have E : Hid (r = false) := Lib.hid (by rw [← HR.out]; unfold fieldB; rw [hc]; rfl)
    rw [hc] at QC
    clear HR hc QP
    go_wp2_with fail
    refine Settle.region (fun W => Tup7.Box W (w.heap.size) ax ay rx ry lx ly q ∧ PointOk.Box W (w.heap.size + 1) x y ∧ Below w.heap.size w W) (by kernel_rfl) (by kernel_rfl) (by kernel_rfl) (by kernel_rfl) (HO _ _ S0 ((Below.refl _ _).drew)) ?_
    clear S0
    repeat (first
      | (refine Settle.Settles.off (by rfl) ?_; simp only [Act.put, List.setIfInBounds_toArray, List.set_cons_zero, List.set_cons_succ])
      | (refine Settle.Settles.quiet (v := ?_) (by rfl) ?_ ?_
         rotate_left
         · (intro W hS; obtain ⟨⟨_, _, _, _, _, _, _⟩, ⟨_, _⟩, _⟩ := hS; go_simp; with_reducible rfl)
         simp only [Act.put, List.setIfInBounds_toArray, List.set_cons_zero, List.set_cons_succ])
      | (refine Settle.Settles.call (v := ?_) (f := ?_) (args := ?_) (by rfl) ?_ ?_ ?_
         rotate_left 3
         · (intro W; go_simp; refine ⟨?_, ?_⟩ <;> with_reducible rfl)
         · (intro W hS; first | (go_at_call 15; (with_reducible refine (QC.out _).mono ?_); rintro e W1 ⟨rfl, hb⟩; refine ⟨?_, HO _ _ hS hb⟩; with_reducible rfl))
         simp only [Act.put, List.setIfInBounds_toArray, List.set_cons_zero, List.set_cons_succ]))
    refine Settle.Settles.nil ?_
    intro wr S0
    obtain ⟨⟨_, _, _, _, _, _, _⟩, ⟨_, _⟩, _⟩ := id S0
    go_wp2_with fail
    go_ret
    exact ⟨ret_bool (E.out.symm), S0.2.2⟩
  have pc := cam_parts hc
  rw [hc] at QC
  cases ho : okP x y
  · have E : Hid (r = false) := Lib.hid (by rw [← HR.out]; unfold fieldB; rw [hc, ho]; rfl)
    rw [ho] at QP
    clear HR hc ho pc
    go_wp2_with fail
    refine Settle.region (fun W => Tup7.Box W (w.heap.size) ax ay rx ry lx ly q ∧ PointOk.Box W (w.heap.size + 1) x y ∧ Below w.heap.size w W) (by kernel_rfl) (by kernel_rfl) (by kernel_rfl) (by kernel_rfl) (HO _ _ S0 ((Below.refl _ _).drew)) ?_
    clear S0
    repeat (first
      | (refine Settle.Settles.off (by rfl) ?_; simp only [Act.put, List.setIfInBounds_toArray, List.set_cons_zero, List.set_cons_succ])
      | (refine Settle.Settles.quiet (v := ?_) (by rfl) ?_ ?_
         rotate_left
         · (intro W hS; obtain ⟨⟨_, _, _, _, _, _, _⟩, ⟨_, _⟩, _⟩ := hS; go_simp; with_reducible rfl)
         simp only [Act.put, List.setIfInBounds_toArray, List.set_cons_zero, List.set_cons_succ])
      | (refine Settle.Settles.call (v := ?_) (f := ?_) (args := ?_) (by rfl) ?_ ?_ ?_
         rotate_left 3
         · (intro W; go_simp; refine ⟨?_, ?_⟩ <;> with_reducible rfl)
         · (intro W hS; first | (go_at_call 15; (with_reducible refine (QC.out _).mono ?_); rintro e W1 ⟨rfl, hb⟩; refine ⟨?_, HO _ _ hS hb⟩; with_reducible rfl) | (go_at_call 54; (with_reducible refine (QP.out _).mono ?_); rintro e W1 ⟨rfl, hb⟩; refine ⟨?_, HO _ _ hS hb⟩; with_reducible rfl))
         simp only [Act.put, List.setIfInBounds_toArray, List.set_cons_zero, List.set_cons_succ]))
    refine Settle.Settles.nil ?_
    intro wr S0
    obtain ⟨⟨_, _, _, _, _, _, _⟩, ⟨_, _⟩, _⟩ := id S0
    go_wp2_with fail
    go_ret
    exact ⟨ret_bool (E.out.symm), S0.2.2⟩
  rw [ho] at QP
  have Q1 : Hid (∀ w, _) := Lib.hid fun w => PointSpec.l02Turn ax ay rx ry x y (okP_sm pc.1) (okP_sm pc.2.1) (okP_sm ho) w
  have Q2 : Hid (∀ w, _) := Lib.hid fun w => PointSpec.l02Turn ax ay x y lx ly (okP_sm pc.1) (okP_sm ho) (okP_sm pc.2.2.1) w
  have Q3 : Hid (∀ w, _) := Lib.hid fun w => PointSpec.squareOf ax ay x y w
  rw [show PointMath.squareOf ax ay x y = squareI ax ay x y by unfold PointMath.squareOf; rw [pc.1, ho]; rfl] at Q3
  have E : Hid (r = (decide (0 ≤ turnI ax ay rx ry x y) && decide (0 ≤ turnI ax ay x y lx ly) && decide (squareI ax ay x y ≤ q * q))) := Lib.hid (by rw [← HR.out]; unfold fieldB; rw [hc, ho]; rfl)
  have qb := mul_bound (a := q) (b := q) (n := 100) (by omega) (by omega) (by omega) (by omega)
  have u1 : IntKind.i64.wrap (q * q) = q * q := IntWalk.i64_in _ (by omega)
  generalize turnI ax ay rx ry x y = t1 at *
  generalize turnI ax ay x y lx ly = t2 at *
  generalize squareI ax ay x y = sq at *
  clear HR hc ho pc qb
  by_cases h1 : 0 ≤ t1
  rotate_left
  · have d1 : decide (0 ≤ t1) = false := decide_eq_false h1
    have E2 : Hid (r = false) := Lib.hid (by rw [E.out, d1]; rfl)
    clear E
    go_wp2_with fail
    refine Settle.region (fun W => Tup7.Box W (w.heap.size) ax ay rx ry lx ly q ∧ PointOk.Box W (w.heap.size + 1) x y ∧ Below w.heap.size w W) (by kernel_rfl) (by kernel_rfl) (by kernel_rfl) (by kernel_rfl) (HO _ _ S0 ((Below.refl _ _).drew)) ?_
    clear S0
    repeat (first
      | (refine Settle.Settles.off (by rfl) ?_; simp only [Act.put, List.setIfInBounds_toArray, List.set_cons_zero, List.set_cons_succ])
      | (refine Settle.Settles.quiet (v := ?_) (by rfl) ?_ ?_
         rotate_left
         · (intro W hS; obtain ⟨⟨_, _, _, _, _, _, _⟩, ⟨_, _⟩, _⟩ := hS; go_simp; with_reducible rfl)
         simp only [Act.put, List.setIfInBounds_toArray, List.set_cons_zero, List.set_cons_succ])
      | (refine Settle.Settles.call (v := ?_) (f := ?_) (args := ?_) (by rfl) ?_ ?_ ?_
         rotate_left 3
         · (intro W; go_simp; refine ⟨?_, ?_⟩ <;> with_reducible rfl)
         · (intro W hS; first | (go_at_call 15; (with_reducible refine (QC.out _).mono ?_); rintro e W1 ⟨rfl, hb⟩; refine ⟨?_, HO _ _ hS hb⟩; with_reducible rfl) | (go_at_call 54; (with_reducible refine (QP.out _).mono ?_); rintro e W1 ⟨rfl, hb⟩; refine ⟨?_, HO _ _ hS hb⟩; with_reducible rfl) | (go_at_call 55; (with_reducible refine (Q1.out _).mono ?_); rintro e W1 ⟨rfl, hb⟩; refine ⟨?_, HO _ _ hS hb⟩; with_reducible rfl))
         simp only [Act.put, List.setIfInBounds_toArray, List.set_cons_zero, List.set_cons_succ]))
    refine Settle.Settles.nil ?_
    intro wr S0
    obtain ⟨⟨_, _, _, _, _, _, _⟩, ⟨_, _⟩, _⟩ := id S0
    go_wp2_with fail
    go_ret
    exact ⟨ret_bool (E2.out.symm), S0.2.2⟩
  have d1 : decide (0 ≤ t1) = true := decide_eq_true h1
  by_cases h2 : 0 ≤ t2
  rotate_left
  · have d2 : decide (0 ≤ t2) = false := decide_eq_false h2
    have E2 : Hid (r = false) := Lib.hid (by rw [E.out, d2]; simp)
    clear E
    go_wp2_with fail
    refine Settle.region (fun W => Tup7.Box W (w.heap.size) ax ay rx ry lx ly q ∧ PointOk.Box W (w.heap.size + 1) x y ∧ Below w.heap.size w W) (by kernel_rfl) (by kernel_rfl) (by kernel_rfl) (by kernel_rfl) (HO _ _ S0 ((Below.refl _ _).drew)) ?_
    clear S0
    repeat (first
      | (refine Settle.Settles.off (by rfl) ?_; simp only [Act.put, List.setIfInBounds_toArray, List.set_cons_zero, List.set_cons_succ])
      | (refine Settle.Settles.quiet (v := ?_) (by rfl) ?_ ?_
         rotate_left
         · (intro W hS; obtain ⟨⟨_, _, _, _, _, _, _⟩, ⟨_, _⟩, _⟩ := hS; go_simp; with_reducible rfl)
         simp only [Act.put, List.setIfInBounds_toArray, List.set_cons_zero, List.set_cons_succ])
      | (refine Settle.Settles.call (v := ?_) (f := ?_) (args := ?_) (by rfl) ?_ ?_ ?_
         rotate_left 3
         · (intro W; go_simp; refine ⟨?_, ?_⟩ <;> with_reducible rfl)
         · (intro W hS; first | (go_at_call 15; (with_reducible refine (QC.out _).mono ?_); rintro e W1 ⟨rfl, hb⟩; refine ⟨?_, HO _ _ hS hb⟩; with_reducible rfl) | (go_at_call 54; (with_reducible refine (QP.out _).mono ?_); rintro e W1 ⟨rfl, hb⟩; refine ⟨?_, HO _ _ hS hb⟩; with_reducible rfl) | (go_at_call 55; (with_reducible refine (Q1.out _).mono ?_); rintro e W1 ⟨rfl, hb⟩; refine ⟨?_, HO _ _ hS hb⟩; with_reducible rfl) | (go_at_call 55; (with_reducible refine (Q2.out _).mono ?_); rintro e W1 ⟨rfl, hb⟩; refine ⟨?_, HO _ _ hS hb⟩; with_reducible rfl))
         simp only [Act.put, List.setIfInBounds_toArray, List.set_cons_zero, List.set_cons_succ]))
    refine Settle.Settles.nil ?_
    intro wr S0
    obtain ⟨⟨_, _, _, _, _, _, _⟩, ⟨_, _⟩, _⟩ := id S0
    go_wp2_with fail
    go_ret
    exact ⟨ret_bool (E2.out.symm), S0.2.2⟩
  have d2 : decide (0 ≤ t2) = true := decide_eq_true h2
  have E2 : Hid (r = decide (sq ≤ q * q)) := Lib.hid (by rw [E.out, d1, d2]; rfl)
  clear E
  go_wp2_with fail
  refine Settle.region (fun W => Tup7.Box W (w.heap.size) ax ay rx ry lx ly q ∧ PointOk.Box W (w.heap.size + 1) x y ∧ Below w.heap.size w W) (by kernel_rfl) (by kernel_rfl) (by kernel_rfl) (by kernel_rfl) (HO _ _ S0 ((Below.refl _ _).drew)) ?_
  clear S0
  repeat (first
    | (refine Settle.Settles.off (by rfl) ?_; simp only [Act.put, List.setIfInBounds_toArray, List.set_cons_zero, List.set_cons_succ])
    | (refine Settle.Settles.quiet (v := ?_) (by rfl) ?_ ?_
       rotate_left
       · (intro W hS; obtain ⟨⟨_, _, _, _, _, _, _⟩, ⟨_, _⟩, _⟩ := hS; go_simp; with_reducible rfl)
       simp only [Act.put, List.setIfInBounds_toArray, List.set_cons_zero, List.set_cons_succ])
    | (refine Settle.Settles.call (v := ?_) (f := ?_) (args := ?_) (by rfl) ?_ ?_ ?_
       rotate_left 3
       · (intro W; go_simp; refine ⟨?_, ?_⟩ <;> with_reducible rfl)
       · (intro W hS; first | (go_at_call 15; (with_reducible refine (QC.out _).mono ?_); rintro e W1 ⟨rfl, hb⟩; refine ⟨?_, HO _ _ hS hb⟩; with_reducible rfl) | (go_at_call 54; (with_reducible refine (QP.out _).mono ?_); rintro e W1 ⟨rfl, hb⟩; refine ⟨?_, HO _ _ hS hb⟩; with_reducible rfl) | (go_at_call 55; (with_reducible refine (Q1.out _).mono ?_); rintro e W1 ⟨rfl, hb⟩; refine ⟨?_, HO _ _ hS hb⟩; with_reducible rfl) | (go_at_call 55; (with_reducible refine (Q2.out _).mono ?_); rintro e W1 ⟨rfl, hb⟩; refine ⟨?_, HO _ _ hS hb⟩; with_reducible rfl) | (go_at_call 58; (with_reducible refine (Q3.out _).mono ?_); rintro e W1 ⟨rfl, hb⟩; refine ⟨?_, HO _ _ hS hb⟩; with_reducible rfl))
       simp only [Act.put, List.setIfInBounds_toArray, List.set_cons_zero, List.set_cons_succ]))
  refine Settle.Settles.nil ?_
  intro wr S0
  obtain ⟨⟨_, _, _, _, _, _, _⟩, ⟨_, _⟩, _⟩ := id S0
  go_wp2_with fail
  go_ret
  exact ⟨ret_bool (E2.out.symm), S0.2.2⟩

end Go.Proofs.Ytonbpmabmjhdgaa.TrackSpec

