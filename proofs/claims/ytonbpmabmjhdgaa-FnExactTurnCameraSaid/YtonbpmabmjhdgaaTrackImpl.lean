/-
  What the functions on frames, sightings and cameras do, as contracts: what each answers; new memory alone is written.
-/
import Derived.Test.YtonbpmabmjhdgaaPointImpl
import Derived.Test.YtonbpmabmjhdgaaTrackMath
import Derived.Test.YtonbpmabmjhdgaaTup3
import Derived.Test.YtonbpmabmjhdgaaTup7
import Derived.Test.YtonbpmabmjhdgaaGround
import Derived.Laws.EntriesVeiled
namespace Go.Proofs.Ytonbpmabmjhdgaa.TrackImpl
open Go.RowKit PointMath TrackMath
open PointOk (ret_bool ret_i64 below1 below2 below3)

theorem isUpTo (n L : Int) (w : World) : Calls Try.prog 64 #[.int .i64 n, .int .i64 L] w fun e w' => e = .returned (.bool (decide (0 ≤ n ∧ n ≤ L))) ∧ w = w' := by
  obtain ⟨r, hr⟩ : ∃ r, decide (0 ≤ n ∧ n ≤ L) = r := ⟨_, rfl⟩
  rw [hr]
  replace hr := Lib.hid hr
  by_cases h1 : 0 ≤ n
  · by_cases h2 : n ≤ L
    · go_enter Try.func64, Try.ntmps64
      go_wp2_with fail
      go_ret
      exact ⟨ret_bool (by rw [← hr.out]; exact (decide_eq_true (by omega)).symm), rfl⟩
    · go_enter Try.func64, Try.ntmps64
      go_wp2_with fail
      go_ret
      exact ⟨ret_bool (by rw [← hr.out]; exact (decide_eq_false (by omega)).symm), rfl⟩
  · go_enter Try.func64, Try.ntmps64
    go_wp2_with fail
    go_ret
    exact ⟨ret_bool (by rw [← hr.out]; exact (decide_eq_false (by omega)).symm), rfl⟩

theorem isSpeed (n : Int) (w : World) : Calls Try.prog 68 #[.int .i64 n] w fun e w' => e = .returned (.bool (speedB n)) ∧ w = w' := by
  obtain ⟨r, hr⟩ : ∃ r, speedB n = r := ⟨_, rfl⟩
  rw [hr]
  replace hr := Lib.hid hr
  by_cases h1 : 1 ≤ n
  · by_cases h2 : n ≤ 20
    · go_enter Try.func68, Try.ntmps68
      go_wp2_with fail
      go_ret
      exact ⟨ret_bool (by rw [← hr.out]; unfold speedB; exact (decide_eq_true (by omega)).symm), rfl⟩
    · go_enter Try.func68, Try.ntmps68
      go_wp2_with fail
      go_ret
      exact ⟨ret_bool (by rw [← hr.out]; unfold speedB; exact (decide_eq_false (by omega)).symm), rfl⟩
  · go_enter Try.func68, Try.ntmps68
    go_wp2_with fail
    go_ret
    exact ⟨ret_bool (by rw [← hr.out]; unfold speedB; exact (decide_eq_false (by omega)).symm), rfl⟩

theorem frameOk (a b c : Int) (w : World) :
    Calls Try.prog 26 #[.agg #[.int .i64 a, .int .i64 b, .int .i64 c]] w fun e w' => e = .returned (.bool (frameB a b c)) ∧ Below w.heap.size w w' := by
  go_enter Try.func26, Try.ntmps26
  go_wp2_with fail
  have X0 := Tup3.box1 w a b c 41 (k := w.heap.size) (by simp)
  have b0 := PointOk.below1 w (Obj.cells #[.int .i64 a, .int .i64 b, .int .i64 c] 41)
  have HO : ∀ W W' : World, (Tup3.Box W (w.heap.size) a b c ∧ Below w.heap.size w W) → Below W.heap.size W W' → (Tup3.Box W' (w.heap.size) a b c ∧ Below w.heap.size w W') := fun W W' ⟨h0, hb⟩ h => ⟨h0.later h, hb.trans (h.mono hb.size)⟩
  have hz0_ : Hid (((w.alloc (Obj.cells #[.int .i64 a, .int .i64 b, .int .i64 c] 41))).heap.size = w.heap.size + 1) := Lib.hid (by simp)
  generalize (w.alloc (Obj.cells #[.int .i64 a, .int .i64 b, .int .i64 c] 41)) = w0 at X0 b0 hz0_ ⊢
  have S0 := (⟨X0, b0⟩ : Tup3.Box w0 (w.heap.size) a b c ∧ Below w.heap.size w w0)
  clear X0 b0
  obtain ⟨⟨_, _, _⟩, _⟩ := id S0
  refine (isUpTo a 100000 _).mono ?_
  rintro e w_ ⟨rfl, rfl⟩
  cases h0 : decide (0 ≤ a ∧ a ≤ 100000)
  · go_wp2_with fail
    go_ret
    exact ⟨ret_bool (by unfold frameB; rw [h0]; rfl), S0.2⟩
  replace h0 := Lib.hid h0
  go_wp2_with fail
  refine (isUpTo b 1000000 _).mono ?_
  rintro e w_ ⟨rfl, rfl⟩
  cases h1 : decide (0 ≤ b ∧ b ≤ 1000000)
  · go_wp2_with fail
    go_ret
    exact ⟨ret_bool (by unfold frameB; rw [h0.out, h1]; rfl), S0.2⟩
  replace h1 := Lib.hid h1
  go_wp2_with fail
  refine (isUpTo c 999999 _).mono ?_
  rintro e w_ ⟨rfl, rfl⟩
  cases h2 : decide (0 ≤ c ∧ c ≤ 999999)
  · go_wp2_with fail
    go_ret
    exact ⟨ret_bool (by unfold frameB; rw [h0.out, h1.out, h2]; rfl), S0.2⟩
  replace h2 := Lib.hid h2
  go_wp2_with fail
  go_ret
  exact ⟨ret_bool (by unfold frameB; rw [h0.out, h1.out, h2.out]; rfl), S0.2⟩

theorem sightingOk (t x y : Int) (w : World) :
    Calls Try.prog 44 #[.agg #[.int .i64 t, .int .i64 x, .int .i64 y]] w fun e w' => e = .returned (.bool (sightB t x y)) ∧ Below w.heap.size w w' := by
  go_enter Try.func44, Try.ntmps44
  go_wp2_with fail
  have X0 := Tup3.box1 w t x y 63 (k := w.heap.size) (by simp)
  have b0 := PointOk.below1 w (Obj.cells #[.int .i64 t, .int .i64 x, .int .i64 y] 63)
  have HO : ∀ W W' : World, (Tup3.Box W (w.heap.size) t x y ∧ Below w.heap.size w W) → Below W.heap.size W W' → (Tup3.Box W' (w.heap.size) t x y ∧ Below w.heap.size w W') := fun W W' ⟨h0, hb⟩ h => ⟨h0.later h, hb.trans (h.mono hb.size)⟩
  have hz0_ : Hid (((w.alloc (Obj.cells #[.int .i64 t, .int .i64 x, .int .i64 y] 63))).heap.size = w.heap.size + 1) := Lib.hid (by simp)
  generalize (w.alloc (Obj.cells #[.int .i64 t, .int .i64 x, .int .i64 y] 63)) = w0 at X0 b0 hz0_ ⊢
  have S0 := (⟨X0, b0⟩ : Tup3.Box w0 (w.heap.size) t x y ∧ Below w.heap.size w w0)
  clear X0 b0
  obtain ⟨⟨_, _, _⟩, _⟩ := id S0
  refine (isUpTo t 1000 _).mono ?_
  rintro e w_ ⟨rfl, rfl⟩
  cases h0 : decide (0 ≤ t ∧ t ≤ 1000)
  · go_wp2_with fail
    go_ret
    exact ⟨ret_bool (by unfold sightB; rw [h0]; rfl), S0.2⟩
  replace h0 := Lib.hid h0
  go_wp2_with fail
  refine (PointOkImpl.pointOk x y _).mono ?_
  rintro e w2 ⟨rfl, hb_⟩
  replace S0 := HO _ _ S0 hb_
  clear hb_
  obtain ⟨⟨_, _, _⟩, _⟩ := id S0
  go_wp2_with fail
  go_ret
  exact ⟨ret_bool (by unfold sightB; rw [h0.out]; rfl), S0.2⟩

set_option maxHeartbeats 1600000 in
theorem canBeSame (t x y t2 x2 y2 s : Int) (w : World) :
    Calls Try.prog 46 #[.agg #[.int .i64 t, .int .i64 x, .int .i64 y], .agg #[.int .i64 t2, .int .i64 x2, .int .i64 y2], .int .i64 s] w fun e w' => e = .returned (.bool (sameB t x y t2 x2 y2 s)) ∧ Below w.heap.size w w' := by
  obtain ⟨r, hr⟩ : ∃ r, sameB t x y t2 x2 y2 s = r := ⟨_, rfl⟩
  have HR := Lib.hid hr
  rw [hr]
  clear hr
  by_cases h4 : t < t2
  rotate_left
  · have n4 : t2 ≤ t := by omega
    go_enter Try.func46, Try.ntmps46
    go_wp2_with fail
    have X0 := (Tup3.box1 w t x y 63 (k := w.heap.size) (by simp)).alloc (Obj.cells #[.int .i64 t2, .int .i64 x2, .int .i64 y2] 63)
    have X1 := Tup3.box1 (w.alloc (Obj.cells #[.int .i64 t, .int .i64 x, .int .i64 y] 63)) t2 x2 y2 63 (k := w.heap.size + 1) (by simp)
    have b0 := PointOk.below2 w (Obj.cells #[.int .i64 t, .int .i64 x, .int .i64 y] 63) (Obj.cells #[.int .i64 t2, .int .i64 x2, .int .i64 y2] 63)
    have HO : ∀ W W' : World, (Tup3.Box W (w.heap.size) t x y ∧ Tup3.Box W (w.heap.size + 1) t2 x2 y2 ∧ Below w.heap.size w W) → Below W.heap.size W W' → (Tup3.Box W' (w.heap.size) t x y ∧ Tup3.Box W' (w.heap.size + 1) t2 x2 y2 ∧ Below w.heap.size w W') := fun W W' ⟨h0, h1, hb⟩ h => ⟨h0.later h, h1.later h, hb.trans (h.mono hb.size)⟩
    have hz0_ : Hid ((((w.alloc (Obj.cells #[.int .i64 t, .int .i64 x, .int .i64 y] 63)).alloc (Obj.cells #[.int .i64 t2, .int .i64 x2, .int .i64 y2] 63))).heap.size = w.heap.size + 1 + 1) := Lib.hid (by simp)
    generalize ((w.alloc (Obj.cells #[.int .i64 t, .int .i64 x, .int .i64 y] 63)).alloc (Obj.cells #[.int .i64 t2, .int .i64 x2, .int .i64 y2] 63)) = w0 at X0 X1 b0 hz0_ ⊢
    have S0 := (⟨X0, X1, b0⟩ : Tup3.Box w0 (w.heap.size) t x y ∧ Tup3.Box w0 (w.heap.size + 1) t2 x2 y2 ∧ Below w.heap.size w w0)
    clear X0 X1 b0
    obtain ⟨⟨_, _, _⟩, ⟨_, _, _⟩, _⟩ := id S0
    refine (sightingOk t x y _).mono ?_
    rintro e w1 ⟨rfl, hb_⟩
    replace S0 := HO _ _ S0 hb_
    clear hb_
    obtain ⟨⟨_, _, _⟩, ⟨_, _, _⟩, _⟩ := id S0
    cases h1 : sightB t x y
    · go_wp2_with fail
      go_ret
      exact ⟨ret_bool (by rw [← HR.out]; unfold sameB; rw [h1]; rfl), S0.2.2⟩
    replace h1 := Lib.hid h1
    go_wp2_with fail
    refine (sightingOk t2 x2 y2 _).mono ?_
    rintro e w2 ⟨rfl, hb_⟩
    replace S0 := HO _ _ S0 hb_
    clear hb_
    obtain ⟨⟨_, _, _⟩, ⟨_, _, _⟩, _⟩ := id S0
    cases h2 : sightB t2 x2 y2
    · go_wp2_with fail
      go_ret
      exact ⟨ret_bool (by rw [← HR.out]; unfold sameB; rw [h1.out, h2]; rfl), S0.2.2⟩
    replace h2 := Lib.hid h2
    go_wp2_with fail
    refine (isSpeed s _).mono ?_
    rintro e w_ ⟨rfl, rfl⟩
    cases h3 : speedB s
    · go_wp2_with fail
      go_ret
      exact ⟨ret_bool (by rw [← HR.out]; unfold sameB; rw [h1.out, h2.out, h3]; rfl), S0.2.2⟩
    replace h3 := Lib.hid h3
    go_wp2_with fail
    go_ret
    exact ⟨ret_bool (by rw [← HR.out]; unfold sameB; rw [show decide (t < t2) = false from decide_eq_false (by omega)]; simp), S0.2.2⟩
  have n4 : ¬ t2 ≤ t := by omega
  go_enter Try.func46, Try.ntmps46
  go_wp2_with fail
  have X0 := (Tup3.box1 w t x y 63 (k := w.heap.size) (by simp)).alloc (Obj.cells #[.int .i64 t2, .int .i64 x2, .int .i64 y2] 63)
  have X1 := Tup3.box1 (w.alloc (Obj.cells #[.int .i64 t, .int .i64 x, .int .i64 y] 63)) t2 x2 y2 63 (k := w.heap.size + 1) (by simp)
  have b0 := PointOk.below2 w (Obj.cells #[.int .i64 t, .int .i64 x, .int .i64 y] 63) (Obj.cells #[.int .i64 t2, .int .i64 x2, .int .i64 y2] 63)
  have HO : ∀ W W' : World, (Tup3.Box W (w.heap.size) t x y ∧ Tup3.Box W (w.heap.size + 1) t2 x2 y2 ∧ Below w.heap.size w W) → Below W.heap.size W W' → (Tup3.Box W' (w.heap.size) t x y ∧ Tup3.Box W' (w.heap.size + 1) t2 x2 y2 ∧ Below w.heap.size w W') := fun W W' ⟨h0, h1, hb⟩ h => ⟨h0.later h, h1.later h, hb.trans (h.mono hb.size)⟩
  have hz0_ : Hid ((((w.alloc (Obj.cells #[.int .i64 t, .int .i64 x, .int .i64 y] 63)).alloc (Obj.cells #[.int .i64 t2, .int .i64 x2, .int .i64 y2] 63))).heap.size = w.heap.size + 1 + 1) := Lib.hid (by simp)
  generalize ((w.alloc (Obj.cells #[.int .i64 t, .int .i64 x, .int .i64 y] 63)).alloc (Obj.cells #[.int .i64 t2, .int .i64 x2, .int .i64 y2] 63)) = w0 at X0 X1 b0 hz0_ ⊢
  have S0 := (⟨X0, X1, b0⟩ : Tup3.Box w0 (w.heap.size) t x y ∧ Tup3.Box w0 (w.heap.size + 1) t2 x2 y2 ∧ Below w.heap.size w w0)
  clear X0 X1 b0
  obtain ⟨⟨_, _, _⟩, ⟨_, _, _⟩, _⟩ := id S0
  refine (sightingOk t x y _).mono ?_
  rintro e w4 ⟨rfl, hb_⟩
  replace S0 := HO _ _ S0 hb_
  clear hb_
  obtain ⟨⟨_, _, _⟩, ⟨_, _, _⟩, _⟩ := id S0
  cases h1 : sightB t x y
  · go_wp2_with fail
    go_ret
    exact ⟨ret_bool (by rw [← HR.out]; unfold sameB; rw [h1]; rfl), S0.2.2⟩
  replace h1 := Lib.hid h1
  go_wp2_with fail
  refine (sightingOk t2 x2 y2 _).mono ?_
  rintro e w5 ⟨rfl, hb_⟩
  replace S0 := HO _ _ S0 hb_
  clear hb_
  obtain ⟨⟨_, _, _⟩, ⟨_, _, _⟩, _⟩ := id S0
  cases h2 : sightB t2 x2 y2
  · go_wp2_with fail
    go_ret
    exact ⟨ret_bool (by rw [← HR.out]; unfold sameB; rw [h1.out, h2]; rfl), S0.2.2⟩
  replace h2 := Lib.hid h2
  go_wp2_with fail
  refine (isSpeed s _).mono ?_
  rintro e w_ ⟨rfl, rfl⟩
  cases h3 : speedB s
  · skip
    go_wp2_with fail
    go_ret
    exact ⟨ret_bool (by rw [← HR.out]; unfold sameB; rw [h1.out, h2.out, h3]; rfl), S0.2.2⟩
  have p1 := sight_parts h1.out
  have p2 := sight_parts h2.out
  have p3 : 1 ≤ s ∧ s ≤ 20 := of_decide_eq_true h3
  have rb := reach_bound (s := s) (d := t2 - t) p3 (by omega)
  have rs := reach_square rb
  have u1 : IntKind.i64.wrap (t2 - t) = t2 - t := IntWalk.i64_in _ (by omega)
  have u2 : IntKind.i64.wrap (s * (t2 - t)) = s * (t2 - t) := IntWalk.i64_in _ (by omega)
  have E : Hid (r = decide (squareI x y x2 y2 ≤ s * (t2 - t) * (s * (t2 - t)))) := Lib.hid (by
    rw [← HR.out]; unfold sameB
    rw [h1.out, h2.out, show speedB s = true from h3, show decide (t < t2) = true from decide_eq_true h4]; rfl)
  clear HR
  have QS : Hid (∀ w, _) := Lib.hid fun w => PointImpl.squareOf x y x2 y2 w
  rw [show PointMath.squareOf x y x2 y2 = squareI x y x2 y2 by unfold PointMath.squareOf; rw [p1.2, p2.2]; rfl] at QS
  generalize squareI x y x2 y2 = sq at *
  obtain ⟨q, hq⟩ : ∃ q, s * (t2 - t) = q := ⟨_, rfl⟩
  rw [hq] at u2 E rs
  have u3 : IntKind.i64.wrap (q * q) = q * q := IntWalk.i64_in _ (by omega)
  clear h1 h2 p1 p2 p3 h3 rb rs h4
  go_wp2_with fail
  refine (QS.out _).mono ?_
  rintro e w7 ⟨rfl, hb_⟩
  replace S0 := HO _ _ S0 hb_
  clear hb_
  obtain ⟨⟨_, _, _⟩, ⟨_, _, _⟩, _⟩ := id S0
  go_wp2_with fail
  go_ret
  exact ⟨ret_bool E.out.symm, S0.2.2⟩

set_option maxHeartbeats 1600000 in
theorem cameraOk (ax ay rx ry lx ly q : Int) (w : World) :
    Calls Try.prog 17 #[.agg #[.int .i64 ax, .int .i64 ay, .int .i64 rx, .int .i64 ry, .int .i64 lx, .int .i64 ly, .int .i64 q]] w fun e w' => e = .returned (.bool (camB ax ay rx ry lx ly q)) ∧ Below w.heap.size w w' := by
  obtain ⟨r, hr⟩ : ∃ r, camB ax ay rx ry lx ly q = r := ⟨_, rfl⟩
  have HR := Lib.hid hr
  rw [hr]
  clear hr
  have E := Lib.hid (HR.out.symm.trans (cam_turn ax ay rx ry lx ly q))
  clear HR
  go_enter Try.func17, Try.ntmps17
  go_wp2_with fail
  have X0 := Tup7.box1 w ax ay rx ry lx ly q 29 (k := w.heap.size) (by simp)
  have b0 := PointOk.below1 w (Obj.cells #[.int .i64 ax, .int .i64 ay, .int .i64 rx, .int .i64 ry, .int .i64 lx, .int .i64 ly, .int .i64 q] 29)
  have HO : ∀ W W' : World, (Tup7.Box W (w.heap.size) ax ay rx ry lx ly q ∧ Below w.heap.size w W) → Below W.heap.size W W' → (Tup7.Box W' (w.heap.size) ax ay rx ry lx ly q ∧ Below w.heap.size w W') := fun W W' ⟨h0, hb⟩ h => ⟨h0.later h, hb.trans (h.mono hb.size)⟩
  have hz0_ : Hid (((w.alloc (Obj.cells #[.int .i64 ax, .int .i64 ay, .int .i64 rx, .int .i64 ry, .int .i64 lx, .int .i64 ly, .int .i64 q] 29))).heap.size = w.heap.size + 1) := Lib.hid (by simp)
  generalize (w.alloc (Obj.cells #[.int .i64 ax, .int .i64 ay, .int .i64 rx, .int .i64 ry, .int .i64 lx, .int .i64 ly, .int .i64 q] 29)) = w0 at X0 b0 hz0_ ⊢
  have S0 := (⟨X0, b0⟩ : Tup7.Box w0 (w.heap.size) ax ay rx ry lx ly q ∧ Below w.heap.size w w0)
  clear X0 b0
  obtain ⟨⟨_, _, _, _, _, _, _⟩, _⟩ := id S0
  refine (PointImpl.turnOf ax ay rx ry lx ly _).mono ?_
  rintro e w1 ⟨rfl, hb_⟩
  replace S0 := HO _ _ S0 hb_
  clear hb_
  obtain ⟨⟨_, _, _, _, _, _, _⟩, _⟩ := id S0
  generalize PointMath.turnOf ax ay rx ry lx ly = t at *
  by_cases h5 : 0 < t
  rotate_left
  · skip
    go_wp2_with fail
    go_ret
    exact ⟨ret_bool (by rw [E.out, show decide (0 < t) = false from decide_eq_false (by omega)]; rfl), S0.2⟩
  by_cases h6 : 1 ≤ q
  rotate_left
  · skip
    go_wp2_with fail
    go_ret
    exact ⟨ret_bool (by rw [E.out, show decide (1 ≤ q) = false from decide_eq_false (by omega)]; simp), S0.2⟩
  by_cases h7 : q ≤ 100
  rotate_left
  · skip
    go_wp2_with fail
    go_ret
    exact ⟨ret_bool (by rw [E.out, show decide (q ≤ 100) = false from decide_eq_false (by omega)]; simp), S0.2⟩
  go_wp2_with fail
  go_ret
  exact ⟨ret_bool (by rw [E.out, show decide (0 < t) = true from decide_eq_true h5, show decide (1 ≤ q) = true from decide_eq_true h6, show decide (q ≤ 100) = true from decide_eq_true h7]; rfl), S0.2⟩

/-- A camera that lies in a block of its own. -/
def CamAt (w : World) (c : Nat) (ax ay rx ry lx ly q : Int) : Prop := Tup7.Box w c ax ay rx ry lx ly q

set_option maxRecDepth 100000 in
set_option maxHeartbeats 3200000 in
theorem shows (C : Nat) (ax ay rx ry lx ly q x y : Int) (w : World) (hc : camB ax ay rx ry lx ly q = true) (ho : okP x y = true) (h1 : Tup7.Box w C ax ay rx ry lx ly q) :
    Calls Try.prog 76 #[.agg #[.int .i64 x, .int .i64 y], .pointer (some ⟨C, 0, none⟩)] w fun e w' => e = .returned (.bool (fieldB ax ay rx ry lx ly q x y)) ∧ Below w.heap.size w w' := by
  obtain ⟨r, hr⟩ : ∃ r, fieldB ax ay rx ry lx ly q x y = r := ⟨_, rfl⟩
  have HR := Lib.hid hr
  rw [hr]
  clear hr
  have pc := cam_parts hc
  have Q1 : Hid (∀ w, _) := Lib.hid fun w => PointImpl.turn ax ay rx ry x y (okP_sm pc.1) (okP_sm pc.2.1) (okP_sm ho) w
  have Q2 : Hid (∀ w, _) := Lib.hid fun w => PointImpl.turn ax ay x y lx ly (okP_sm pc.1) (okP_sm ho) (okP_sm pc.2.2.1) w
  have Q3 : Hid (∀ w, _) := Lib.hid fun w => PointImpl.squareOf ax ay x y w
  rw [show PointMath.squareOf ax ay x y = squareI ax ay x y by unfold PointMath.squareOf; rw [pc.1, ho]; rfl] at Q3
  have E : Hid (r = (decide (0 ≤ turnI ax ay rx ry x y) && decide (0 ≤ turnI ax ay x y lx ly) && decide (squareI ax ay x y ≤ q * q))) := Lib.hid (by rw [← HR.out]; unfold fieldB; rw [hc, ho]; rfl)
  have qb := mul_bound (a := q) (b := q) (n := 100) (by omega) (by omega) (by omega) (by omega)
  have u1 : IntKind.i64.wrap (q * q) = q * q := IntWalk.i64_in _ (by omega)
  generalize turnI ax ay rx ry x y = t1 at *
  generalize turnI ax ay x y lx ly = t2 at *
  generalize squareI ax ay x y = sq at *
  clear HR hc ho pc qb
  have h1b := h1.later (below1 w (Obj.cells #[.int .i64 x, .int .i64 y] 27))
  obtain ⟨_, _, _, _, _, _, _⟩ := h1b
  have x0_ := PointOk.box1 w x y 27 (k := w.heap.size) rfl
  obtain ⟨_, _⟩ := id x0_
  go_enter Try.func76, Try.ntmps76
  go_wp2_with fail
  have X0 := PointOk.box1 w x y 27 (k := w.heap.size) (by simp)
  have b0 := PointOk.below1 w (Obj.cells #[.int .i64 x, .int .i64 y] 27)
  have HO : ∀ W W' : World, (PointOk.Box W (w.heap.size) x y ∧ Tup7.Box W C ax ay rx ry lx ly q ∧ Below w.heap.size w W) → Below W.heap.size W W' → (PointOk.Box W' (w.heap.size) x y ∧ Tup7.Box W' C ax ay rx ry lx ly q ∧ Below w.heap.size w W') := fun W W' ⟨h0, x0, hb⟩ h => ⟨h0.later h, x0.later h, hb.trans (h.mono hb.size)⟩
  have hz0_ : Hid (((w.alloc (Obj.cells #[.int .i64 x, .int .i64 y] 27))).heap.size = w.heap.size + 1) := Lib.hid (by simp)
  have Y0 : Tup7.Box ((w.alloc (Obj.cells #[.int .i64 x, .int .i64 y] 27))) C ax ay rx ry lx ly q := h1.later b0
  generalize (w.alloc (Obj.cells #[.int .i64 x, .int .i64 y] 27)) = w0 at X0 Y0 b0 hz0_ ⊢
  have S0 := (⟨X0, Y0, b0⟩ : PointOk.Box w0 (w.heap.size) x y ∧ Tup7.Box w0 C ax ay rx ry lx ly q ∧ Below w.heap.size w w0)
  clear X0 Y0 b0
  obtain ⟨⟨_, _⟩, ⟨_, _, _, _, _, _, _⟩, _⟩ := id S0
  clear h1
  refine (Q1.out _).mono ?_
  rintro e w1 ⟨rfl, hb_⟩
  replace S0 := HO _ _ S0 hb_
  clear hb_
  obtain ⟨⟨_, _⟩, ⟨_, _, _, _, _, _, _⟩, _⟩ := id S0
  by_cases h1 : 0 ≤ t1
  rotate_left
  · have d1 : decide (0 ≤ t1) = false := decide_eq_false h1
    have E2 : Hid (r = false) := Lib.hid (by rw [E.out, d1]; rfl)
    clear E
    go_wp2_with fail
    refine Settle.region (fun W => PointOk.Box W (w.heap.size) x y ∧ Tup7.Box W C ax ay rx ry lx ly q ∧ Below w.heap.size w W) (by kernel_rfl) (by kernel_rfl) (by kernel_rfl) (by kernel_rfl) (HO _ _ S0 ((Below.refl _ _).drew)) ?_
    clear S0
    repeat (first
      | (refine Settle.Settles.off (by rfl) ?_; simp only [Act.put, List.setIfInBounds_toArray, List.set_cons_zero, List.set_cons_succ])
      | (refine Settle.Settles.quiet (v := ?_) (by rfl) ?_ ?_
         rotate_left
         · (intro W hS; obtain ⟨⟨_, _⟩, ⟨_, _, _, _, _, _, _⟩, _⟩ := hS; go_simp; with_reducible rfl)
         simp only [Act.put, List.setIfInBounds_toArray, List.set_cons_zero, List.set_cons_succ])
      | (refine Settle.Settles.call (v := ?_) (f := ?_) (args := ?_) (by rfl) ?_ ?_ ?_
         rotate_left 3
         · (intro W; go_simp; refine ⟨?_, ?_⟩ <;> with_reducible rfl)
         · (intro W hS; fail)
         simp only [Act.put, List.setIfInBounds_toArray, List.set_cons_zero, List.set_cons_succ]))
    refine Settle.Settles.nil ?_
    intro wr S0
    obtain ⟨⟨_, _⟩, ⟨_, _, _, _, _, _, _⟩, _⟩ := id S0
    go_wp2_with fail
    go_ret
    exact ⟨ret_bool E2.out.symm, S0.2.2⟩
  have d1 : decide (0 ≤ t1) = true := decide_eq_true h1
  go_wp2_with fail
  refine (Q2.out _).mono ?_
  rintro e w2 ⟨rfl, hb_⟩
  replace S0 := HO _ _ S0 hb_
  clear hb_
  obtain ⟨⟨_, _⟩, ⟨_, _, _, _, _, _, _⟩, _⟩ := id S0
  by_cases h2 : 0 ≤ t2
  rotate_left
  · have d2 : decide (0 ≤ t2) = false := decide_eq_false h2
    have E2 : Hid (r = false) := Lib.hid (by rw [E.out, d2]; simp)
    clear E
    go_wp2_with fail
    refine Settle.region (fun W => PointOk.Box W (w.heap.size) x y ∧ Tup7.Box W C ax ay rx ry lx ly q ∧ Below w.heap.size w W) (by kernel_rfl) (by kernel_rfl) (by kernel_rfl) (by kernel_rfl) (HO _ _ S0 ((Below.refl _ _).drew)) ?_
    clear S0
    repeat (first
      | (refine Settle.Settles.off (by rfl) ?_; simp only [Act.put, List.setIfInBounds_toArray, List.set_cons_zero, List.set_cons_succ])
      | (refine Settle.Settles.quiet (v := ?_) (by rfl) ?_ ?_
         rotate_left
         · (intro W hS; obtain ⟨⟨_, _⟩, ⟨_, _, _, _, _, _, _⟩, _⟩ := hS; go_simp; with_reducible rfl)
         simp only [Act.put, List.setIfInBounds_toArray, List.set_cons_zero, List.set_cons_succ])
      | (refine Settle.Settles.call (v := ?_) (f := ?_) (args := ?_) (by rfl) ?_ ?_ ?_
         rotate_left 3
         · (intro W; go_simp; refine ⟨?_, ?_⟩ <;> with_reducible rfl)
         · (intro W hS; fail)
         simp only [Act.put, List.setIfInBounds_toArray, List.set_cons_zero, List.set_cons_succ]))
    refine Settle.Settles.nil ?_
    intro wr S0
    obtain ⟨⟨_, _⟩, ⟨_, _, _, _, _, _, _⟩, _⟩ := id S0
    go_wp2_with fail
    go_ret
    exact ⟨ret_bool E2.out.symm, S0.2.2⟩
  have d2 : decide (0 ≤ t2) = true := decide_eq_true h2
  have E2 : Hid (r = decide (sq ≤ q * q)) := Lib.hid (by rw [E.out, d1, d2]; rfl)
  clear E
  go_wp2_with fail
  refine Settle.region (fun W => PointOk.Box W (w.heap.size) x y ∧ Tup7.Box W C ax ay rx ry lx ly q ∧ Below w.heap.size w W) (by kernel_rfl) (by kernel_rfl) (by kernel_rfl) (by kernel_rfl) (HO _ _ S0 ((Below.refl _ _).drew)) ?_
  clear S0
  repeat (first
    | (refine Settle.Settles.off (by rfl) ?_; simp only [Act.put, List.setIfInBounds_toArray, List.set_cons_zero, List.set_cons_succ])
    | (refine Settle.Settles.quiet (v := ?_) (by rfl) ?_ ?_
       rotate_left
       · (intro W hS; obtain ⟨⟨_, _⟩, ⟨_, _, _, _, _, _, _⟩, _⟩ := hS; go_simp; with_reducible rfl)
       simp only [Act.put, List.setIfInBounds_toArray, List.set_cons_zero, List.set_cons_succ])
    | (refine Settle.Settles.call (v := ?_) (f := ?_) (args := ?_) (by rfl) ?_ ?_ ?_
       rotate_left 3
       · (intro W; go_simp; refine ⟨?_, ?_⟩ <;> with_reducible rfl)
       · (intro W hS; first | (go_at_call 69; (with_reducible refine (Q3.out _).mono ?_); rintro e W1 ⟨rfl, hb⟩; refine ⟨?_, HO _ _ hS hb⟩; with_reducible rfl))
       simp only [Act.put, List.setIfInBounds_toArray, List.set_cons_zero, List.set_cons_succ]))
  refine Settle.Settles.nil ?_
  intro wr S0
  obtain ⟨⟨_, _⟩, ⟨_, _, _, _, _, _, _⟩, _⟩ := id S0
  go_wp2_with fail
  go_ret
  exact ⟨ret_bool E2.out.symm, S0.2.2⟩

/-- A lens came back that shows the camera's field. -/
def Lens (w : World) (ax ay rx ry lx ly q : Int) (en : Ending) (w' : World) : Prop :=
  ∃ C, en = .returned (.agg #[.func (.func 76) #[] #[.pointer (some ⟨C, 0, none⟩)]]) ∧ Tup7.Box w' C ax ay rx ry lx ly q ∧ w.heap.size ≤ C ∧ Below w.heap.size w w'

set_option maxHeartbeats 800000 in
theorem lensOf (ax ay rx ry lx ly q : Int) (w : World) : Calls Try.prog 60 #[.agg #[.int .i64 ax, .int .i64 ay, .int .i64 rx, .int .i64 ry, .int .i64 lx, .int .i64 ly, .int .i64 q]] w (Lens w ax ay rx ry lx ly q) := by
  have hmf : ∀ (fn : Fn) (first cap : Array Value) (w : World), (Instr.makeFunc fn first cap).run Try.prog w = .ok (.func fn first cap) w := fun _ _ _ _ => rfl
  go_enter Try.func60, Try.ntmps60
  go_wp2_with fail
  refine bodyPost_ret (v := .agg #[.func (.func 76) #[] #[.pointer (some ⟨w.heap.size, 0, none⟩)]]) (by simp [results, Try.results60, go_sem]) rfl ?_
  exact ⟨w.heap.size, rfl, (Tup7.box1 w ax ay rx ry lx ly q 29 rfl).alloc _, Nat.le_refl _, below2 w _ _⟩

set_option maxRecDepth 100000 in
set_option maxHeartbeats 3200000 in
theorem inField (ax ay rx ry lx ly q x y : Int) (w : World) :
    Calls Try.prog 20 #[.agg #[.int .i64 ax, .int .i64 ay, .int .i64 rx, .int .i64 ry, .int .i64 lx, .int .i64 ly, .int .i64 q], .agg #[.int .i64 x, .int .i64 y]] w fun e w' => e = .returned (.bool (fieldB ax ay rx ry lx ly q x y)) ∧ Below w.heap.size w w' := by
  obtain ⟨r, hr⟩ : ∃ r, fieldB ax ay rx ry lx ly q x y = r := ⟨_, rfl⟩
  have HR := Lib.hid hr
  rw [hr]
  clear hr
  go_enter Try.func20, Try.ntmps20
  go_wp2_with fail
  have X0 := (Tup7.box1 w ax ay rx ry lx ly q 29 (k := w.heap.size) (by simp)).alloc (Obj.cells #[.int .i64 x, .int .i64 y] 27)
  have X1 := PointOk.box1 (w.alloc (Obj.cells #[.int .i64 ax, .int .i64 ay, .int .i64 rx, .int .i64 ry, .int .i64 lx, .int .i64 ly, .int .i64 q] 29)) x y 27 (k := w.heap.size + 1) (by simp)
  have b0 := PointOk.below2 w (Obj.cells #[.int .i64 ax, .int .i64 ay, .int .i64 rx, .int .i64 ry, .int .i64 lx, .int .i64 ly, .int .i64 q] 29) (Obj.cells #[.int .i64 x, .int .i64 y] 27)
  have HO : ∀ W W' : World, (Tup7.Box W (w.heap.size) ax ay rx ry lx ly q ∧ PointOk.Box W (w.heap.size + 1) x y ∧ Below w.heap.size w W) → Below W.heap.size W W' → (Tup7.Box W' (w.heap.size) ax ay rx ry lx ly q ∧ PointOk.Box W' (w.heap.size + 1) x y ∧ Below w.heap.size w W') := fun W W' ⟨h0, h1, hb⟩ h => ⟨h0.later h, h1.later h, hb.trans (h.mono hb.size)⟩
  have hz0_ : Hid ((((w.alloc (Obj.cells #[.int .i64 ax, .int .i64 ay, .int .i64 rx, .int .i64 ry, .int .i64 lx, .int .i64 ly, .int .i64 q] 29)).alloc (Obj.cells #[.int .i64 x, .int .i64 y] 27))).heap.size = w.heap.size + 1 + 1) := Lib.hid (by simp)
  generalize ((w.alloc (Obj.cells #[.int .i64 ax, .int .i64 ay, .int .i64 rx, .int .i64 ry, .int .i64 lx, .int .i64 ly, .int .i64 q] 29)).alloc (Obj.cells #[.int .i64 x, .int .i64 y] 27)) = w0 at X0 X1 b0 hz0_ ⊢
  have S0 := (⟨X0, X1, b0⟩ : Tup7.Box w0 (w.heap.size) ax ay rx ry lx ly q ∧ PointOk.Box w0 (w.heap.size + 1) x y ∧ Below w.heap.size w w0)
  clear X0 X1 b0
  obtain ⟨⟨_, _, _, _, _, _, _⟩, ⟨_, _⟩, _⟩ := id S0
  have QC : Hid (∀ w, _) := Lib.hid fun w => cameraOk ax ay rx ry lx ly q w
  have QP : Hid (∀ w, _) := Lib.hid fun w => PointOkImpl.pointOk x y w
  cases hc : camB ax ay rx ry lx ly q
  · have E : Hid (r = false) := Lib.hid (by rw [← HR.out]; unfold fieldB; rw [hc]; rfl)
    rw [hc] at QC
    clear HR hc QP
    go_wp2_with fail
    refine Settle.region (fun W => Tup7.Box W (w.heap.size) ax ay rx ry lx ly q ∧ PointOk.Box W (w.heap.size + 1) x y ∧ Below w.heap.size w W) (by kernel_rfl) (by kernel_rfl) (by kernel_rfl) (by kernel_rfl) (HO _ _ S0 ((Below.refl _ _).drew)) ?_
    clear S0
    repeat (first
      | (refine Settle.Settles.off (by rfl) ?_; simp only [Act.put, List.setIfInBounds_toArray, List.set_cons_zero, List.set_cons_succ])
      | (refine Settle.Settles.quiet (v := ?_) (by rfl) ?_ ?_
         rotate_left
         · (intro W hS; obtain ⟨⟨_, _, _, _, _, _, _⟩, ⟨_, _⟩, _⟩ := hS; go_simp; with_reducible rfl)
         simp only [Act.put, List.setIfInBounds_toArray, List.set_cons_zero, List.set_cons_succ])
      | (refine Settle.Settles.call (v := ?_) (f := ?_) (args := ?_) (by rfl) ?_ ?_ ?_
         rotate_left 3
         · (intro W; go_simp; refine ⟨?_, ?_⟩ <;> with_reducible rfl)
         · (intro W hS; first | (go_at_call 17; (with_reducible refine (QC.out _).mono ?_); rintro e W1 ⟨rfl, hb⟩; refine ⟨?_, HO _ _ hS hb⟩; with_reducible rfl))
         simp only [Act.put, List.setIfInBounds_toArray, List.set_cons_zero, List.set_cons_succ]))
    refine Settle.Settles.nil ?_
    intro wr S0
    obtain ⟨⟨_, _, _, _, _, _, _⟩, ⟨_, _⟩, _⟩ := id S0
    go_wp2_with fail
    go_ret
    exact ⟨ret_bool E.out.symm, S0.2.2⟩
  rw [hc] at QC
  cases ho : okP x y
  · have E : Hid (r = false) := Lib.hid (by rw [← HR.out]; unfold fieldB; rw [hc, ho]; rfl)
    rw [ho] at QP
    clear HR hc ho
    go_wp2_with fail
    refine Settle.region (fun W => Tup7.Box W (w.heap.size) ax ay rx ry lx ly q ∧ PointOk.Box W (w.heap.size + 1) x y ∧ Below w.heap.size w W) (by kernel_rfl) (by kernel_rfl) (by kernel_rfl) (by kernel_rfl) (HO _ _ S0 ((Below.refl _ _).drew)) ?_
    clear S0
    repeat (first
      | (refine Settle.Settles.off (by rfl) ?_; simp only [Act.put, List.setIfInBounds_toArray, List.set_cons_zero, List.set_cons_succ])
      | (refine Settle.Settles.quiet (v := ?_) (by rfl) ?_ ?_
         rotate_left
         · (intro W hS; obtain ⟨⟨_, _, _, _, _, _, _⟩, ⟨_, _⟩, _⟩ := hS; go_simp; with_reducible rfl)
         simp only [Act.put, List.setIfInBounds_toArray, List.set_cons_zero, List.set_cons_succ])
      | (refine Settle.Settles.call (v := ?_) (f := ?_) (args := ?_) (by rfl) ?_ ?_ ?_
         rotate_left 3
         · (intro W; go_simp; refine ⟨?_, ?_⟩ <;> with_reducible rfl)
         · (intro W hS; first | (go_at_call 17; (with_reducible refine (QC.out _).mono ?_); rintro e W1 ⟨rfl, hb⟩; refine ⟨?_, HO _ _ hS hb⟩; with_reducible rfl) | (go_at_call 59; (with_reducible refine (QP.out _).mono ?_); rintro e W1 ⟨rfl, hb⟩; refine ⟨?_, HO _ _ hS hb⟩; with_reducible rfl))
         simp only [Act.put, List.setIfInBounds_toArray, List.set_cons_zero, List.set_cons_succ]))
    refine Settle.Settles.nil ?_
    intro wr S0
    obtain ⟨⟨_, _, _, _, _, _, _⟩, ⟨_, _⟩, _⟩ := id S0
    go_wp2_with fail
    go_ret
    exact ⟨ret_bool E.out.symm, S0.2.2⟩
  rw [ho] at QP
  have QL : Hid (∀ w, _) := Lib.hid fun w => lensOf ax ay rx ry lx ly q w
  have hfd : ∀ (v : Value) (w : World), (Instr.field 81 (.agg #[v]) 0).run Try.prog w = .ok v w := fun _ _ => rfl
  have QF : Hid (∀ C w h1, _) := Lib.hid fun C w h1 => shows C ax ay rx ry lx ly q x y w hc ho h1
  rw [HR.out] at QF
  unfold Lens at QL
  clear HR hc ho
  go_wp2_with fail
  have S0_ := HO _ _ S0 ((Below.refl _ _).drew)
  have HS0_ : w0.drew.cell? ⟨w.heap.size, 0, none⟩ = some (.int .i64 ax) ∧ w0.drew.cell? ⟨w.heap.size, 1, none⟩ = some (.int .i64 ay) ∧ w0.drew.cell? ⟨w.heap.size, 2, none⟩ = some (.int .i64 rx) ∧ w0.drew.cell? ⟨w.heap.size, 3, none⟩ = some (.int .i64 ry) ∧ w0.drew.cell? ⟨w.heap.size, 4, none⟩ = some (.int .i64 lx) ∧ w0.drew.cell? ⟨w.heap.size, 5, none⟩ = some (.int .i64 ly) ∧ w0.drew.cell? ⟨w.heap.size, 6, none⟩ = some (.int .i64 q) ∧ w0.drew.cell? ⟨w.heap.size + 1, 0, none⟩ = some (.int .i64 x) ∧ w0.drew.cell? ⟨w.heap.size + 1, 1, none⟩ = some (.int .i64 y) := ⟨S0_.1.1, S0_.1.2.1, S0_.1.2.2.1, S0_.1.2.2.2.1, S0_.1.2.2.2.2.1, S0_.1.2.2.2.2.2.1, S0_.1.2.2.2.2.2.2, S0_.2.1.1, S0_.2.1.2⟩
  refine wp_region_held_drew (S := fun W => W.cell? ⟨w.heap.size, 0, none⟩ = some (.int .i64 ax) ∧ W.cell? ⟨w.heap.size, 1, none⟩ = some (.int .i64 ay) ∧ W.cell? ⟨w.heap.size, 2, none⟩ = some (.int .i64 rx) ∧ W.cell? ⟨w.heap.size, 3, none⟩ = some (.int .i64 ry) ∧ W.cell? ⟨w.heap.size, 4, none⟩ = some (.int .i64 lx) ∧ W.cell? ⟨w.heap.size, 5, none⟩ = some (.int .i64 ly) ∧ W.cell? ⟨w.heap.size, 6, none⟩ = some (.int .i64 q) ∧ W.cell? ⟨w.heap.size + 1, 0, none⟩ = some (.int .i64 x) ∧ W.cell? ⟨w.heap.size + 1, 1, none⟩ = some (.int .i64 y)) (by kernel_rfl) HS0_ (fun hHeld => ?_)
  refine wpAnyH_take (i := 0) (oi := ⟨some 5, _, _, _, _, _⟩) (v := ?_) rfl (by kernel_rfl) (by kernel_rfl) (by kernel_rfl) (fun _ _ _ h => h) (Or.inl ⟨by rfl, ?_⟩) (by assumption) ?_
  rotate_left 1
  · (intro w hSw; (try dsimp only at hSw); go_simp; try with_reducible rfl)
  try simp only [Act.put, List.setIfInBounds_toArray, List.set_cons_zero, List.set_cons_succ]
  refine wpAnyH_ready (rs := [1]) (by kernel_rfl) (by simp) ?_
  refine AllReadyH.cons (o := ⟨some 6, _, _, _, _, _⟩) rfl (fun K hK => ?_) ?_
  rotate_left 1
  · exact AllReadyH.nil
  go_simp
  go_at_call 17; refine (QC.out _).mono ?_; rintro e w1 ⟨rfl, hb0_⟩
  have S1_ := HO _ _ S0_ hb0_
  go_wp2_with fail
  refine hK.out _ _ ⟨S1_.1.1, S1_.1.2.1, S1_.1.2.2.1, S1_.1.2.2.2.1, S1_.1.2.2.2.2.1, S1_.1.2.2.2.2.2.1, S1_.1.2.2.2.2.2.2, S1_.2.1.1, S1_.2.1.2⟩ (fun hHeld => ?_)
  clear hK K
  refine wpAnyH_take (i := 2) (oi := ⟨some 7, _, _, _, _, _⟩) (v := ?_) rfl (by kernel_rfl) (by kernel_rfl) (by kernel_rfl) (fun _ _ _ h => h) (Or.inl ⟨by rfl, ?_⟩) (by assumption) ?_
  rotate_left 1
  · (intro w hSw; (try dsimp only at hSw); go_simp; try with_reducible rfl)
  try simp only [Act.put, List.setIfInBounds_toArray, List.set_cons_zero, List.set_cons_succ]
  refine wpAnyH_take (i := 3) (oi := ⟨some 8, _, _, _, _, _⟩) (v := ?_) rfl (by kernel_rfl) (by kernel_rfl) (by kernel_rfl) (fun _ _ _ h => h) (Or.inl ⟨by rfl, ?_⟩) (by assumption) ?_
  rotate_left 1
  · (intro w hSw; (try dsimp only at hSw); go_simp; try with_reducible rfl)
  try simp only [Act.put, List.setIfInBounds_toArray, List.set_cons_zero, List.set_cons_succ]
  refine wpAnyH_ready (rs := [4]) (by kernel_rfl) (by simp) ?_
  refine AllReadyH.cons (o := ⟨some 9, _, _, _, _, _⟩) rfl (fun K hK => ?_) ?_
  rotate_left 1
  · exact AllReadyH.nil
  go_simp
  go_at_call 59; refine (QP.out _).mono ?_; rintro e w2 ⟨rfl, hb1_⟩
  have S2_ := HO _ _ S1_ hb1_
  go_wp2_with fail
  refine hK.out _ _ ⟨S2_.1.1, S2_.1.2.1, S2_.1.2.2.1, S2_.1.2.2.2.1, S2_.1.2.2.2.2.1, S2_.1.2.2.2.2.2.1, S2_.1.2.2.2.2.2.2, S2_.2.1.1, S2_.2.1.2⟩ (fun hHeld => ?_)
  clear hK K
  refine wpAnyH_take (i := 5) (oi := ⟨some 10, _, _, _, _, _⟩) (v := ?_) rfl (by kernel_rfl) (by kernel_rfl) (by kernel_rfl) (fun _ _ _ h => h) (Or.inl ⟨by rfl, ?_⟩) (by assumption) ?_
  rotate_left 1
  · (intro w hSw; (try dsimp only at hSw); go_simp; try with_reducible rfl)
  try simp only [Act.put, List.setIfInBounds_toArray, List.set_cons_zero, List.set_cons_succ]
  refine wpAnyH_take (i := 6) (oi := ⟨some 11, _, _, _, _, _⟩) (v := ?_) rfl (by kernel_rfl) (by kernel_rfl) (by kernel_rfl) (fun _ _ _ h => h) (Or.inl ⟨by rfl, ?_⟩) (by assumption) ?_
  rotate_left 1
  · (intro w hSw; (try dsimp only at hSw); go_simp; try with_reducible rfl)
  try simp only [Act.put, List.setIfInBounds_toArray, List.set_cons_zero, List.set_cons_succ]
  refine wpAnyH_take (i := 7) (oi := ⟨some 12, _, _, _, _, _⟩) (v := ?_) rfl (by kernel_rfl) (by kernel_rfl) (by kernel_rfl) (fun _ _ _ h => h) (Or.inl ⟨by rfl, ?_⟩) (by assumption) ?_
  rotate_left 1
  · (intro w hSw; (try dsimp only at hSw); go_simp; try with_reducible rfl)
  try simp only [Act.put, List.setIfInBounds_toArray, List.set_cons_zero, List.set_cons_succ]
  refine wpAnyH_take (i := 10) (oi := ⟨some 15, _, _, _, _, _⟩) (v := ?_) rfl (by kernel_rfl) (by kernel_rfl) (by kernel_rfl) (fun _ _ _ h => h) (Or.inl ⟨by rfl, ?_⟩) (by assumption) ?_
  rotate_left 1
  · (intro w hSw; (try dsimp only at hSw); go_simp; try with_reducible rfl)
  try simp only [Act.put, List.setIfInBounds_toArray, List.set_cons_zero, List.set_cons_succ]
  refine wpAnyH_ready (rs := [8]) (by kernel_rfl) (by simp) ?_
  refine AllReadyH.cons (o := ⟨some 13, _, _, _, _, _⟩) rfl (fun K hK => ?_) ?_
  rotate_left 1
  · exact AllReadyH.nil
  go_simp
  go_at_call 60; refine (QL.out _).mono ?_; rintro e w3 ⟨C, rfl, h1_, _, hb2_⟩
  have S3_ := HO _ _ S2_ hb2_
  go_wp2_with fail
  refine hK.out _ _ ⟨S3_.1.1, S3_.1.2.1, S3_.1.2.2.1, S3_.1.2.2.2.1, S3_.1.2.2.2.2.1, S3_.1.2.2.2.2.2.1, S3_.1.2.2.2.2.2.2, S3_.2.1.1, S3_.2.1.2⟩ (fun hHeld => ?_)
  clear hK K
  refine wpAnyH_take (i := 9) (oi := ⟨some 14, _, _, _, _, _⟩) (v := ?_) rfl (by kernel_rfl) (by kernel_rfl) (by kernel_rfl) (fun _ _ _ h => h) (Or.inl ⟨by rfl, ?_⟩) (by assumption) ?_
  rotate_left 1
  · (intro w hSw; (try dsimp only at hSw); go_simp; try with_reducible rfl)
  try simp only [Act.put, List.setIfInBounds_toArray, List.set_cons_zero, List.set_cons_succ]
  refine wpAnyH_ready (rs := [11]) (by kernel_rfl) (by simp) ?_
  refine AllReadyH.cons (o := ⟨some 16, _, _, _, _, _⟩) rfl (fun K hK => ?_) ?_
  rotate_left 1
  · exact AllReadyH.nil
  go_simp
  go_at_call 76; refine (QF.out C _ h1_).mono ?_; rintro e w4 ⟨rfl, hb3_⟩
  have S4_ := HO _ _ S3_ hb3_
  go_wp2_with fail
  refine hK.out _ _ ⟨S4_.1.1, S4_.1.2.1, S4_.1.2.2.1, S4_.1.2.2.2.1, S4_.1.2.2.2.2.1, S4_.1.2.2.2.2.2.1, S4_.1.2.2.2.2.2.2, S4_.2.1.1, S4_.2.1.2⟩ (fun hHeld => ?_)
  clear hK K
  refine wpAnyH_take (i := 12) (oi := ⟨some 17, _, _, _, _, _⟩) (v := ?_) rfl (by kernel_rfl) (by kernel_rfl) (by kernel_rfl) (fun _ _ _ h => h) (Or.inl ⟨by rfl, ?_⟩) (by assumption) ?_
  rotate_left 1
  · (intro w hSw; (try dsimp only at hSw); go_simp; try with_reducible rfl)
  try simp only [Act.put, List.setIfInBounds_toArray, List.set_cons_zero, List.set_cons_succ]
  refine wpAnyH_take (i := 13) (oi := ⟨some 4, _, _, _, _, _⟩) (v := ?_) rfl (by kernel_rfl) (by kernel_rfl) (by kernel_rfl) (fun _ _ _ h => h) (Or.inl ⟨by rfl, ?_⟩) (by assumption) ?_
  rotate_left 1
  · (intro w hSw; (try dsimp only at hSw); go_simp; try with_reducible rfl)
  try simp only [Act.put, List.setIfInBounds_toArray, List.set_cons_zero, List.set_cons_succ]
  refine wpAnyH_done (by kernel_rfl) ?_ _
  go_wp2_with fail
  go_ret
  exact ⟨rfl, S4_.2.2⟩

end Go.Proofs.Ytonbpmabmjhdgaa.TrackImpl

