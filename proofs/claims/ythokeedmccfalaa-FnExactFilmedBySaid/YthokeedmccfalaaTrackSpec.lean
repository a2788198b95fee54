/-
  What the functions on frames, sightings and cameras do, as contracts: what each answers; new memory alone is written.
-/
import Derived.Test.YthokeedmccfalaaPointSpec
import Derived.Test.YthokeedmccfalaaTrackMath
import Derived.Test.YthokeedmccfalaaTup3
import Derived.Test.YthokeedmccfalaaTup7
import Derived.Test.YthokeedmccfalaaGround
namespace Go.Proofs.Ythokeedmccfalaa.TrackSpec
open Go.RowKit PointMath TrackMath
open PointOk (ret_bool ret_i64 below1 below2 below3)

set_option maxHeartbeats 1600000 in
theorem cameraOk (ax ay rx ry lx ly q : Int) (w : World) :
    Calls Try.prog 76 #[.agg #[.int .i64 ax, .int .i64 ay, .int .i64 rx, .int .i64 ry, .int .i64 lx, .int .i64 ly, .int .i64 q]] w fun e w' => e = .returned (.bool (camB ax ay rx ry lx ly q)) ∧ Below w.heap.size w w' := by
  obtain ⟨r, hr⟩ : ∃ r, camB ax ay rx ry lx ly q = r := ⟨_, rfl⟩
  have HR := Lib.hid hr
  rw [hr]
  clear hr
  go_enter Try.func76, Try.ntmps76
  go_wp2_with fail
  have X0 := Tup7.box1 w ax ay rx ry lx ly q 51 (k := w.heap.size) (by simp)
  have b0 := PointOk.below1 w (Obj.cells #[.int .i64 ax, .int .i64 ay, .int .i64 rx, .int .i64 ry, .int .i64 lx, .int .i64 ly, .int .i64 q] 51)
  have HO : ∀ W W' : World, (Tup7.Box W (w.heap.size) ax ay rx ry lx ly q ∧ Below w.heap.size w W) → Below W.heap.size W W' → (Tup7.Box W' (w.heap.size) ax ay rx ry lx ly q ∧ Below w.heap.size w W') := fun W W' ⟨h0, hb⟩ h => ⟨h0.later h, hb.trans (h.mono hb.size)⟩
  have hz0_ : Hid (((w.alloc (Obj.cells #[.int .i64 ax, .int .i64 ay, .int .i64 rx, .int .i64 ry, .int .i64 lx, .int .i64 ly, .int .i64 q] 51))).heap.size = w.heap.size + 1) := Lib.hid (by simp)
  generalize (w.alloc (Obj.cells #[.int .i64 ax, .int .i64 ay, .int .i64 rx, .int .i64 ry, .int .i64 lx, .int .i64 ly, .int .i64 q] 51)) = w0 at X0 b0 hz0_ ⊢
  have S0 := (⟨X0, b0⟩ : Tup7.Box w0 (w.heap.size) ax ay rx ry lx ly q ∧ Below w.heap.size w w0)
  clear X0 b0
  obtain ⟨⟨_, _, _, _, _, _, _⟩, _⟩ := id S0
  refine (PointOk.pointOk ax ay _).mono ?_
  rintro e w1 ⟨rfl, hb_⟩
  replace S0 := HO _ _ S0 hb_
  clear hb_
  obtain ⟨⟨_, _, _, _, _, _, _⟩, _⟩ := id S0
  cases ha : okP ax ay
  · go_wp2_with fail
    go_ret
    exact ⟨ret_bool (by rw [← HR.out]; unfold camB; rw [ha]; rfl), S0.2⟩
  replace ha := Lib.hid ha
  go_wp2_with fail
  refine (PointOk.pointOk rx ry _).mono ?_
  rintro e w2 ⟨rfl, hb_⟩
  replace S0 := HO _ _ S0 hb_
  clear hb_
  obtain ⟨⟨_, _, _, _, _, _, _⟩, _⟩ := id S0
  cases hb : okP rx ry
  · go_wp2_with fail
    go_ret
    exact ⟨ret_bool (by rw [← HR.out]; unfold camB; rw [ha.out, hb]; rfl), S0.2⟩
  replace hb := Lib.hid hb
  go_wp2_with fail
  refine (PointOk.pointOk lx ly _).mono ?_
  rintro e w3 ⟨rfl, hb_⟩
  replace S0 := HO _ _ S0 hb_
  clear hb_
  obtain ⟨⟨_, _, _, _, _, _, _⟩, _⟩ := id S0
  cases hc : okP lx ly
  · go_wp2_with fail
    go_ret
    exact ⟨ret_bool (by rw [← HR.out]; unfold camB; rw [ha.out, hb.out, hc]; rfl), S0.2⟩
  replace hc := Lib.hid hc
  go_wp2_with fail
  refine (PointSpec.l02Turn ax ay rx ry lx ly (okP_sm ha.out) (okP_sm hb.out) (okP_sm hc.out) _).mono ?_
  rintro e w4 ⟨rfl, hb_⟩
  replace S0 := HO _ _ S0 hb_
  clear hb_
  obtain ⟨⟨_, _, _, _, _, _, _⟩, _⟩ := id S0
  have E : Hid (r = (decide (0 < turnI ax ay rx ry lx ly) && decide (1 ≤ q ∧ q ≤ 100))) := Lib.hid (by rw [← HR.out]; unfold camB; rw [ha.out, hb.out, hc.out]; rfl)
  clear HR
  generalize turnI ax ay rx ry lx ly = t at *
  by_cases h5 : 0 < t
  rotate_left
  · skip
    go_wp2_with fail
    go_ret
    exact ⟨ret_bool (by rw [E.out, show decide (0 < t) = false from decide_eq_false (by omega)]; rfl), S0.2⟩
  go_wp2_with fail
  refine (PointOk.l01In q 1 100 _).mono ?_
  rintro e w_ ⟨rfl, rfl⟩
  cases h6 : decide (1 ≤ q ∧ q ≤ 100)
  · go_wp2_with fail
    go_ret
    exact ⟨ret_bool (by rw [E.out, h6]; simp), S0.2⟩
  replace h6 := Lib.hid h6
  go_wp2_with fail
  go_ret
  exact ⟨ret_bool (by rw [E.out, show decide (0 < t) = true from decide_eq_true h5, h6.out]; rfl), S0.2⟩

set_option maxRecDepth 100000 in
set_option maxHeartbeats 3200000 in
theorem inField (ax ay rx ry lx ly q x y : Int) (w : World) :
    Calls Try.prog 79 #[.agg #[.int .i64 ax, .int .i64 ay, .int .i64 rx, .int .i64 ry, .int .i64 lx, .int .i64 ly, .int .i64 q], .agg #[.int .i64 x, .int .i64 y]] w fun e w' => e = .returned (.bool (fieldB ax ay rx ry lx ly q x y)) ∧ Below w.heap.size w w' := by
  obtain ⟨r, hr⟩ : ∃ r, fieldB ax ay rx ry lx ly q x y = r := ⟨_, rfl⟩
  have HR := Lib.hid hr
  rw [hr]
  clear hr
  go_enter Try.func79, Try.ntmps79
  go_wp2_with fail
  have X0 := (Tup7.box1 w ax ay rx ry lx ly q 51 (k := w.heap.size) (by simp)).alloc (Obj.cells #[.int .i64 x, .int .i64 y] 49)
  have X1 := PointOk.box1 (w.alloc (Obj.cells #[.int .i64 ax, .int .i64 ay, .int .i64 rx, .int .i64 ry, .int .i64 lx, .int .i64 ly, .int .i64 q] 51)) x y 49 (k := w.heap.size + 1) (by simp)
  have b0 := PointOk.below2 w (Obj.cells #[.int .i64 ax, .int .i64 ay, .int .i64 rx, .int .i64 ry, .int .i64 lx, .int .i64 ly, .int .i64 q] 51) (Obj.cells #[.int .i64 x, .int .i64 y] 49)
  have HO : ∀ W W' : World, (Tup7.Box W (w.heap.size) ax ay rx ry lx ly q ∧ PointOk.Box W (w.heap.size + 1) x y ∧ Below w.heap.size w W) → Below W.heap.size W W' → (Tup7.Box W' (w.heap.size) ax ay rx ry lx ly q ∧ PointOk.Box W' (w.heap.size + 1) x y ∧ Below w.heap.size w W') := fun W W' ⟨h0, h1, hb⟩ h => ⟨h0.later h, h1.later h, hb.trans (h.mono hb.size)⟩
  have hz0_ : Hid ((((w.alloc (Obj.cells #[.int .i64 ax, .int .i64 ay, .int .i64 rx, .int .i64 ry, .int .i64 lx, .int .i64 ly, .int .i64 q] 51)).alloc (Obj.cells #[.int .i64 x, .int .i64 y] 49))).heap.size = w.heap.size + 1 + 1) := Lib.hid (by simp)
  generalize ((w.alloc (Obj.cells #[.int .i64 ax, .int .i64 ay, .int .i64 rx, .int .i64 ry, .int .i64 lx, .int .i64 ly, .int .i64 q] 51)).alloc (Obj.cells #[.int .i64 x, .int .i64 y] 49)) = w0 at X0 X1 b0 hz0_ ⊢
  have S0 := (⟨X0, X1, b0⟩ : Tup7.Box w0 (w.heap.size) ax ay rx ry lx ly q ∧ PointOk.Box w0 (w.heap.size + 1) x y ∧ Below w.heap.size w w0)
  clear X0 X1 b0
  obtain ⟨⟨_, _, _, _, _, _, _⟩, ⟨_, _⟩, _⟩ := id S0
  have QC : Hid (∀ w, _) := Lib.hid fun w => cameraOk ax ay rx ry lx ly q w
  have QP : Hid (∀ w, _) := Lib.hid fun w => PointOk.pointOk x y w
  cases hc : camB ax ay rx ry lx ly q
  · have E : Hid (r = false) := Lib.hid (by rw [← HR.out]; unfold fieldB; rw [hc]; rfl)
    rw [hc] at QC
    clear HR hc QP
    go_wp2_with fail
    refine Settle.region (fun W => Tup7.Box W (w.heap.size) ax ay rx ry lx ly q ∧ PointOk.Box W (w.heap.size + 1) x y ∧ Below w.heap.size w W) (by kernel_rfl) (by kernel_rfl) (by kernel_rfl) (by kernel_rfl) (HO _ _ S0 ((Below.refl _ _).drew)) ?_
    clear S0
    repeat (first
      | (refine Settle.Settles.off (by rfl) ?_; simp only [Act.put, List.setIfInBounds_toArray, List.set_cons_zero, List.set_cons_succ])
      | (refine Settle.Settles.quiet (v := ?_) (by rfl) ?_ ?_
         rotate_left
         · (intro W hS; obtain ⟨⟨_, _, _, _, _, _, _⟩, ⟨_, _⟩, _⟩ := hS; go_simp; with_reducible rfl)
         simp only [Act.put, List.setIfInBounds_toArray, List.set_cons_zero, List.set_cons_succ])
      | (refine Settle.Settles.call (v := ?_) (f := ?_) (args := ?_) (by rfl) ?_ ?_ ?_
         rotate_left 3
         · (intro W; go_simp; refine ⟨?_, ?_⟩ <;> with_reducible rfl)
         · (intro W hS; first | (go_at_call 76; (with_reducible refine (QC.out _).mono ?_); rintro e W1 ⟨rfl, hb⟩; refine ⟨?_, HO _ _ hS hb⟩; with_reducible rfl))
         simp only [Act.put, List.setIfInBounds_toArray, List.set_cons_zero, List.set_cons_succ]))
    refine Settle.Settles.nil ?_
    intro wr S0
    obtain ⟨⟨_, _, _, _, _, _, _⟩, ⟨_, _⟩, _⟩ := id S0
    go_wp2_with fail
    go_ret
    exact ⟨ret_bool (E.out.symm), S0.2.2⟩
  have pc := cam_parts hc
  rw [hc] at QC
  cases ho : okP x y
  · have E : Hid (r = false) := Lib.hid (by rw [← HR.out]; unfold fieldB; rw [hc, ho]; rfl)
    rw [ho] at QP
    clear HR hc ho pc
    go_wp2_with fail
    refine Settle.region (fun W => Tup7.Box W (w.heap.size) ax ay rx ry lx ly q ∧ PointOk.Box W (w.heap.size + 1) x y ∧ Below w.heap.size w W) (by kernel_rfl) (by kernel_rfl) (by kernel_rfl) (by kernel_rfl) (HO _ _ S0 ((Below.refl _ _).drew)) ?_
    clear S0
    repeat (first
      | (refine Settle.Settles.off (by rfl) ?_; simp only [Act.put, List.setIfInBounds_toArray, List.set_cons_zero, List.set_cons_succ])
      | (refine Settle.Settles.quiet (v := ?_) (by rfl) ?_ ?_
         rotate_left
         · (intro W hS; obtain ⟨⟨_, _, _, _, _, _, _⟩, ⟨_, _⟩, _⟩ := hS; go_simp; with_reducible rfl)
         simp only [Act.put, List.setIfInBounds_toArray, List.set_cons_zero, List.set_cons_succ])
      | (refine Settle.Settles.call (v := ?_) (f := ?_) (args := ?_) (by rfl) ?_ ?_ ?_
         rotate_left 3
         · (intro W; go_simp; refine ⟨?_, ?_⟩ <;> with_reducible rfl)
         · (intro W hS; first | (go_at_call 76; (with_reducible refine (QC.out _).mono ?_); rintro e W1 ⟨rfl, hb⟩; refine ⟨?_, HO _ _ hS hb⟩; with_reducible rfl) | (go_at_call 114; (with_reducible refine (QP.out _).mono ?_); rintro e W1 ⟨rfl, hb⟩; refine ⟨?_, HO _ _ hS hb⟩; with_reducible rfl))
         simp only [Act.put, List.setIfInBounds_toArray, List.set_cons_zero, List.set_cons_succ]))
    refine Settle.Settles.nil ?_
    intro wr S0
    obtain ⟨⟨_, _, _, _, _, _, _⟩, ⟨_, _⟩, _⟩ := id S0
    go_wp2_with fail
    go_ret
    exact ⟨ret_bool (E.out.symm), S0.2.2⟩
  rw [ho] at QP
  have Q1 : Hid (∀ w, _) := Lib.hid fun w => PointSpec.l02Turn ax ay rx ry x y (okP_sm pc.1) (okP_sm pc.2.1) (okP_sm ho) w
  have Q2 : Hid (∀ w, _) := Lib.hid fun w => PointSpec.l02Turn ax ay x y lx ly (okP_sm pc.1) (okP_sm ho) (okP_sm pc.2.2.1) w
  have Q3 : Hid (∀ w, _) := Lib.hid fun w => PointSpec.squareOf ax ay x y w
  rw [show PointMath.squareOf ax ay x y = squareI ax ay x y by unfold PointMath.squareOf; rw [pc.1, ho]; rfl] at Q3
  have E : Hid (r = (decide (0 ≤ turnI ax ay rx ry x y) && decide (0 ≤ turnI ax ay x y lx ly) && decide (squareI ax ay x y ≤ q * q))) := Lib.hid (by rw [← HR.out]; unfold fieldB; rw [hc, ho]; rfl)
  have qb := mul_bound (a := q) (b := q) (n := 100) (by omega) (by omega) (by omega) (by omega)
  have u1 : IntKind.i64.wrap (q * q) = q * q := IntWalk.i64_in _ (by omega)
  generalize turnI ax ay rx ry x y = t1 at *
  generalize turnI ax ay x y lx ly = t2 at *
  generalize squareI ax ay x y = sq at *
  clear HR hc ho pc qb
  by_cases h1 : 0 ≤ t1
  rotate_left
  · have d1 : decide (0 ≤ t1) = false := decide_eq_false h1
    have E2 : Hid (r = false) := Lib.hid (by rw [E.out, d1]; rfl)
    clear E
    go_wp2_with fail
    refine Settle.region (fun W => Tup7.Box W (w.heap.size) ax ay rx ry lx ly q ∧ PointOk.Box W (w.heap.size + 1) x y ∧ Below w.heap.size w W) (by kernel_rfl) (by kernel_rfl) (by kernel_rfl) (by kernel_rfl) (HO _ _ S0 ((Below.refl _ _).drew)) ?_
    clear S0
    repeat (first
      | (refine Settle.Settles.off (by rfl) ?_; simp only [Act.put, List.setIfInBounds_toArray, List.set_cons_zero, List.set_cons_succ])
      | (refine Settle.Settles.quiet (v := ?_) (by rfl) ?_ ?_
         rotate_left
         · (intro W hS; obtain ⟨⟨_, _, _, _, _, _, _⟩, ⟨_, _⟩, _⟩ := hS; go_simp; with_reducible rfl)
         simp only [Act.put, List.setIfInBounds_toArray, List.set_cons_zero, List.set_cons_succ])
      | (refine Settle.Settles.call (v := ?_) (f := ?_) (args := ?_) (by rfl) ?_ ?_ ?_
         rotate_left 3
         · (intro W; go_simp; refine ⟨?_, ?_⟩ <;> with_reducible rfl)
         · (intro W hS; first | (go_at_call 76; (with_reducible refine (QC.out _).mono ?_); rintro e W1 ⟨rfl, hb⟩; refine ⟨?_, HO _ _ hS hb⟩; with_reducible rfl) | (go_at_call 114; (with_reducible refine (QP.out _).mono ?_); rintro e W1 ⟨rfl, hb⟩; refine ⟨?_, HO _ _ hS hb⟩; with_reducible rfl) | (go_at_call 113; (with_reducible refine (Q1.out _).mono ?_); rintro e W1 ⟨rfl, hb⟩; refine ⟨?_, HO _ _ hS hb⟩; with_reducible rfl))
         simp only [Act.put, List.setIfInBounds_toArray, List.set_cons_zero, List.set_cons_succ]))
    refine Settle.Settles.nil ?_
    intro wr S0
    obtain ⟨⟨_, _, _, _, _, _, _⟩, ⟨_, _⟩, _⟩ := id S0
    go_wp2_with fail
    go_ret
    exact ⟨ret_bool (E2.out.symm), S0.2.2⟩
  have d1 : decide (0 ≤ t1) = true := decide_eq_true h1
  by_cases h2 : 0 ≤ t2
  rotate_left
  · have d2 : decide (0 ≤ t2) = false := decide_eq_false h2
    have E2 : Hid (r = false) := Lib.hid (by rw [E.out, d2]; simp)
    clear E
    go_wp2_with fail
    refine Settle.region (fun W => Tup7.Box W (w.heap.size) ax ay rx ry lx ly q ∧ PointOk.Box W (w.heap.size + 1) x y ∧ Below w.heap.size w W) (by kernel_rfl) (by kernel_rfl) (by kernel_rfl) (by kernel_rfl) (HO _ _ S0 ((Below.refl _ _).drew)) ?_
    clear S0
    repeat (first
      | (refine Settle.Settles.off (by rfl) ?_; simp only [Act.put, List.setIfInBounds_toArray, List.set_cons_zero, List.set_cons_succ])
      | (refine Settle.Settles.quiet (v := ?_) (by rfl) ?_ ?_
         rotate_left
         · (intro W hS; obtain ⟨⟨_, _, _, _, _, _, _⟩, ⟨_, _⟩, _⟩ := hS; go_simp; with_reducible rfl)
         simp only [Act.put, List.setIfInBounds_toArray, List.set_cons_zero, List.set_cons_succ])
      | (refine Settle.Settles.call (v := ?_) (f := ?_) (args := ?_) (by rfl) ?_ ?_ ?_
         rotate_left 3
         · (intro W; go_simp; refine ⟨?_, ?_⟩ <;> with_reducible rfl)
         · (intro W hS; first | (go_at_call 76; (with_reducible refine (QC.out _).mono ?_); rintro e W1 ⟨rfl, hb⟩; refine ⟨?_, HO _ _ hS hb⟩; with_reducible rfl) | (go_at_call 114; (with_reducible refine (QP.out _).mono ?_); rintro e W1 ⟨rfl, hb⟩; refine ⟨?_, HO _ _ hS hb⟩; with_reducible rfl) | (go_at_call 113; (with_reducible refine (Q1.out _).mono ?_); rintro e W1 ⟨rfl, hb⟩; refine ⟨?_, HO _ _ hS hb⟩; with_reducible rfl) | (go_at_call 113; (with_reducible refine (Q2.out _).mono ?_); rintro e W1 ⟨rfl, hb⟩; refine ⟨?_, HO _ _ hS hb⟩; with_reducible rfl))
         simp only [Act.put, List.setIfInBounds_toArray, List.set_cons_zero, List.set_cons_succ]))
    refine Settle.Settles.nil ?_
    intro wr S0
    obtain ⟨⟨_, _, _, _, _, _, _⟩, ⟨_, _⟩, _⟩ := id S0
    go_wp2_with fail
    go_ret
    exact ⟨ret_bool (E2.out.symm), S0.2.2⟩
  have d2 : decide (0 ≤ t2) = true := decide_eq_true h2
  have E2 : Hid (r = decide (sq ≤ q * q)) := Lib.hid (by rw [E.out, d1, d2]; rfl)
  clear E
  go_wp2_with fail
  refine Settle.region (fun W => Tup7.Box W (w.heap.size) ax ay rx ry lx ly q ∧ PointOk.Box W (w.heap.size + 1) x y ∧ Below w.heap.size w W) (by kernel_rfl) (by kernel_rfl) (by kernel_rfl) (by kernel_rfl) (HO _ _ S0 ((Below.refl _ _).drew)) ?_
  clear S0
  repeat (first
    | (refine Settle.Settles.off (by rfl) ?_; simp only [Act.put, List.setIfInBounds_toArray, List.set_cons_zero, List.set_cons_succ])
    | (refine Settle.Settles.quiet (v := ?_) (by rfl) ?_ ?_
       rotate_left
       · (intro W hS; obtain ⟨⟨_, _, _, _, _, _, _⟩, ⟨_, _⟩, _⟩ := hS; go_simp; with_reducible rfl)
       simp only [Act.put, List.setIfInBounds_toArray, List.set_cons_zero, List.set_cons_succ])
    | (refine Settle.Settles.call (v := ?_) (f := ?_) (args := ?_) (by rfl) ?_ ?_ ?_
       rotate_left 3
       · (intro W; go_simp; refine ⟨?_, ?_⟩ <;> with_reducible rfl)
       · (intro W hS; first | (go_at_call 76; (with_reducible refine (QC.out _).mono ?_); rintro e W1 ⟨rfl, hb⟩; refine ⟨?_, HO _ _ hS hb⟩; with_reducible rfl) | (go_at_call 114; (with_reducible refine (QP.out _).mono ?_); rintro e W1 ⟨rfl, hb⟩; refine ⟨?_, HO _ _ hS hb⟩; with_reducible rfl) | (go_at_call 113; (with_reducible refine (Q1.out _).mono ?_); rintro e W1 ⟨rfl, hb⟩; refine ⟨?_, HO _ _ hS hb⟩; with_reducible rfl) | (go_at_call 113; (with_reducible refine (Q2.out _).mono ?_); rintro e W1 ⟨rfl, hb⟩; refine ⟨?_, HO _ _ hS hb⟩; with_reducible rfl) | (go_at_call 126; (with_reducible refine (Q3.out _).mono ?_); rintro e W1 ⟨rfl, hb⟩; refine ⟨?_, HO _ _ hS hb⟩; with_reducible rfl))
       simp only [Act.put, List.setIfInBounds_toArray, List.set_cons_zero, List.set_cons_succ]))
  refine Settle.Settles.nil ?_
  intro wr S0
  obtain ⟨⟨_, _, _, _, _, _, _⟩, ⟨_, _⟩, _⟩ := id S0
  go_wp2_with fail
  go_ret
  exact ⟨ret_bool (E2.out.symm), S0.2.2⟩

end Go.Proofs.Ythokeedmccfalaa.TrackSpec

