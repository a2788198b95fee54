/-
  What the functions on frames, sightings and cameras do, as contracts: what each answers; new memory alone is written.
-/
import Derived.Test.YthokeedmccfalaaPointImpl
import Derived.Test.YthokeedmccfalaaTrackMath
import Derived.Test.YthokeedmccfalaaTup3
import Derived.Test.YthokeedmccfalaaTup7
import Derived.Test.YthokeedmccfalaaGround
import Derived.Laws.EntriesVeiled
namespace Go.Proofs.Ythokeedmccfalaa.TrackImpl
open Go.RowKit PointMath TrackMath
open PointOk (ret_bool ret_i64 below1 below2 below3)

theorem isUpTo (n L : Int) (w : World) : Calls Try.prog 111 #[.int .i64 n, .int .i64 L] w fun e w' => e = .returned (.bool (decide (0 ≤ n ∧ n ≤ L))) ∧ w = w' := by
  obtain ⟨r, hr⟩ : ∃ r, decide (0 ≤ n ∧ n ≤ L) = r := ⟨_, rfl⟩
  rw [hr]
  replace hr := Lib.hid hr
  by_cases h1 : 0 ≤ n
  · by_cases h2 : n ≤ L
    · go_enter Try.func111, Try.ntmps111
      go_wp2_with fail
      go_ret
      exact ⟨ret_bool (by rw [← hr.out]; exact (decide_eq_true (by omega)).symm), rfl⟩
    · go_enter Try.func111, Try.ntmps111
      go_wp2_with fail
      go_ret
      exact ⟨ret_bool (by rw [← hr.out]; exact (decide_eq_false (by omega)).symm), rfl⟩
  · go_enter Try.func111, Try.ntmps111
    go_wp2_with fail
    go_ret
    exact ⟨ret_bool (by rw [← hr.out]; exact (decide_eq_false (by omega)).symm), rfl⟩

set_option maxHeartbeats 1600000 in
theorem cameraOk (ax ay rx ry lx ly q : Int) (w : World) :
    Calls Try.prog 132 #[.agg #[.int .i64 ax, .int .i64 ay, .int .i64 rx, .int .i64 ry, .int .i64 lx, .int .i64 ly, .int .i64 q]] w fun e w' => e = .returned (.bool (camB ax ay rx ry lx ly q)) ∧ Below w.heap.size w w' := by
  obtain ⟨r, hr⟩ : ∃ r, camB ax ay rx ry lx ly q = r := ⟨_, rfl⟩
  have HR := Lib.hid hr
  rw [hr]
  clear hr
  have E := Lib.hid (HR.out.symm.trans (cam_turn ax ay rx ry lx ly q))
  clear HR
  go_enter Try.func132, Try.ntmps132
  go_wp2_with fail
  have X0 := Tup7.box1 w ax ay rx ry lx ly q 51 (k := w.heap.size) (by simp)
  have b0 := PointOk.below1 w (Obj.cells #[.int .i64 ax, .int .i64 ay, .int .i64 rx, .int .i64 ry, .int .i64 lx, .int .i64 ly, .int .i64 q] 51)
  have HO : ∀ W W' : World, (Tup7.Box W (w.heap.size) ax ay rx ry lx ly q ∧ Below w.heap.size w W) → Below W.heap.size W W' → (Tup7.Box W' (w.heap.size) ax ay rx ry lx ly q ∧ Below w.heap.size w W') := fun W W' ⟨h0, hb⟩ h => ⟨h0.later h, hb.trans (h.mono hb.size)⟩
  have hz0_ : Hid (((w.alloc (Obj.cells #[.int .i64 ax, .int .i64 ay, .int .i64 rx, .int .i64 ry, .int .i64 lx, .int .i64 ly, .int .i64 q] 51))).heap.size = w.heap.size + 1) := Lib.hid (by simp)
  generalize (w.alloc (Obj.cells #[.int .i64 ax, .int .i64 ay, .int .i64 rx, .int .i64 ry, .int .i64 lx, .int .i64 ly, .int .i64 q] 51)) = w0 at X0 b0 hz0_ ⊢
  have S0 := (⟨X0, b0⟩ : Tup7.Box w0 (w.heap.size) ax ay rx ry lx ly q ∧ Below w.heap.size w w0)
  clear X0 b0
  obtain ⟨⟨_, _, _, _, _, _, _⟩, _⟩ := id S0
  refine (PointImpl.turnOf ax ay rx ry lx ly _).mono ?_
  rintro e w1 ⟨rfl, hb_⟩
  replace S0 := HO _ _ S0 hb_
  clear hb_
  obtain ⟨⟨_, _, _, _, _, _, _⟩, _⟩ := id S0
  generalize PointMath.turnOf ax ay rx ry lx ly = t at *
  by_cases h5 : 0 < t
  rotate_left
  · skip
    go_wp2_with fail
    go_ret
    exact ⟨ret_bool (by rw [E.out, show decide (0 < t) = false from decide_eq_false (by omega)]; rfl), S0.2⟩
  by_cases h6 : 1 ≤ q
  rotate_left
  · skip
    go_wp2_with fail
    go_ret
    exact ⟨ret_bool (by rw [E.out, show decide (1 ≤ q) = false from decide_eq_false (by omega)]; simp), S0.2⟩
  by_cases h7 : q ≤ 100
  rotate_left
  · skip
    go_wp2_with fail
    go_ret
    exact ⟨ret_bool (by rw [E.out, show decide (q ≤ 100) = false from decide_eq_false (by omega)]; simp), S0.2⟩
  go_wp2_with fail
  go_ret
  exact ⟨ret_bool (by rw [E.out, show decide (0 < t) = true from decide_eq_true h5, show decide (1 ≤ q) = true from decide_eq_true h6, show decide (q ≤ 100) = true from decide_eq_true h7]; rfl), S0.2⟩

/-- A camera that lies in a block of its own. -/
def CamAt (w : World) (c : Nat) (ax ay rx ry lx ly q : Int) : Prop := Tup7.Box w c ax ay rx ry lx ly q

set_option maxRecDepth 100000 in
set_option maxHeartbeats 3200000 in
theorem shows (C : Nat) (ax ay rx ry lx ly q x y : Int) (w : World) (hc : camB ax ay rx ry lx ly q = true) (ho : okP x y = true) (h1 : Tup7.Box w C ax ay rx ry lx ly q) :
    Calls Try.prog 168 #[.agg #[.int .i64 x, .int .i64 y], .pointer (some ⟨C, 0, none⟩)] w fun e w' => e = .returned (.bool (fieldB ax ay rx ry lx ly q x y)) ∧ Below w.heap.size w w' := by
  obtain ⟨r, hr⟩ : ∃ r, fieldB ax ay rx ry lx ly q x y = r := ⟨_, rfl⟩
  have HR := Lib.hid hr
  rw [hr]
  clear hr
  have pc := cam_parts hc
  have Q1 : Hid (∀ w, _) := Lib.hid fun w => PointImpl.turn ax ay rx ry x y (okP_sm pc.1) (okP_sm pc.2.1) (okP_sm ho) w
  have Q2 : Hid (∀ w, _) := Lib.hid fun w => PointImpl.turn ax ay x y lx ly (okP_sm pc.1) (okP_sm ho) (okP_sm pc.2.2.1) w
  have Q3 : Hid (∀ w, _) := Lib.hid fun w => PointImpl.squareOf ax ay x y w
  rw [show PointMath.squareOf ax ay x y = squareI ax ay x y by unfold PointMath.squareOf; rw [pc.1, ho]; rfl] at Q3
  have E : Hid (r = (decide (0 ≤ turnI ax ay rx ry x y) && decide (0 ≤ turnI ax ay x y lx ly) && decide (squareI ax ay x y ≤ q * q))) := Lib.hid (by rw [← HR.out]; unfold fieldB; rw [hc, ho]; rfl)
  have qb := mul_bound (a := q) (b := q) (n := 100) (by omega) (by omega) (by omega) (by omega)
  have u1 : IntKind.i64.wrap (q * q) = q * q := IntWalk.i64_in _ (by omega)
  generalize turnI ax ay rx ry x y = t1 at *
  generalize turnI ax ay x y lx ly = t2 at *
  generalize squareI ax ay x y = sq at *
  clear HR hc ho pc qb
  have h1b := h1.later (below1 w (Obj.cells #[.int .i64 x, .int .i64 y] 49))
  obtain ⟨_, _, _, _, _, _, _⟩ := h1b
  have x0_ := PointOk.box1 w x y 49 (k := w.heap.size) rfl
  obtain ⟨_, _⟩ := id x0_
  go_enter Try.func168, Try.ntmps168
  go_wp2_with fail
  have X0 := PointOk.box1 w x y 49 (k := w.heap.size) (by simp)
  have b0 := PointOk.below1 w (Obj.cells #[.int .i64 x, .int .i64 y] 49)
  have HO : ∀ W W' : World, (PointOk.Box W (w.heap.size) x y ∧ Tup7.Box W C ax ay rx ry lx ly q ∧ Below w.heap.size w W) → Below W.heap.size W W' → (PointOk.Box W' (w.heap.size) x y ∧ Tup7.Box W' C ax ay rx ry lx ly q ∧ Below w.heap.size w W') := fun W W' ⟨h0, x0, hb⟩ h => ⟨h0.later h, x0.later h, hb.trans (h.mono hb.size)⟩
  have hz0_ : Hid (((w.alloc (Obj.cells #[.int .i64 x, .int .i64 y] 49))).heap.size = w.heap.size + 1) := Lib.hid (by simp)
  have Y0 : Tup7.Box ((w.alloc (Obj.cells #[.int .i64 x, .int .i64 y] 49))) C ax ay rx ry lx ly q := h1.later b0
  generalize (w.alloc (Obj.cells #[.int .i64 x, .int .i64 y] 49)) = w0 at X0 Y0 b0 hz0_ ⊢
  have S0 := (⟨X0, Y0, b0⟩ : PointOk.Box w0 (w.heap.size) x y ∧ Tup7.Box w0 C ax ay rx ry lx ly q ∧ Below w.heap.size w w0)
  clear X0 Y0 b0
  obtain ⟨⟨_, _⟩, ⟨_, _, _, _, _, _, _⟩, _⟩ := id S0
  clear h1
  refine (Q1.out _).mono ?_
  rintro e w1 ⟨rfl, hb_⟩
  replace S0 := HO _ _ S0 hb_
  clear hb_
  obtain ⟨⟨_, _⟩, ⟨_, _, _, _, _, _, _⟩, _⟩ := id S0
  by_cases h1 : 0 ≤ t1
  rotate_left
  · have d1 : decide (0 ≤ t1) = false := decide_eq_false h1
    have E2 : Hid (r = false) := Lib.hid (by rw [E.out, d1]; rfl)
    clear E
    go_wp2_with fail
    refine Settle.region (fun W => PointOk.Box W (w.heap.size) x y ∧ Tup7.Box W C ax ay rx ry lx ly q ∧ Below w.heap.size w W) (by kernel_rfl) (by kernel_rfl) (by kernel_rfl) (by kernel_rfl) (HO _ _ S0 ((Below.refl _ _).drew)) ?_
    clear S0
    repeat (first
      | (refine Settle.Settles.off (by rfl) ?_; simp only [Act.put, List.setIfInBounds_toArray, List.set_cons_zero, List.set_cons_succ])
      | (refine Settle.Settles.quiet (v := ?_) (by rfl) ?_ ?_
         rotate_left
         · (intro W hS; obtain ⟨⟨_, _⟩, ⟨_, _, _, _, _, _, _⟩, _⟩ := hS; go_simp; with_reducible rfl)
         simp only [Act.put, List.setIfInBounds_toArray, List.set_cons_zero, List.set_cons_succ])
      | (refine Settle.Settles.call (v := ?_) (f := ?_) (args := ?_) (by rfl) ?_ ?_ ?_
         rotate_left 3
         · (intro W; go_simp; refine ⟨?_, ?_⟩ <;> with_reducible rfl)
         · (intro W hS; fail)
         simp only [Act.put, List.setIfInBounds_toArray, List.set_cons_zero, List.set_cons_succ]))
    refine Settle.Settles.nil ?_
    intro wr S0
    obtain ⟨⟨_, _⟩, ⟨_, _, _, _, _, _, _⟩, _⟩ := id S0
    go_wp2_with fail
    go_ret
    exact ⟨ret_bool E2.out.symm, S0.2.2⟩
  have d1 : decide (0 ≤ t1) = true := decide_eq_true h1
  go_wp2_with fail
  refine (Q2.out _).mono ?_
  rintro e w2 ⟨rfl, hb_⟩
  replace S0 := HO _ _ S0 hb_
  clear hb_
  obtain ⟨⟨_, _⟩, ⟨_, _, _, _, _, _, _⟩, _⟩ := id S0
  by_cases h2 : 0 ≤ t2
  rotate_left
  · have d2 : decide (0 ≤ t2) = false := decide_eq_false h2
    have E2 : Hid (r = false) := Lib.hid (by rw [E.out, d2]; simp)
    clear E
    go_wp2_with fail
    refine Settle.region (fun W => PointOk.Box W (w.heap.size) x y ∧ Tup7.Box W C ax ay rx ry lx ly q ∧ Below w.heap.size w W) (by kernel_rfl) (by kernel_rfl) (by kernel_rfl) (by kernel_rfl) (HO _ _ S0 ((Below.refl _ _).drew)) ?_
    clear S0
    repeat (first
      | (refine Settle.Settles.off (by rfl) ?_; simp only [Act.put, List.setIfInBounds_toArray, List.set_cons_zero, List.set_cons_succ])
      | (refine Settle.Settles.quiet (v := ?_) (by rfl) ?_ ?_
         rotate_left
         · (intro W hS; obtain ⟨⟨_, _⟩, ⟨_, _, _, _, _, _, _⟩, _⟩ := hS; go_simp; with_reducible rfl)
         simp only [Act.put, List.setIfInBounds_toArray, List.set_cons_zero, List.set_cons_succ])
      | (refine Settle.Settles.call (v := ?_) (f := ?_) (args := ?_) (by rfl) ?_ ?_ ?_
         rotate_left 3
         · (intro W; go_simp; refine ⟨?_, ?_⟩ <;> with_reducible rfl)
         · (intro W hS; fail)
         simp only [Act.put, List.setIfInBounds_toArray, List.set_cons_zero, List.set_cons_succ]))
    refine Settle.Settles.nil ?_
    intro wr S0
    obtain ⟨⟨_, _⟩, ⟨_, _, _, _, _, _, _⟩, _⟩ := id S0
    go_wp2_with fail
    go_ret
    exact ⟨ret_bool E2.out.symm, S0.2.2⟩
  have d2 : decide (0 ≤ t2) = true := decide_eq_true h2
  have E2 : Hid (r = decide (sq ≤ q * q)) := Lib.hid (by rw [E.out, d1, d2]; rfl)
  clear E
  go_wp2_with fail
  refine Settle.region (fun W => PointOk.Box W (w.heap.size) x y ∧ Tup7.Box W C ax ay rx ry lx ly q ∧ Below w.heap.size w W) (by kernel_rfl) (by kernel_rfl) (by kernel_rfl) (by kernel_rfl) (HO _ _ S0 ((Below.refl _ _).drew)) ?_
  clear S0
  repeat (first
    | (refine Settle.Settles.off (by rfl) ?_; simp only [Act.put, List.setIfInBounds_toArray, List.set_cons_zero, List.set_cons_succ])
    | (refine Settle.Settles.quiet (v := ?_) (by rfl) ?_ ?_
       rotate_left
       · (intro W hS; obtain ⟨⟨_, _⟩, ⟨_, _, _, _, _, _, _⟩, _⟩ := hS; go_simp; with_reducible rfl)
       simp only [Act.put, List.setIfInBounds_toArray, List.set_cons_zero, List.set_cons_succ])
    | (refine Settle.Settles.call (v := ?_) (f := ?_) (args := ?_) (by rfl) ?_ ?_ ?_
       rotate_left 3
       · (intro W; go_simp; refine ⟨?_, ?_⟩ <;> with_reducible rfl)
       · (intro W hS; first | (go_at_call 169; (with_reducible refine (Q3.out _).mono ?_); rintro e W1 ⟨rfl, hb⟩; refine ⟨?_, HO _ _ hS hb⟩; with_reducible rfl))
       simp only [Act.put, List.setIfInBounds_toArray, List.set_cons_zero, List.set_cons_succ]))
  refine Settle.Settles.nil ?_
  intro wr S0
  obtain ⟨⟨_, _⟩, ⟨_, _, _, _, _, _, _⟩, _⟩ := id S0
  go_wp2_with fail
  go_ret
  exact ⟨ret_bool E2.out.symm, S0.2.2⟩

/-- A lens came back that shows the camera's field. -/
def Lens (w : World) (ax ay rx ry lx ly q : Int) (en : Ending) (w' : World) : Prop :=
  ∃ C, en = .returned (.agg #[.func (.func 168) #[] #[.pointer (some ⟨C, 0, none⟩)]]) ∧ Tup7.Box w' C ax ay rx ry lx ly q ∧ w.heap.size ≤ C ∧ Below w.heap.size w w'

set_option maxHeartbeats 800000 in
theorem lensOf (ax ay rx ry lx ly q : Int) (w : World) : Calls Try.prog 135 #[.agg #[.int .i64 ax, .int .i64 ay, .int .i64 rx, .int .i64 ry, .int .i64 lx, .int .i64 ly, .int .i64 q]] w (Lens w ax ay rx ry lx ly q) := by
  have hmf : ∀ (fn : Fn) (first cap : Array Value) (w : World), (Instr.makeFunc fn first cap).run Try.prog w = .ok (.func fn first cap) w := fun _ _ _ _ => rfl
  go_enter Try.func135, Try.ntmps135
  go_wp2_with fail
  refine bodyPost_ret (v := .agg #[.func (.func 168) #[] #[.pointer (some ⟨w.heap.size, 0, none⟩)]]) (by simp [results, Try.results135, go_sem]) rfl ?_
  exact ⟨w.heap.size, rfl, (Tup7.box1 w ax ay rx ry lx ly q 51 rfl).alloc _, Nat.le_refl _, below2 w _ _⟩

end Go.Proofs.Ythokeedmccfalaa.TrackImpl

