/-
  What TurnCamera does, as a contract: what it answers; new memory alone is written.
-/
import Derived.Test.YtonbpmabmjhdgaaTrackImpl
import Derived.Test.YtonbpmabmjhdgaaTurncMath
import Derived.Test.YtonbpmabmjhdgaaLawCamera

namespace Go.Proofs.Ytonbpmabmjhdgaa.TurncImpl
open Go.RowKit Own PointMath TrackMath TurncMath Tup7 Blk PointOkImpl
open PointOk (ret_bool ret_i64 below1 below2 below3)
open LawCamera (facts)

set_option maxRecDepth 100000 in
set_option maxHeartbeats 3200000 in
theorem minusW (ax ay bx bY X Y : Int) (u1 : IntKind.i64.wrap (ax - bx) = X) (u2 : IntKind.i64.wrap (ay - bY) = Y) (w : World) :
    Calls Try.prog 78 #[.agg #[.int .i64 ax, .int .i64 ay], .agg #[.int .i64 bx, .int .i64 bY]] w fun e w' => e = .returned (.agg #[.int .i64 X, .int .i64 Y]) ∧ Below w.heap.size w w' := by
  go_enter Try.func78, Try.ntmps78
  go_wp2_with fail
  refine bodyPost_ret (v := .agg #[.int .i64 X, .int .i64 Y]) (by simp [results, Try.results78, go_sem]) rfl ⟨rfl, ?_⟩
  exact below3 _ _ _ _ 

set_option maxRecDepth 100000 in
set_option maxHeartbeats 3200000 in
theorem plusW (ax ay bx bY X Y : Int) (u1 : IntKind.i64.wrap (ax + bx) = X) (u2 : IntKind.i64.wrap (ay + bY) = Y) (w : World) :
    Calls Try.prog 77 #[.agg #[.int .i64 ax, .int .i64 ay], .agg #[.int .i64 bx, .int .i64 bY]] w fun e w' => e = .returned (.agg #[.int .i64 X, .int .i64 Y]) ∧ Below w.heap.size w w' := by
  go_enter Try.func77, Try.ntmps77
  go_wp2_with fail
  refine bodyPost_ret (v := .agg #[.int .i64 X, .int .i64 Y]) (by simp [results, Try.results77, go_sem]) rfl ⟨rfl, ?_⟩
  exact below3 _ _ _ _ 

set_option maxRecDepth 100000 in
set_option maxHeartbeats 3200000 in
theorem leftW (ax ay X : Int) (u1 : IntKind.i64.wrap (-ay) = X) (w : World) :
    Calls Try.prog 79 #[.agg #[.int .i64 ax, .int .i64 ay]] w fun e w' => e = .returned (.agg #[.int .i64 X, .int .i64 ax]) ∧ Below w.heap.size w w' := by
  go_enter Try.func79, Try.ntmps79
  go_wp2_with fail
  refine bodyPost_ret (v := .agg #[.int .i64 X, .int .i64 ax]) (by simp [results, Try.results79, go_sem]) rfl ⟨rfl, ?_⟩
  exact below2 _ _ _ 

set_option maxRecDepth 100000 in
set_option maxHeartbeats 3200000 in
theorem turnedW (px py cx cy : Int) (w : World) (U1 V1 U2 X Y : Int) (h1 : IntKind.i64.wrap (px - cx) = U1) (h2 : IntKind.i64.wrap (py - cy) = V1) (h3 : IntKind.i64.wrap (-V1) = U2) (h4 : IntKind.i64.wrap (cx + U2) = X) (h5 : IntKind.i64.wrap (cy + U1) = Y) :
    Calls Try.prog 62 #[.agg #[.int .i64 px, .int .i64 py], .agg #[.int .i64 cx, .int .i64 cy]] w fun e w' => e = .returned (.agg #[.int .i64 X, .int .i64 Y]) ∧ Below w.heap.size w w' := by
  have Q1 := Lib.hid fun w => minusW px py cx cy U1 V1 h1 h2 w
  have Q2 := Lib.hid fun w => leftW U1 V1 U2 h3 w
  have Q3 := Lib.hid fun w => plusW cx cy U2 U1 X Y h4 h5 w
  clear h1 h2 h3 h4 h5
  go_enter Try.func62, Try.ntmps62
  go_wp2_with fail
  have X0 := ((PointOk.box1 w px py 27 (k := w.heap.size) (by simp)).alloc (Obj.cells #[.int .i64 cx, .int .i64 cy] 27)).alloc (Obj.cells #[.int .i64 0, .int .i64 0] 27)
  have X1 := (PointOk.box1 (w.alloc (Obj.cells #[.int .i64 px, .int .i64 py] 27)) cx cy 27 (k := w.heap.size + 1) (by simp)).alloc (Obj.cells #[.int .i64 0, .int .i64 0] 27)
  have X2 := Blk.Holds.box ((w.alloc (Obj.cells #[.int .i64 px, .int .i64 py] 27)).alloc (Obj.cells #[.int .i64 cx, .int .i64 cy] 27)) #[.int .i64 0, .int .i64 0] 27 (k := w.heap.size + 1 + 1) (by simp)
  have b0 := PointOk.below3 w (Obj.cells #[.int .i64 px, .int .i64 py] 27) (Obj.cells #[.int .i64 cx, .int .i64 cy] 27) (Obj.cells #[.int .i64 0, .int .i64 0] 27)
  have HO : ∀ W W' : World, (PointOk.Box W (w.heap.size) px py ∧ PointOk.Box W (w.heap.size + 1) cx cy ∧ Blk.Holds W (w.heap.size + 1 + 1) #[.int .i64 0, .int .i64 0] 27 ∧ Below w.heap.size w W) → Below W.heap.size W W' → (PointOk.Box W' (w.heap.size) px py ∧ PointOk.Box W' (w.heap.size + 1) cx cy ∧ Blk.Holds W' (w.heap.size + 1 + 1) #[.int .i64 0, .int .i64 0] 27 ∧ Below w.heap.size w W') := fun W W' ⟨h0, h1, h2, hb⟩ h => ⟨h0.later h, h1.later h, h2.later h, hb.trans (h.mono hb.size)⟩
  have hz0_ : Hid (((((w.alloc (Obj.cells #[.int .i64 px, .int .i64 py] 27)).alloc (Obj.cells #[.int .i64 cx, .int .i64 cy] 27)).alloc (Obj.cells #[.int .i64 0, .int .i64 0] 27))).heap.size = w.heap.size + 1 + 1 + 1) := Lib.hid (by simp)
  generalize (((w.alloc (Obj.cells #[.int .i64 px, .int .i64 py] 27)).alloc (Obj.cells #[.int .i64 cx, .int .i64 cy] 27)).alloc (Obj.cells #[.int .i64 0, .int .i64 0] 27)) = w0 at X0 X1 X2 b0 hz0_ ⊢
  have S0 := (⟨X0, X1, X2, b0⟩ : PointOk.Box w0 (w.heap.size) px py ∧ PointOk.Box w0 (w.heap.size + 1) cx cy ∧ Blk.Holds w0 (w.heap.size + 1 + 1) #[.int .i64 0, .int .i64 0] 27 ∧ Below w.heap.size w w0)
  clear X0 X1 X2 b0
  obtain ⟨⟨_, _⟩, ⟨_, _⟩, _, _⟩ := id S0
  refine Settle.regionTails (fun W => PointOk.Box W (w.heap.size) px py ∧ PointOk.Box W (w.heap.size + 1) cx cy ∧ Blk.Holds W (w.heap.size + 1 + 1) #[.int .i64 0, .int .i64 0] 27 ∧ Below w.heap.size w W) 6 (by kernel_rfl) (by kernel_rfl) (of_decide_eq_true (by kernel_rfl)) (by kernel_rfl) (by kernel_rfl) (by kernel_rfl) (by kernel_rfl) (HO _ _ S0 ((Below.refl _ _).drew)) ?_
  simp only [List.take_succ_cons, List.take_zero, List.drop_succ_cons, List.drop_zero]
  clear S0
  repeat (first
    | (refine Settle.Settles.off (by rfl) ?_; simp only [Act.put, List.setIfInBounds_toArray, List.set_cons_zero, List.set_cons_succ])
    | (refine Settle.Settles.quiet (v := ?_) (by rfl) ?_ ?_
       rotate_left
       · (intro W hS; obtain ⟨⟨_, _⟩, ⟨_, _⟩, _, _⟩ := hS; go_simp; with_reducible rfl)
       simp only [Act.put, List.setIfInBounds_toArray, List.set_cons_zero, List.set_cons_succ])
    | (refine Settle.Settles.call (v := ?_) (f := ?_) (args := ?_) (by rfl) ?_ ?_ ?_
       rotate_left 3
       · (intro W; go_simp; refine ⟨?_, ?_⟩ <;> with_reducible rfl)
       · (intro W hS; first | (go_at_call 78; (with_reducible refine (Q1.out _).mono ?_); rintro e W1 ⟨rfl, hb⟩; refine ⟨?_, HO _ _ hS hb⟩; with_reducible rfl) | (go_at_call 79; (with_reducible refine (Q2.out _).mono ?_); rintro e W1 ⟨rfl, hb⟩; refine ⟨?_, HO _ _ hS hb⟩; with_reducible rfl) | (go_at_call 77; (with_reducible refine (Q3.out _).mono ?_); rintro e W1 ⟨rfl, hb⟩; refine ⟨?_, HO _ _ hS hb⟩; with_reducible rfl))
       simp only [Act.put, List.setIfInBounds_toArray, List.set_cons_zero, List.set_cons_succ]))
  refine Settle.Settles.nil ?_
  intro wr S0 K_ hK_
  obtain ⟨⟨_, _⟩, ⟨_, _⟩, _, _⟩ := id S0
  obtain ⟨⟨_, _⟩, _, _⟩ := Blk.Holds.two S0.2.2.1
  go_wp2_with fail
  have E_ := Blk.set_own (Blk.set_own S0.2.2.1 0 (.int .i64 (X))) 1 (.int .i64 (Y))
  obtain ⟨⟨r0_, r1_⟩, _⟩ := Blk.Holds.two E_
  refine bodyPost_ret (v := .agg #[.int .i64 (X), .int .i64 (Y)]) (by simp [results, Try.results62, go_sem, r0_, r1_]) rfl ⟨rfl, ?_⟩
  exact ((S0.2.2.2).setCell (p := ⟨w.heap.size + 1 + 1, 0, none⟩) (show w.heap.size ≤ w.heap.size + 1 + 1 by omega) _).setCell (p := ⟨w.heap.size + 1 + 1, 1, none⟩) (show w.heap.size ≤ w.heap.size + 1 + 1 by omega) _

set_option maxRecDepth 100000 in
set_option maxHeartbeats 3200000 in
theorem turnCamera (ax ay rx ry lx ly q : Int) (w : World) :
    Calls Try.prog 22 #[.agg #[.int .i64 ax, .int .i64 ay, .int .i64 rx, .int .i64 ry, .int .i64 lx, .int .i64 ly, .int .i64 q]] w fun e w' => e = .returned (tcV ax ay rx ry lx ly q) ∧ Below w.heap.size w w' := by
  obtain ⟨r, hr⟩ : ∃ r, tcV ax ay rx ry lx ly q = r := ⟨_, rfl⟩
  have HR := Lib.hid hr
  rw [hr]
  clear hr
  obtain ⟨U1, h1⟩ : ∃ U, IntKind.i64.wrap (rx - ax) = U := ⟨_, rfl⟩
  obtain ⟨V1, h2⟩ : ∃ U, IntKind.i64.wrap (ry - ay) = U := ⟨_, rfl⟩
  obtain ⟨U2, h3⟩ : ∃ U, IntKind.i64.wrap (-V1) = U := ⟨_, rfl⟩
  obtain ⟨X1, h4⟩ : ∃ U, IntKind.i64.wrap (ax + U2) = U := ⟨_, rfl⟩
  obtain ⟨Y1, h5⟩ : ∃ U, IntKind.i64.wrap (ay + U1) = U := ⟨_, rfl⟩
  obtain ⟨P1, l1⟩ : ∃ U, IntKind.i64.wrap (lx - ax) = U := ⟨_, rfl⟩
  obtain ⟨T1, l2⟩ : ∃ U, IntKind.i64.wrap (ly - ay) = U := ⟨_, rfl⟩
  obtain ⟨P2, l3⟩ : ∃ U, IntKind.i64.wrap (-T1) = U := ⟨_, rfl⟩
  obtain ⟨X2, l4⟩ : ∃ U, IntKind.i64.wrap (ax + P2) = U := ⟨_, rfl⟩
  obtain ⟨Y2, l5⟩ : ∃ U, IntKind.i64.wrap (ay + P1) = U := ⟨_, rfl⟩
  have QR := Lib.hid fun w => turnedW rx ry ax ay w U1 V1 U2 X1 Y1 h1 h2 h3 h4 h5
  have QL := Lib.hid fun w => turnedW lx ly ax ay w P1 T1 P2 X2 Y2 l1 l2 l3 l4 l5
  have HX : Hid (camB ax ay rx ry lx ly q = true → turnX ax ay rx ry = X1 ∧ turnY ax ay rx ry = Y1 ∧ turnX ax ay lx ly = X2 ∧ turnY ax ay lx ly = Y2) := Lib.hid (fun h => by
    obtain ⟨oa, or, ol, _, _⟩ := cam_parts h
    have k1 := okP_yes oa
    have k2 := okP_yes or
    have k3 := okP_yes ol
    rw [IntWalk.i64_in _ (by omega)] at h1 h2 l1 l2
    subst h1 h2 l1 l2
    rw [IntWalk.i64_in _ (by omega)] at h3 l3
    subst h3 l3
    rw [IntWalk.i64_in _ (by omega)] at h4 h5 l4 l5
    subst h4 h5 l4 l5
    unfold turnX turnY
    refine ⟨?_, ?_, ?_, ?_⟩ <;> omega)
  clear h1 h2 h3 h4 h5 l1 l2 l3 l4 l5
  have EN : Hid (tcB ax ay rx ry lx ly q = false → r = _) := Lib.hid fun h => HR.out.symm.trans (tc_no (ax := ax) (ay := ay) (rx := rx) (ry := ry) (lx := lx) (ly := ly) (q := q) h)
  have E1 : Hid (camB ax ay rx ry lx ly q = false → tcB ax ay rx ry lx ly q = false) := Lib.hid fun h => tc_no1 h
  have E2 : Hid (camB ax ay rx ry lx ly q = true → camB ax ay X1 Y1 X2 Y2 q = false → tcB ax ay rx ry lx ly q = false) := Lib.hid (fun h1 h2 => by
    obtain ⟨e1, e2, e3, e4⟩ := HX.out h1
    unfold tcB
    rw [e1, e2, e3, e4, h2, Bool.and_false])
  have EY : Hid (camB ax ay rx ry lx ly q = true → camB ax ay X1 Y1 X2 Y2 q = true → r = .tuple #[.agg #[.int .i64 ax, .int .i64 ay, .int .i64 X1, .int .i64 Y1, .int .i64 X2, .int .i64 Y2, .int .i64 q], .bool true]) := Lib.hid (fun h1 h2 => by
    obtain ⟨e1, e2, e3, e4⟩ := HX.out h1
    rw [← HR.out, tc_yes (by unfold tcB; rw [e1, e2, e3, e4, h1, h2]; rfl), e1, e2, e3, e4])
  have QC := Lib.hid fun w => TrackImpl.cameraOk ax ay rx ry lx ly q w
  have QD := Lib.hid fun w => TrackImpl.cameraOk ax ay X1 Y1 X2 Y2 q w
  clear HR
  generalize tcB ax ay rx ry lx ly q = tb at *
  generalize camB ax ay rx ry lx ly q = o1 at *
  generalize camB ax ay X1 Y1 X2 Y2 q = o2 at *
  clear HX
  have hb := below3 w (Obj.cells #[.int .i64 ax, .int .i64 ay, .int .i64 rx, .int .i64 ry, .int .i64 lx, .int .i64 ly, .int .i64 q] 29) (Obj.cells #[.int .i64 0, .int .i64 0, .int .i64 0, .int .i64 0, .int .i64 0, .int .i64 0, .int .i64 0] 29) (Obj.cells #[.int .i64 ax, .int .i64 ay, .int .i64 rx, .int .i64 ry, .int .i64 lx, .int .i64 ly, .int .i64 q] 29)
  have B0 : Holds (((w.alloc (Obj.cells #[.int .i64 ax, .int .i64 ay, .int .i64 rx, .int .i64 ry, .int .i64 lx, .int .i64 ly, .int .i64 q] 29)).alloc (Obj.cells #[.int .i64 0, .int .i64 0, .int .i64 0, .int .i64 0, .int .i64 0, .int .i64 0, .int .i64 0] 29)).alloc (Obj.cells #[.int .i64 ax, .int .i64 ay, .int .i64 rx, .int .i64 ry, .int .i64 lx, .int .i64 ly, .int .i64 q] 29)) w.heap.size #[.int .i64 ax, .int .i64 ay, .int .i64 rx, .int .i64 ry, .int .i64 lx, .int .i64 ly, .int .i64 q] 29 := ((Holds.new w _ _).below (below1 _ _) (by simp)).below (below1 _ _) (by simp; omega)
  have B1 : Holds (((w.alloc (Obj.cells #[.int .i64 ax, .int .i64 ay, .int .i64 rx, .int .i64 ry, .int .i64 lx, .int .i64 ly, .int .i64 q] 29)).alloc (Obj.cells #[.int .i64 0, .int .i64 0, .int .i64 0, .int .i64 0, .int .i64 0, .int .i64 0, .int .i64 0] 29)).alloc (Obj.cells #[.int .i64 ax, .int .i64 ay, .int .i64 rx, .int .i64 ry, .int .i64 lx, .int .i64 ly, .int .i64 q] 29)) (w.heap.size + 1) #[.int .i64 0, .int .i64 0, .int .i64 0, .int .i64 0, .int .i64 0, .int .i64 0, .int .i64 0] 29 := by
    have := (Holds.new (w.alloc (Obj.cells #[.int .i64 ax, .int .i64 ay, .int .i64 rx, .int .i64 ry, .int .i64 lx, .int .i64 ly, .int .i64 q] 29)) #[.int .i64 0, .int .i64 0, .int .i64 0, .int .i64 0, .int .i64 0, .int .i64 0, .int .i64 0] 29).below (below1 _ (Obj.cells #[.int .i64 ax, .int .i64 ay, .int .i64 rx, .int .i64 ry, .int .i64 lx, .int .i64 ly, .int .i64 q] 29)) (by simp)
    simpa using this
  have B2 : Holds (((w.alloc (Obj.cells #[.int .i64 ax, .int .i64 ay, .int .i64 rx, .int .i64 ry, .int .i64 lx, .int .i64 ly, .int .i64 q] 29)).alloc (Obj.cells #[.int .i64 0, .int .i64 0, .int .i64 0, .int .i64 0, .int .i64 0, .int .i64 0, .int .i64 0] 29)).alloc (Obj.cells #[.int .i64 ax, .int .i64 ay, .int .i64 rx, .int .i64 ry, .int .i64 lx, .int .i64 ly, .int .i64 q] 29)) (w.heap.size + 1 + 1) #[.int .i64 ax, .int .i64 ay, .int .i64 rx, .int .i64 ry, .int .i64 lx, .int .i64 ly, .int .i64 q] 29 := by
    have := Holds.new ((w.alloc (Obj.cells #[.int .i64 ax, .int .i64 ay, .int .i64 rx, .int .i64 ry, .int .i64 lx, .int .i64 ly, .int .i64 q] 29)).alloc (Obj.cells #[.int .i64 0, .int .i64 0, .int .i64 0, .int .i64 0, .int .i64 0, .int .i64 0, .int .i64 0] 29)) #[.int .i64 ax, .int .i64 ay, .int .i64 rx, .int .i64 ry, .int .i64 lx, .int .i64 ly, .int .i64 q] 29
    simpa using this
  have hz : w.heap.size + 3 ≤ (((w.alloc (Obj.cells #[.int .i64 ax, .int .i64 ay, .int .i64 rx, .int .i64 ry, .int .i64 lx, .int .i64 ly, .int .i64 q] 29)).alloc (Obj.cells #[.int .i64 0, .int .i64 0, .int .i64 0, .int .i64 0, .int .i64 0, .int .i64 0, .int .i64 0] 29)).alloc (Obj.cells #[.int .i64 ax, .int .i64 ay, .int .i64 rx, .int .i64 ry, .int .i64 lx, .int .i64 ly, .int .i64 q] 29)).heap.size := by simp
  go_enter Try.func22, Try.ntmps22
  go_wp2_with fail
  generalize (((w.alloc (Obj.cells #[.int .i64 ax, .int .i64 ay, .int .i64 rx, .int .i64 ry, .int .i64 lx, .int .i64 ly, .int .i64 q] 29)).alloc (Obj.cells #[.int .i64 0, .int .i64 0, .int .i64 0, .int .i64 0, .int .i64 0, .int .i64 0, .int .i64 0] 29)).alloc (Obj.cells #[.int .i64 ax, .int .i64 ay, .int .i64 rx, .int .i64 ry, .int .i64 lx, .int .i64 ly, .int .i64 q] 29)) = W0_ at *
  refine (QR.out _).mono ?_
  rintro e w1 ⟨rfl, h1⟩
  replace B0 := B0.below h1 (by omega)
  replace B1 := B1.below h1 (by omega)
  replace B2 := B2.below h1 (by omega)
  replace hb := hb.trans (h1.mono hb.size)
  replace hz := Nat.le_trans hz h1.size
  clear h1
  obtain ⟨⟨_, _, _, _, _, _, _⟩, _⟩ := facts B0
  obtain ⟨⟨_, _, _, _, _, _, _⟩, _, _, _, _, _, _, _⟩ := facts B2
  go_wp2_with fail
  have C2 : Holds ((w1.setCell ⟨w.heap.size + 1 + 1, 2, none⟩ (.int .i64 X1)).setCell ⟨w.heap.size + 1 + 1, 3, none⟩ (.int .i64 Y1)) (w.heap.size + 1 + 1) #[.int .i64 ax, .int .i64 ay, .int .i64 X1, .int .i64 Y1, .int .i64 lx, .int .i64 ly, .int .i64 q] 29 := (set_own (set_own B2 2 (.int .i64 X1)) 3 (.int .i64 Y1))
  have C1 := (((B1).far ⟨w.heap.size + 1 + 1, 2, none⟩ (.int .i64 X1) (show ¬ w.heap.size + 1 = w.heap.size + 1 + 1 by omega)).far ⟨w.heap.size + 1 + 1, 3, none⟩ (.int .i64 Y1) (show ¬ w.heap.size + 1 = w.heap.size + 1 + 1 by omega))
  have C0 := (((B0).far ⟨w.heap.size + 1 + 1, 2, none⟩ (.int .i64 X1) (show ¬ w.heap.size = w.heap.size + 1 + 1 by omega)).far ⟨w.heap.size + 1 + 1, 3, none⟩ (.int .i64 Y1) (show ¬ w.heap.size = w.heap.size + 1 + 1 by omega))
  replace hb := ((hb.setCell (p := ⟨w.heap.size + 1 + 1, 2, none⟩) (show w.heap.size ≤ w.heap.size + 1 + 1 by omega) (.int .i64 X1)).setCell (p := ⟨w.heap.size + 1 + 1, 3, none⟩) (show w.heap.size ≤ w.heap.size + 1 + 1 by omega) (.int .i64 Y1))
  replace hz : w.heap.size + 3 ≤ ((w1.setCell ⟨w.heap.size + 1 + 1, 2, none⟩ (.int .i64 X1)).setCell ⟨w.heap.size + 1 + 1, 3, none⟩ (.int .i64 Y1)).heap.size := by simpa [World.setCell] using hz
  clear B0 B1 B2
  generalize ((w1.setCell ⟨w.heap.size + 1 + 1, 2, none⟩ (.int .i64 X1)).setCell ⟨w.heap.size + 1 + 1, 3, none⟩ (.int .i64 Y1)) = W1_ at *
  have B0 := C0
  have B1 := C1
  have B2 := C2
  clear C0 C1 C2
  obtain ⟨⟨_, _, _, _, _, _, _⟩, _⟩ := facts B0
  obtain ⟨⟨_, _, _, _, _, _, _⟩, _, _, _, _, _, _, _⟩ := facts B2
  go_wp2_with fail
  refine (QL.out _).mono ?_
  rintro e w2 ⟨rfl, h1⟩
  replace B0 := B0.below h1 (by omega)
  replace B1 := B1.below h1 (by omega)
  replace B2 := B2.below h1 (by omega)
  replace hb := hb.trans (h1.mono hb.size)
  replace hz := Nat.le_trans hz h1.size
  clear h1
  obtain ⟨⟨_, _, _, _, _, _, _⟩, _⟩ := facts B0
  obtain ⟨⟨_, _, _, _, _, _, _⟩, _, _, _, _, _, _, _⟩ := facts B2
  go_wp2_with fail
  have C2 : Holds ((w2.setCell ⟨w.heap.size + 1 + 1, 4, none⟩ (.int .i64 X2)).setCell ⟨w.heap.size + 1 + 1, 5, none⟩ (.int .i64 Y2)) (w.heap.size + 1 + 1) #[.int .i64 ax, .int .i64 ay, .int .i64 X1, .int .i64 Y1, .int .i64 X2, .int .i64 Y2, .int .i64 q] 29 := (set_own (set_own B2 4 (.int .i64 X2)) 5 (.int .i64 Y2))
  have C1 := (((B1).far ⟨w.heap.size + 1 + 1, 4, none⟩ (.int .i64 X2) (show ¬ w.heap.size + 1 = w.heap.size + 1 + 1 by omega)).far ⟨w.heap.size + 1 + 1, 5, none⟩ (.int .i64 Y2) (show ¬ w.heap.size + 1 = w.heap.size + 1 + 1 by omega))
  have C0 := (((B0).far ⟨w.heap.size + 1 + 1, 4, none⟩ (.int .i64 X2) (show ¬ w.heap.size = w.heap.size + 1 + 1 by omega)).far ⟨w.heap.size + 1 + 1, 5, none⟩ (.int .i64 Y2) (show ¬ w.heap.size = w.heap.size + 1 + 1 by omega))
  replace hb := ((hb.setCell (p := ⟨w.heap.size + 1 + 1, 4, none⟩) (show w.heap.size ≤ w.heap.size + 1 + 1 by omega) (.int .i64 X2)).setCell (p := ⟨w.heap.size + 1 + 1, 5, none⟩) (show w.heap.size ≤ w.heap.size + 1 + 1 by omega) (.int .i64 Y2))
  replace hz : w.heap.size + 3 ≤ ((w2.setCell ⟨w.heap.size + 1 + 1, 4, none⟩ (.int .i64 X2)).setCell ⟨w.heap.size + 1 + 1, 5, none⟩ (.int .i64 Y2)).heap.size := by simpa [World.setCell] using hz
  clear B0 B1 B2
  generalize ((w2.setCell ⟨w.heap.size + 1 + 1, 4, none⟩ (.int .i64 X2)).setCell ⟨w.heap.size + 1 + 1, 5, none⟩ (.int .i64 Y2)) = W2_ at *
  have B0 := C0
  have B1 := C1
  have B2 := C2
  clear C0 C1 C2
  obtain ⟨⟨_, _, _, _, _, _, _⟩, _⟩ := facts B0
  obtain ⟨⟨_, _, _, _, _, _, _⟩, _, _, _, _, _, _, _⟩ := facts B2
  go_wp2_with fail
  refine (QC.out _).mono ?_
  rintro e w5 ⟨rfl, h1⟩
  replace B0 := B0.below h1 (by omega)
  replace B1 := B1.below h1 (by omega)
  replace B2 := B2.below h1 (by omega)
  replace hb := hb.trans (h1.mono hb.size)
  replace hz := Nat.le_trans hz h1.size
  clear h1
  obtain ⟨⟨_, _, _, _, _, _, _⟩, _⟩ := facts B0
  obtain ⟨⟨_, _, _, _, _, _, _⟩, _, _, _, _, _, _, _⟩ := facts B2
  cases o1
  · have E := Lib.hid (EN.out (E1.out (by trivial)))
    clear E1 E2 EY EN
    obtain ⟨_, g0_, g1_, g2_, g3_, g4_, g5_, g6_⟩ := facts B1
    go_wp2_with fail
    have E1 := (set_own (set_own (set_own (set_own (set_own (set_own (set_own B1 0 (.int .i64 ax)) 1 (.int .i64 ay)) 2 (.int .i64 rx)) 3 (.int .i64 ry)) 4 (.int .i64 lx)) 5 (.int .i64 ly)) 6 (.int .i64 q))
    obtain ⟨⟨c0_, c1_, c2_, c3_, c4_, c5_, c6_⟩, _⟩ := facts E1
    refine bodyPost_ret (v := .tuple #[.agg #[.int .i64 ax, .int .i64 ay, .int .i64 rx, .int .i64 ry, .int .i64 lx, .int .i64 ly, .int .i64 q], .bool false]) (by simp [results, Try.results22, go_sem, c0_, c1_, c2_, c3_, c4_, c5_, c6_]) rfl ⟨by rw [E.out], ?_⟩
    exact (((((((hb.setCell (p := ⟨w.heap.size + 1, 0, none⟩) (show w.heap.size ≤ w.heap.size + 1 by omega) (.int .i64 ax)).setCell (p := ⟨w.heap.size + 1, 1, none⟩) (show w.heap.size ≤ w.heap.size + 1 by omega) (.int .i64 ay)).setCell (p := ⟨w.heap.size + 1, 2, none⟩) (show w.heap.size ≤ w.heap.size + 1 by omega) (.int .i64 rx)).setCell (p := ⟨w.heap.size + 1, 3, none⟩) (show w.heap.size ≤ w.heap.size + 1 by omega) (.int .i64 ry)).setCell (p := ⟨w.heap.size + 1, 4, none⟩) (show w.heap.size ≤ w.heap.size + 1 by omega) (.int .i64 lx)).setCell (p := ⟨w.heap.size + 1, 5, none⟩) (show w.heap.size ≤ w.heap.size + 1 by omega) (.int .i64 ly)).setCell (p := ⟨w.heap.size + 1, 6, none⟩) (show w.heap.size ≤ w.heap.size + 1 by omega) (.int .i64 q))
  go_wp2_with fail
  refine (QD.out _).mono ?_
  rintro e w6 ⟨rfl, h1⟩
  replace B0 := B0.below h1 (by omega)
  replace B1 := B1.below h1 (by omega)
  replace B2 := B2.below h1 (by omega)
  replace hb := hb.trans (h1.mono hb.size)
  replace hz := Nat.le_trans hz h1.size
  clear h1
  obtain ⟨⟨_, _, _, _, _, _, _⟩, _⟩ := facts B0
  obtain ⟨⟨_, _, _, _, _, _, _⟩, _, _, _, _, _, _, _⟩ := facts B2
  cases o2
  · have E := Lib.hid (EN.out (E2.out (by trivial) (by trivial)))
    clear E1 E2 EY EN
    obtain ⟨_, g0_, g1_, g2_, g3_, g4_, g5_, g6_⟩ := facts B1
    go_wp2_with fail
    have E1 := (set_own (set_own (set_own (set_own (set_own (set_own (set_own B1 0 (.int .i64 ax)) 1 (.int .i64 ay)) 2 (.int .i64 rx)) 3 (.int .i64 ry)) 4 (.int .i64 lx)) 5 (.int .i64 ly)) 6 (.int .i64 q))
    obtain ⟨⟨c0_, c1_, c2_, c3_, c4_, c5_, c6_⟩, _⟩ := facts E1
    refine bodyPost_ret (v := .tuple #[.agg #[.int .i64 ax, .int .i64 ay, .int .i64 rx, .int .i64 ry, .int .i64 lx, .int .i64 ly, .int .i64 q], .bool false]) (by simp [results, Try.results22, go_sem, c0_, c1_, c2_, c3_, c4_, c5_, c6_]) rfl ⟨by rw [E.out], ?_⟩
    exact (((((((hb.setCell (p := ⟨w.heap.size + 1, 0, none⟩) (show w.heap.size ≤ w.heap.size + 1 by omega) (.int .i64 ax)).setCell (p := ⟨w.heap.size + 1, 1, none⟩) (show w.heap.size ≤ w.heap.size + 1 by omega) (.int .i64 ay)).setCell (p := ⟨w.heap.size + 1, 2, none⟩) (show w.heap.size ≤ w.heap.size + 1 by omega) (.int .i64 rx)).setCell (p := ⟨w.heap.size + 1, 3, none⟩) (show w.heap.size ≤ w.heap.size + 1 by omega) (.int .i64 ry)).setCell (p := ⟨w.heap.size + 1, 4, none⟩) (show w.heap.size ≤ w.heap.size + 1 by omega) (.int .i64 lx)).setCell (p := ⟨w.heap.size + 1, 5, none⟩) (show w.heap.size ≤ w.heap.size + 1 by omega) (.int .i64 ly)).setCell (p := ⟨w.heap.size + 1, 6, none⟩) (show w.heap.size ≤ w.heap.size + 1 by omega) (.int .i64 q))
  · have E := Lib.hid (EY.out (by trivial) (by trivial))
    clear E1 E2 EY EN
    obtain ⟨_, g0_, g1_, g2_, g3_, g4_, g5_, g6_⟩ := facts B1
    go_wp2_with fail
    have E1 := (set_own (set_own (set_own (set_own (set_own (set_own (set_own B1 0 (.int .i64 ax)) 1 (.int .i64 ay)) 2 (.int .i64 X1)) 3 (.int .i64 Y1)) 4 (.int .i64 X2)) 5 (.int .i64 Y2)) 6 (.int .i64 q))
    obtain ⟨⟨c0_, c1_, c2_, c3_, c4_, c5_, c6_⟩, _⟩ := facts E1
    refine bodyPost_ret (v := .tuple #[.agg #[.int .i64 ax, .int .i64 ay, .int .i64 X1, .int .i64 Y1, .int .i64 X2, .int .i64 Y2, .int .i64 q], .bool true]) (by simp [results, Try.results22, go_sem, c0_, c1_, c2_, c3_, c4_, c5_, c6_]) rfl ⟨by rw [E.out], ?_⟩
    exact (((((((hb.setCell (p := ⟨w.heap.size + 1, 0, none⟩) (show w.heap.size ≤ w.heap.size + 1 by omega) (.int .i64 ax)).setCell (p := ⟨w.heap.size + 1, 1, none⟩) (show w.heap.size ≤ w.heap.size + 1 by omega) (.int .i64 ay)).setCell (p := ⟨w.heap.size + 1, 2, none⟩) (show w.heap.size ≤ w.heap.size + 1 by omega) (.int .i64 X1)).setCell (p := ⟨w.heap.size + 1, 3, none⟩) (show w.heap.size ≤ w.heap.size + 1 by omega) (.int .i64 Y1)).setCell (p := ⟨w.heap.size + 1, 4, none⟩) (show w.heap.size ≤ w.heap.size + 1 by omega) (.int .i64 X2)).setCell (p := ⟨w.heap.size + 1, 5, none⟩) (show w.heap.size ≤ w.heap.size + 1 by omega) (.int .i64 Y2)).setCell (p := ⟨w.heap.size + 1, 6, none⟩) (show w.heap.size ≤ w.heap.size + 1 by omega) (.int .i64 q))

end Go.Proofs.Ytonbpmabmjhdgaa.TurncImpl

