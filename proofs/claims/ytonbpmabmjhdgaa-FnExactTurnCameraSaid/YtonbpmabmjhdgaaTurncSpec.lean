/-
  What TurnCamera does, as a contract: what it answers; new memory alone is written.
-/
import Derived.Test.YtonbpmabmjhdgaaTrackSpec
import Derived.Test.YtonbpmabmjhdgaaTurncMath
import Derived.Test.YtonbpmabmjhdgaaLawCamera
import Derived.Test.YtonbpmabmjhdgaaSettleB
namespace Go.Proofs.Ytonbpmabmjhdgaa.TurncSpec
open Go.RowKit Own PointMath TrackMath TurncMath Tup7 Blk 
open PointOk (ret_bool ret_i64 below1 below2 below3)
open LawCamera (facts)

set_option maxRecDepth 100000 in
set_option maxHeartbeats 3200000 in
theorem turned (ax ay px py : Int) (w : World) (h1 : okP ax ay = true) (h2 : okP px py = true) :
    Calls Try.prog 61 #[.agg #[.int .i64 ax, .int .i64 ay], .agg #[.int .i64 px, .int .i64 py]] w fun e w' => e = .returned (.agg #[.int .i64 (turnX ax ay px py), .int .i64 (turnY ax ay px py)]) ∧ Below w.heap.size w w' := by
  have k1 := okP_yes h1
  have k2 := okP_yes h2
  obtain ⟨X, hX⟩ : ∃ X, turnX ax ay px py = X := ⟨_, rfl⟩
  obtain ⟨Y, hY⟩ : ∃ Y, turnY ax ay px py = Y := ⟨_, rfl⟩
  rw [hX, hY]
  unfold turnX at hX
  unfold turnY at hY
  have u1 : IntKind.i64.wrap (py - ay) = py - ay := IntWalk.i64_in _ (by omega)
  have u2 : IntKind.i64.wrap (ax - (py - ay)) = X := by rw [IntWalk.i64_in _ (by omega)]; exact hX
  have u3 : IntKind.i64.wrap (ay + px) = ay + px := IntWalk.i64_in _ (by omega)
  have u4 : IntKind.i64.wrap (ay + px - ax) = Y := by rw [IntWalk.i64_in _ (by omega)]; exact hY
  clear h1 h2 k1 k2 hX hY
  go_enter Try.func61, Try.ntmps61
  go_wp2_with fail
  refine bodyPost_ret (v := .agg #[.int .i64 X, .int .i64 Y]) (by simp [results, Try.results61, go_sem]) rfl ⟨rfl, ?_⟩
  exact below3 _ _ _ _

set_option maxRecDepth 100000 in
set_option maxHeartbeats 3200000 in
theorem turnCamera (ax ay rx ry lx ly q : Int) (w : World) :
    Calls Try.prog 21 #[.agg #[.int .i64 ax, .int .i64 ay, .int .i64 rx, .int .i64 ry, .int .i64 lx, .int .i64 ly, .int .i64 q]] w fun e w' => e = .returned (tcV ax ay rx ry lx ly q) ∧ Below w.heap.size w w' := by
  obtain ⟨r, hr⟩ : ∃ r, tcV ax ay rx ry lx ly q = r := ⟨_, rfl⟩
  have HR := Lib.hid hr
  rw [hr]
  clear hr
  go_enter Try.func21, Try.ntmps21
  go_wp2_with fail
  have X0 := (Tup7.box1 w ax ay rx ry lx ly q 29 (k := w.heap.size) (by simp)).alloc (Obj.cells #[.int .i64 0, .int .i64 0, .int .i64 0, .int .i64 0, .int .i64 0, .int .i64 0, .int .i64 0] 29)
  have X1 := Blk.Holds.box (w.alloc (Obj.cells #[.int .i64 ax, .int .i64 ay, .int .i64 rx, .int .i64 ry, .int .i64 lx, .int .i64 ly, .int .i64 q] 29)) #[.int .i64 0, .int .i64 0, .int .i64 0, .int .i64 0, .int .i64 0, .int .i64 0, .int .i64 0] 29 (k := w.heap.size + 1) (by simp)
  have b0 := PointOk.below2 w (Obj.cells #[.int .i64 ax, .int .i64 ay, .int .i64 rx, .int .i64 ry, .int .i64 lx, .int .i64 ly, .int .i64 q] 29) (Obj.cells #[.int .i64 0, .int .i64 0, .int .i64 0, .int .i64 0, .int .i64 0, .int .i64 0, .int .i64 0] 29)
  have HO : ∀ W W' : World, (Tup7.Box W (w.heap.size) ax ay rx ry lx ly q ∧ Blk.Holds W (w.heap.size + 1) #[.int .i64 0, .int .i64 0, .int .i64 0, .int .i64 0, .int .i64 0, .int .i64 0, .int .i64 0] 29 ∧ w.heap.size + 2 ≤ W.heap.size ∧ Below w.heap.size w W) → Below W.heap.size W W' → (Tup7.Box W' (w.heap.size) ax ay rx ry lx ly q ∧ Blk.Holds W' (w.heap.size + 1) #[.int .i64 0, .int .i64 0, .int .i64 0, .int .i64 0, .int .i64 0, .int .i64 0, .int .i64 0] 29 ∧ w.heap.size + 2 ≤ W'.heap.size ∧ Below w.heap.size w W') := fun W W' ⟨h0, h1, x0, hb⟩ h => ⟨h0.later h, h1.later h, Nat.le_trans x0 h.size, hb.trans (h.mono hb.size)⟩
  have hz0_ : Hid ((((w.alloc (Obj.cells #[.int .i64 ax, .int .i64 ay, .int .i64 rx, .int .i64 ry, .int .i64 lx, .int .i64 ly, .int .i64 q] 29)).alloc (Obj.cells #[.int .i64 0, .int .i64 0, .int .i64 0, .int .i64 0, .int .i64 0, .int .i64 0, .int .i64 0] 29))).heap.size = w.heap.size + 1 + 1) := Lib.hid (by simp)
  have Y0 : w.heap.size + 2 ≤ (((w.alloc (Obj.cells #[.int .i64 ax, .int .i64 ay, .int .i64 rx, .int .i64 ry, .int .i64 lx, .int .i64 ly, .int .i64 q] 29)).alloc (Obj.cells #[.int .i64 0, .int .i64 0, .int .i64 0, .int .i64 0, .int .i64 0, .int .i64 0, .int .i64 0] 29))).heap.size := by simp
  generalize ((w.alloc (Obj.cells #[.int .i64 ax, .int .i64 ay, .int .i64 rx, .int .i64 ry, .int .i64 lx, .int .i64 ly, .int .i64 q] 29)).alloc (Obj.cells #[.int .i64 0, .int .i64 0, .int .i64 0, .int .i64 0, .int .i64 0, .int .i64 0, .int .i64 0] 29)) = w0 at X0 X1 Y0 b0 hz0_ ⊢
  have S0 := (⟨X0, X1, Y0, b0⟩ : Tup7.Box w0 (w.heap.size) ax ay rx ry lx ly q ∧ Blk.Holds w0 (w.heap.size + 1) #[.int .i64 0, .int .i64 0, .int .i64 0, .int .i64 0, .int .i64 0, .int .i64 0, .int .i64 0] 29 ∧ w.heap.size + 2 ≤ w0.heap.size ∧ Below w.heap.size w w0)
  clear X0 X1 Y0 b0
  obtain ⟨⟨_, _, _, _, _, _, _⟩, _, _, _⟩ := id S0
  refine (TrackSpec.cameraOk ax ay rx ry lx ly q _).mono ?_
  rintro e w1 ⟨rfl, hb_⟩
  replace S0 := HO _ _ S0 hb_
  clear hb_
  obtain ⟨⟨_, _, _, _, _, _, _⟩, _, _, _⟩ := id S0
  cases hc : camB ax ay rx ry lx ly q
  · have E : Hid (r = .tuple #[.agg #[.int .i64 ax, .int .i64 ay, .int .i64 rx, .int .i64 ry, .int .i64 lx, .int .i64 ly, .int .i64 q], .bool false]) := Lib.hid (HR.out.symm.trans (tc_no (tc_no1 hc)))
    clear HR hc
    obtain ⟨_, g0_, g1_, g2_, g3_, g4_, g5_, g6_⟩ := facts S0.2.1
    go_wp2_with fail
    have E1 := (set_own (set_own (set_own (set_own (set_own (set_own (set_own S0.2.1 0 (.int .i64 ax)) 1 (.int .i64 ay)) 2 (.int .i64 rx)) 3 (.int .i64 ry)) 4 (.int .i64 lx)) 5 (.int .i64 ly)) 6 (.int .i64 q))
    obtain ⟨⟨c0_, c1_, c2_, c3_, c4_, c5_, c6_⟩, _⟩ := facts E1
    refine bodyPost_ret (v := .tuple #[.agg #[.int .i64 ax, .int .i64 ay, .int .i64 rx, .int .i64 ry, .int .i64 lx, .int .i64 ly, .int .i64 q], .bool false]) (by simp [results, Try.results21, go_sem, c0_, c1_, c2_, c3_, c4_, c5_, c6_]) rfl ⟨by rw [E.out], ?_⟩
    exact (((((((S0.2.2.2.setCell (p := ⟨w.heap.size + 1, 0, none⟩) (show w.heap.size ≤ w.heap.size + 1 by omega) (.int .i64 ax)).setCell (p := ⟨w.heap.size + 1, 1, none⟩) (show w.heap.size ≤ w.heap.size + 1 by omega) (.int .i64 ay)).setCell (p := ⟨w.heap.size + 1, 2, none⟩) (show w.heap.size ≤ w.heap.size + 1 by omega) (.int .i64 rx)).setCell (p := ⟨w.heap.size + 1, 3, none⟩) (show w.heap.size ≤ w.heap.size + 1 by omega) (.int .i64 ry)).setCell (p := ⟨w.heap.size + 1, 4, none⟩) (show w.heap.size ≤ w.heap.size + 1 by omega) (.int .i64 lx)).setCell (p := ⟨w.heap.size + 1, 5, none⟩) (show w.heap.size ≤ w.heap.size + 1 by omega) (.int .i64 ly)).setCell (p := ⟨w.heap.size + 1, 6, none⟩) (show w.heap.size ≤ w.heap.size + 1 by omega) (.int .i64 q))
  obtain ⟨oa, or, ol, _, _⟩ := cam_parts hc
  have QR := Lib.hid fun w => turned ax ay rx ry w oa or
  have QL := Lib.hid fun w => turned ax ay lx ly w oa ol
  have EB : Hid (tcB ax ay rx ry lx ly q = camB ax ay (turnX ax ay rx ry) (turnY ax ay rx ry) (turnX ax ay lx ly) (turnY ax ay lx ly) q) := Lib.hid (by unfold tcB; rw [hc]; rfl)
  have EY : Hid (tcB ax ay rx ry lx ly q = true → r = _) := Lib.hid fun h => HR.out.symm.trans (tc_yes (ax := ax) (ay := ay) (rx := rx) (ry := ry) (lx := lx) (ly := ly) (q := q) h)
  have EN : Hid (tcB ax ay rx ry lx ly q = false → r = _) := Lib.hid fun h => HR.out.symm.trans (tc_no (ax := ax) (ay := ay) (rx := rx) (ry := ry) (lx := lx) (ly := ly) (q := q) h)
  rw [EB.out] at EY EN
  clear oa or ol EB HR hc
  generalize turnX ax ay rx ry = X1 at *
  generalize turnY ax ay rx ry = Y1 at *
  generalize turnX ax ay lx ly = X2 at *
  generalize turnY ax ay lx ly = Y2 at *
  have QC := Lib.hid fun w => TrackSpec.cameraOk ax ay X1 Y1 X2 Y2 q w
  generalize camB ax ay X1 Y1 X2 Y2 q = o at *
  go_wp2_with fail
  have HO2 : ∀ W W' : World, (Tup7.Box W (w.heap.size) ax ay rx ry lx ly q ∧ Blk.Holds W (w.heap.size + 1) #[.int .i64 0, .int .i64 0, .int .i64 0, .int .i64 0, .int .i64 0, .int .i64 0, .int .i64 0] 29 ∧ w.heap.size + 2 ≤ W.heap.size ∧ Below w.heap.size w W) → Below (w.heap.size + 2) W W' → (Tup7.Box W' (w.heap.size) ax ay rx ry lx ly q ∧ Blk.Holds W' (w.heap.size + 1) #[.int .i64 0, .int .i64 0, .int .i64 0, .int .i64 0, .int .i64 0, .int .i64 0, .int .i64 0] 29 ∧ w.heap.size + 2 ≤ W'.heap.size ∧ Below w.heap.size w W') := fun W W' ⟨h0, h1, h2, hb⟩ h => ⟨h0.laterB (by omega) h, (h.block _ (by omega)).trans h1, Nat.le_trans h2 h.size, hb.trans (h.mono (by omega))⟩
  refine SettleB.regionOne (fun W => Tup7.Box W (w.heap.size) ax ay rx ry lx ly q ∧ Blk.Holds W (w.heap.size + 1) #[.int .i64 0, .int .i64 0, .int .i64 0, .int .i64 0, .int .i64 0, .int .i64 0, .int .i64 0] 29 ∧ w.heap.size + 2 ≤ W.heap.size ∧ Below w.heap.size w W) 15 4 (w.heap.size + 2) #[.int .i64 0, .int .i64 0, .int .i64 0, .int .i64 0, .int .i64 0, .int .i64 0, .int .i64 0] #[.int .i64 ax, .int .i64 ay, .int .i64 X1, .int .i64 Y1, .int .i64 X2, .int .i64 Y2, .int .i64 q] 29 (by kernel_rfl) (by kernel_rfl) (by kernel_rfl) (by kernel_rfl) rfl rfl rfl rfl rfl rfl (by kernel_rfl) (by kernel_rfl) (by kernel_rfl) (by kernel_rfl) (fun a w => by go_simp; rfl) (fun W hS => HO _ _ hS (PointOk.below1 W _)) (fun W hS => hS.2.2.1) (HO _ _ S0 ((Below.refl _ _).drew)) ?_
  simp only [List.take_succ_cons, List.take_zero]
  clear S0
  repeat (first
    | (refine SettleA.SettlesB.off (by rfl) ?_; simp only [Act.put, List.setIfInBounds_toArray, List.set_cons_zero, List.set_cons_succ])
    | (refine SettleA.SettlesB.quiet (v := ?_) (by rfl) ?_ ?_
       rotate_left
       · (intro W hS; obtain ⟨⟨_, _, _, _, _, _, _⟩, _, _, _⟩ := hS; go_simp; with_reducible rfl)
       simp only [Act.put, List.setIfInBounds_toArray, List.set_cons_zero, List.set_cons_succ])
    | (refine SettleA.SettlesB.call (v := ?_) (f := ?_) (args := ?_) (by rfl) ?_ ?_ ?_
       rotate_left 3
       · (intro W; go_simp; refine ⟨?_, ?_⟩ <;> with_reducible rfl)
       · (intro W hS; first | (go_at_call 61; (with_reducible refine (QR.out _).mono ?_); rintro e W1 ⟨rfl, hb⟩; refine ⟨?_, HO _ _ hS hb, hb⟩; with_reducible rfl) | (go_at_call 61; (with_reducible refine (QL.out _).mono ?_); rintro e W1 ⟨rfl, hb⟩; refine ⟨?_, HO _ _ hS hb, hb⟩; with_reducible rfl))
       simp only [Act.put, List.setIfInBounds_toArray, List.set_cons_zero, List.set_cons_succ]))
  refine SettleA.SettlesB.nil ⟨by simp, fun g1_ => ⟨?_, ?_⟩⟩
  · skip
    rintro W ⟨hS, b1_, c1_⟩
    obtain ⟨⟨_, _, _, _, _, _, _⟩, _, _, _, _, _, _, _⟩ := facts c1_
    simp only [Act.put, SettleA.ptr, List.setIfInBounds_toArray, List.set_cons_zero, List.set_cons_succ]
    first
      | refine ⟨.skip, _, .inl rfl, (by go_simp; rfl), ?_⟩
      | refine ⟨.value _, _, .inr ⟨_, rfl⟩, (by go_simp; rfl), ?_⟩
    exact ⟨HO2 _ _ hS ((((((((Below.refl _ _).setCell b1_ _).setCell b1_ _).setCell b1_ _).setCell b1_ _).setCell b1_ _).setCell b1_ _).setCell b1_ _), b1_, (Blk.set_own (Blk.set_own (Blk.set_own (Blk.set_own (Blk.set_own (Blk.set_own (Blk.set_own c1_ 0 _) 1 _) 2 _) 3 _) 4 _) 5 _) 6 _)⟩
  rintro wr ⟨S0, b1_, B1_⟩
  simp only [Act.put, SettleA.ptr, List.setIfInBounds_toArray, List.set_cons_zero, List.set_cons_succ]
  replace B1_ : Blk.Holds wr g1_ #[.int .i64 ax, .int .i64 ay, .int .i64 X1, .int .i64 Y1, .int .i64 X2, .int .i64 Y2, .int .i64 q] 29 := B1_
  obtain ⟨⟨_, _, _, _, _, _, _⟩, _, _, _⟩ := id S0
  obtain ⟨⟨_, _, _, _, _, _, _⟩, _⟩ := facts B1_
  clear HO2 QR QL
  go_wp2_with fail
  refine (QC.out _).mono ?_
  rintro e w7 ⟨rfl, hb_⟩
  replace S0 := HO _ _ S0 hb_
  replace B1_ := B1_.later hb_
  clear hb_
  obtain ⟨⟨_, _, _, _, _, _, _⟩, _⟩ := facts B1_
  obtain ⟨⟨_, _, _, _, _, _, _⟩, _, _, _⟩ := id S0
  cases o
  · have E := Lib.hid (EN.out rfl)
    clear EY EN
    obtain ⟨_, g0_, g1_, g2_, g3_, g4_, g5_, g6_⟩ := facts S0.2.1
    go_wp2_with fail
    have E1 := (set_own (set_own (set_own (set_own (set_own (set_own (set_own S0.2.1 0 (.int .i64 ax)) 1 (.int .i64 ay)) 2 (.int .i64 rx)) 3 (.int .i64 ry)) 4 (.int .i64 lx)) 5 (.int .i64 ly)) 6 (.int .i64 q))
    obtain ⟨⟨c0_, c1_, c2_, c3_, c4_, c5_, c6_⟩, _⟩ := facts E1
    refine bodyPost_ret (v := .tuple #[.agg #[.int .i64 ax, .int .i64 ay, .int .i64 rx, .int .i64 ry, .int .i64 lx, .int .i64 ly, .int .i64 q], .bool false]) (by simp [results, Try.results21, go_sem, c0_, c1_, c2_, c3_, c4_, c5_, c6_]) rfl ⟨by rw [E.out], ?_⟩
    exact (((((((S0.2.2.2.setCell (p := ⟨w.heap.size + 1, 0, none⟩) (show w.heap.size ≤ w.heap.size + 1 by omega) (.int .i64 ax)).setCell (p := ⟨w.heap.size + 1, 1, none⟩) (show w.heap.size ≤ w.heap.size + 1 by omega) (.int .i64 ay)).setCell (p := ⟨w.heap.size + 1, 2, none⟩) (show w.heap.size ≤ w.heap.size + 1 by omega) (.int .i64 rx)).setCell (p := ⟨w.heap.size + 1, 3, none⟩) (show w.heap.size ≤ w.heap.size + 1 by omega) (.int .i64 ry)).setCell (p := ⟨w.heap.size + 1, 4, none⟩) (show w.heap.size ≤ w.heap.size + 1 by omega) (.int .i64 lx)).setCell (p := ⟨w.heap.size + 1, 5, none⟩) (show w.heap.size ≤ w.heap.size + 1 by omega) (.int .i64 ly)).setCell (p := ⟨w.heap.size + 1, 6, none⟩) (show w.heap.size ≤ w.heap.size + 1 by omega) (.int .i64 q))
  · have E := Lib.hid (EY.out rfl)
    clear EY EN
    obtain ⟨_, g0_, g1_, g2_, g3_, g4_, g5_, g6_⟩ := facts S0.2.1
    go_wp2_with fail
    have E1 := (set_own (set_own (set_own (set_own (set_own (set_own (set_own S0.2.1 0 (.int .i64 ax)) 1 (.int .i64 ay)) 2 (.int .i64 X1)) 3 (.int .i64 Y1)) 4 (.int .i64 X2)) 5 (.int .i64 Y2)) 6 (.int .i64 q))
    obtain ⟨⟨c0_, c1_, c2_, c3_, c4_, c5_, c6_⟩, _⟩ := facts E1
    refine bodyPost_ret (v := .tuple #[.agg #[.int .i64 ax, .int .i64 ay, .int .i64 X1, .int .i64 Y1, .int .i64 X2, .int .i64 Y2, .int .i64 q], .bool true]) (by simp [results, Try.results21, go_sem, c0_, c1_, c2_, c3_, c4_, c5_, c6_]) rfl ⟨by rw [E.out], ?_⟩
    exact (((((((S0.2.2.2.setCell (p := ⟨w.heap.size + 1, 0, none⟩) (show w.heap.size ≤ w.heap.size + 1 by omega) (.int .i64 ax)).setCell (p := ⟨w.heap.size + 1, 1, none⟩) (show w.heap.size ≤ w.heap.size + 1 by omega) (.int .i64 ay)).setCell (p := ⟨w.heap.size + 1, 2, none⟩) (show w.heap.size ≤ w.heap.size + 1 by omega) (.int .i64 X1)).setCell (p := ⟨w.heap.size + 1, 3, none⟩) (show w.heap.size ≤ w.heap.size + 1 by omega) (.int .i64 Y1)).setCell (p := ⟨w.heap.size + 1, 4, none⟩) (show w.heap.size ≤ w.heap.size + 1 by omega) (.int .i64 X2)).setCell (p := ⟨w.heap.size + 1, 5, none⟩) (show w.heap.size ≤ w.heap.size + 1 by omega) (.int .i64 Y2)).setCell (p := ⟨w.heap.size + 1, 6, none⟩) (show w.heap.size ≤ w.heap.size + 1 by omega) (.int .i64 q))

end Go.Proofs.Ytonbpmabmjhdgaa.TurncSpec

