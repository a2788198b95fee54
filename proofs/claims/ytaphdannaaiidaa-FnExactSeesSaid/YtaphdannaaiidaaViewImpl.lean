/-
  What the landed Sees, SeenBy and CornersSeen do, as contracts: what each answers; no old cell is written.
-/
import Derived.Test.YtaphdannaaiidaaFromImpl
namespace Go.Proofs.Ytaphdannaaiidaa.ViewImpl
open Go.RowKit Own PointMath WallMath RoomMath Pts Blk AreaMath PlaceMath FloorMath LineMath CutsMath SightMath FromImpl
open PointOk (ret_bool ret_i64 below1 below2 below3)
open FloorImpl (infoP cellsP_app)
open SeenImpl (infoI)

set_option maxRecDepth 100000 in
set_option maxHeartbeats 1600000 in
theorem sees (A : Option Addr) (n cap : Nat) (ax ay bx bY : Int) (w : World) (ps : List (Int × Int)) (hl : ps.length = n) (hn : n ≤ 1048576) (hp : PtsAt w w.heap.size A ps) :
    Calls Try.prog 35 #[.agg #[.slice A n cap], .agg #[.int .i64 ax, .int .i64 ay], .agg #[.int .i64 bx, .int .i64 bY]] w fun e w' => e = .returned (.bool (seesB ps ax ay bx bY)) ∧ Below w.heap.size w w' := by
  obtain ⟨r, hr⟩ : ∃ r, seesB ps ax ay bx bY = r := ⟨_, rfl⟩
  have HR := Lib.hid hr
  rw [hr]
  clear hr
  go_enter Try.func35, Try.ntmps35
  go_wp2_with fail
  have X0 := ((Pts.boxR w (.slice A n cap) 33 (k := w.heap.size) (by simp)).alloc (Obj.cells #[.int .i64 ax, .int .i64 ay] 27)).alloc (Obj.cells #[.int .i64 bx, .int .i64 bY] 27)
  have X1 := (PointOk.box1 (w.alloc (Obj.cells #[.slice A n cap] 33)) ax ay 27 (k := w.heap.size + 1) (by simp)).alloc (Obj.cells #[.int .i64 bx, .int .i64 bY] 27)
  have X2 := PointOk.box1 ((w.alloc (Obj.cells #[.slice A n cap] 33)).alloc (Obj.cells #[.int .i64 ax, .int .i64 ay] 27)) bx bY 27 (k := w.heap.size + 1 + 1) (by simp)
  have b0 := PointOk.below3 w (Obj.cells #[.slice A n cap] 33) (Obj.cells #[.int .i64 ax, .int .i64 ay] 27) (Obj.cells #[.int .i64 bx, .int .i64 bY] 27)
  have HO : ∀ W W' : World, (Pts.BoxR W (w.heap.size) (.slice A n cap) ∧ PointOk.Box W (w.heap.size + 1) ax ay ∧ PointOk.Box W (w.heap.size + 1 + 1) bx bY ∧ PtsAt W w.heap.size A ps ∧ Below w.heap.size w W) → Below W.heap.size W W' → (Pts.BoxR W' (w.heap.size) (.slice A n cap) ∧ PointOk.Box W' (w.heap.size + 1) ax ay ∧ PointOk.Box W' (w.heap.size + 1 + 1) bx bY ∧ PtsAt W' w.heap.size A ps ∧ Below w.heap.size w W') := fun W W' ⟨h0, h1, h2, x0, hb⟩ h => ⟨h0.later h, h1.later h, h2.later h, x0.later (h.mono hb.size), hb.trans (h.mono hb.size)⟩
  have hz0_ : Hid (((((w.alloc (Obj.cells #[.slice A n cap] 33)).alloc (Obj.cells #[.int .i64 ax, .int .i64 ay] 27)).alloc (Obj.cells #[.int .i64 bx, .int .i64 bY] 27))).heap.size = w.heap.size + 1 + 1 + 1) := Lib.hid (by simp)
  have Y0 : PtsAt ((((w.alloc (Obj.cells #[.slice A n cap] 33)).alloc (Obj.cells #[.int .i64 ax, .int .i64 ay] 27)).alloc (Obj.cells #[.int .i64 bx, .int .i64 bY] 27))) w.heap.size A ps := hp.later b0
  generalize (((w.alloc (Obj.cells #[.slice A n cap] 33)).alloc (Obj.cells #[.int .i64 ax, .int .i64 ay] 27)).alloc (Obj.cells #[.int .i64 bx, .int .i64 bY] 27)) = w0 at X0 X1 X2 Y0 b0 hz0_ ⊢
  have S0 := (⟨X0, X1, X2, Y0, b0⟩ : Pts.BoxR w0 (w.heap.size) (.slice A n cap) ∧ PointOk.Box w0 (w.heap.size + 1) ax ay ∧ PointOk.Box w0 (w.heap.size + 1 + 1) bx bY ∧ PtsAt w0 w.heap.size A ps ∧ Below w.heap.size w w0)
  clear X0 X1 X2 Y0 b0
  obtain ⟨⟨_, _⟩, ⟨_, _⟩, ⟨_, _⟩, _, _⟩ := id S0
  have QA : Hid (∀ w hp, _) := Lib.hid fun w hp => PlaceImpl.isIn A n cap ax ay w ps hl hn hp
  have QB : Hid (∀ w hp, _) := Lib.hid fun w hp => PlaceImpl.isIn A n cap bx bY w ps hl hn hp
  cases ha : inB ps ax ay
  · have E : Hid (r = false) := Lib.hid (by rw [← HR.out]; unfold seesB; rw [ha]; rfl)
    rw [ha] at QA
    clear hl HR QB ha
    go_wp2_with fail
    refine Settle.region (fun W => Pts.BoxR W (w.heap.size) (.slice A n cap) ∧ PointOk.Box W (w.heap.size + 1) ax ay ∧ PointOk.Box W (w.heap.size + 1 + 1) bx bY ∧ PtsAt W w.heap.size A ps ∧ Below w.heap.size w W) (by kernel_rfl) (by kernel_rfl) (by kernel_rfl) (by kernel_rfl) (HO _ _ S0 ((Below.refl _ _).drew)) ?_
    clear S0
    repeat (first
      | (refine Settle.Settles.off (by rfl) ?_; simp only [Act.put, List.setIfInBounds_toArray, List.set_cons_zero, List.set_cons_succ])
      | (refine Settle.Settles.quiet (v := ?_) (by rfl) ?_ ?_
         rotate_left
         · (intro W hS; obtain ⟨⟨_, _⟩, ⟨_, _⟩, ⟨_, _⟩, _, _⟩ := hS; go_simp; with_reducible rfl)
         simp only [Act.put, List.setIfInBounds_toArray, List.set_cons_zero, List.set_cons_succ])
      | (refine Settle.Settles.call (v := ?_) (f := ?_) (args := ?_) (by rfl) ?_ ?_ ?_
         rotate_left 3
         · (intro W; go_simp; refine ⟨?_, ?_⟩ <;> with_reducible rfl)
         · (intro W hS; first | (go_at_call 72; (with_reducible refine (QA.out _ (hS.2.2.2.1.wide hS.2.2.2.2.size)).mono ?_); rintro e W1 ⟨rfl, hb⟩; refine ⟨?_, HO _ _ hS hb⟩; with_reducible rfl))
         simp only [Act.put, List.setIfInBounds_toArray, List.set_cons_zero, List.set_cons_succ]))
    refine Settle.Settles.nil ?_
    intro wr S0
    obtain ⟨⟨_, _⟩, ⟨_, _⟩, ⟨_, _⟩, _, _⟩ := id S0
    go_wp2_with fail
    go_ret
    exact ⟨ret_bool E.out.symm, S0.2.2.2.2⟩
  cases hb : inB ps bx bY
  · have E : Hid (r = false) := Lib.hid (by rw [← HR.out]; unfold seesB; rw [hb]; simp)
    rw [ha] at QA
    rw [hb] at QB
    clear hl HR ha hb
    go_wp2_with fail
    refine Settle.region (fun W => Pts.BoxR W (w.heap.size) (.slice A n cap) ∧ PointOk.Box W (w.heap.size + 1) ax ay ∧ PointOk.Box W (w.heap.size + 1 + 1) bx bY ∧ PtsAt W w.heap.size A ps ∧ Below w.heap.size w W) (by kernel_rfl) (by kernel_rfl) (by kernel_rfl) (by kernel_rfl) (HO _ _ S0 ((Below.refl _ _).drew)) ?_
    clear S0
    repeat (first
      | (refine Settle.Settles.off (by rfl) ?_; simp only [Act.put, List.setIfInBounds_toArray, List.set_cons_zero, List.set_cons_succ])
      | (refine Settle.Settles.quiet (v := ?_) (by rfl) ?_ ?_
         rotate_left
         · (intro W hS; obtain ⟨⟨_, _⟩, ⟨_, _⟩, ⟨_, _⟩, _, _⟩ := hS; go_simp; with_reducible rfl)
         simp only [Act.put, List.setIfInBounds_toArray, List.set_cons_zero, List.set_cons_succ])
      | (refine Settle.Settles.call (v := ?_) (f := ?_) (args := ?_) (by rfl) ?_ ?_ ?_
         rotate_left 3
         · (intro W; go_simp; refine ⟨?_, ?_⟩ <;> with_reducible rfl)
         · (intro W hS; first | (go_at_call 72; (with_reducible refine (QA.out _ (hS.2.2.2.1.wide hS.2.2.2.2.size)).mono ?_); rintro e W1 ⟨rfl, hb⟩; refine ⟨?_, HO _ _ hS hb⟩; with_reducible rfl) | (go_at_call 72; (with_reducible refine (QB.out _ (hS.2.2.2.1.wide hS.2.2.2.2.size)).mono ?_); rintro e W1 ⟨rfl, hb⟩; refine ⟨?_, HO _ _ hS hb⟩; with_reducible rfl))
         simp only [Act.put, List.setIfInBounds_toArray, List.set_cons_zero, List.set_cons_succ]))
    refine Settle.Settles.nil ?_
    intro wr S0
    obtain ⟨⟨_, _⟩, ⟨_, _⟩, ⟨_, _⟩, _, _⟩ := id S0
    go_wp2_with fail
    go_ret
    exact ⟨ret_bool E.out.symm, S0.2.2.2.2⟩
  have E : Hid (seesM ps (ax, ay) (bx, bY) = r) := Lib.hid (by rw [← HR.out]; unfold seesB; rw [ha, hb]; rfl)
  have hr := roomB_yes (inB_parts ha).1
  have QF : Hid (∀ w hp, _) := Lib.hid fun w hp => sightFrom A n cap ax ay w ps hl (by omega) hr.2.1 hp
  have QC : Hid (∀ C1 C2 Ad cd w h1 h2 hq, _) := Lib.hid fun C1 C2 Ad cd w h1 h2 hq => asks ax ay bx bY C1 C2 Ad n cd w ps hl ha hb h1 h2 hq
  rw [E.out] at QC
  rw [ha] at QA
  rw [hb] at QB
  unfold Asks at QF
  clear hl HR ha hb E hr
  go_wp2_with fail
  have S0_ := HO _ _ S0 ((Below.refl _ _).drew)
  have HS0_ : w0.drew.cell? ⟨w.heap.size, 0, none⟩ = some (.slice A n cap) ∧ w0.drew.cell? ⟨w.heap.size + 1, 0, none⟩ = some (.int .i64 ax) ∧ w0.drew.cell? ⟨w.heap.size + 1, 1, none⟩ = some (.int .i64 ay) ∧ w0.drew.cell? ⟨w.heap.size + 2, 0, none⟩ = some (.int .i64 bx) ∧ w0.drew.cell? ⟨w.heap.size + 2, 1, none⟩ = some (.int .i64 bY) := ⟨S0_.1.1, S0_.2.1.1, S0_.2.1.2, S0_.2.2.1.1, S0_.2.2.1.2⟩
  refine wp_region_held_drew (S := fun W => W.cell? ⟨w.heap.size, 0, none⟩ = some (.slice A n cap) ∧ W.cell? ⟨w.heap.size + 1, 0, none⟩ = some (.int .i64 ax) ∧ W.cell? ⟨w.heap.size + 1, 1, none⟩ = some (.int .i64 ay) ∧ W.cell? ⟨w.heap.size + 2, 0, none⟩ = some (.int .i64 bx) ∧ W.cell? ⟨w.heap.size + 2, 1, none⟩ = some (.int .i64 bY)) (by kernel_rfl) HS0_ (fun hHeld => ?_)
  refine wpAnyH_take (i := 0) (oi := ⟨some 7, _, _, _, _, _⟩) (v := ?_) rfl (by kernel_rfl) (by kernel_rfl) (by kernel_rfl) (fun _ _ _ h => h) (Or.inl ⟨by rfl, ?_⟩) (by assumption) ?_
  rotate_left 1
  · (intro w hSw; (try dsimp only at hSw); go_simp; try with_reducible rfl)
  try simp only [Act.put, List.setIfInBounds_toArray, List.set_cons_zero, List.set_cons_succ]
  refine wpAnyH_take (i := 1) (oi := ⟨some 8, _, _, _, _, _⟩) (v := ?_) rfl (by kernel_rfl) (by kernel_rfl) (by kernel_rfl) (fun _ _ _ h => h) (Or.inl ⟨by rfl, ?_⟩) (by assumption) ?_
  rotate_left 1
  · (intro w hSw; (try dsimp only at hSw); go_simp; try with_reducible rfl)
  try simp only [Act.put, List.setIfInBounds_toArray, List.set_cons_zero, List.set_cons_succ]
  refine wpAnyH_ready (rs := [2]) (by kernel_rfl) (by simp) ?_
  refine AllReadyH.cons (o := ⟨some 9, _, _, _, _, _⟩) rfl (fun K hK => ?_) ?_
  rotate_left 1
  · exact AllReadyH.nil
  go_simp
  go_at_call 72; refine (QA.out _ (S0_.2.2.2.1.wide S0_.2.2.2.2.size)).mono ?_; rintro e w1 ⟨rfl, hb0_⟩
  have S1_ := HO _ _ S0_ hb0_
  go_wp2_with fail
  refine hK.out _ _ ⟨S1_.1.1, S1_.2.1.1, S1_.2.1.2, S1_.2.2.1.1, S1_.2.2.1.2⟩ (fun hHeld => ?_)
  clear hK K
  refine wpAnyH_take (i := 3) (oi := ⟨some 10, _, _, _, _, _⟩) (v := ?_) rfl (by kernel_rfl) (by kernel_rfl) (by kernel_rfl) (fun _ _ _ h => h) (Or.inl ⟨by rfl, ?_⟩) (by assumption) ?_
  rotate_left 1
  · (intro w hSw; (try dsimp only at hSw); go_simp; try with_reducible rfl)
  try simp only [Act.put, List.setIfInBounds_toArray, List.set_cons_zero, List.set_cons_succ]
  refine wpAnyH_take (i := 4) (oi := ⟨some 11, _, _, _, _, _⟩) (v := ?_) rfl (by kernel_rfl) (by kernel_rfl) (by kernel_rfl) (fun _ _ _ h => h) (Or.inl ⟨by rfl, ?_⟩) (by assumption) ?_
  rotate_left 1
  · (intro w hSw; (try dsimp only at hSw); go_simp; try with_reducible rfl)
  try simp only [Act.put, List.setIfInBounds_toArray, List.set_cons_zero, List.set_cons_succ]
  refine wpAnyH_take (i := 5) (oi := ⟨some 12, _, _, _, _, _⟩) (v := ?_) rfl (by kernel_rfl) (by kernel_rfl) (by kernel_rfl) (fun _ _ _ h => h) (Or.inl ⟨by rfl, ?_⟩) (by assumption) ?_
  rotate_left 1
  · (intro w hSw; (try dsimp only at hSw); go_simp; try with_reducible rfl)
  try simp only [Act.put, List.setIfInBounds_toArray, List.set_cons_zero, List.set_cons_succ]
  refine wpAnyH_ready (rs := [6]) (by kernel_rfl) (by simp) ?_
  refine AllReadyH.cons (o := ⟨some 13, _, _, _, _, _⟩) rfl (fun K hK => ?_) ?_
  rotate_left 1
  · exact AllReadyH.nil
  go_simp
  go_at_call 72; refine (QB.out _ (S1_.2.2.2.1.wide S1_.2.2.2.2.size)).mono ?_; rintro e w2 ⟨rfl, hb1_⟩
  have S2_ := HO _ _ S1_ hb1_
  go_wp2_with fail
  refine hK.out _ _ ⟨S2_.1.1, S2_.2.1.1, S2_.2.1.2, S2_.2.2.1.1, S2_.2.2.1.2⟩ (fun hHeld => ?_)
  clear hK K
  refine wpAnyH_take (i := 7) (oi := ⟨some 14, _, _, _, _, _⟩) (v := ?_) rfl (by kernel_rfl) (by kernel_rfl) (by kernel_rfl) (fun _ _ _ h => h) (Or.inl ⟨by rfl, ?_⟩) (by assumption) ?_
  rotate_left 1
  · (intro w hSw; (try dsimp only at hSw); go_simp; try with_reducible rfl)
  try simp only [Act.put, List.setIfInBounds_toArray, List.set_cons_zero, List.set_cons_succ]
  refine wpAnyH_take (i := 8) (oi := ⟨some 15, _, _, _, _, _⟩) (v := ?_) rfl (by kernel_rfl) (by kernel_rfl) (by kernel_rfl) (fun _ _ _ h => h) (Or.inl ⟨by rfl, ?_⟩) (by assumption) ?_
  rotate_left 1
  · (intro w hSw; (try dsimp only at hSw); go_simp; try with_reducible rfl)
  try simp only [Act.put, List.setIfInBounds_toArray, List.set_cons_zero, List.set_cons_succ]
  refine wpAnyH_take (i := 9) (oi := ⟨some 16, _, _, _, _, _⟩) (v := ?_) rfl (by kernel_rfl) (by kernel_rfl) (by kernel_rfl) (fun _ _ _ h => h) (Or.inl ⟨by rfl, ?_⟩) (by assumption) ?_
  rotate_left 1
  · (intro w hSw; (try dsimp only at hSw); go_simp; try with_reducible rfl)
  try simp only [Act.put, List.setIfInBounds_toArray, List.set_cons_zero, List.set_cons_succ]
  refine wpAnyH_take (i := 10) (oi := ⟨some 17, _, _, _, _, _⟩) (v := ?_) rfl (by kernel_rfl) (by kernel_rfl) (by kernel_rfl) (fun _ _ _ h => h) (Or.inl ⟨by rfl, ?_⟩) (by assumption) ?_
  rotate_left 1
  · (intro w hSw; (try dsimp only at hSw); go_simp; try with_reducible rfl)
  try simp only [Act.put, List.setIfInBounds_toArray, List.set_cons_zero, List.set_cons_succ]
  refine wpAnyH_take (i := 12) (oi := ⟨some 19, _, _, _, _, _⟩) (v := ?_) rfl (by kernel_rfl) (by kernel_rfl) (by kernel_rfl) (fun _ _ _ h => h) (Or.inl ⟨by rfl, ?_⟩) (by assumption) ?_
  rotate_left 1
  · (intro w hSw; (try dsimp only at hSw); go_simp; try with_reducible rfl)
  try simp only [Act.put, List.setIfInBounds_toArray, List.set_cons_zero, List.set_cons_succ]
  refine wpAnyH_ready (rs := [11]) (by kernel_rfl) (by simp) ?_
  refine AllReadyH.cons (o := ⟨some 18, _, _, _, _, _⟩) rfl (fun K hK => ?_) ?_
  rotate_left 1
  · exact AllReadyH.nil
  go_simp
  go_at_call 73; refine (QF.out _ (S2_.2.2.2.1.wide S2_.2.2.2.2.size)).mono ?_; rintro e w3 ⟨C1, C2, Ad, cd, rfl, h1_, h2_, hq_, hb2_⟩
  have S3_ := HO _ _ S2_ hb2_
  go_wp2_with fail
  refine hK.out _ _ ⟨S3_.1.1, S3_.2.1.1, S3_.2.1.2, S3_.2.2.1.1, S3_.2.2.1.2⟩ (fun hHeld => ?_)
  clear hK K
  refine wpAnyH_ready (rs := [13]) (by kernel_rfl) (by simp) ?_
  refine AllReadyH.cons (o := ⟨some 20, _, _, _, _, _⟩) rfl (fun K hK => ?_) ?_
  rotate_left 1
  · exact AllReadyH.nil
  go_simp
  go_at_call 102; refine (QC.out C1 C2 Ad cd _ h1_ h2_ hq_).mono ?_; rintro e w4 ⟨rfl, hb3_⟩
  have S4_ := HO _ _ S3_ hb3_
  go_wp2_with fail
  refine hK.out _ _ ⟨S4_.1.1, S4_.2.1.1, S4_.2.1.2, S4_.2.2.1.1, S4_.2.2.1.2⟩ (fun hHeld => ?_)
  clear hK K
  refine wpAnyH_take (i := 14) (oi := ⟨some 21, _, _, _, _, _⟩) (v := ?_) rfl (by kernel_rfl) (by kernel_rfl) (by kernel_rfl) (fun _ _ _ h => h) (Or.inl ⟨by rfl, ?_⟩) (by assumption) ?_
  rotate_left 1
  · (intro w hSw; (try dsimp only at hSw); go_simp; try with_reducible rfl)
  try simp only [Act.put, List.setIfInBounds_toArray, List.set_cons_zero, List.set_cons_succ]
  refine wpAnyH_take (i := 15) (oi := ⟨some 6, _, _, _, _, _⟩) (v := ?_) rfl (by kernel_rfl) (by kernel_rfl) (by kernel_rfl) (fun _ _ _ h => h) (Or.inl ⟨by rfl, ?_⟩) (by assumption) ?_
  rotate_left 1
  · (intro w hSw; (try dsimp only at hSw); go_simp; try with_reducible rfl)
  try simp only [Act.put, List.setIfInBounds_toArray, List.set_cons_zero, List.set_cons_succ]
  refine wpAnyH_done (by kernel_rfl) ?_ _
  go_wp2_with fail
  go_ret
  exact ⟨rfl, S4_.2.2.2.2⟩

end Go.Proofs.Ytaphdannaaiidaa.ViewImpl

