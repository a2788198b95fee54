/-
  What the landed Sees, SeenBy and CornersSeen do, as contracts: what each answers; no old cell is written.
-/
import Derived.Test.YtkohfbffmljmcabFromImpl
namespace Go.Proofs.Ytkohfbffmljmcab.ViewImpl
open Go.RowKit Own PointMath WallMath RoomMath Pts Blk AreaMath PlaceMath FloorMath LineMath CutsMath SightMath FromImpl
open PointOk (ret_bool ret_i64 below1 below2 below3)
open FloorImpl (infoP cellsP_app)
open SeenImpl (infoI)

set_option maxRecDepth 100000 in
set_option maxHeartbeats 1600000 in
theorem sees (A : Option Addr) (n cap : Nat) (ax ay bx bY : Int) (w : World) (ps : List (Int × Int)) (hl : ps.length = n) (hn : n ≤ 1048576) (hp : PtsAt w w.heap.size A ps) :
    Calls Try.prog 39 #[.agg #[.slice A n cap], .agg #[.int .i64 ax, .int .i64 ay], .agg #[.int .i64 bx, .int .i64 bY]] w fun e w' => e = .returned (.bool (seesB ps ax ay bx bY)) ∧ Below w.heap.size w w' := by
  obtain ⟨r, hr⟩ : ∃ r, seesB ps ax ay bx bY = r := ⟨_, rfl⟩
  have HR := Lib.hid hr
  rw [hr]
  clear hr
  go_enter Try.func39, Try.ntmps39
  go_wp2_with fail
  have X0 := ((Pts.boxR w (.slice A n cap) 29 (k := w.heap.size) (by simp)).alloc (Obj.cells #[.int .i64 ax, .int .i64 ay] 40)).alloc (Obj.cells #[.int .i64 bx, .int .i64 bY] 40)
  have X1 := (PointOk.box1 (w.alloc (Obj.cells #[.slice A n cap] 29)) ax ay 40 (k := w.heap.size + 1) (by simp)).alloc (Obj.cells #[.int .i64 bx, .int .i64 bY] 40)
  have X2 := PointOk.box1 ((w.alloc (Obj.cells #[.slice A n cap] 29)).alloc (Obj.cells #[.int .i64 ax, .int .i64 ay] 40)) bx bY 40 (k := w.heap.size + 1 + 1) (by simp)
  have b0 := PointOk.below3 w (Obj.cells #[.slice A n cap] 29) (Obj.cells #[.int .i64 ax, .int .i64 ay] 40) (Obj.cells #[.int .i64 bx, .int .i64 bY] 40)
  have HO : ∀ W W' : World, (Pts.BoxR W (w.heap.size) (.slice A n cap) ∧ PointOk.Box W (w.heap.size + 1) ax ay ∧ PointOk.Box W (w.heap.size + 1 + 1) bx bY ∧ PtsAt W w.heap.size A ps ∧ Below w.heap.size w W) → Below W.heap.size W W' → (Pts.BoxR W' (w.heap.size) (.slice A n cap) ∧ PointOk.Box W' (w.heap.size + 1) ax ay ∧ PointOk.Box W' (w.heap.size + 1 + 1) bx bY ∧ PtsAt W' w.heap.size A ps ∧ Below w.heap.size w W') := fun W W' ⟨h0, h1, h2, x0, hb⟩ h => ⟨h0.later h, h1.later h, h2.later h, x0.later (h.mono hb.size), hb.trans (h.mono hb.size)⟩
  have hz0_ : Hid (((((w.alloc (Obj.cells #[.slice A n cap] 29)).alloc (Obj.cells #[.int .i64 ax, .int .i64 ay] 40)).alloc (Obj.cells #[.int .i64 bx, .int .i64 bY] 40))).heap.size = w.heap.size + 1 + 1 + 1) := Lib.hid (by simp)
  have Y0 : PtsAt ((((w.alloc (Obj.cells #[.slice A n cap] 29)).alloc (Obj.cells #[.int .i64 ax, .int .i64 ay] 40)).alloc (Obj.cells #[.int .i64 bx, .int .i64 bY] 40))) w.heap.size A ps := hp.later b0
  generalize (((w.alloc (Obj.cells #[.slice A n cap] 29)).alloc (Obj.cells #[.int .i64 ax, .int .i64 ay] 40)).alloc (Obj.cells #[.int .i64 bx, .int .i64 bY] 40)) = w0 at X0 X1 X2 Y0 b0 hz0_ ⊢
  have S0 := (⟨X0, X1, X2, Y0, b0⟩ : Pts.BoxR w0 (w.heap.size) (.slice A n cap) ∧ PointOk.Box w0 (w.heap.size + 1) ax ay ∧ PointOk.Box w0 (w.heap.size + 1 + 1) bx bY ∧ PtsAt w0 w.heap.size A ps ∧ Below w.heap.size w w0)
  clear X0 X1 X2 Y0 b0
  obtain ⟨⟨_, _⟩, ⟨_, _⟩, ⟨_, _⟩, _, _⟩ := id S0
  have QA : Hid (∀ w hp, _) := Lib.hid fun w hp => PlaceImpl.isIn A n cap ax ay w ps hl hn hp
  have QB : Hid (∀ w hp, _) := Lib.hid fun w hp => PlaceImpl.isIn A n cap bx bY w ps hl hn hp
  cases ha : inB ps ax ay
  · have E : Hid (r = false) := Lib.hid (by rw [← HR.out]; unfold seesB; rw [ha]; rfl)
    rw [ha] at QA
    clear hl HR QB ha
    go_wp2_with fail
    refine Settle.region (fun W => Pts.BoxR W (w.heap.size) (.slice A n cap) ∧ PointOk.Box W (w.heap.size + 1) ax ay ∧ PointOk.Box W (w.heap.size + 1 + 1) bx bY ∧ PtsAt W w.heap.size A ps ∧ Below w.heap.size w W) (by kernel_rfl) (by kernel_rfl) (by kernel_rfl) (by kernel_rfl) (HO _ _ S0 ((Below.refl _ _).drew)) ?_
    clear S0
    repeat (first
      | (refine Settle.Settles.off (by rfl) ?_; simp only [Act.put, List.setIfInBounds_toArray, List.set_cons_zero, List.set_cons_succ])
      | (refine Settle.Settles.quiet (v := ?_) (by rfl) ?_ ?_
         rotate_left
         · (intro W hS; obtain ⟨⟨_, _⟩, ⟨_, _⟩, ⟨_, _⟩, _, _⟩ := hS; go_simp; with_reducible rfl)
         simp only [Act.put, List.setIfInBounds_toArray, List.set_cons_zero, List.set_cons_succ])
      | (refine Settle.Settles.call (v := ?_) (f := ?_) (args := ?_) (by rfl) ?_ ?_ ?_
         rotate_left 3
         · (intro W; go_simp; refine ⟨?_, ?_⟩ <;> with_reducible rfl)
         · (intro W hS; first | (go_at_call 29; (with_reducible refine (QA.out _ (hS.2.2.2.1.wide hS.2.2.2.2.size)).mono ?_); rintro e W1 ⟨rfl, hb⟩; refine ⟨?_, HO _ _ hS hb⟩; with_reducible rfl))
         simp only [Act.put, List.setIfInBounds_toArray, List.set_cons_zero, List.set_cons_succ]))
    refine Settle.Settles.nil ?_
    intro wr S0
    obtain ⟨⟨_, _⟩, ⟨_, _⟩, ⟨_, _⟩, _, _⟩ := id S0
    go_wp2_with fail
    go_ret
    exact ⟨ret_bool E.out.symm, S0.2.2.2.2⟩
  cases hb : inB ps bx bY
  · have E : Hid (r = false) := Lib.hid (by rw [← HR.out]; unfold seesB; rw [hb]; simp)
    rw [ha] at QA
    rw [hb] at QB
    clear hl HR ha hb
    go_wp2_with fail
    refine Settle.region (fun W => Pts.BoxR W (w.heap.size) (.slice A n cap) ∧ PointOk.Box W (w.heap.size + 1) ax ay ∧ PointOk.Box W (w.heap.size + 1 + 1) bx bY ∧ PtsAt W w.heap.size A ps ∧ Below w.heap.size w W) (by kernel_rfl) (by kernel_rfl) (by kernel_rfl) (by kernel_rfl) (HO _ _ S0 ((Below.refl _ _).drew)) ?_
    clear S0
    repeat (first
      | (refine Settle.Settles.off (by rfl) ?_; simp only [Act.put, List.setIfInBounds_toArray, List.set_cons_zero, List.set_cons_succ])
      | (refine Settle.Settles.quiet (v := ?_) (by rfl) ?_ ?_
         rotate_left
         · (intro W hS; obtain ⟨⟨_, _⟩, ⟨_, _⟩, ⟨_, _⟩, _, _⟩ := hS; go_simp; with_reducible rfl)
         simp only [Act.put, List.setIfInBounds_toArray, List.set_cons_zero, List.set_cons_succ])
      | (refine Settle.Settles.call (v := ?_) (f := ?_) (args := ?_) (by rfl) ?_ ?_ ?_
         rotate_left 3
         · (intro W; go_simp; refine ⟨?_, ?_⟩ <;> with_reducible rfl)
         · (intro W hS; first | (go_at_call 29; (with_reducible refine (QA.out _ (hS.2.2.2.1.wide hS.2.2.2.2.size)).mono ?_); rintro e W1 ⟨rfl, hb⟩; refine ⟨?_, HO _ _ hS hb⟩; with_reducible rfl) | (go_at_call 29; (with_reducible refine (QB.out _ (hS.2.2.2.1.wide hS.2.2.2.2.size)).mono ?_); rintro e W1 ⟨rfl, hb⟩; refine ⟨?_, HO _ _ hS hb⟩; with_reducible rfl))
         simp only [Act.put, List.setIfInBounds_toArray, List.set_cons_zero, List.set_cons_succ]))
    refine Settle.Settles.nil ?_
    intro wr S0
    obtain ⟨⟨_, _⟩, ⟨_, _⟩, ⟨_, _⟩, _, _⟩ := id S0
    go_wp2_with fail
    go_ret
    exact ⟨ret_bool E.out.symm, S0.2.2.2.2⟩
  have E : Hid (seesM ps (ax, ay) (bx, bY) = r) := Lib.hid (by rw [← HR.out]; unfold seesB; rw [ha, hb]; rfl)
  have hr := roomB_yes (inB_parts ha).1
  have QF : Hid (∀ w hp, _) := Lib.hid fun w hp => sightFrom A n cap ax ay w ps hl (by omega) hr.2.1 hp
  have QC : Hid (∀ C1 C2 Ad cd w h1 h2 hq, _) := Lib.hid fun C1 C2 Ad cd w h1 h2 hq => asks ax ay bx bY C1 C2 Ad n cd w ps hl ha hb h1 h2 hq
  rw [E.out] at QC
  rw [ha] at QA
  rw [hb] at QB
  unfold Asks at QF
  clear hl HR ha hb E hr
  go_wp2_with fail
  have S0_ := HO _ _ S0 ((Below.refl _ _).drew)
  have HS0_ : w0.drew.cell? ⟨w.heap.size, 0, none⟩ = some (.slice A n cap) ∧ w0.drew.cell? ⟨w.heap.size + 1, 0, none⟩ = some (.int .i64 ax) ∧ w0.drew.cell? ⟨w.heap.size + 1, 1, none⟩ = some (.int .i64 ay) ∧ w0.drew.cell? ⟨w.heap.size + 2, 0, none⟩ = some (.int .i64 bx) ∧ w0.drew.cell? ⟨w.heap.size + 2, 1, none⟩ = some (.int .i64 bY) := ⟨S0_.1.1, S0_.2.1.1, S0_.2.1.2, S0_.2.2.1.1, S0_.2.2.1.2⟩
  refine wp_region_held_drew (S := fun W => W.cell? ⟨w.heap.size, 0, none⟩ = some (.slice A n cap) ∧ W.cell? ⟨w.heap.size + 1, 0, none⟩ = some (.int .i64 ax) ∧ W.cell? ⟨w.heap.size + 1, 1, none⟩ = some (.int .i64 ay) ∧ W.cell? ⟨w.heap.size + 2, 0, none⟩ = some (.int .i64 bx) ∧ W.cell? ⟨w.heap.size + 2, 1, none⟩ = some (.int .i64 bY)) (by kernel_rfl) HS0_ (fun hHeld => ?_)
  refine wpAnyH_take (i := 0) (oi := ⟨some 7, _, _, _, _, _⟩) (v := ?_) rfl (by kernel_rfl) (by kernel_rfl) (by kernel_rfl) (fun _ _ _ h => h) (Or.inl ⟨by rfl, ?_⟩) (by assumption) ?_
  rotate_left 1
  · (intro w hSw; (try dsimp only at hSw); go_simp; try with_reducible rfl)
  try simp only [Act.put, List.setIfInBounds_toArray, List.set_cons_zero, List.set_cons_succ]
  refine wpAnyH_take (i := 1) (oi := ⟨some 8, _, _, _, _, _⟩) (v := ?_) rfl (by kernel_rfl) (by kernel_rfl) (by kernel_rfl) (fun _ _ _ h => h) (Or.inl ⟨by rfl, ?_⟩) (by assumption) ?_
  rotate_left 1
  · (intro w hSw; (try dsimp only at hSw); go_simp; try with_reducible rfl)
  try simp only [Act.put, List.setIfInBounds_toArray, List.set_cons_zero, List.set_cons_succ]
  refine wpAnyH_ready (rs := [2]) (by kernel_rfl) (by simp) ?_
  refine AllReadyH.cons (o := ⟨some 9, _, _, _, _, _⟩) rfl (fun K hK => ?_) ?_
  rotate_left 1
  · exact AllReadyH.nil
  go_simp
  go_at_call 29; refine (QA.out _ (S0_.2.2.2.1.wide S0_.2.2.2.2.size)).mono ?_; rintro e w1 ⟨rfl, hb0_⟩
  have S1_ := HO _ _ S0_ hb0_
  go_wp2_with fail
  refine hK.out _ _ ⟨S1_.1.1, S1_.2.1.1, S1_.2.1.2, S1_.2.2.1.1, S1_.2.2.1.2⟩ (fun hHeld => ?_)
  clear hK K
  refine wpAnyH_take (i := 3) (oi := ⟨some 10, _, _, _, _, _⟩) (v := ?_) rfl (by kernel_rfl) (by kernel_rfl) (by kernel_rfl) (fun _ _ _ h => h) (Or.inl ⟨by rfl, ?_⟩) (by assumption) ?_
  rotate_left 1
  · (intro w hSw; (try dsimp only at hSw); go_simp; try with_reducible rfl)
  try simp only [Act.put, List.setIfInBounds_toArray, List.set_cons_zero, List.set_cons_succ]
  refine wpAnyH_take (i := 4) (oi := ⟨some 11, _, _, _, _, _⟩) (v := ?_) rfl (by kernel_rfl) (by kernel_rfl) (by kernel_rfl) (fun _ _ _ h => h) (Or.inl ⟨by rfl, ?_⟩) (by assumption) ?_
  rotate_left 1
  · (intro w hSw; (try dsimp only at hSw); go_simp; try with_reducible rfl)
  try simp only [Act.put, List.setIfInBounds_toArray, List.set_cons_zero, List.set_cons_succ]
  refine wpAnyH_take (i := 5) (oi := ⟨some 12, _, _, _, _, _⟩) (v := ?_) rfl (by kernel_rfl) (by kernel_rfl) (by kernel_rfl) (fun _ _ _ h => h) (Or.inl ⟨by rfl, ?_⟩) (by assumption) ?_
  rotate_left 1
  · (intro w hSw; (try dsimp only at hSw); go_simp; try with_reducible rfl)
  try simp only [Act.put, List.setIfInBounds_toArray, List.set_cons_zero, List.set_cons_succ]
  refine wpAnyH_ready (rs := [6]) (by kernel_rfl) (by simp) ?_
  refine AllReadyH.cons (o := ⟨some 13, _, _, _, _, _⟩) rfl (fun K hK => ?_) ?_
  rotate_left 1
  · exact AllReadyH.nil
  go_simp
  go_at_call 29; refine (QB.out _ (S1_.2.2.2.1.wide S1_.2.2.2.2.size)).mono ?_; rintro e w2 ⟨rfl, hb1_⟩
  have S2_ := HO _ _ S1_ hb1_
  go_wp2_with fail
  refine hK.out _ _ ⟨S2_.1.1, S2_.2.1.1, S2_.2.1.2, S2_.2.2.1.1, S2_.2.2.1.2⟩ (fun hHeld => ?_)
  clear hK K
  refine wpAnyH_take (i := 7) (oi := ⟨some 14, _, _, _, _, _⟩) (v := ?_) rfl (by kernel_rfl) (by kernel_rfl) (by kernel_rfl) (fun _ _ _ h => h) (Or.inl ⟨by rfl, ?_⟩) (by assumption) ?_
  rotate_left 1
  · (intro w hSw; (try dsimp only at hSw); go_simp; try with_reducible rfl)
  try simp only [Act.put, List.setIfInBounds_toArray, List.set_cons_zero, List.set_cons_succ]
  refine wpAnyH_take (i := 8) (oi := ⟨some 15, _, _, _, _, _⟩) (v := ?_) rfl (by kernel_rfl) (by kernel_rfl) (by kernel_rfl) (fun _ _ _ h => h) (Or.inl ⟨by rfl, ?_⟩) (by assumption) ?_
  rotate_left 1
  · (intro w hSw; (try dsimp only at hSw); go_simp; try with_reducible rfl)
  try simp only [Act.put, List.setIfInBounds_toArray, List.set_cons_zero, List.set_cons_succ]
  refine wpAnyH_take (i := 9) (oi := ⟨some 16, _, _, _, _, _⟩) (v := ?_) rfl (by kernel_rfl) (by kernel_rfl) (by kernel_rfl) (fun _ _ _ h => h) (Or.inl ⟨by rfl, ?_⟩) (by assumption) ?_
  rotate_left 1
  · (intro w hSw; (try dsimp only at hSw); go_simp; try with_reducible rfl)
  try simp only [Act.put, List.setIfInBounds_toArray, List.set_cons_zero, List.set_cons_succ]
  refine wpAnyH_take (i := 10) (oi := ⟨some 17, _, _, _, _, _⟩) (v := ?_) rfl (by kernel_rfl) (by kernel_rfl) (by kernel_rfl) (fun _ _ _ h => h) (Or.inl ⟨by rfl, ?_⟩) (by assumption) ?_
  rotate_left 1
  · (intro w hSw; (try dsimp only at hSw); go_simp; try with_reducible rfl)
  try simp only [Act.put, List.setIfInBounds_toArray, List.set_cons_zero, List.set_cons_succ]
  refine wpAnyH_take (i := 12) (oi := ⟨some 19, _, _, _, _, _⟩) (v := ?_) rfl (by kernel_rfl) (by kernel_rfl) (by kernel_rfl) (fun _ _ _ h => h) (Or.inl ⟨by rfl, ?_⟩) (by assumption) ?_
  rotate_left 1
  · (intro w hSw; (try dsimp only at hSw); go_simp; try with_reducible rfl)
  try simp only [Act.put, List.setIfInBounds_toArray, List.set_cons_zero, List.set_cons_succ]
  refine wpAnyH_ready (rs := [11]) (by kernel_rfl) (by simp) ?_
  refine AllReadyH.cons (o := ⟨some 18, _, _, _, _, _⟩) rfl (fun K hK => ?_) ?_
  rotate_left 1
  · exact AllReadyH.nil
  go_simp
  go_at_call 66; refine (QF.out _ (S2_.2.2.2.1.wide S2_.2.2.2.2.size)).mono ?_; rintro e w3 ⟨C1, C2, Ad, cd, rfl, h1_, h2_, hq_, hb2_⟩
  have S3_ := HO _ _ S2_ hb2_
  go_wp2_with fail
  refine hK.out _ _ ⟨S3_.1.1, S3_.2.1.1, S3_.2.1.2, S3_.2.2.1.1, S3_.2.2.1.2⟩ (fun hHeld => ?_)
  clear hK K
  refine wpAnyH_ready (rs := [13]) (by kernel_rfl) (by simp) ?_
  refine AllReadyH.cons (o := ⟨some 20, _, _, _, _, _⟩) rfl (fun K hK => ?_) ?_
  rotate_left 1
  · exact AllReadyH.nil
  go_simp
  go_at_call 88; refine (QC.out C1 C2 Ad cd _ h1_ h2_ hq_).mono ?_; rintro e w4 ⟨rfl, hb3_⟩
  have S4_ := HO _ _ S3_ hb3_
  go_wp2_with fail
  refine hK.out _ _ ⟨S4_.1.1, S4_.2.1.1, S4_.2.1.2, S4_.2.2.1.1, S4_.2.2.1.2⟩ (fun hHeld => ?_)
  clear hK K
  refine wpAnyH_take (i := 14) (oi := ⟨some 21, _, _, _, _, _⟩) (v := ?_) rfl (by kernel_rfl) (by kernel_rfl) (by kernel_rfl) (fun _ _ _ h => h) (Or.inl ⟨by rfl, ?_⟩) (by assumption) ?_
  rotate_left 1
  · (intro w hSw; (try dsimp only at hSw); go_simp; try with_reducible rfl)
  try simp only [Act.put, List.setIfInBounds_toArray, List.set_cons_zero, List.set_cons_succ]
  refine wpAnyH_take (i := 15) (oi := ⟨some 6, _, _, _, _, _⟩) (v := ?_) rfl (by kernel_rfl) (by kernel_rfl) (by kernel_rfl) (fun _ _ _ h => h) (Or.inl ⟨by rfl, ?_⟩) (by assumption) ?_
  rotate_left 1
  · (intro w hSw; (try dsimp only at hSw); go_simp; try with_reducible rfl)
  try simp only [Act.put, List.setIfInBounds_toArray, List.set_cons_zero, List.set_cons_succ]
  refine wpAnyH_done (by kernel_rfl) ?_ _
  go_wp2_with fail
  go_ret
  exact ⟨rfl, S4_.2.2.2.2⟩

set_option maxRecDepth 100000 in
set_option maxHeartbeats 4000000 in
theorem seenBy (A : Option Addr) (n cap : Nat) (ax ay : Int) (w : World) (ps : List (Int × Int)) (hl : ps.length = n) (hn : n ≤ 1048576) (hp : PtsAt w w.heap.size A ps) :
    Calls Try.prog 41 #[.agg #[.slice A n cap], .agg #[.int .i64 ax, .int .i64 ay]] w (GivesC 40 2 w (seenL ps ax ay).length (cellsP (seenL ps ax ay))) := by
  obtain ⟨r, hr⟩ : ∃ r, seenL ps ax ay = r := ⟨_, rfl⟩
  have HR := Lib.hid hr
  rw [hr]
  clear hr
  obtain ⟨i0, hi, hz0, hz1, hz2⟩ := info_parts infoP
  go_enter Try.func41, Try.ntmps41
  go_wp2_with fail
  have X0 := (Pts.boxR w (.slice A n cap) 29 (k := w.heap.size) (by simp)).alloc (Obj.cells #[.int .i64 ax, .int .i64 ay] 40)
  have X1 := PointOk.box1 (w.alloc (Obj.cells #[.slice A n cap] 29)) ax ay 40 (k := w.heap.size + 1) (by simp)
  have b0 := PointOk.below2 w (Obj.cells #[.slice A n cap] 29) (Obj.cells #[.int .i64 ax, .int .i64 ay] 40)
  have HO : ∀ W W' : World, (Pts.BoxR W (w.heap.size) (.slice A n cap) ∧ PointOk.Box W (w.heap.size + 1) ax ay ∧ PtsAt W w.heap.size A ps ∧ Below w.heap.size w W) → Below W.heap.size W W' → (Pts.BoxR W' (w.heap.size) (.slice A n cap) ∧ PointOk.Box W' (w.heap.size + 1) ax ay ∧ PtsAt W' w.heap.size A ps ∧ Below w.heap.size w W') := fun W W' ⟨h0, h1, x0, hb⟩ h => ⟨h0.later h, h1.later h, x0.later (h.mono hb.size), hb.trans (h.mono hb.size)⟩
  have hz0_ : Hid ((((w.alloc (Obj.cells #[.slice A n cap] 29)).alloc (Obj.cells #[.int .i64 ax, .int .i64 ay] 40))).heap.size = w.heap.size + 1 + 1) := Lib.hid (by simp)
  have Y0 : PtsAt (((w.alloc (Obj.cells #[.slice A n cap] 29)).alloc (Obj.cells #[.int .i64 ax, .int .i64 ay] 40))) w.heap.size A ps := hp.later b0
  generalize ((w.alloc (Obj.cells #[.slice A n cap] 29)).alloc (Obj.cells #[.int .i64 ax, .int .i64 ay] 40)) = w0 at X0 X1 Y0 b0 hz0_ ⊢
  have S0 := (⟨X0, X1, Y0, b0⟩ : Pts.BoxR w0 (w.heap.size) (.slice A n cap) ∧ PointOk.Box w0 (w.heap.size + 1) ax ay ∧ PtsAt w0 w.heap.size A ps ∧ Below w.heap.size w w0)
  clear X0 X1 Y0 b0
  obtain ⟨⟨_, _⟩, ⟨_, _⟩, _, _⟩ := id S0
  refine (PlaceImpl.isIn A n cap ax ay _ ps hl hn (S0.2.2.1.wide S0.2.2.2.size)).mono ?_
  rintro e w1 ⟨rfl, hb_⟩
  replace S0 := HO _ _ S0 hb_
  clear hb_
  obtain ⟨⟨_, _⟩, ⟨_, _⟩, _, _⟩ := id S0
  cases ha : inB ps ax ay
  · have E : Hid (r = []) := Lib.hid (by rw [← HR.out]; unfold seenL; rw [ha]; rfl)
    clear hl HR
    go_wp2_with fail
    go_ret
    exact ⟨none, 0, by rw [E.out]; rfl, by rw [E.out]; exact World.ownsRow_nil _ _ _ _, S0.2.2.2⟩
  have hr := roomB_yes (inB_parts ha).1
  have HR2 : Hid (seenTo ps (ax, ay) (floorL ps) (floorL ps).length = r) := Lib.hid (by rw [← HR.out]; unfold seenL; rw [ha]; rfl)
  have hin : Hid (∀ k, k < (floorL ps).length → inB ps (pt (floorL ps) k).1 (pt (floorL ps) k).2 = true) := Lib.hid (fun k hk => floorL_in (pt_mem hk))
  have QF : Hid (∀ w hp, _) := Lib.hid fun w hp => sightFrom A n cap ax ay w ps hl (by omega) hr.2.1 hp
  have QL : Hid (∀ w hp, _) := Lib.hid fun w hp => FloorImpl.floorPoints A n cap w ps hl hn hp
  have hle := floorL_le ps
  clear HR hr
  generalize floorL ps = l at *
  obtain ⟨m, hm⟩ : ∃ m, l.length = m := ⟨_, rfl⟩
  unfold GivesC at QL
  unfold Asks at QF
  rw [hm] at QL hle hin HR2
  go_wp2_with fail
  refine (QF.out _ (S0.2.2.1.wide S0.2.2.2.size)).mono ?_
  rintro e w2 ⟨C1, C2, Ad, cd, rfl, h1_, h2_, hq_, hb_⟩
  replace S0 := HO _ _ S0 hb_
  clear hb_ QF
  obtain ⟨⟨_, _⟩, ⟨_, _⟩, _, _⟩ := id S0
  go_wp2_with fail
  refine (QL.out _ (S0.2.2.1.wide S0.2.2.2.size)).mono ?_
  rintro e w3 ⟨Al, cl, rfl, HL, hb_⟩
  obtain ⟨A9, c9, e9, _, hpl⟩ := LawInt.own_pts HL
  injection e9 with e9 e10 e11
  subst e9 e11
  obtain ⟨B, hB⟩ : ∃ B, w3.heap.size = B := ⟨_, rfl⟩
  have l1_ : C1 < B := by rw [← hB]; exact Nat.lt_of_lt_of_le (World.block_lt_of_cell? _ _ h1_.1) hb_.size
  have l2_ : C2 < B := by rw [← hB]; exact Nat.lt_of_lt_of_le (World.block_lt_of_cell? _ _ h2_.1) hb_.size
  have hlw_ : w.heap.size ≤ B := by rw [← hB]; exact Nat.le_trans S0.2.2.2.size hb_.size
  have HO : ∀ W W' : World, (Pts.BoxR W C1 (.slice Ad n cd) ∧ PointOk.Box W C2 ax ay ∧ PtsAt W B Ad (dblL ps) ∧ PtsAt W B Al l ∧ B ≤ W.heap.size ∧ Below w.heap.size w W) → Below W.heap.size W W' → (Pts.BoxR W' C1 (.slice Ad n cd) ∧ PointOk.Box W' C2 ax ay ∧ PtsAt W' B Ad (dblL ps) ∧ PtsAt W' B Al l ∧ B ≤ W'.heap.size ∧ Below w.heap.size w W') := fun W W' ⟨x0, x1, x2, x3, x4, hb⟩ h => ⟨x0.later h, x1.later h, x2.later (h.mono x4), x3.later (h.mono x4), Nat.le_trans x4 h.size, hb.trans (h.mono hb.size)⟩
  have S1 : Pts.BoxR w3 C1 (.slice Ad n cd) ∧ PointOk.Box w3 C2 ax ay ∧ PtsAt w3 B Ad (dblL ps) ∧ PtsAt w3 B Al l ∧ B ≤ w3.heap.size ∧ Below w.heap.size w w3 := ⟨h1_.later hb_, h2_.later hb_, by rw [← hB]; exact (hq_.later hb_).wide hb_.size, by rw [← hB]; exact hpl, Nat.le_of_eq hB.symm, S0.2.2.2.trans (hb_.mono S0.2.2.2.size)⟩
  clear S0 h1_ h2_ hq_ hb_ HL hpl hB QL
  have S0 := S1
  clear S1
  have hwB_ : w.heap.size ≤ B := by have h4 := S0.2.2.2.2.1; have h5 := hlw_; omega
  have HOB : ∀ W W' : World, (Pts.BoxR W C1 (.slice Ad n cd) ∧ PointOk.Box W C2 ax ay ∧ PtsAt W B Ad (dblL ps) ∧ PtsAt W B Al l ∧ B ≤ W.heap.size ∧ Below w.heap.size w W) → Below B W W' → (Pts.BoxR W' C1 (.slice Ad n cd) ∧ PointOk.Box W' C2 ax ay ∧ PtsAt W' B Ad (dblL ps) ∧ PtsAt W' B Al l ∧ B ≤ W'.heap.size ∧ Below w.heap.size w W') := fun W W' ⟨g0, g1, g2, g3, g4, hb⟩ h => ⟨⟨(h.cell (by exact l1_)).trans g0.1, trivial⟩, ⟨(h.cell (by exact l2_)).trans g1.1, (h.cell (by exact l2_)).trans g1.2⟩, g2.later h, g3.later h, Nat.le_trans g4 h.size, hb.trans (h.mono hwB_)⟩
  obtain ⟨⟨_, _⟩, ⟨_, _⟩, _, _, _, _⟩ := id S0
  go_wp2_with fail
  go_loopw [6, 19] (fun v q wr => ∃ k : Nat, k ≤ m ∧ q = .int .i64 k ∧ wr.ownsRow B 40 2 v (seenTo ps (ax, ay) l k).length (cellsP (seenTo ps (ax, ay) l k)) ∧ (Pts.BoxR wr C1 (.slice Ad n cd) ∧ PointOk.Box wr C2 ax ay ∧ PtsAt wr B Ad (dblL ps) ∧ PtsAt wr B Al l ∧ B ≤ wr.heap.size ∧ Below w.heap.size w wr))
    (fun _ q _ => m - (intOf q).toNat)
  case atStart => exact ⟨0, Nat.zero_le _, rfl, World.ownsRow_nil _ _ _ _, S0⟩
  case round =>
    clear S0
    obtain ⟨k, hkm, rfl, hown, S0⟩ := hrel
    obtain ⟨⟨_, _⟩, ⟨_, _⟩, _, _, _, _⟩ := id S0
    by_cases hlt : k < m
    · have hk1 : (k : Int) < (m : Int) := by omega
      have hk0 : (0 : Int) ≤ (k : Int) := by omega
      have hcl := seenTo_len ps (ax, ay) l k
      have HS : Hid (seenTo ps (ax, ay) l (k + 1) = if seesM ps (ax, ay) (pt l k) then seenTo ps (ax, ay) l k ++ [pt l k] else seenTo ps (ax, ay) l k) := Lib.hid rfl
      generalize seenTo ps (ax, ay) l k = l0 at *
      obtain ⟨mc, hmc⟩ : ∃ x, l0.length = x := ⟨_, rfl⟩
      rw [hmc] at hown hcl
      have p0 := pt_at (ps := l) (k := k) (by omega)
      have hi2 := hin.out k hlt
      obtain ⟨x, y, hx⟩ : ∃ x y, pt l k = (x, y) := ⟨_, _, rfl⟩
      rw [hx] at p0 hi2 HS
      obtain ⟨ad, eA, bA, pA⟩ := S0.2.2.2.1.get p0
      subst eA
      obtain ⟨_, _⟩ := id pA
      have QC : Hid (∀ w h1 h2 hq, _) := Lib.hid fun w h1 h2 hq => asks ax ay x y C1 C2 Ad n cd w ps hl ha hi2 h1 h2 hq
      obtain ⟨o, ho⟩ : ∃ o, seesM ps (ax, ay) (x, y) = o := ⟨_, rfl⟩
      rw [ho] at QC HS
      have X3 := PointOk.box1 wr x y 40 (k := wr.heap.size) rfl
      have b1_ := below1 wr (Obj.cells #[.int .i64 x, .int .i64 y] 40)
      replace S0 := HO _ _ S0 b1_
      replace hown := own_below hown b1_
      obtain ⟨_, _⟩ := id X3
      obtain ⟨kb, hkb⟩ : ∃ K, wr.heap.size = K := ⟨_, rfl⟩
      rw [hkb] at X3
      replace hown := Lib.hid hown
      clear b1_ p0 hi2 hx ho pA
      go_wp2_with fail
      generalize wr.alloc (Obj.cells #[.int .i64 x, .int .i64 y] 40) = v1 at *
      try rw [hkb]
      clear hkb
      obtain ⟨⟨_, _⟩, ⟨_, _⟩, _, _, _, _⟩ := id S0
      refine (QC.out _ S0.1 S0.2.1 (S0.2.2.1.wide S0.2.2.2.2.1)).mono ?_
      rintro e w4 ⟨rfl, hb_⟩
      replace S0 := HO _ _ S0 hb_
      replace X3 := X3.later hb_
      replace hown := Lib.hid (own_below hown.out hb_)
      clear hb_ QC
      obtain ⟨⟨_, _⟩, ⟨_, _⟩, _, _, _, _⟩ := id S0
      obtain ⟨_, _⟩ := X3
      cases o
      · have HS2 : Hid (seenTo ps (ax, ay) l (k + 1) = l0) := Lib.hid (by rw [HS.out]; rfl)
        clear HS
        go_wp2_with fail
        first
          | exact ⟨⟨k + 1, by omega, by go_num, by rw [HS2.out, hmc]; exact hown.out, S0⟩, by simp [intOf]; omega⟩
          | (go_roundw <;> first | exact ⟨k + 1, by omega, by go_num, by rw [HS2.out, hmc]; exact hown.out, S0⟩ | (simp [intOf]; omega))
      · have HS2 : Hid (seenTo ps (ax, ay) l (k + 1) = l0 ++ [(x, y)]) := Lib.hid (by rw [HS.out]; rfl)
        have hown2 := hown.out
        have hzB := S0.2.2.2.2.1
        clear HS
        go_wp2_with (at_builtin; refine wpList_append_own _ rfl _ _ 27 rfl B 40 i0 (.agg #[.int .i64 0, .int .i64 0]) 2 16 Try.underlying27 hi hz0 hz1 hz2 rfl (by decide) _ _ _ rfl (hown2.alloc _) ⟨w4.heap.size, 0, none⟩ 1 1 [.int .i64 x, .int .i64 y] rfl rfl ?c1 ?c2 ?c3 ?c4 ?c5 ?_)
        case c1 => (intro a u ha; match a, ha with | 0, ha => (simp at ha; subst ha; simp [Addr.add]) | 1, ha => (simp at ha; subst ha; simp [Addr.add]))
        case c2 => (intro u hu; simp at hu; rcases hu with rfl | rfl <;> rfl)
        case c3 => (unfold maxLen; omega)
        case c4 => omega
        case c5 => (simp; omega)
        intro v1_ wa_ ho_ hg_ _
        have HN : Hid (wa_.ownsRow B 40 2 v1_ (seenTo ps (ax, ay) l (k + 1)).length (cellsP (seenTo ps (ax, ay) l (k + 1))) ∧ (Pts.BoxR wa_ C1 (.slice Ad n cd) ∧ PointOk.Box wa_ C2 ax ay ∧ PtsAt wa_ B Ad (dblL ps) ∧ PtsAt wa_ B (some ad) l ∧ B ≤ wa_.heap.size ∧ Below w.heap.size w wa_)) := Lib.hid (by
          have hb0 : Below B w4 (w4.alloc (Obj.cells #[.int .i64 x, .int .i64 y] 40)) := (below1 _ _).mono hzB
          have hb1 := hb0.grown hg_ (by simp; omega) (fun g hg => (hown2.lt g hg).1)
          rw [HS2.out, cellsP_app, List.length_append, hmc]
          exact ⟨ho_, HOB _ _ S0 hb1⟩)
        clear ho_ hg_ hown hown2 HS2 S0
        go_wp2_with fail
        first
          | exact ⟨⟨k + 1, by omega, by go_num, HN.out.1, HN.out.2⟩, by simp [intOf]; omega⟩
          | (go_roundw <;> first | exact ⟨k + 1, by omega, by go_num, HN.out.1, HN.out.2⟩ | (simp [intOf]; omega))
    · obtain rfl : m = k := by omega
      rw [HR2.out] at hown
      have hown2 := Lib.hid hown
      obtain ⟨A1, c1, rfl⟩ := own_shape hown
      clear hl hown HR2
      go_wp2_with fail
      go_ret
      exact ⟨A1, c1, rfl, own_base hown2.out hwB_, S0.2.2.2.2.2⟩

set_option maxRecDepth 100000 in
set_option maxHeartbeats 4000000 in
theorem cornersSeen (A : Option Addr) (n cap : Nat) (ax ay : Int) (w : World) (ps : List (Int × Int)) (hl : ps.length = n) (hn : n ≤ 1048576) (hp : PtsAt w w.heap.size A ps) :
    Calls Try.prog 43 #[.agg #[.slice A n cap], .agg #[.int .i64 ax, .int .i64 ay]] w (GivesI 3 w (cornL ps ax ay)) := by
  obtain ⟨r, hr⟩ : ∃ r, cornL ps ax ay = r := ⟨_, rfl⟩
  have HR := Lib.hid hr
  rw [hr]
  clear hr
  obtain ⟨i0, hi, hz0, hz1, hz2⟩ := info_parts infoI
  go_enter Try.func43, Try.ntmps43
  go_wp2_with fail
  have X0 := (Pts.boxR w (.slice A n cap) 29 (k := w.heap.size) (by simp)).alloc (Obj.cells #[.int .i64 ax, .int .i64 ay] 40)
  have X1 := PointOk.box1 (w.alloc (Obj.cells #[.slice A n cap] 29)) ax ay 40 (k := w.heap.size + 1) (by simp)
  have b0 := PointOk.below2 w (Obj.cells #[.slice A n cap] 29) (Obj.cells #[.int .i64 ax, .int .i64 ay] 40)
  have HO : ∀ W W' : World, (Pts.BoxR W (w.heap.size) (.slice A n cap) ∧ PointOk.Box W (w.heap.size + 1) ax ay ∧ PtsAt W w.heap.size A ps ∧ Below w.heap.size w W) → Below W.heap.size W W' → (Pts.BoxR W' (w.heap.size) (.slice A n cap) ∧ PointOk.Box W' (w.heap.size + 1) ax ay ∧ PtsAt W' w.heap.size A ps ∧ Below w.heap.size w W') := fun W W' ⟨h0, h1, x0, hb⟩ h => ⟨h0.later h, h1.later h, x0.later (h.mono hb.size), hb.trans (h.mono hb.size)⟩
  have hz0_ : Hid ((((w.alloc (Obj.cells #[.slice A n cap] 29)).alloc (Obj.cells #[.int .i64 ax, .int .i64 ay] 40))).heap.size = w.heap.size + 1 + 1) := Lib.hid (by simp)
  have Y0 : PtsAt (((w.alloc (Obj.cells #[.slice A n cap] 29)).alloc (Obj.cells #[.int .i64 ax, .int .i64 ay] 40))) w.heap.size A ps := hp.later b0
  generalize ((w.alloc (Obj.cells #[.slice A n cap] 29)).alloc (Obj.cells #[.int .i64 ax, .int .i64 ay] 40)) = w0 at X0 X1 Y0 b0 hz0_ ⊢
  have S0 := (⟨X0, X1, Y0, b0⟩ : Pts.BoxR w0 (w.heap.size) (.slice A n cap) ∧ PointOk.Box w0 (w.heap.size + 1) ax ay ∧ PtsAt w0 w.heap.size A ps ∧ Below w.heap.size w w0)
  clear X0 X1 Y0 b0
  obtain ⟨⟨_, _⟩, ⟨_, _⟩, _, _⟩ := id S0
  refine (PlaceImpl.isIn A n cap ax ay _ ps hl hn (S0.2.2.1.wide S0.2.2.2.size)).mono ?_
  rintro e w1 ⟨rfl, hb_⟩
  replace S0 := HO _ _ S0 hb_
  clear hb_
  obtain ⟨⟨_, _⟩, ⟨_, _⟩, _, _⟩ := id S0
  cases ha : inB ps ax ay
  · have E : Hid (r = []) := Lib.hid (by rw [← HR.out]; unfold cornL; rw [ha]; rfl)
    clear hl HR
    go_wp2_with fail
    go_ret
    exact ⟨none, 0, by rw [E.out]; rfl, by rw [E.out]; exact World.ownsRow_nil _ _ _ _, S0.2.2.2⟩
  have hr1 := (inB_parts ha).1
  have hr := roomB_yes hr1
  have HR2 : Hid (cornTo ps (ax, ay) n = r) := Lib.hid (by rw [← HR.out]; unfold cornL; rw [ha, hl]; rfl)
  have hin : Hid (∀ k, k < n → inB ps (pt ps k).1 (pt ps k).2 = true) := Lib.hid (fun k hk => corner_in hr1 (by omega))
  have QF : Hid (∀ w hp, _) := Lib.hid fun w hp => sightFrom A n cap ax ay w ps hl (by omega) hr.2.1 hp
  clear HR hr hr1
  unfold Asks at QF
  go_wp2_with fail
  refine (QF.out _ (S0.2.2.1.wide S0.2.2.2.size)).mono ?_
  rintro e w2 ⟨C1, C2, Ad, cd, rfl, h1_, h2_, hq_, hb_⟩
  obtain ⟨B, hB⟩ : ∃ B, w2.heap.size = B := ⟨_, rfl⟩
  have l1_ : C1 < B := by rw [← hB]; exact World.block_lt_of_cell? _ _ h1_.1
  have l2_ : C2 < B := by rw [← hB]; exact World.block_lt_of_cell? _ _ h2_.1
  replace S0 := HO _ _ S0 hb_
  have hwB_ : w.heap.size ≤ B := by rw [← hB]; exact S0.2.2.2.size
  have cr_ := S0.1.1
  have q1_ := S0.2.2.1.wide hwB_
  have HO : ∀ W W' : World, (Pts.BoxR W C1 (.slice Ad n cd) ∧ PointOk.Box W C2 ax ay ∧ PtsAt W B Ad (dblL ps) ∧ PtsAt W B A ps ∧ B ≤ W.heap.size ∧ Below w.heap.size w W) → Below W.heap.size W W' → (Pts.BoxR W' C1 (.slice Ad n cd) ∧ PointOk.Box W' C2 ax ay ∧ PtsAt W' B Ad (dblL ps) ∧ PtsAt W' B A ps ∧ B ≤ W'.heap.size ∧ Below w.heap.size w W') := fun W W' ⟨x0, x1, x2, x3, x4, hb⟩ h => ⟨x0.later h, x1.later h, x2.later (h.mono x4), x3.later (h.mono x4), Nat.le_trans x4 h.size, hb.trans (h.mono hb.size)⟩
  have S1 : Pts.BoxR w2 C1 (.slice Ad n cd) ∧ PointOk.Box w2 C2 ax ay ∧ PtsAt w2 B Ad (dblL ps) ∧ PtsAt w2 B A ps ∧ B ≤ w2.heap.size ∧ Below w.heap.size w w2 := ⟨h1_, h2_, by rw [← hB]; exact hq_, q1_, Nat.le_of_eq hB.symm, S0.2.2.2⟩
  clear S0 h1_ h2_ hq_ hb_ hB QF q1_
  have S0 := S1
  clear S1
  have HOB : ∀ W W' : World, (Pts.BoxR W C1 (.slice Ad n cd) ∧ PointOk.Box W C2 ax ay ∧ PtsAt W B Ad (dblL ps) ∧ PtsAt W B A ps ∧ B ≤ W.heap.size ∧ Below w.heap.size w W) → Below B W W' → (Pts.BoxR W' C1 (.slice Ad n cd) ∧ PointOk.Box W' C2 ax ay ∧ PtsAt W' B Ad (dblL ps) ∧ PtsAt W' B A ps ∧ B ≤ W'.heap.size ∧ Below w.heap.size w W') := fun W W' ⟨g0, g1, g2, g3, g4, hb⟩ h => ⟨⟨(h.cell (by exact l1_)).trans g0.1, trivial⟩, ⟨(h.cell (by exact l2_)).trans g1.1, (h.cell (by exact l2_)).trans g1.2⟩, g2.later h, g3.later h, Nat.le_trans g4 h.size, hb.trans (h.mono hwB_)⟩
  obtain ⟨⟨_, _⟩, ⟨_, _⟩, _, _, _, _⟩ := id S0
  go_wp2_with fail
  clear cr_
  go_loopw [6, 19] (fun v q wr => ∃ k : Nat, k ≤ n ∧ q = .int .i64 k ∧ wr.ownsRow B 3 1 v (cornTo ps (ax, ay) k).length (icells (cornTo ps (ax, ay) k)) ∧ (Pts.BoxR wr C1 (.slice Ad n cd) ∧ PointOk.Box wr C2 ax ay ∧ PtsAt wr B Ad (dblL ps) ∧ PtsAt wr B A ps ∧ B ≤ wr.heap.size ∧ Below w.heap.size w wr))
    (fun _ q _ => n - (intOf q).toNat)
  case atStart => exact ⟨0, Nat.zero_le _, rfl, World.ownsRow_nil _ _ _ _, S0⟩
  case round =>
    clear S0
    obtain ⟨k, hkm, rfl, hown, S0⟩ := hrel
    obtain ⟨⟨_, _⟩, ⟨_, _⟩, _, _, _, _⟩ := id S0
    by_cases hlt : k < n
    · have hk1 : (k : Int) < (n : Int) := by omega
      have hk0 : (0 : Int) ≤ (k : Int) := by omega
      have hcl := cornTo_len ps (ax, ay) k
      have HS : Hid (cornTo ps (ax, ay) (k + 1) = if seesM ps (ax, ay) (pt ps k) then cornTo ps (ax, ay) k ++ [(k : Int)] else cornTo ps (ax, ay) k) := Lib.hid rfl
      generalize cornTo ps (ax, ay) k = l0 at *
      obtain ⟨mc, hmc⟩ : ∃ x, l0.length = x := ⟨_, rfl⟩
      rw [hmc] at hown hcl
      have p0 := pt_at (ps := ps) (k := k) (by omega)
      have hi2 := hin.out k hlt
      obtain ⟨x, y, hx⟩ : ∃ x y, pt ps k = (x, y) := ⟨_, _, rfl⟩
      rw [hx] at p0 hi2 HS
      obtain ⟨ad, eA, bA, pA⟩ := S0.2.2.2.1.get p0
      subst eA
      obtain ⟨_, _⟩ := id pA
      have QC : Hid (∀ w h1 h2 hq, _) := Lib.hid fun w h1 h2 hq => asks ax ay x y C1 C2 Ad n cd w ps hl ha hi2 h1 h2 hq
      obtain ⟨o, ho⟩ : ∃ o, seesM ps (ax, ay) (x, y) = o := ⟨_, rfl⟩
      rw [ho] at QC HS
      have X3 := PointOk.box1 wr x y 40 (k := wr.heap.size) rfl
      have b1_ := below1 wr (Obj.cells #[.int .i64 x, .int .i64 y] 40)
      replace S0 := HO _ _ S0 b1_
      replace hown := own_below hown b1_
      obtain ⟨_, _⟩ := id X3
      obtain ⟨kb, hkb⟩ : ∃ K, wr.heap.size = K := ⟨_, rfl⟩
      rw [hkb] at X3
      replace hown := Lib.hid hown
      clear b1_ p0 hi2 hx ho pA
      go_wp2_with fail
      generalize wr.alloc (Obj.cells #[.int .i64 x, .int .i64 y] 40) = v1 at *
      try rw [hkb]
      clear hkb
      obtain ⟨⟨_, _⟩, ⟨_, _⟩, _, _, _, _⟩ := id S0
      refine (QC.out _ S0.1 S0.2.1 (S0.2.2.1.wide S0.2.2.2.2.1)).mono ?_
      rintro e w4 ⟨rfl, hb_⟩
      replace S0 := HO _ _ S0 hb_
      replace hown := Lib.hid (own_below hown.out hb_)
      clear hb_ QC X3
      obtain ⟨⟨_, _⟩, ⟨_, _⟩, _, _, _, _⟩ := id S0
      cases o
      · have HS2 : Hid (cornTo ps (ax, ay) (k + 1) = l0) := Lib.hid (by rw [HS.out]; rfl)
        clear HS
        go_wp2_with fail
        first
          | exact ⟨⟨k + 1, by omega, by go_num, by rw [HS2.out, hmc]; exact hown.out, S0⟩, by simp [intOf]; omega⟩
          | (go_roundw <;> first | exact ⟨k + 1, by omega, by go_num, by rw [HS2.out, hmc]; exact hown.out, S0⟩ | (simp [intOf]; omega))
      · have HS2 : Hid (cornTo ps (ax, ay) (k + 1) = l0 ++ [(k : Int)]) := Lib.hid (by rw [HS.out]; rfl)
        have hown2 := hown.out
        have hzB := S0.2.2.2.2.1
        clear HS
        go_wp2_with (at_builtin; refine wpList_append_own _ rfl _ _ 52 rfl (B) 3 i0 (.int .i64 0) 1 8 Try.underlying52 hi hz0 hz1 hz2 rfl (by decide) _ _ _ rfl (hown2.alloc _) ⟨w4.heap.size, 0, none⟩ 1 1 [.int .i64 (k : Int)] rfl rfl ?c1 ?c2 ?c3 ?c4 ?c5 ?_)
        case c1 => (intro j u hj; match j, hj with | 0, hj => (simp at hj; subst hj; simp [Addr.add]))
        case c2 => (intro u hu; simp at hu; subst hu; rfl)
        case c3 => (unfold maxLen; omega)
        case c4 => omega
        case c5 => (simp; omega)
        intro v1_ wa_ ho_ hg_ _
        have HN : Hid (wa_.ownsRow B 3 1 v1_ (cornTo ps (ax, ay) (k + 1)).length (icells (cornTo ps (ax, ay) (k + 1))) ∧ (Pts.BoxR wa_ C1 (.slice Ad n cd) ∧ PointOk.Box wa_ C2 ax ay ∧ PtsAt wa_ B Ad (dblL ps) ∧ PtsAt wa_ B (some ad) ps ∧ B ≤ wa_.heap.size ∧ Below w.heap.size w wa_)) := Lib.hid (by
          have hb0 : Below B w4 (w4.alloc (Obj.cells #[.int .i64 (k : Int)] 3)) := (below1 _ _).mono hzB
          have hb1 := hb0.grown hg_ (by simp; omega) (fun g hg => (hown2.lt g hg).1)
          rw [HS2.out, icells_snoc, List.length_append, hmc]
          exact ⟨ho_, HOB _ _ S0 hb1⟩)
        clear ho_ hg_ hown hown2 HS2 S0
        go_wp2_with fail
        first
          | exact ⟨⟨k + 1, by omega, by go_num, HN.out.1, HN.out.2⟩, by simp [intOf]; omega⟩
          | (go_roundw <;> first | exact ⟨k + 1, by omega, by go_num, HN.out.1, HN.out.2⟩ | (simp [intOf]; omega))
    · obtain rfl : n = k := by omega
      rw [HR2.out] at hown
      have hown2 := Lib.hid hown
      obtain ⟨A1, c1, rfl⟩ := own_shape hown
      clear hl hown HR2
      go_wp2_with fail
      go_ret
      exact ⟨A1, c1, rfl, own_base hown2.out hwB_, S0.2.2.2.2.2⟩

end Go.Proofs.Ytkohfbffmljmcab.ViewImpl


