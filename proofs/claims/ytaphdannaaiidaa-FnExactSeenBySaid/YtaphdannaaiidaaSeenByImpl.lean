/-
  What the landed SeenBy does, as a contract: what it answers; no old cell is written.
-/
import Derived.Test.YtaphdannaaiidaaFromImpl
import Derived.Test.YtaphdannaaiidaaFiltImpl
import Derived.Laws.EntriesVeiled
namespace Go.Proofs.Ytaphdannaaiidaa.SeenByImpl
open Go.RowKit Own PointMath WallMath RoomMath Pts Blk AreaMath PlaceMath FloorMath LineMath CutsMath SightMath FromImpl FiltMath
open PointOk (ret_bool ret_i64 below1 below2 below3)

set_option maxRecDepth 100000 in
set_option maxHeartbeats 4000000 in
theorem seenBy (A : Option Addr) (n cap : Nat) (ax ay : Int) (w : World) (ps : List (Int × Int)) (hl : ps.length = n) (hn : n ≤ 1048576) (hp : PtsAt w w.heap.size A ps) :
    Calls Try.prog 39 #[.agg #[.slice A n cap], .agg #[.int .i64 ax, .int .i64 ay]] w (GivesC 27 2 w (seenL ps ax ay).length (cellsP (seenL ps ax ay))) := by
  obtain ⟨r, hr⟩ : ∃ r, seenL ps ax ay = r := ⟨_, rfl⟩
  have HR := Lib.hid hr
  rw [hr]
  clear hr
  go_enter Try.func39, Try.ntmps39
  go_wp2_with fail
  have X0 := (Pts.boxR w (.slice A n cap) 33 (k := w.heap.size) (by simp)).alloc (Obj.cells #[.int .i64 ax, .int .i64 ay] 27)
  have X1 := PointOk.box1 (w.alloc (Obj.cells #[.slice A n cap] 33)) ax ay 27 (k := w.heap.size + 1) (by simp)
  have b0 := PointOk.below2 w (Obj.cells #[.slice A n cap] 33) (Obj.cells #[.int .i64 ax, .int .i64 ay] 27)
  have HO : ∀ W W' : World, (Pts.BoxR W (w.heap.size) (.slice A n cap) ∧ PointOk.Box W (w.heap.size + 1) ax ay ∧ PtsAt W w.heap.size A ps ∧ Below w.heap.size w W) → Below W.heap.size W W' → (Pts.BoxR W' (w.heap.size) (.slice A n cap) ∧ PointOk.Box W' (w.heap.size + 1) ax ay ∧ PtsAt W' w.heap.size A ps ∧ Below w.heap.size w W') := fun W W' ⟨h0, h1, x0, hb⟩ h => ⟨h0.later h, h1.later h, x0.later (h.mono hb.size), hb.trans (h.mono hb.size)⟩
  have hz0_ : Hid ((((w.alloc (Obj.cells #[.slice A n cap] 33)).alloc (Obj.cells #[.int .i64 ax, .int .i64 ay] 27))).heap.size = w.heap.size + 1 + 1) := Lib.hid (by simp)
  have Y0 : PtsAt (((w.alloc (Obj.cells #[.slice A n cap] 33)).alloc (Obj.cells #[.int .i64 ax, .int .i64 ay] 27))) w.heap.size A ps := hp.later b0
  generalize ((w.alloc (Obj.cells #[.slice A n cap] 33)).alloc (Obj.cells #[.int .i64 ax, .int .i64 ay] 27)) = w0 at X0 X1 Y0 b0 hz0_ ⊢
  have S0 := (⟨X0, X1, Y0, b0⟩ : Pts.BoxR w0 (w.heap.size) (.slice A n cap) ∧ PointOk.Box w0 (w.heap.size + 1) ax ay ∧ PtsAt w0 w.heap.size A ps ∧ Below w.heap.size w w0)
  clear X0 X1 Y0 b0
  obtain ⟨⟨_, _⟩, ⟨_, _⟩, _, _⟩ := id S0
  refine (PlaceImpl.isIn A n cap ax ay _ ps hl hn (S0.2.2.1.wide S0.2.2.2.size)).mono ?_
  rintro e w1 ⟨rfl, hb_⟩
  replace S0 := HO _ _ S0 hb_
  clear hb_
  obtain ⟨⟨_, _⟩, ⟨_, _⟩, _, _⟩ := id S0
  cases ha : inB ps ax ay
  · have E : Hid (r = []) := Lib.hid (by rw [← HR.out]; unfold seenL; rw [ha]; rfl)
    clear hl HR
    go_wp2_with fail
    go_ret
    exact ⟨none, 0, by rw [E.out]; rfl, by rw [E.out]; exact World.ownsRow_nil _ _ _ _, S0.2.2.2⟩
  have hr := roomB_yes (inB_parts ha).1
  have HR2 : Hid (filtTo (fun j => seesM ps (ax, ay) (pt (floorL ps) j)) (floorL ps) (floorL ps).length = r) := Lib.hid (by rw [← HR.out, ← seen_filt]; unfold seenL; rw [ha]; rfl)
  have hin : Hid (∀ k, k < (floorL ps).length → inB ps (pt (floorL ps) k).1 (pt (floorL ps) k).2 = true) := Lib.hid (fun k hk => floorL_in (pt_mem hk))
  have QF : Hid (∀ w hp, _) := Lib.hid fun w hp => sightFrom A n cap ax ay w ps hl (by omega) hr.2.1 hp
  have QL : Hid (∀ w hp, _) := Lib.hid fun w hp => FloorImpl.floorPoints A n cap w ps hl hn hp
  have hle := floorL_le ps
  clear HR hr
  generalize floorL ps = l at *
  obtain ⟨m, hm⟩ : ∃ m, l.length = m := ⟨_, rfl⟩
  unfold GivesC at QL
  unfold Asks at QF
  rw [hm] at QL hle hin HR2
  go_wp2_with fail
  have S0_ := HO _ _ S0 ((Below.refl _ _).drew)
  have HS0_ : w1.drew.cell? ⟨w.heap.size, 0, none⟩ = some (.slice A n cap) ∧ w1.drew.cell? ⟨w.heap.size + 1, 0, none⟩ = some (.int .i64 ax) ∧ w1.drew.cell? ⟨w.heap.size + 1, 1, none⟩ = some (.int .i64 ay) := ⟨S0_.1.1, S0_.2.1.1, S0_.2.1.2⟩
  refine wp_region_held_drew (S := fun W => W.cell? ⟨w.heap.size, 0, none⟩ = some (.slice A n cap) ∧ W.cell? ⟨w.heap.size + 1, 0, none⟩ = some (.int .i64 ax) ∧ W.cell? ⟨w.heap.size + 1, 1, none⟩ = some (.int .i64 ay)) (by kernel_rfl) HS0_ (fun hHeld => ?_)
  refine wpAnyH_take (i := 0) (oi := ⟨some 9, _, _, _, _, _⟩) (v := ?_) rfl (by kernel_rfl) (by kernel_rfl) (by kernel_rfl) (fun _ _ _ h => h) (Or.inl ⟨by rfl, ?_⟩) (by assumption) ?_
  rotate_left 1
  · (intro w hSw; (try dsimp only at hSw); go_simp; try with_reducible rfl)
  try simp only [Act.put, List.setIfInBounds_toArray, List.set_cons_zero, List.set_cons_succ]
  refine wpAnyH_take (i := 2) (oi := ⟨some 11, _, _, _, _, _⟩) (v := ?_) rfl (by kernel_rfl) (by kernel_rfl) (by kernel_rfl) (fun _ _ _ h => h) (Or.inl ⟨by rfl, ?_⟩) (by assumption) ?_
  rotate_left 1
  · (intro w hSw; (try dsimp only at hSw); go_simp; try with_reducible rfl)
  try simp only [Act.put, List.setIfInBounds_toArray, List.set_cons_zero, List.set_cons_succ]
  refine wpAnyH_take (i := 3) (oi := ⟨some 12, _, _, _, _, _⟩) (v := ?_) rfl (by kernel_rfl) (by kernel_rfl) (by kernel_rfl) (fun _ _ _ h => h) (Or.inl ⟨by rfl, ?_⟩) (by assumption) ?_
  rotate_left 1
  · (intro w hSw; (try dsimp only at hSw); go_simp; try with_reducible rfl)
  try simp only [Act.put, List.setIfInBounds_toArray, List.set_cons_zero, List.set_cons_succ]
  refine wpAnyH_ready (rs := [1]) (by kernel_rfl) (by simp) ?_
  refine AllReadyH.cons (o := ⟨some 10, _, _, _, _, _⟩) rfl (fun K hK => ?_) ?_
  rotate_left 1
  · exact AllReadyH.nil
  go_simp
  go_at_call 76; refine (QL.out _ (S0_.2.2.1.wide S0_.2.2.2.size)).mono ?_; rintro e w2 ⟨Al, cl, rfl, HL, hb0_⟩
  have S1_ := HO _ _ S0_ hb0_
  go_wp2_with fail
  refine hK.out _ _ ⟨S1_.1.1, S1_.2.1.1, S1_.2.1.2⟩ (fun hHeld => ?_)
  clear hK K
  refine wpAnyH_ready (rs := [4]) (by kernel_rfl) (by simp) ?_
  refine AllReadyH.cons (o := ⟨some 13, _, _, _, _, _⟩) rfl (fun K hK => ?_) ?_
  rotate_left 1
  · exact AllReadyH.nil
  go_simp
  go_at_call 73; refine (QF.out _ (S1_.2.2.1.wide S1_.2.2.2.size)).mono ?_; rintro e w3 ⟨C1, C2, Ad, cd, rfl, h1_, h2_, hq_, hb1_⟩
  have S2_ := HO _ _ S1_ hb1_
  have HL2 := own_below HL hb1_
  go_wp2_with fail
  refine hK.out _ _ ⟨S2_.1.1, S2_.2.1.1, S2_.2.1.2⟩ (fun hHeld => ?_)
  clear hK K
  have QG := Lib.hid fun W => FiltImpl.filtered 102 #[.pointer (some ⟨C1, 0, none⟩), .pointer (some ⟨C2, 0, none⟩)] (fun j => seesM ps (ax, ay) (pt l j)) Al m cl W l hm (by omega)
  unfold GivesC at QG
  rw [HR2.out] at QG
  refine wpAnyH_ready (rs := [5]) (by kernel_rfl) (by simp) ?_
  refine AllReadyH.cons (o := ⟨some 14, _, _, _, _, _⟩) rfl (fun K hK => ?_) ?_
  rotate_left 1
  · exact AllReadyH.nil
  go_simp
  go_at_call 75; refine (QG.out _ (FiltImpl.pts_own HL2) Try.call102 (fun W j hj hb => asks ax ay (pt l j).1 (pt l j).2 C1 C2 Ad n cd W ps hl ha (hin.out j hj) (h1_.later hb) (h2_.later hb) ((hq_.later hb).wide hb.size))).mono ?_; rintro e w4 ⟨A4, c4, rfl, H4, hb2_⟩
  have S3_ := HO _ _ S2_ hb2_
  go_wp2_with fail
  refine hK.out _ _ ⟨S3_.1.1, S3_.2.1.1, S3_.2.1.2⟩ (fun hHeld => ?_)
  clear hK K
  refine wpAnyH_take (i := 6) (oi := ⟨some 4, _, _, _, _, _⟩) (v := ?_) rfl (by kernel_rfl) (by kernel_rfl) (by kernel_rfl) (fun _ _ _ h => h) (Or.inl ⟨by rfl, ?_⟩) (by assumption) ?_
  rotate_left 1
  · (intro w hSw; (try dsimp only at hSw); go_simp; try with_reducible rfl)
  try simp only [Act.put, List.setIfInBounds_toArray, List.set_cons_zero, List.set_cons_succ]
  refine wpAnyH_done (by kernel_rfl) ?_ _
  have H5 := Lib.hid (own_base H4 (b' := w.heap.size) S2_.2.2.2.size)
  clear QF QL QG HL HL2 hin hl H4
  go_wp2_with fail
  go_ret
  exact ⟨A4, c4, rfl, H5.out, S3_.2.2.2⟩

end Go.Proofs.Ytaphdannaaiidaa.SeenByImpl

