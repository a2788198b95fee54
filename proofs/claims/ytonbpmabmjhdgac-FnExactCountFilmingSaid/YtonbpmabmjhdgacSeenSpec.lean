/-
  What the model's Sees, SeenBy and CornersSeen do, as contracts: what each answers; no old cell is written.
-/
import Derived.Test.YtonbpmabmjhdgacSightSpec
import Derived.Test.YtonbpmabmjhdgacFloorSpec
namespace Go.Proofs.Ytonbpmabmjhdgac.SeenSpec
open Go.RowKit Own PointMath WallMath RoomMath Pts Blk AreaMath PlaceMath FloorMath LineMath CutsMath SightMath
open PointOk (ret_bool ret_i64 below1 below2 below3)
open SightSpec (infoP cellsP_app pts_own)

theorem infoI : (Try.prog.info? 3).map (fun i => (i.zero, i.size, i.bytes)) = some (some (.int .i64 0), 1, 8) := by kernel_rfl

/-- The contract of l08Sees for points of a room. -/
theorem seesIn (A : Option Addr) (n cap : Nat) (ax ay bx bY : Int) (w : World) (ps : List (Int × Int)) (hl : ps.length = n) (ha : inB ps ax ay = true) (hb : inB ps bx bY = true) (hp : PtsAt w w.heap.size A ps) :
    Calls Try.prog 77 #[.slice A n cap, .agg #[.int .i64 ax, .int .i64 ay], .agg #[.int .i64 bx, .int .i64 bY]] w fun e w' => e = .returned (.bool (seesM ps (ax, ay) (bx, bY))) ∧ Below w.heap.size w w' :=
  SightSpec.sees8 A n cap ax ay bx bY w ps hl (by have := (roomB_yes (inB_parts ha).1).1; omega) (roomB_yes (inB_parts ha).1).2.1 (inB_parts ha).2 (inB_parts hb).2 hp

set_option maxRecDepth 100000 in
set_option maxHeartbeats 1600000 in
theorem sees (A : Option Addr) (n cap : Nat) (ax ay bx bY : Int) (w : World) (ps : List (Int × Int)) (hl : ps.length = n) (hn : n ≤ 1048576) (hp : PtsAt w w.heap.size A ps) :
    Calls Try.prog 72 #[.agg #[.slice A n cap], .agg #[.int .i64 ax, .int .i64 ay], .agg #[.int .i64 bx, .int .i64 bY]] w fun e w' => e = .returned (.bool (seesB ps ax ay bx bY)) ∧ Below w.heap.size w w' := by
  obtain ⟨r, hr⟩ : ∃ r, seesB ps ax ay bx bY = r := ⟨_, rfl⟩
  have HR := Lib.hid hr
  rw [hr]
  clear hr
  go_enter Try.func72, Try.ntmps72
  go_wp2_with fail
  have X0 := ((Pts.boxR w (.slice A n cap) 30 (k := w.heap.size) (by simp)).alloc (Obj.cells #[.int .i64 ax, .int .i64 ay] 42)).alloc (Obj.cells #[.int .i64 bx, .int .i64 bY] 42)
  have X1 := (PointOk.box1 (w.alloc (Obj.cells #[.slice A n cap] 30)) ax ay 42 (k := w.heap.size + 1) (by simp)).alloc (Obj.cells #[.int .i64 bx, .int .i64 bY] 42)
  have X2 := PointOk.box1 ((w.alloc (Obj.cells #[.slice A n cap] 30)).alloc (Obj.cells #[.int .i64 ax, .int .i64 ay] 42)) bx bY 42 (k := w.heap.size + 1 + 1) (by simp)
  have b0 := PointOk.below3 w (Obj.cells #[.slice A n cap] 30) (Obj.cells #[.int .i64 ax, .int .i64 ay] 42) (Obj.cells #[.int .i64 bx, .int .i64 bY] 42)
  have HO : ∀ W W' : World, (Pts.BoxR W (w.heap.size) (.slice A n cap) ∧ PointOk.Box W (w.heap.size + 1) ax ay ∧ PointOk.Box W (w.heap.size + 1 + 1) bx bY ∧ PtsAt W w.heap.size A ps ∧ Below w.heap.size w W) → Below W.heap.size W W' → (Pts.BoxR W' (w.heap.size) (.slice A n cap) ∧ PointOk.Box W' (w.heap.size + 1) ax ay ∧ PointOk.Box W' (w.heap.size + 1 + 1) bx bY ∧ PtsAt W' w.heap.size A ps ∧ Below w.heap.size w W') := fun W W' ⟨h0, h1, h2, x0, hb⟩ h => ⟨h0.later h, h1.later h, h2.later h, x0.later (h.mono hb.size), hb.trans (h.mono hb.size)⟩
  have hz0_ : Hid (((((w.alloc (Obj.cells #[.slice A n cap] 30)).alloc (Obj.cells #[.int .i64 ax, .int .i64 ay] 42)).alloc (Obj.cells #[.int .i64 bx, .int .i64 bY] 42))).heap.size = w.heap.size + 1 + 1 + 1) := Lib.hid (by simp)
  have Y0 : PtsAt ((((w.alloc (Obj.cells #[.slice A n cap] 30)).alloc (Obj.cells #[.int .i64 ax, .int .i64 ay] 42)).alloc (Obj.cells #[.int .i64 bx, .int .i64 bY] 42))) w.heap.size A ps := hp.later b0
  generalize (((w.alloc (Obj.cells #[.slice A n cap] 30)).alloc (Obj.cells #[.int .i64 ax, .int .i64 ay] 42)).alloc (Obj.cells #[.int .i64 bx, .int .i64 bY] 42)) = w0 at X0 X1 X2 Y0 b0 hz0_ ⊢
  have S0 := (⟨X0, X1, X2, Y0, b0⟩ : Pts.BoxR w0 (w.heap.size) (.slice A n cap) ∧ PointOk.Box w0 (w.heap.size + 1) ax ay ∧ PointOk.Box w0 (w.heap.size + 1 + 1) bx bY ∧ PtsAt w0 w.heap.size A ps ∧ Below w.heap.size w w0)
  clear X0 X1 X2 Y0 b0
  obtain ⟨⟨_, _⟩, ⟨_, _⟩, ⟨_, _⟩, _, _⟩ := id S0
  refine (PlaceSpec.isIn A n cap ax ay _ ps hl hn (S0.2.2.2.1.wide S0.2.2.2.2.size)).mono ?_
  rintro e w1 ⟨rfl, hb_⟩
  replace S0 := HO _ _ S0 hb_
  clear hb_
  obtain ⟨⟨_, _⟩, ⟨_, _⟩, ⟨_, _⟩, _, _⟩ := id S0
  cases ha : inB ps ax ay
  · have E : Hid (r = false) := Lib.hid (by rw [← HR.out]; unfold seesB; rw [ha]; rfl)
    clear hl HR
    go_wp2_with fail
    go_ret
    exact ⟨ret_bool E.out.symm, S0.2.2.2.2⟩
  go_wp2_with fail
  refine (PlaceSpec.isIn A n cap bx bY _ ps hl hn (S0.2.2.2.1.wide S0.2.2.2.2.size)).mono ?_
  rintro e w2 ⟨rfl, hb_⟩
  replace S0 := HO _ _ S0 hb_
  clear hb_
  obtain ⟨⟨_, _⟩, ⟨_, _⟩, ⟨_, _⟩, _, _⟩ := id S0
  cases hb : inB ps bx bY
  · have E : Hid (r = false) := Lib.hid (by rw [← HR.out]; unfold seesB; rw [hb]; simp)
    clear hl HR
    go_wp2_with fail
    go_ret
    exact ⟨ret_bool E.out.symm, S0.2.2.2.2⟩
  have E : seesM ps (ax, ay) (bx, bY) = r := by rw [← HR.out]; unfold seesB; rw [ha, hb]; rfl
  have Q : Hid (∀ w hp, _) := Lib.hid fun w hp => seesIn A n cap ax ay bx bY w ps hl ha hb hp
  rw [E] at Q
  clear hl HR ha hb E
  go_wp2_with fail
  refine (Q.out _ (S0.2.2.2.1.wide S0.2.2.2.2.size)).mono ?_
  rintro e w3 ⟨rfl, hb_⟩
  replace S0 := HO _ _ S0 hb_
  clear hb_
  obtain ⟨⟨_, _⟩, ⟨_, _⟩, ⟨_, _⟩, _, _⟩ := id S0
  go_wp2_with fail
  go_ret
  exact ⟨rfl, S0.2.2.2.2⟩

end Go.Proofs.Ytonbpmabmjhdgac.SeenSpec

