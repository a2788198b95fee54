/-
  What the model's Sees, SeenBy and CornersSeen do, as contracts: what each answers; no old cell is written.
-/
import Derived.Test.YtaphdannaaiidaaSightSpec
import Derived.Test.YtaphdannaaiidaaFloorSpec
namespace Go.Proofs.Ytaphdannaaiidaa.SeenSpec
open Go.RowKit Own PointMath WallMath RoomMath Pts Blk AreaMath PlaceMath FloorMath LineMath CutsMath SightMath
open PointOk (ret_bool ret_i64 below1 below2 below3)
open SightSpec (infoP cellsP_app pts_own)

theorem infoI : (Try.prog.info? 3).map (fun i => (i.zero, i.size, i.bytes)) = some (some (.int .i64 0), 1, 8) := by kernel_rfl

/-- The contract of l08Sees for points of a room. -/
theorem seesIn (A : Option Addr) (n cap : Nat) (ax ay bx bY : Int) (w : World) (ps : List (Int × Int)) (hl : ps.length = n) (ha : inB ps ax ay = true) (hb : inB ps bx bY = true) (hp : PtsAt w w.heap.size A ps) :
    Calls Try.prog 71 #[.slice A n cap, .agg #[.int .i64 ax, .int .i64 ay], .agg #[.int .i64 bx, .int .i64 bY]] w fun e w' => e = .returned (.bool (seesM ps (ax, ay) (bx, bY))) ∧ Below w.heap.size w w' :=
  SightSpec.sees8 A n cap ax ay bx bY w ps hl (by have := (roomB_yes (inB_parts ha).1).1; omega) (roomB_yes (inB_parts ha).1).2.1 (inB_parts ha).2 (inB_parts hb).2 hp

set_option maxRecDepth 100000 in
set_option maxHeartbeats 1600000 in
theorem sees (A : Option Addr) (n cap : Nat) (ax ay bx bY : Int) (w : World) (ps : List (Int × Int)) (hl : ps.length = n) (hn : n ≤ 1048576) (hp : PtsAt w w.heap.size A ps) :
    Calls Try.prog 34 #[.agg #[.slice A n cap], .agg #[.int .i64 ax, .int .i64 ay], .agg #[.int .i64 bx, .int .i64 bY]] w fun e w' => e = .returned (.bool (seesB ps ax ay bx bY)) ∧ Below w.heap.size w w' := by
  obtain ⟨r, hr⟩ : ∃ r, seesB ps ax ay bx bY = r := ⟨_, rfl⟩
  have HR := Lib.hid hr
  rw [hr]
  clear hr
  go_enter Try.func34, Try.ntmps34
  go_wp2_with fail
  have X0 := ((Pts.boxR w (.slice A n cap) 33 (k := w.heap.size) (by simp)).alloc (Obj.cells #[.int .i64 ax, .int .i64 ay] 27)).alloc (Obj.cells #[.int .i64 bx, .int .i64 bY] 27)
  have X1 := (PointOk.box1 (w.alloc (Obj.cells #[.slice A n cap] 33)) ax ay 27 (k := w.heap.size + 1) (by simp)).alloc (Obj.cells #[.int .i64 bx, .int .i64 bY] 27)
  have X2 := PointOk.box1 ((w.alloc (Obj.cells #[.slice A n cap] 33)).alloc (Obj.cells #[.int .i64 ax, .int .i64 ay] 27)) bx bY 27 (k := w.heap.size + 1 + 1) (by simp)
  have b0 := PointOk.below3 w (Obj.cells #[.slice A n cap] 33) (Obj.cells #[.int .i64 ax, .int .i64 ay] 27) (Obj.cells #[.int .i64 bx, .int .i64 bY] 27)
  have HO : ∀ W W' : World, (Pts.BoxR W (w.heap.size) (.slice A n cap) ∧ PointOk.Box W (w.heap.size + 1) ax ay ∧ PointOk.Box W (w.heap.size + 1 + 1) bx bY ∧ PtsAt W w.heap.size A ps ∧ Below w.heap.size w W) → Below W.heap.size W W' → (Pts.BoxR W' (w.heap.size) (.slice A n cap) ∧ PointOk.Box W' (w.heap.size + 1) ax ay ∧ PointOk.Box W' (w.heap.size + 1 + 1) bx bY ∧ PtsAt W' w.heap.size A ps ∧ Below w.heap.size w W') := fun W W' ⟨h0, h1, h2, x0, hb⟩ h => ⟨h0.later h, h1.later h, h2.later h, x0.later (h.mono hb.size), hb.trans (h.mono hb.size)⟩
  have hz0_ : Hid (((((w.alloc (Obj.cells #[.slice A n cap] 33)).alloc (Obj.cells #[.int .i64 ax, .int .i64 ay] 27)).alloc (Obj.cells #[.int .i64 bx, .int .i64 bY] 27))).heap.size = w.heap.size + 1 + 1 + 1) := Lib.hid (by simp)
  have Y0 : PtsAt ((((w.alloc (Obj.cells #[.slice A n cap] 33)).alloc (Obj.cells #[.int .i64 ax, .int .i64 ay] 27)).alloc (Obj.cells #[.int .i64 bx, .int .i64 bY] 27))) w.heap.size A ps := hp.later b0
  generalize (((w.alloc (Obj.cells #[.slice A n cap] 33)).alloc (Obj.cells #[.int .i64 ax, .int .i64 ay] 27)).alloc (Obj.cells #[.int .i64 bx, .int .i64 bY] 27)) = w0 at X0 X1 X2 Y0 b0 hz0_ ⊢
  have S0 := (⟨X0, X1, X2, Y0, b0⟩ : Pts.BoxR w0 (w.heap.size) (.slice A n cap) ∧ PointOk.Box w0 (w.heap.size + 1) ax ay ∧ PointOk.Box w0 (w.heap.size + 1 + 1) bx bY ∧ PtsAt w0 w.heap.size A ps ∧ Below w.heap.size w w0)
  clear X0 X1 X2 Y0 b0
  obtain ⟨⟨_, _⟩, ⟨_, _⟩, ⟨_, _⟩, _, _⟩ := id S0
  refine (PlaceSpec.isIn A n cap ax ay _ ps hl hn (S0.2.2.2.1.wide S0.2.2.2.2.size)).mono ?_
  rintro e w1 ⟨rfl, hb_⟩
  replace S0 := HO _ _ S0 hb_
  clear hb_
  obtain ⟨⟨_, _⟩, ⟨_, _⟩, ⟨_, _⟩, _, _⟩ := id S0
  cases ha : inB ps ax ay
  · have E : Hid (r = false) := Lib.hid (by rw [← HR.out]; unfold seesB; rw [ha]; rfl)
    clear hl HR
    go_wp2_with fail
    go_ret
    exact ⟨ret_bool E.out.symm, S0.2.2.2.2⟩
  go_wp2_with fail
  refine (PlaceSpec.isIn A n cap bx bY _ ps hl hn (S0.2.2.2.1.wide S0.2.2.2.2.size)).mono ?_
  rintro e w2 ⟨rfl, hb_⟩
  replace S0 := HO _ _ S0 hb_
  clear hb_
  obtain ⟨⟨_, _⟩, ⟨_, _⟩, ⟨_, _⟩, _, _⟩ := id S0
  cases hb : inB ps bx bY
  · have E : Hid (r = false) := Lib.hid (by rw [← HR.out]; unfold seesB; rw [hb]; simp)
    clear hl HR
    go_wp2_with fail
    go_ret
    exact ⟨ret_bool E.out.symm, S0.2.2.2.2⟩
  have E : seesM ps (ax, ay) (bx, bY) = r := by rw [← HR.out]; unfold seesB; rw [ha, hb]; rfl
  have Q : Hid (∀ w hp, _) := Lib.hid fun w hp => seesIn A n cap ax ay bx bY w ps hl ha hb hp
  rw [E] at Q
  clear hl HR ha hb E
  go_wp2_with fail
  refine (Q.out _ (S0.2.2.2.1.wide S0.2.2.2.2.size)).mono ?_
  rintro e w3 ⟨rfl, hb_⟩
  replace S0 := HO _ _ S0 hb_
  clear hb_
  obtain ⟨⟨_, _⟩, ⟨_, _⟩, ⟨_, _⟩, _, _⟩ := id S0
  go_wp2_with fail
  go_ret
  exact ⟨rfl, S0.2.2.2.2⟩

set_option maxRecDepth 100000 in
set_option maxHeartbeats 4000000 in
theorem seenBy (A : Option Addr) (n cap : Nat) (ax ay : Int) (w : World) (ps : List (Int × Int)) (hl : ps.length = n) (hn : n ≤ 1048576) (hp : PtsAt w w.heap.size A ps) :
    Calls Try.prog 38 #[.agg #[.slice A n cap], .agg #[.int .i64 ax, .int .i64 ay]] w (GivesC 27 2 w (seenL ps ax ay).length (cellsP (seenL ps ax ay))) := by
  obtain ⟨r, hr⟩ : ∃ r, seenL ps ax ay = r := ⟨_, rfl⟩
  have HR := Lib.hid hr
  rw [hr]
  clear hr
  obtain ⟨i0, hi, hz0, hz1, hz2⟩ := info_parts infoP
  go_enter Try.func38, Try.ntmps38
  go_wp2_with fail
  have X0 := (Pts.boxR w (.slice A n cap) 33 (k := w.heap.size) (by simp)).alloc (Obj.cells #[.int .i64 ax, .int .i64 ay] 27)
  have X1 := PointOk.box1 (w.alloc (Obj.cells #[.slice A n cap] 33)) ax ay 27 (k := w.heap.size + 1) (by simp)
  have b0 := PointOk.below2 w (Obj.cells #[.slice A n cap] 33) (Obj.cells #[.int .i64 ax, .int .i64 ay] 27)
  have HO : ∀ W W' : World, (Pts.BoxR W (w.heap.size) (.slice A n cap) ∧ PointOk.Box W (w.heap.size + 1) ax ay ∧ PtsAt W w.heap.size A ps ∧ Below w.heap.size w W) → Below W.heap.size W W' → (Pts.BoxR W' (w.heap.size) (.slice A n cap) ∧ PointOk.Box W' (w.heap.size + 1) ax ay ∧ PtsAt W' w.heap.size A ps ∧ Below w.heap.size w W') := fun W W' ⟨h0, h1, x0, hb⟩ h => ⟨h0.later h, h1.later h, x0.later (h.mono hb.size), hb.trans (h.mono hb.size)⟩
  have hz0_ : Hid ((((w.alloc (Obj.cells #[.slice A n cap] 33)).alloc (Obj.cells #[.int .i64 ax, .int .i64 ay] 27))).heap.size = w.heap.size + 1 + 1) := Lib.hid (by simp)
  have Y0 : PtsAt (((w.alloc (Obj.cells #[.slice A n cap] 33)).alloc (Obj.cells #[.int .i64 ax, .int .i64 ay] 27))) w.heap.size A ps := hp.later b0
  generalize ((w.alloc (Obj.cells #[.slice A n cap] 33)).alloc (Obj.cells #[.int .i64 ax, .int .i64 ay] 27)) = w0 at X0 X1 Y0 b0 hz0_ ⊢
  have S0 := (⟨X0, X1, Y0, b0⟩ : Pts.BoxR w0 (w.heap.size) (.slice A n cap) ∧ PointOk.Box w0 (w.heap.size + 1) ax ay ∧ PtsAt w0 w.heap.size A ps ∧ Below w.heap.size w w0)
  clear X0 X1 Y0 b0
  obtain ⟨⟨_, _⟩, ⟨_, _⟩, _, _⟩ := id S0
  have HO2 : ∀ W W' : World, (Pts.BoxR W (w.heap.size) (.slice A n cap) ∧ PointOk.Box W (w.heap.size + 1) ax ay ∧ PtsAt W w.heap.size A ps ∧ Below w.heap.size w W) → Below (w.heap.size + 2) W W' → (Pts.BoxR W' (w.heap.size) (.slice A n cap) ∧ PointOk.Box W' (w.heap.size + 1) ax ay ∧ PtsAt W' w.heap.size A ps ∧ Below w.heap.size w W') := fun W W' ⟨h0, h1, h2, hb⟩ h => ⟨⟨(h.cell (by simp)).trans h0.1, trivial⟩, ⟨(h.cell (by simp)).trans h1.1, (h.cell (by simp)).trans h1.2⟩, h2.later (h.mono (by omega)), hb.trans (h.mono (by omega))⟩
  have hz1_ := hz0_.out
  have hown := own_empty w0 27 2
  rw [hz1_] at hown
  replace hown : (w0.alloc (Obj.cells #[] 27)).ownsRow (w.heap.size + 2) 27 2 (.slice (some ⟨w.heap.size + 2, 0, none⟩) 0 0) 0 [] := hown
  replace S0 := HO _ _ S0 (below1 w0 (Obj.cells #[] 27))
  have hsz : w.heap.size + 2 ≤ (w0.alloc (Obj.cells #[] 27)).heap.size := by simp; omega
  replace hown := Lib.hid hown
  replace hsz := Lib.hid hsz
  obtain ⟨⟨_, _⟩, ⟨_, _⟩, _, _⟩ := id S0
  go_wp2_with fail
  generalize w0.alloc (Obj.cells #[] 27) = v0 at *
  refine (PlaceSpec.isIn A n cap ax ay _ ps hl hn (S0.2.2.1.wide S0.2.2.2.size)).mono ?_
  rintro e w1 ⟨rfl, hb_⟩
  replace S0 := HO _ _ S0 hb_
  replace hown := Lib.hid (own_below hown.out hb_)
  replace hsz := Lib.hid (Nat.le_trans hsz.out hb_.size)
  clear hb_
  obtain ⟨⟨_, _⟩, ⟨_, _⟩, _, _⟩ := id S0
  cases ha : inB ps ax ay
  · have E : Hid (r = []) := Lib.hid (by rw [← HR.out]; unfold seenL; rw [ha]; rfl)
    clear hl HR
    go_wp2_with fail
    go_ret
    exact ⟨some ⟨w.heap.size + 2, 0, none⟩, 0, by rw [E.out]; rfl, by rw [E.out]; exact own_base hown.out (by omega), S0.2.2.2⟩
  have HR2 : Hid (seenTo ps (ax, ay) (floorL ps) (floorL ps).length = r) := Lib.hid (by rw [← HR.out]; unfold seenL; rw [ha]; rfl)
  have hin : Hid (∀ k, k < (floorL ps).length → inB ps (pt (floorL ps) k).1 (pt (floorL ps) k).2 = true) := Lib.hid (fun k hk => floorL_in (pt_mem hk))
  have QF : Hid (∀ w hp, _) := Lib.hid fun w hp => FloorSpec.floorPoints A n cap w ps hl hn hp
  have hle := floorL_le ps
  clear HR
  generalize floorL ps = l at *
  obtain ⟨m, hm⟩ : ∃ m, l.length = m := ⟨_, rfl⟩
  unfold GivesC at QF
  rw [hm] at QF hle hin HR2
  go_wp2_with fail
  refine (QF.out _ (S0.2.2.1.wide S0.2.2.2.size)).mono ?_
  rintro e w2 ⟨Al, cl, rfl, HL, hb_⟩
  have hD : Hid (∀ i j, (Value.slice (some ⟨w.heap.size + 2, 0, none⟩) 0 0).ownBlock = some i → (Value.slice Al m cl).ownBlock = some j → i ≠ j) := Lib.hid (fun i j h1 h2 => by
    have := (hown.out.lt i h1).2
    have := (HL.lt j h2).1
    omega)
  replace HL := Lib.hid (own_base HL (b' := w.heap.size) S0.2.2.2.size)
  replace S0 := HO _ _ S0 hb_
  replace hown := Lib.hid (own_below hown.out hb_)
  replace hsz := Lib.hid (Nat.le_trans hsz.out hb_.size)
  clear hb_ QF
  obtain ⟨⟨_, _⟩, ⟨_, _⟩, _, _⟩ := id S0
  go_wp2_with fail
  go_loopw [5, 7] (fun v q wr => ∃ k : Nat, k ≤ m ∧ q = .int .i64 k ∧ wr.ownsRow (w.heap.size + 2) 27 2 v (seenTo ps (ax, ay) l k).length (cellsP (seenTo ps (ax, ay) l k)) ∧ wr.ownsRow w.heap.size 27 2 (.slice Al m cl) m (cellsP l) ∧ Hid (∀ i j, v.ownBlock = some i → (Value.slice Al m cl).ownBlock = some j → i ≠ j) ∧ w.heap.size + 2 ≤ wr.heap.size ∧ (Pts.BoxR wr (w.heap.size) (.slice A n cap) ∧ PointOk.Box wr (w.heap.size + 1) ax ay ∧ PtsAt wr w.heap.size A ps ∧ Below w.heap.size w wr))
    (fun _ q _ => m - (intOf q).toNat)
  case atStart => exact ⟨0, Nat.zero_le _, rfl, hown.out, HL.out, hD, hsz.out, S0⟩
  case round =>
    clear S0 hown HL hsz hD
    obtain ⟨k, hkm, rfl, hown, HL, hD, hsz, S0⟩ := hrel
    obtain ⟨⟨_, _⟩, ⟨_, _⟩, _, _⟩ := id S0
    by_cases hlt : k < m
    · have hk1 : (k : Int) < (m : Int) := by omega
      have hk0 : (0 : Int) ≤ (k : Int) := by omega
      have hcl := seenTo_len ps (ax, ay) l k
      have HS : Hid (seenTo ps (ax, ay) l (k + 1) = if seesM ps (ax, ay) (pt l k) then seenTo ps (ax, ay) l k ++ [pt l k] else seenTo ps (ax, ay) l k) := Lib.hid rfl
      generalize seenTo ps (ax, ay) l k = l0 at *
      obtain ⟨mc, hmc⟩ : ∃ x, l0.length = x := ⟨_, rfl⟩
      rw [hmc] at hown hcl
      have p0 := pt_at (ps := l) (k := k) (by omega)
      have hi2 := hin.out k hlt
      obtain ⟨x, y, hx⟩ : ∃ x y, pt l k = (x, y) := ⟨_, _, rfl⟩
      rw [hx] at p0 hi2 HS
      obtain ⟨ad, eA, bA, pA⟩ := (pts_own HL).get p0
      subst eA
      obtain ⟨Ao, co, rfl⟩ := own_shape hown
      have Q : Hid (∀ w hp, _) := Lib.hid fun w hp => seesIn A n cap ax ay x y w ps hl ha hi2 hp
      obtain ⟨o, ho⟩ : ∃ o, seesM ps (ax, ay) (x, y) = o := ⟨_, rfl⟩
      rw [ho] at Q HS
      clear ho p0 hi2 hx
      have HO : ∀ W W' : World, (Pts.BoxR W (w.heap.size) (.slice A n cap) ∧ PointOk.Box W (w.heap.size + 1) ax ay ∧ PtsAt W w.heap.size A ps ∧ PtAt W ad k x y ∧ W.ownsRow (w.heap.size + 2) 27 2 (.slice Ao mc co) mc (cellsP l0) ∧ W.ownsRow w.heap.size 27 2 (.slice (some ad) m cl) m (cellsP l) ∧ w.heap.size + 2 ≤ W.heap.size ∧ wr.heap.size ≤ W.heap.size ∧ Below w.heap.size w W) → Below W.heap.size W W' → (Pts.BoxR W' (w.heap.size) (.slice A n cap) ∧ PointOk.Box W' (w.heap.size + 1) ax ay ∧ PtsAt W' w.heap.size A ps ∧ PtAt W' ad k x y ∧ W'.ownsRow (w.heap.size + 2) 27 2 (.slice Ao mc co) mc (cellsP l0) ∧ W'.ownsRow w.heap.size 27 2 (.slice (some ad) m cl) m (cellsP l) ∧ w.heap.size + 2 ≤ W'.heap.size ∧ wr.heap.size ≤ W'.heap.size ∧ Below w.heap.size w W') := fun W W' ⟨h0, h1, x0, x1, x2, x3, x4, x5, hb⟩ h => ⟨h0.later h, h1.later h, x0.later (h.mono hb.size), x1.later (Nat.lt_of_lt_of_le bA x5) h, own_below x2 h, own_below x3 h, Nat.le_trans x4 h.size, Nat.le_trans x5 h.size, hb.trans (h.mono hb.size)⟩
      replace S0 : Pts.BoxR wr (w.heap.size) (.slice A n cap) ∧ PointOk.Box wr (w.heap.size + 1) ax ay ∧ PtsAt wr w.heap.size A ps ∧ PtAt wr ad k x y ∧ wr.ownsRow (w.heap.size + 2) 27 2 (.slice Ao mc co) mc (cellsP l0) ∧ wr.ownsRow w.heap.size 27 2 (.slice (some ad) m cl) m (cellsP l) ∧ w.heap.size + 2 ≤ wr.heap.size ∧ wr.heap.size ≤ wr.heap.size ∧ Below w.heap.size w wr := ⟨S0.1, S0.2.1, S0.2.2.1, pA, hown, HL, hsz, Nat.le_refl _, S0.2.2.2⟩
      clear pA hown HL hsz
      obtain ⟨⟨_, _⟩, ⟨_, _⟩, _, ⟨_, _⟩, _, _, _, _, _⟩ := id S0
      go_wp2_with fail
      refine Settle.region (fun W => Pts.BoxR W (w.heap.size) (.slice A n cap) ∧ PointOk.Box W (w.heap.size + 1) ax ay ∧ PtsAt W w.heap.size A ps ∧ PtAt W ad k x y ∧ W.ownsRow (w.heap.size + 2) 27 2 (.slice Ao mc co) mc (cellsP l0) ∧ W.ownsRow w.heap.size 27 2 (.slice (some ad) m cl) m (cellsP l) ∧ w.heap.size + 2 ≤ W.heap.size ∧ wr.heap.size ≤ W.heap.size ∧ Below w.heap.size w W) (by kernel_rfl) (by kernel_rfl) (by kernel_rfl) (by kernel_rfl) (HO _ _ S0 ((Below.refl _ _).drew)) ?_
      clear S0
      repeat (first
        | (refine Settle.Settles.off (by rfl) ?_; simp only [Act.put, List.setIfInBounds_toArray, List.set_cons_zero, List.set_cons_succ])
        | (refine Settle.Settles.quiet (v := ?_) (by rfl) ?_ ?_
           rotate_left
           · (intro W hS; obtain ⟨⟨_, _⟩, ⟨_, _⟩, _, ⟨_, _⟩, _, _, _, _, _⟩ := hS; go_simp; with_reducible rfl)
           simp only [Act.put, List.setIfInBounds_toArray, List.set_cons_zero, List.set_cons_succ])
        | (refine Settle.Settles.call (v := ?_) (f := ?_) (args := ?_) (by rfl) ?_ ?_ ?_
           rotate_left 3
           · (intro W; go_simp; refine ⟨?_, ?_⟩ <;> with_reducible rfl)
           · (intro W hS; first | (go_at_call 71; (with_reducible refine (Q.out _ (hS.2.2.1.wide hS.2.2.2.2.2.2.2.2.size)).mono ?_); rintro e W1 ⟨rfl, hb⟩; refine ⟨?_, HO _ _ hS hb⟩; with_reducible rfl))
           simp only [Act.put, List.setIfInBounds_toArray, List.set_cons_zero, List.set_cons_succ]))
      refine Settle.Settles.nil ?_
      intro wr S0
      obtain ⟨⟨_, _⟩, ⟨_, _⟩, _, ⟨_, _⟩, _, _, _, _, _⟩ := id S0
      have hown := S0.2.2.2.2.1
      have HL := S0.2.2.2.2.2.1
      have hsz := S0.2.2.2.2.2.2.1
      cases o
      · have HS2 : Hid (seenTo ps (ax, ay) l (k + 1) = l0) := Lib.hid (by rw [HS.out]; rfl)
        replace hown := Lib.hid hown
        replace HL := Lib.hid HL
        clear HS
        go_wp2_with fail
        first
          | exact ⟨⟨k + 1, by omega, by go_num, by rw [HS2.out, hmc]; exact hown.out, HL.out, hD, hsz, S0.1, S0.2.1, S0.2.2.1, S0.2.2.2.2.2.2.2.2⟩, by simp [intOf]; omega⟩
          | (go_roundw <;> first | exact ⟨k + 1, by omega, by go_num, by rw [HS2.out, hmc]; exact hown.out, HL.out, hD, hsz, S0.1, S0.2.1, S0.2.2.1, S0.2.2.2.2.2.2.2.2⟩ | (simp [intOf]; omega))
      · have HS2 : Hid (seenTo ps (ax, ay) l (k + 1) = l0 ++ [(x, y)]) := Lib.hid (by rw [HS.out]; rfl)
        clear HS Q
        go_wp2_with (at_builtin; refine wpList_append_lies _ rfl _ _ 31 rfl (w.heap.size + 2) 27 i0 (.agg #[.int .i64 0, .int .i64 0]) 2 16 Try.underlying31 hi hz0 hz1 hz2 rfl (by decide) _ _ _ rfl (hown.alloc _) ⟨_, 0, none⟩ 1 1 [.int .i64 x, .int .i64 y] rfl rfl ?c1 ?c2 (by decide) ?c3 ?c4 ?c5 _ rfl ?_)
        case c1 => (intro a u ha; match a, ha with | 0, ha => (simp at ha; subst ha; simp [Addr.add]) | 1, ha => (simp at ha; subst ha; simp [Addr.add]))
        case c2 => (intro u hu; simp at hu; rcases hu with rfl | rfl <;> rfl)
        case c3 => (unfold maxLen; omega)
        case c4 => omega
        case c5 => (simp; omega)
        intro g_ cap_ wa_ ho_ hg_ hgo_ hlt_
        have HN : Hid (wa_.ownsRow (w.heap.size + 2) 27 2 (.slice (some ⟨g_, 0, none⟩) (mc + 1) cap_) (seenTo ps (ax, ay) l (k + 1)).length (cellsP (seenTo ps (ax, ay) l (k + 1))) ∧ wa_.ownsRow w.heap.size 27 2 (.slice (some ad) m cl) m (cellsP l) ∧ Hid (∀ i j, (Value.slice (some ⟨g_, 0, none⟩) (mc + 1) cap_).ownBlock = some i → (Value.slice (some ad) m cl).ownBlock = some j → i ≠ j) ∧ w.heap.size + 2 ≤ wa_.heap.size ∧ (Pts.BoxR wa_ (w.heap.size) (.slice A n cap) ∧ PointOk.Box wa_ (w.heap.size + 1) ax ay ∧ PtsAt wa_ w.heap.size A ps ∧ Below w.heap.size w wa_)) := Lib.hid (by
          have hb0 := (below1 wr (Obj.cells #[.int .i64 x, .int .i64 y] 27)).mono hsz
          have hb1 := hb0.grown hg_ (by simp; omega) (fun g hg => (hown.lt g hg).1)
          have hc2 := kept_apart (own_below HL (below1 wr (Obj.cells #[.int .i64 x, .int .i64 y] 27))) hg_ (fun i j h1 h2 => (hD.out j i h2 h1).symm)
          refine ⟨by rw [HS2.out, cellsP_app, List.length_append, hmc]; exact ho_, hc2, Lib.hid (fun i j h1 h2 => ?_), Nat.le_trans hsz hb1.size, HO2 _ _ ⟨S0.1, S0.2.1, S0.2.2.1, S0.2.2.2.2.2.2.2.2⟩ hb1⟩
          injection h1 with h1
          subst h1
          rcases hgo_ with h | h
          · exact hD.out _ j h h2
          · have := (HL.lt j h2).2
            try simp at h
            show g_ ≠ j
            omega)
        clear ho_ hg_ hgo_ hown HL S0 hD hlt_ HS2
        go_wp2_with fail
        first
          | exact ⟨⟨k + 1, by omega, by go_num, HN.out.1, HN.out.2.1, HN.out.2.2.1, HN.out.2.2.2.1, HN.out.2.2.2.2⟩, by simp [intOf]; omega⟩
          | (go_roundw <;> first | exact ⟨k + 1, by omega, by go_num, HN.out.1, HN.out.2.1, HN.out.2.2.1, HN.out.2.2.2.1, HN.out.2.2.2.2⟩ | (simp [intOf]; omega))
    · obtain rfl : m = k := by omega
      rw [HR2.out] at hown
      have hown2 := Lib.hid hown
      obtain ⟨A1, c1, rfl⟩ := own_shape hown
      clear hl hown HL HR2
      go_wp2_with fail
      go_ret
      exact ⟨A1, c1, rfl, own_base hown2.out (by omega), S0.2.2.2⟩

set_option maxRecDepth 100000 in
set_option maxHeartbeats 4000000 in
theorem cornersSeen (A : Option Addr) (n cap : Nat) (ax ay : Int) (w : World) (ps : List (Int × Int)) (hl : ps.length = n) (hn : n ≤ 1048576) (hp : PtsAt w w.heap.size A ps) :
    Calls Try.prog 44 #[.agg #[.slice A n cap], .agg #[.int .i64 ax, .int .i64 ay]] w (GivesI 3 w (cornL ps ax ay)) := by
  obtain ⟨r, hr⟩ : ∃ r, cornL ps ax ay = r := ⟨_, rfl⟩
  have HR := Lib.hid hr
  rw [hr]
  clear hr
  obtain ⟨i0, hi, hz0, hz1, hz2⟩ := info_parts infoI
  go_enter Try.func44, Try.ntmps44
  go_wp2_with fail
  have X0 := (Pts.boxR w (.slice A n cap) 33 (k := w.heap.size) (by simp)).alloc (Obj.cells #[.int .i64 ax, .int .i64 ay] 27)
  have X1 := PointOk.box1 (w.alloc (Obj.cells #[.slice A n cap] 33)) ax ay 27 (k := w.heap.size + 1) (by simp)
  have b0 := PointOk.below2 w (Obj.cells #[.slice A n cap] 33) (Obj.cells #[.int .i64 ax, .int .i64 ay] 27)
  have HO : ∀ W W' : World, (Pts.BoxR W (w.heap.size) (.slice A n cap) ∧ PointOk.Box W (w.heap.size + 1) ax ay ∧ PtsAt W w.heap.size A ps ∧ Below w.heap.size w W) → Below W.heap.size W W' → (Pts.BoxR W' (w.heap.size) (.slice A n cap) ∧ PointOk.Box W' (w.heap.size + 1) ax ay ∧ PtsAt W' w.heap.size A ps ∧ Below w.heap.size w W') := fun W W' ⟨h0, h1, x0, hb⟩ h => ⟨h0.later h, h1.later h, x0.later (h.mono hb.size), hb.trans (h.mono hb.size)⟩
  have hz0_ : Hid ((((w.alloc (Obj.cells #[.slice A n cap] 33)).alloc (Obj.cells #[.int .i64 ax, .int .i64 ay] 27))).heap.size = w.heap.size + 1 + 1) := Lib.hid (by simp)
  have Y0 : PtsAt (((w.alloc (Obj.cells #[.slice A n cap] 33)).alloc (Obj.cells #[.int .i64 ax, .int .i64 ay] 27))) w.heap.size A ps := hp.later b0
  generalize ((w.alloc (Obj.cells #[.slice A n cap] 33)).alloc (Obj.cells #[.int .i64 ax, .int .i64 ay] 27)) = w0 at X0 X1 Y0 b0 hz0_ ⊢
  have S0 := (⟨X0, X1, Y0, b0⟩ : Pts.BoxR w0 (w.heap.size) (.slice A n cap) ∧ PointOk.Box w0 (w.heap.size + 1) ax ay ∧ PtsAt w0 w.heap.size A ps ∧ Below w.heap.size w w0)
  clear X0 X1 Y0 b0
  obtain ⟨⟨_, _⟩, ⟨_, _⟩, _, _⟩ := id S0
  have HO2 : ∀ W W' : World, (Pts.BoxR W (w.heap.size) (.slice A n cap) ∧ PointOk.Box W (w.heap.size + 1) ax ay ∧ PtsAt W w.heap.size A ps ∧ Below w.heap.size w W) → Below (w.heap.size + 2) W W' → (Pts.BoxR W' (w.heap.size) (.slice A n cap) ∧ PointOk.Box W' (w.heap.size + 1) ax ay ∧ PtsAt W' w.heap.size A ps ∧ Below w.heap.size w W') := fun W W' ⟨h0, h1, h2, hb⟩ h => ⟨⟨(h.cell (by simp)).trans h0.1, trivial⟩, ⟨(h.cell (by simp)).trans h1.1, (h.cell (by simp)).trans h1.2⟩, h2.later (h.mono (by omega)), hb.trans (h.mono (by omega))⟩
  have hz1_ := hz0_.out
  go_loopw [5, 6] (fun v i wr => ∃ k : Nat, k ≤ n ∧ (k = 0 ∨ inB ps ax ay = true) ∧ i = .int .i64 k ∧ wr.ownsRow (w.heap.size + 2) 3 1 v (cornTo ps (ax, ay) k).length (icells (cornTo ps (ax, ay) k)) ∧ w.heap.size + 2 ≤ wr.heap.size ∧ (Pts.BoxR wr (w.heap.size) (.slice A n cap) ∧ PointOk.Box wr (w.heap.size + 1) ax ay ∧ PtsAt wr w.heap.size A ps ∧ Below w.heap.size w wr))
    (fun _ i _ => n - (intOf i).toNat)
  case atStart => exact ⟨0, Nat.zero_le _, .inl rfl, rfl, by have := own_empty w0 3 1; rw [hz1_] at this; exact this, by simp; omega, HO _ _ S0 (below1 _ _)⟩
  case round =>
    clear S0
    obtain ⟨k, hkn, hc, rfl, hown, hsz, S0⟩ := hrel
    obtain ⟨⟨_, _⟩, ⟨_, _⟩, _, _⟩ := id S0
    have hlen := cornTo_len ps (ax, ay) k
    have HX : Hid ((inB ps ax ay = false ∨ n = k) → r = cornTo ps (ax, ay) k) := Lib.hid (fun h => by
      rw [← HR.out]; unfold cornL
      rcases hc with hc | hc
      · subst hc
        rcases h with h | h
        · rw [h]; rfl
        · have : ps.length = 0 := by omega
          rw [this]; simp [cornTo]
      · rw [hc]
        rcases h with h | h
        · rw [hc] at h; cases h
        · simp only [if_true]; rw [hl, h])
    by_cases hlt : k < n
    · have hk1 : (k : Int) < (n : Int) := by omega
      have hk0 : (0 : Int) ≤ (k : Int) := by omega
      have HL : Hid (cornTo ps (ax, ay) (k + 1) = if seesM ps (ax, ay) (pt ps k) then cornTo ps (ax, ay) k ++ [(k : Int)] else cornTo ps (ax, ay) k) := Lib.hid rfl
      replace hown := Lib.hid hown
      go_wp2_with fail
      refine (PlaceSpec.isIn A n cap ax ay _ ps hl hn (S0.2.2.1.wide S0.2.2.2.size)).mono ?_
      rintro e w2 ⟨rfl, hb_⟩
      replace S0 := HO _ _ S0 hb_
      replace hown := Lib.hid (own_below hown.out hb_)
      replace hsz := Nat.le_trans hsz hb_.size
      clear hb_
      obtain ⟨⟨_, _⟩, ⟨_, _⟩, _, _⟩ := id S0
      cases ha : inB ps ax ay
      · have E : Hid (cornTo ps (ax, ay) k = r) := Lib.hid (HX.out (.inl ha)).symm
        rw [E.out] at hown
        have hown2 := hown.out
        obtain ⟨A1, c1, rfl⟩ := own_shape hown2
        clear hl HR hc HX hown2 hlen HL
        go_wp2_with fail
        go_ret
        exact ⟨A1, c1, rfl, own_base hown.out (by omega), S0.2.2.2⟩
      have hr := (inB_parts ha).1
      have h3 := (roomB_yes hr).1
      have hi2 := corner_in hr (k := k) (by omega)
      have p0 := pt_at (ps := ps) (k := k) (by omega)
      obtain ⟨x, y, hx⟩ : ∃ x y, pt ps k = (x, y) := ⟨_, _, rfl⟩
      rw [hx] at p0 hi2 HL
      obtain ⟨ad, eA, bA, pA⟩ := S0.2.2.1.get p0
      subst eA
      have Q : Hid (∀ w hp, _) := Lib.hid fun w hp => seesIn (some ad) n cap ax ay x y w ps hl ha hi2 hp
      obtain ⟨o, ho⟩ : ∃ o, seesM ps (ax, ay) (x, y) = o := ⟨_, rfl⟩
      rw [ho] at Q HL
      replace ha := Lib.hid ha
      generalize cornTo ps (ax, ay) k = l at *
      obtain ⟨m, hm⟩ : ∃ m, l.length = m := ⟨_, rfl⟩
      rw [hm] at hown hlen
      have hown3 := hown.out
      obtain ⟨Ao, co, rfl⟩ := own_shape hown3
      clear HR hc HX ho p0 hi2 hx hr hown
      have HO : ∀ W W' : World, (Pts.BoxR W (w.heap.size) (.slice (some ad) n cap) ∧ PointOk.Box W (w.heap.size + 1) ax ay ∧ PtsAt W w.heap.size (some ad) ps ∧ PtAt W ad k x y ∧ W.ownsRow (w.heap.size + 2) 3 1 (.slice Ao m co) m (icells l) ∧ w.heap.size + 2 ≤ W.heap.size ∧ Below w.heap.size w W) → Below W.heap.size W W' → (Pts.BoxR W' (w.heap.size) (.slice (some ad) n cap) ∧ PointOk.Box W' (w.heap.size + 1) ax ay ∧ PtsAt W' w.heap.size (some ad) ps ∧ PtAt W' ad k x y ∧ W'.ownsRow (w.heap.size + 2) 3 1 (.slice Ao m co) m (icells l) ∧ w.heap.size + 2 ≤ W'.heap.size ∧ Below w.heap.size w W') := fun W W' ⟨h0, h1, x0, x1, x2, x3, hb⟩ h => ⟨h0.later h, h1.later h, x0.later (h.mono hb.size), x1.later bA (h.mono hb.size), own_below x2 h, Nat.le_trans x3 h.size, hb.trans (h.mono hb.size)⟩
      replace S0 : Pts.BoxR w2 (w.heap.size) (.slice (some ad) n cap) ∧ PointOk.Box w2 (w.heap.size + 1) ax ay ∧ PtsAt w2 w.heap.size (some ad) ps ∧ PtAt w2 ad k x y ∧ w2.ownsRow (w.heap.size + 2) 3 1 (.slice Ao m co) m (icells l) ∧ w.heap.size + 2 ≤ w2.heap.size ∧ Below w.heap.size w w2 := ⟨S0.1, S0.2.1, S0.2.2.1, pA, hown3, hsz, S0.2.2.2⟩
      clear pA hown3 hsz
      obtain ⟨⟨_, _⟩, ⟨_, _⟩, _, ⟨_, _⟩, _, _, _⟩ := id S0
      go_wp2_with fail
      refine Settle.region (fun W => Pts.BoxR W (w.heap.size) (.slice (some ad) n cap) ∧ PointOk.Box W (w.heap.size + 1) ax ay ∧ PtsAt W w.heap.size (some ad) ps ∧ PtAt W ad k x y ∧ W.ownsRow (w.heap.size + 2) 3 1 (.slice Ao m co) m (icells l) ∧ w.heap.size + 2 ≤ W.heap.size ∧ Below w.heap.size w W) (by kernel_rfl) (by kernel_rfl) (by kernel_rfl) (by kernel_rfl) (HO _ _ S0 ((Below.refl _ _).drew)) ?_
      clear S0
      repeat (first
        | (refine Settle.Settles.off (by rfl) ?_; simp only [Act.put, List.setIfInBounds_toArray, List.set_cons_zero, List.set_cons_succ])
        | (refine Settle.Settles.quiet (v := ?_) (by rfl) ?_ ?_
           rotate_left
           · (intro W hS; obtain ⟨⟨_, _⟩, ⟨_, _⟩, _, ⟨_, _⟩, _, _, _⟩ := hS; go_simp; with_reducible rfl)
           simp only [Act.put, List.setIfInBounds_toArray, List.set_cons_zero, List.set_cons_succ])
        | (refine Settle.Settles.call (v := ?_) (f := ?_) (args := ?_) (by rfl) ?_ ?_ ?_
           rotate_left 3
           · (intro W; go_simp; refine ⟨?_, ?_⟩ <;> with_reducible rfl)
           · (intro W hS; first | (go_at_call 71; (with_reducible refine (Q.out _ (hS.2.2.1.wide hS.2.2.2.2.2.2.size)).mono ?_); rintro e W1 ⟨rfl, hb⟩; refine ⟨?_, HO _ _ hS hb⟩; with_reducible rfl))
           simp only [Act.put, List.setIfInBounds_toArray, List.set_cons_zero, List.set_cons_succ]))
      refine Settle.Settles.nil ?_
      intro wr S0
      obtain ⟨⟨_, _⟩, ⟨_, _⟩, _, ⟨_, _⟩, _, _, _⟩ := id S0
      have hown := S0.2.2.2.2.1
      have hsz := S0.2.2.2.2.2.1
      cases o
      · have HL2 : Hid (cornTo ps (ax, ay) (k + 1) = l) := Lib.hid (by rw [HL.out]; rfl)
        replace hown := Lib.hid hown
        clear HL
        go_wp2_with fail
        first
          | exact ⟨⟨k + 1, by omega, .inr ha.out, by go_num, by rw [HL2.out, hm]; exact hown.out, hsz, S0.1, S0.2.1, S0.2.2.1, S0.2.2.2.2.2.2⟩, by simp [intOf]; omega⟩
          | (go_roundw <;> first | exact ⟨k + 1, by omega, .inr ha.out, by go_num, by rw [HL2.out, hm]; exact hown.out, hsz, S0.1, S0.2.1, S0.2.2.1, S0.2.2.2.2.2.2⟩ | (simp [intOf]; omega))
      · have HL2 : Hid (cornTo ps (ax, ay) (k + 1) = l ++ [(k : Int)]) := Lib.hid (by rw [HL.out]; rfl)
        clear HL Q
        go_wp2_with (at_builtin; refine wpList_append_own _ rfl _ _ 54 rfl (w.heap.size + 2) 3 i0 (.int .i64 0) 1 8 Try.underlying54 hi hz0 hz1 hz2 rfl (by decide) _ _ _ rfl (hown.alloc _) ⟨wr.heap.size, 0, none⟩ 1 1 [.int .i64 (k : Int)] rfl rfl ?c1 ?c2 ?c3 ?c4 ?c5 ?_)
        case c1 => (intro j u hj; match j, hj with | 0, hj => (simp at hj; subst hj; simp [Addr.add]))
        case c2 => (intro u hu; simp at hu; subst hu; rfl)
        case c3 => (unfold maxLen; omega)
        case c4 => omega
        case c5 => (simp; omega)
        intro v1_ wa_ ho_ hg_ _
        have HN : Hid (wa_.ownsRow (w.heap.size + 2) 3 1 v1_ (cornTo ps (ax, ay) (k + 1)).length (icells (cornTo ps (ax, ay) (k + 1))) ∧ w.heap.size + 2 ≤ wa_.heap.size ∧ (Pts.BoxR wa_ (w.heap.size) (.slice (some ad) n cap) ∧ PointOk.Box wa_ (w.heap.size + 1) ax ay ∧ PtsAt wa_ w.heap.size (some ad) ps ∧ Below w.heap.size w wa_)) := Lib.hid (by
          have hb0 : Below (w.heap.size + 2) wr (wr.alloc (Obj.cells #[.int .i64 (k : Int)] 3)) := (below1 _ _).mono hsz
          have hb1 := hb0.grown hg_ (by simp; omega) (fun g hg => (hown.lt g hg).1)
          rw [HL2.out, icells_snoc, List.length_append, hm]
          exact ⟨ho_, Nat.le_trans hsz hb1.size, HO2 _ _ ⟨S0.1, S0.2.1, S0.2.2.1, S0.2.2.2.2.2.2⟩ hb1⟩)
        clear ho_ hg_ hown HL2 S0
        go_wp2_with fail
        first
          | exact ⟨⟨k + 1, by omega, .inr ha.out, by go_num, HN.out.1, HN.out.2.1, HN.out.2.2⟩, by simp [intOf]; omega⟩
          | (go_roundw <;> first | exact ⟨k + 1, by omega, .inr ha.out, by go_num, HN.out.1, HN.out.2.1, HN.out.2.2⟩ | (simp [intOf]; omega))
    · obtain rfl : n = k := by omega
      have E : Hid (cornTo ps (ax, ay) n = r) := Lib.hid (HX.out (.inr rfl)).symm
      rw [E.out] at hown
      have hown2 := Lib.hid hown
      obtain ⟨A1, c1, rfl⟩ := own_shape hown
      clear hl HR hc HX hown hlen
      go_wp2_with fail
      go_ret
      exact ⟨A1, c1, rfl, own_base hown2.out (by omega), S0.2.2.2⟩

end Go.Proofs.Ytaphdannaaiidaa.SeenSpec

