/-
  What the model's FilmedBy does, as a contract: the points in new memory.
-/
import Derived.Test.YthokeedmccfalaaTrackSpec
import Derived.Test.YthokeedmccfalaaSeenSpec
import Derived.Test.YthokeedmccfalaaFbyMath
import Derived.Test.YthokeedmccfalaaFiltImpl
namespace Go.Proofs.Ythokeedmccfalaa.FbySpec
open Go.RowKit Own PointMath WallMath RoomMath Pts Blk AreaMath PlaceMath FloorMath LineMath CutsMath SightMath TrackMath FiltMath FbyMath
open PointOk (ret_bool ret_i64 below1 below2 below3)
open FiltImpl (infoP cellsP_app pts_own)

set_option maxRecDepth 100000 in
set_option maxHeartbeats 6400000 in
theorem filmedBy (A : Option Addr) (n cap : Nat) (ax ay rx ry lx ly q : Int) (w : World) (ps : List (Int × Int)) (hl : ps.length = n) (hn : n ≤ 1048576) (hp : PtsAt w w.heap.size A ps) :
    Calls Try.prog 24 #[.agg #[.slice A n cap], .agg #[.int .i64 ax, .int .i64 ay, .int .i64 rx, .int .i64 ry, .int .i64 lx, .int .i64 ly, .int .i64 q]] w (GivesC 49 2 w (filmL ps ax ay rx ry lx ly q).length (cellsP (filmL ps ax ay rx ry lx ly q))) := by
  obtain ⟨r, hr⟩ : ∃ r, filmL ps ax ay rx ry lx ly q = r := ⟨_, rfl⟩
  have HR := Lib.hid hr
  rw [hr]
  clear hr
  obtain ⟨i0, hi, hz0, hz1, hz2⟩ := info_parts infoP
  go_enter Try.func24, Try.ntmps24
  go_wp2_with fail
  have X0 := (Pts.boxR w (.slice A n cap) 37 (k := w.heap.size) (by simp)).alloc (Obj.cells #[.int .i64 ax, .int .i64 ay, .int .i64 rx, .int .i64 ry, .int .i64 lx, .int .i64 ly, .int .i64 q] 51)
  have X1 := Tup7.box1 (w.alloc (Obj.cells #[.slice A n cap] 37)) ax ay rx ry lx ly q 51 (k := w.heap.size + 1) (by simp)
  have b0 := PointOk.below2 w (Obj.cells #[.slice A n cap] 37) (Obj.cells #[.int .i64 ax, .int .i64 ay, .int .i64 rx, .int .i64 ry, .int .i64 lx, .int .i64 ly, .int .i64 q] 51)
  have HO : ∀ W W' : World, (Pts.BoxR W (w.heap.size) (.slice A n cap) ∧ Tup7.Box W (w.heap.size + 1) ax ay rx ry lx ly q ∧ PtsAt W w.heap.size A ps ∧ Below w.heap.size w W) → Below W.heap.size W W' → (Pts.BoxR W' (w.heap.size) (.slice A n cap) ∧ Tup7.Box W' (w.heap.size + 1) ax ay rx ry lx ly q ∧ PtsAt W' w.heap.size A ps ∧ Below w.heap.size w W') := fun W W' ⟨h0, h1, x0, hb⟩ h => ⟨h0.later h, h1.later h, x0.later (h.mono hb.size), hb.trans (h.mono hb.size)⟩
  have hz0_ : Hid ((((w.alloc (Obj.cells #[.slice A n cap] 37)).alloc (Obj.cells #[.int .i64 ax, .int .i64 ay, .int .i64 rx, .int .i64 ry, .int .i64 lx, .int .i64 ly, .int .i64 q] 51))).heap.size = w.heap.size + 1 + 1) := Lib.hid (by simp)
  have Y0 : PtsAt (((w.alloc (Obj.cells #[.slice A n cap] 37)).alloc (Obj.cells #[.int .i64 ax, .int .i64 ay, .int .i64 rx, .int .i64 ry, .int .i64 lx, .int .i64 ly, .int .i64 q] 51))) w.heap.size A ps := hp.later b0
  generalize ((w.alloc (Obj.cells #[.slice A n cap] 37)).alloc (Obj.cells #[.int .i64 ax, .int .i64 ay, .int .i64 rx, .int .i64 ry, .int .i64 lx, .int .i64 ly, .int .i64 q] 51)) = w0 at X0 X1 Y0 b0 hz0_ ⊢
  have S0 := (⟨X0, X1, Y0, b0⟩ : Pts.BoxR w0 (w.heap.size) (.slice A n cap) ∧ Tup7.Box w0 (w.heap.size + 1) ax ay rx ry lx ly q ∧ PtsAt w0 w.heap.size A ps ∧ Below w.heap.size w w0)
  clear X0 X1 Y0 b0
  obtain ⟨⟨_, _⟩, ⟨_, _, _, _, _, _, _⟩, _, _⟩ := id S0
  have HO2 : ∀ W W' : World, (Pts.BoxR W (w.heap.size) (.slice A n cap) ∧ Tup7.Box W (w.heap.size + 1) ax ay rx ry lx ly q ∧ PtsAt W w.heap.size A ps ∧ Below w.heap.size w W) → Below (w.heap.size + 2) W W' → (Pts.BoxR W' (w.heap.size) (.slice A n cap) ∧ Tup7.Box W' (w.heap.size + 1) ax ay rx ry lx ly q ∧ PtsAt W' w.heap.size A ps ∧ Below w.heap.size w W') := fun W W' ⟨h0, h1, h2, hb⟩ h => ⟨⟨(h.cell (by simp)).trans h0.1, trivial⟩, h1.laterB (by omega) h, h2.later (h.mono (by omega)), hb.trans (h.mono (by omega))⟩
  have hz1_ := hz0_.out
  have hown := own_empty w0 49 2
  rw [hz1_] at hown
  replace hown : (w0.alloc (Obj.cells #[] 49)).ownsRow (w.heap.size + 2) 49 2 (.slice (some ⟨w.heap.size + 2, 0, none⟩) 0 0) 0 [] := hown
  replace S0 := HO _ _ S0 (below1 w0 (Obj.cells #[] 49))
  have hsz : w.heap.size + 2 ≤ (w0.alloc (Obj.cells #[] 49)).heap.size := by simp; omega
  replace hown := Lib.hid hown
  replace hsz := Lib.hid hsz
  obtain ⟨⟨_, _⟩, ⟨_, _, _, _, _, _, _⟩, _, _⟩ := id S0
  go_wp2_with fail
  generalize w0.alloc (Obj.cells #[] 49) = v0 at *
  refine (TrackSpec.cameraOk ax ay rx ry lx ly q _).mono ?_
  rintro e w1 ⟨rfl, hb_⟩
  replace S0 := HO _ _ S0 hb_
  replace hown := Lib.hid (own_below hown.out hb_)
  replace hsz := Lib.hid (Nat.le_trans hsz.out hb_.size)
  clear hb_
  obtain ⟨⟨_, _⟩, ⟨_, _, _, _, _, _, _⟩, _, _⟩ := id S0
  cases hc : camB ax ay rx ry lx ly q
  · have E : Hid (r = []) := Lib.hid (by rw [← HR.out]; exact film_no1 hc)
    clear hl HR
    go_wp2_with fail
    go_ret
    exact ⟨some ⟨w.heap.size + 2, 0, none⟩, 0, by rw [E.out]; rfl, by rw [E.out]; exact own_base hown.out (by omega), S0.2.2.2⟩
  go_wp2_with fail
  refine (PlaceSpec.isIn A n cap ax ay _ ps hl hn (S0.2.2.1.wide S0.2.2.2.size)).mono ?_
  rintro e w1 ⟨rfl, hb_⟩
  replace S0 := HO _ _ S0 hb_
  replace hown := Lib.hid (own_below hown.out hb_)
  replace hsz := Lib.hid (Nat.le_trans hsz.out hb_.size)
  clear hb_
  obtain ⟨⟨_, _⟩, ⟨_, _, _, _, _, _, _⟩, _, _⟩ := id S0
  cases ha : inB ps ax ay
  · have E : Hid (r = []) := Lib.hid (by rw [← HR.out]; exact film_no2 ha)
    clear hl HR
    go_wp2_with fail
    go_ret
    exact ⟨some ⟨w.heap.size + 2, 0, none⟩, 0, by rw [E.out]; rfl, by rw [E.out]; exact own_base hown.out (by omega), S0.2.2.2⟩
  have HR2 : Hid (filtTo (shotB ps ax ay rx ry lx ly q (floorL ps)) (floorL ps) (floorL ps).length = r) := Lib.hid (by rw [← HR.out, film_yes hc ha])
  have hin : Hid (∀ k, k < (floorL ps).length → inB ps (pt (floorL ps) k).1 (pt (floorL ps) k).2 = true) := Lib.hid (fun k hk => floorL_in (pt_mem hk))
  have QF : Hid (∀ w hp, _) := Lib.hid fun w hp => FloorSpec.floorPoints A n cap w ps hl hn hp
  have hle := floorL_le ps
  clear HR
  generalize floorL ps = l at *
  obtain ⟨F, hF⟩ : ∃ F, shotB ps ax ay rx ry lx ly q l = F := ⟨_, rfl⟩
  rw [hF] at HR2
  obtain ⟨m, hm⟩ : ∃ m, l.length = m := ⟨_, rfl⟩
  unfold GivesC at QF
  rw [hm] at QF hle hin HR2
  go_wp2_with fail
  refine (QF.out _ (S0.2.2.1.wide S0.2.2.2.size)).mono ?_
  rintro e w2 ⟨Al, cl, rfl, HL, hb_⟩
  have hD : Hid (∀ i j, (Value.slice (some ⟨w.heap.size + 2, 0, none⟩) 0 0).ownBlock = some i → (Value.slice Al m cl).ownBlock = some j → i ≠ j) := Lib.hid (fun i j h1 h2 => by
    have := (hown.out.lt i h1).2
    have := (HL.lt j h2).1
    omega)
  replace HL := Lib.hid (own_base HL (b' := w.heap.size) S0.2.2.2.size)
  replace S0 := HO _ _ S0 hb_
  replace hown := Lib.hid (own_below hown.out hb_)
  replace hsz := Lib.hid (Nat.le_trans hsz.out hb_.size)
  clear hb_ QF
  obtain ⟨⟨_, _⟩, ⟨_, _, _, _, _, _, _⟩, _, _⟩ := id S0
  go_wp2_with fail
  go_loopw [5, 7] (fun v qq wr => ∃ k : Nat, k ≤ m ∧ qq = .int .i64 k ∧ wr.ownsRow (w.heap.size + 2) 49 2 v (filtTo F l k).length (cellsP (filtTo F l k)) ∧ wr.ownsRow w.heap.size 49 2 (.slice Al m cl) m (cellsP l) ∧ Hid (∀ i j, v.ownBlock = some i → (Value.slice Al m cl).ownBlock = some j → i ≠ j) ∧ w.heap.size + 2 ≤ wr.heap.size ∧ (Pts.BoxR wr (w.heap.size) (.slice A n cap) ∧ Tup7.Box wr (w.heap.size + 1) ax ay rx ry lx ly q ∧ PtsAt wr w.heap.size A ps ∧ Below w.heap.size w wr))
    (fun _ qq _ => m - (intOf qq).toNat)
  case atStart => exact ⟨0, Nat.zero_le _, rfl, hown.out, HL.out, hD, hsz.out, S0⟩
  case round =>
    clear S0 hown HL hsz hD
    obtain ⟨k, hkm, rfl, hown, HL, hD, hsz, S0⟩ := hrel
    obtain ⟨⟨_, _⟩, ⟨_, _, _, _, _, _, _⟩, _, _⟩ := id S0
    by_cases hlt : k < m
    · have hk1 : (k : Int) < (m : Int) := by omega
      have hk0 : (0 : Int) ≤ (k : Int) := by omega
      have hcl := filtTo_len F l k
      have HS : Hid (filtTo F l (k + 1) = if F k then filtTo F l k ++ [pt l k] else filtTo F l k) := Lib.hid rfl
      rw [← hF] at HS
      unfold shotB at HS
      rw [show (fun j => fieldB ax ay rx ry lx ly q (pt l j).1 (pt l j).2 && seesM ps (ax, ay) (pt l j)) = F from hF] at HS
      generalize filtTo F l k = l0 at *
      obtain ⟨mc, hmc⟩ : ∃ x, l0.length = x := ⟨_, rfl⟩
      rw [hmc] at hown hcl
      have p0 := pt_at (ps := l) (k := k) (by omega)
      have hi2 := hin.out k hlt
      obtain ⟨x, y, hx⟩ : ∃ x y, pt l k = (x, y) := ⟨_, _, rfl⟩
      rw [hx] at p0 hi2 HS
      obtain ⟨ad, eA, bA, pA⟩ := (pts_own HL).get p0
      subst eA
      obtain ⟨Ao, co, rfl⟩ := own_shape hown
      have Q : Hid (∀ w hp, _) := Lib.hid fun w hp => SeenSpec.seesIn A n cap ax ay x y w ps hl ha hi2 hp
      have Q1 : Hid (∀ w, _) := Lib.hid fun w => TrackSpec.inField ax ay rx ry lx ly q x y w
      obtain ⟨o, ho⟩ : ∃ o, seesM ps (ax, ay) (x, y) = o := ⟨_, rfl⟩
      obtain ⟨o1, ho1⟩ : ∃ o, fieldB ax ay rx ry lx ly q x y = o := ⟨_, rfl⟩
      rw [ho] at Q HS
      rw [ho1] at Q1 HS
      clear ho p0 hi2 hx ho1
      cases o1
      · skip
        have HO : ∀ W W' : World, (Pts.BoxR W (w.heap.size) (.slice A n cap) ∧ Tup7.Box W (w.heap.size + 1) ax ay rx ry lx ly q ∧ PtsAt W w.heap.size A ps ∧ PtAt W ad k x y ∧ W.ownsRow (w.heap.size + 2) 49 2 (.slice Ao mc co) mc (cellsP l0) ∧ W.ownsRow w.heap.size 49 2 (.slice (some ad) m cl) m (cellsP l) ∧ w.heap.size + 2 ≤ W.heap.size ∧ wr.heap.size ≤ W.heap.size ∧ Below w.heap.size w W) → Below W.heap.size W W' → (Pts.BoxR W' (w.heap.size) (.slice A n cap) ∧ Tup7.Box W' (w.heap.size + 1) ax ay rx ry lx ly q ∧ PtsAt W' w.heap.size A ps ∧ PtAt W' ad k x y ∧ W'.ownsRow (w.heap.size + 2) 49 2 (.slice Ao mc co) mc (cellsP l0) ∧ W'.ownsRow w.heap.size 49 2 (.slice (some ad) m cl) m (cellsP l) ∧ w.heap.size + 2 ≤ W'.heap.size ∧ wr.heap.size ≤ W'.heap.size ∧ Below w.heap.size w W') := fun W W' ⟨h0, h1, x0, x1, x2, x3, x4, x5, hb⟩ h => ⟨h0.later h, h1.later h, x0.later (h.mono hb.size), x1.later (Nat.lt_of_lt_of_le bA x5) h, own_below x2 h, own_below x3 h, Nat.le_trans x4 h.size, Nat.le_trans x5 h.size, hb.trans (h.mono hb.size)⟩
        replace S0 : Pts.BoxR wr (w.heap.size) (.slice A n cap) ∧ Tup7.Box wr (w.heap.size + 1) ax ay rx ry lx ly q ∧ PtsAt wr w.heap.size A ps ∧ PtAt wr ad k x y ∧ wr.ownsRow (w.heap.size + 2) 49 2 (.slice Ao mc co) mc (cellsP l0) ∧ wr.ownsRow w.heap.size 49 2 (.slice (some ad) m cl) m (cellsP l) ∧ w.heap.size + 2 ≤ wr.heap.size ∧ wr.heap.size ≤ wr.heap.size ∧ Below w.heap.size w wr := ⟨S0.1, S0.2.1, S0.2.2.1, pA, hown, HL, hsz, Nat.le_refl _, S0.2.2.2⟩
        clear pA hown HL hsz Q
        obtain ⟨⟨_, _⟩, ⟨_, _, _, _, _, _, _⟩, _, ⟨_, _⟩, _, _, _, _, _⟩ := id S0
        go_wp2_with fail
        refine Settle.region (fun W => Pts.BoxR W (w.heap.size) (.slice A n cap) ∧ Tup7.Box W (w.heap.size + 1) ax ay rx ry lx ly q ∧ PtsAt W w.heap.size A ps ∧ PtAt W ad k x y ∧ W.ownsRow (w.heap.size + 2) 49 2 (.slice Ao mc co) mc (cellsP l0) ∧ W.ownsRow w.heap.size 49 2 (.slice (some ad) m cl) m (cellsP l) ∧ w.heap.size + 2 ≤ W.heap.size ∧ wr.heap.size ≤ W.heap.size ∧ Below w.heap.size w W) (by kernel_rfl) (by kernel_rfl) (by kernel_rfl) (by kernel_rfl) (HO _ _ S0 ((Below.refl _ _).drew)) ?_
        clear S0
        repeat (first
          | (refine Settle.Settles.off (by rfl) ?_; simp only [Act.put, List.setIfInBounds_toArray, List.set_cons_zero, List.set_cons_succ])
          | (refine Settle.Settles.quiet (v := ?_) (by rfl) ?_ ?_
             rotate_left
             · (intro W hS; obtain ⟨⟨_, _⟩, ⟨_, _, _, _, _, _, _⟩, _, ⟨_, _⟩, _, _, _, _, _⟩ := hS; go_simp; with_reducible rfl)
             simp only [Act.put, List.setIfInBounds_toArray, List.set_cons_zero, List.set_cons_succ])
          | (refine Settle.Settles.call (v := ?_) (f := ?_) (args := ?_) (by rfl) ?_ ?_ ?_
             rotate_left 3
             · (intro W; go_simp; refine ⟨?_, ?_⟩ <;> with_reducible rfl)
             · (intro W hS; first | (go_at_call 79; (with_reducible refine (Q1.out _).mono ?_); rintro e W1 ⟨rfl, hb⟩; refine ⟨?_, HO _ _ hS hb⟩; with_reducible rfl))
             simp only [Act.put, List.setIfInBounds_toArray, List.set_cons_zero, List.set_cons_succ]))
        refine Settle.Settles.nil ?_
        intro wr S0
        obtain ⟨⟨_, _⟩, ⟨_, _, _, _, _, _, _⟩, _, ⟨_, _⟩, _, _, _, _, _⟩ := id S0
        have hown := Lib.hid S0.2.2.2.2.1
        have HL := Lib.hid S0.2.2.2.2.2.1
        have hsz := S0.2.2.2.2.2.2.1
        have HS2 : Hid (filtTo F l (k + 1) = l0) := Lib.hid (by rw [HS.out]; rfl)
        clear HS
        go_wp2_with fail
        first
          | exact ⟨⟨k + 1, by omega, by go_num, by rw [HS2.out, hmc]; exact hown.out, HL.out, hD, hsz, S0.1, S0.2.1, S0.2.2.1, S0.2.2.2.2.2.2.2.2⟩, by simp [intOf]; omega⟩
          | (go_roundw <;> first | exact ⟨k + 1, by omega, by go_num, by rw [HS2.out, hmc]; exact hown.out, HL.out, hD, hsz, S0.1, S0.2.1, S0.2.2.1, S0.2.2.2.2.2.2.2.2⟩ | (simp [intOf]; omega))
      have HO : ∀ W W' : World, (Pts.BoxR W (w.heap.size) (.slice A n cap) ∧ Tup7.Box W (w.heap.size + 1) ax ay rx ry lx ly q ∧ PtsAt W w.heap.size A ps ∧ PtAt W ad k x y ∧ W.ownsRow (w.heap.size + 2) 49 2 (.slice Ao mc co) mc (cellsP l0) ∧ W.ownsRow w.heap.size 49 2 (.slice (some ad) m cl) m (cellsP l) ∧ w.heap.size + 2 ≤ W.heap.size ∧ wr.heap.size ≤ W.heap.size ∧ Below w.heap.size w W) → Below W.heap.size W W' → (Pts.BoxR W' (w.heap.size) (.slice A n cap) ∧ Tup7.Box W' (w.heap.size + 1) ax ay rx ry lx ly q ∧ PtsAt W' w.heap.size A ps ∧ PtAt W' ad k x y ∧ W'.ownsRow (w.heap.size + 2) 49 2 (.slice Ao mc co) mc (cellsP l0) ∧ W'.ownsRow w.heap.size 49 2 (.slice (some ad) m cl) m (cellsP l) ∧ w.heap.size + 2 ≤ W'.heap.size ∧ wr.heap.size ≤ W'.heap.size ∧ Below w.heap.size w W') := fun W W' ⟨h0, h1, x0, x1, x2, x3, x4, x5, hb⟩ h => ⟨h0.later h, h1.later h, x0.later (h.mono hb.size), x1.later (Nat.lt_of_lt_of_le bA x5) h, own_below x2 h, own_below x3 h, Nat.le_trans x4 h.size, Nat.le_trans x5 h.size, hb.trans (h.mono hb.size)⟩
      replace S0 : Pts.BoxR wr (w.heap.size) (.slice A n cap) ∧ Tup7.Box wr (w.heap.size + 1) ax ay rx ry lx ly q ∧ PtsAt wr w.heap.size A ps ∧ PtAt wr ad k x y ∧ wr.ownsRow (w.heap.size + 2) 49 2 (.slice Ao mc co) mc (cellsP l0) ∧ wr.ownsRow w.heap.size 49 2 (.slice (some ad) m cl) m (cellsP l) ∧ w.heap.size + 2 ≤ wr.heap.size ∧ wr.heap.size ≤ wr.heap.size ∧ Below w.heap.size w wr := ⟨S0.1, S0.2.1, S0.2.2.1, pA, hown, HL, hsz, Nat.le_refl _, S0.2.2.2⟩
      clear pA hown HL hsz
      obtain ⟨⟨_, _⟩, ⟨_, _, _, _, _, _, _⟩, _, ⟨_, _⟩, _, _, _, _, _⟩ := id S0
      go_wp2_with fail
      refine Settle.region (fun W => Pts.BoxR W (w.heap.size) (.slice A n cap) ∧ Tup7.Box W (w.heap.size + 1) ax ay rx ry lx ly q ∧ PtsAt W w.heap.size A ps ∧ PtAt W ad k x y ∧ W.ownsRow (w.heap.size + 2) 49 2 (.slice Ao mc co) mc (cellsP l0) ∧ W.ownsRow w.heap.size 49 2 (.slice (some ad) m cl) m (cellsP l) ∧ w.heap.size + 2 ≤ W.heap.size ∧ wr.heap.size ≤ W.heap.size ∧ Below w.heap.size w W) (by kernel_rfl) (by kernel_rfl) (by kernel_rfl) (by kernel_rfl) (HO _ _ S0 ((Below.refl _ _).drew)) ?_
      clear S0
      repeat (first
        | (refine Settle.Settles.off (by rfl) ?_; simp only [Act.put, List.setIfInBounds_toArray, List.set_cons_zero, List.set_cons_succ])
        | (refine Settle.Settles.quiet (v := ?_) (by rfl) ?_ ?_
           rotate_left
           · (intro W hS; obtain ⟨⟨_, _⟩, ⟨_, _, _, _, _, _, _⟩, _, ⟨_, _⟩, _, _, _, _, _⟩ := hS; go_simp; with_reducible rfl)
           simp only [Act.put, List.setIfInBounds_toArray, List.set_cons_zero, List.set_cons_succ])
        | (refine Settle.Settles.call (v := ?_) (f := ?_) (args := ?_) (by rfl) ?_ ?_ ?_
           rotate_left 3
           · (intro W; go_simp; refine ⟨?_, ?_⟩ <;> with_reducible rfl)
           · (intro W hS; first | (go_at_call 79; (with_reducible refine (Q1.out _).mono ?_); rintro e W1 ⟨rfl, hb⟩; refine ⟨?_, HO _ _ hS hb⟩; with_reducible rfl) | (go_at_call 80; (with_reducible refine (Q.out _ (hS.2.2.1.wide hS.2.2.2.2.2.2.2.2.size)).mono ?_); rintro e W1 ⟨rfl, hb⟩; refine ⟨?_, HO _ _ hS hb⟩; with_reducible rfl))
           simp only [Act.put, List.setIfInBounds_toArray, List.set_cons_zero, List.set_cons_succ]))
      refine Settle.Settles.nil ?_
      intro wr S0
      obtain ⟨⟨_, _⟩, ⟨_, _, _, _, _, _, _⟩, _, ⟨_, _⟩, _, _, _, _, _⟩ := id S0
      cases o
      · skip
        have hown := Lib.hid S0.2.2.2.2.1
        have HL := Lib.hid S0.2.2.2.2.2.1
        have hsz := S0.2.2.2.2.2.2.1
        have HS2 : Hid (filtTo F l (k + 1) = l0) := Lib.hid (by rw [HS.out]; rfl)
        clear HS
        go_wp2_with fail
        first
          | exact ⟨⟨k + 1, by omega, by go_num, by rw [HS2.out, hmc]; exact hown.out, HL.out, hD, hsz, S0.1, S0.2.1, S0.2.2.1, S0.2.2.2.2.2.2.2.2⟩, by simp [intOf]; omega⟩
          | (go_roundw <;> first | exact ⟨k + 1, by omega, by go_num, by rw [HS2.out, hmc]; exact hown.out, HL.out, hD, hsz, S0.1, S0.2.1, S0.2.2.1, S0.2.2.2.2.2.2.2.2⟩ | (simp [intOf]; omega))
      · have HS2 : Hid (filtTo F l (k + 1) = l0 ++ [(x, y)]) := Lib.hid (by rw [HS.out]; rfl)
        have hown := S0.2.2.2.2.1
        have HL := S0.2.2.2.2.2.1
        have hsz := S0.2.2.2.2.2.2.1
        clear HS Q Q1
        go_wp2_with (at_builtin; refine wpList_append_lies _ rfl _ _ 35 rfl (w.heap.size + 2) 49 i0 (.agg #[.int .i64 0, .int .i64 0]) 2 16 Try.underlying35 hi hz0 hz1 hz2 rfl (by decide) _ _ _ rfl (hown.alloc _) ⟨_, 0, none⟩ 1 1 [.int .i64 x, .int .i64 y] rfl rfl ?c1 ?c2 (by decide) ?c3 ?c4 ?c5 _ rfl ?_)
        case c1 => (intro a u ha; match a, ha with | 0, ha => (simp at ha; subst ha; simp [Addr.add]) | 1, ha => (simp at ha; subst ha; simp [Addr.add]))
        case c2 => (intro u hu; simp at hu; rcases hu with rfl | rfl <;> rfl)
        case c3 => (unfold maxLen; omega)
        case c4 => omega
        case c5 => (simp; omega)
        intro g_ cap_ wa_ ho_ hg_ hgo_ hlt_
        have HN : Hid (wa_.ownsRow (w.heap.size + 2) 49 2 (.slice (some ⟨g_, 0, none⟩) (mc + 1) cap_) (filtTo F l (k + 1)).length (cellsP (filtTo F l (k + 1))) ∧ wa_.ownsRow w.heap.size 49 2 (.slice (some ad) m cl) m (cellsP l) ∧ Hid (∀ i j, (Value.slice (some ⟨g_, 0, none⟩) (mc + 1) cap_).ownBlock = some i → (Value.slice (some ad) m cl).ownBlock = some j → i ≠ j) ∧ w.heap.size + 2 ≤ wa_.heap.size ∧ (Pts.BoxR wa_ (w.heap.size) (.slice A n cap) ∧ Tup7.Box wa_ (w.heap.size + 1) ax ay rx ry lx ly q ∧ PtsAt wa_ w.heap.size A ps ∧ Below w.heap.size w wa_)) := Lib.hid (by
          have hb0 := (below1 wr (Obj.cells #[.int .i64 x, .int .i64 y] 49)).mono hsz
          have hb1 := hb0.grown hg_ (by simp; omega) (fun g hg => (hown.lt g hg).1)
          have hc2 := kept_apart (own_below HL (below1 wr (Obj.cells #[.int .i64 x, .int .i64 y] 49))) hg_ (fun i j h1 h2 => (hD.out j i h2 h1).symm)
          refine ⟨by rw [HS2.out, cellsP_app, List.length_append, hmc]; exact ho_, hc2, Lib.hid (fun i j h1 h2 => ?_), Nat.le_trans hsz hb1.size, HO2 _ _ ⟨S0.1, S0.2.1, S0.2.2.1, S0.2.2.2.2.2.2.2.2⟩ hb1⟩
          injection h1 with h1
          subst h1
          rcases hgo_ with h | h
          · exact hD.out _ j h h2
          · have := (HL.lt j h2).2
            try simp at h
            show g_ ≠ j
            omega)
        clear ho_ hg_ hgo_ hown HL S0 hD hlt_ HS2
        go_wp2_with fail
        first
          | exact ⟨⟨k + 1, by omega, by go_num, HN.out.1, HN.out.2.1, HN.out.2.2.1, HN.out.2.2.2.1, HN.out.2.2.2.2⟩, by simp [intOf]; omega⟩
          | (go_roundw <;> first | exact ⟨k + 1, by omega, by go_num, HN.out.1, HN.out.2.1, HN.out.2.2.1, HN.out.2.2.2.1, HN.out.2.2.2.2⟩ | (simp [intOf]; omega))
    · obtain rfl : m = k := by omega
      rw [HR2.out] at hown
      have hown2 := Lib.hid hown
      obtain ⟨A1, c1, rfl⟩ := own_shape hown
      clear hl hown HL HR2
      go_wp2_with fail
      go_ret
      exact ⟨A1, c1, rfl, own_base hown2.out (by omega), S0.2.2.2⟩
end Go.Proofs.Ythokeedmccfalaa.FbySpec

