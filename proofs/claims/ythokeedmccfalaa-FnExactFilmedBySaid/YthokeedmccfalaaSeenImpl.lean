/-
  What the landed Sees, SeenBy and CornersSeen do, as contracts: what each answers; no old cell is written.
-/
import Derived.Test.YthokeedmccfalaaPieceImpl
import Derived.Test.YthokeedmccfalaaFloorImpl
namespace Go.Proofs.Ythokeedmccfalaa.SeenImpl
open Go.RowKit Own PointMath WallMath RoomMath Pts Blk AreaMath PlaceMath FloorMath LineMath CutsMath SightMath Arr
open PointOk (ret_bool ret_i64 below1 below2 below3)
open FloorImpl (infoP cellsP_app)
open PieceImpl (info90)

theorem infoI : (Try.prog.info? 3).map (fun i => (i.zero, i.size, i.bytes)) = some (some (.int .i64 0), 1, 8) := by kernel_rfl
def Sm (p : Int × Int) : Prop := -1000 ≤ p.1 ∧ p.1 ≤ 1000 ∧ -1000 ≤ p.2 ∧ p.2 ≤ 1000
theorem Sm.sm {p : Int × Int} (h : Sm p) : smP p.1 p.2 := by unfold Sm at h; unfold smP; omega
theorem clear_cut {ps : List (Int × Int)} {a b : Int × Int} (h : 0 ≤ crossM ps a b) : clearI ps a b = false := by
  unfold clearI; rw [show decide (crossM ps a b < 0) = false from decide_eq_false (by omega)]; rfl
theorem clear_at {ps : List (Int × Int)} {a b : Int × Int} {n j : Nat} (hn : ps.length = n) (hj : j < (cutTo ps (a, b) n).length) (h : placeM ps (midP (gt (cutTo ps (a, b) n) j)) = 0) : clearI ps a b = false := by
  unfold clearI
  rw [hn]
  have : ((List.range (cutTo ps (a, b) n).length).all fun j => decide (placeM ps (midP (gt (cutTo ps (a, b) n) j)) ≠ 0)) = false := by
    rw [List.all_eq_false]
    exact ⟨j, List.mem_range.2 hj, by simp [h]⟩
  rw [this, Bool.and_false]
theorem clear_of {ps : List (Int × Int)} {a b : Int × Int} {n : Nat} (hn : ps.length = n) (h0 : ¬ 0 ≤ crossM ps a b) (h : ∀ j, j < (cutTo ps (a, b) n).length → placeM ps (midP (gt (cutTo ps (a, b) n) j)) ≠ 0) : clearI ps a b = true := by
  unfold clearI
  rw [hn, show decide (crossM ps a b < 0) = true from decide_eq_true (by omega), Bool.true_and, List.all_eq_true]
  intro j hj
  exact decide_eq_true (h j (List.mem_range.1 hj))

set_option maxRecDepth 100000 in
set_option maxHeartbeats 4000000 in
theorem isClear (A : Option Addr) (n cap : Nat) (ax ay bx bY : Int) (w : World) (ps : List (Int × Int)) (hl : ps.length = n) (hn : n ≤ 10) (h8 : ∀ k, k < ps.length → Sm (pt ps k)) (sa : Sm (ax, ay)) (sb : Sm (bx, bY)) (hp : PtsAt w w.heap.size A ps) :
    Calls Try.prog 172 #[.slice A n cap, .agg #[.int .i64 ax, .int .i64 ay, .int .i64 bx, .int .i64 bY]] w fun e w' => e = .returned (.bool (clearI ps (ax, ay) (bx, bY))) ∧ Below w.heap.size w w' := by
  obtain ⟨r, hr⟩ : ∃ r, clearI ps (ax, ay) (bx, bY) = r := ⟨_, rfl⟩
  have HR := Lib.hid hr
  rw [hr]
  clear hr
  have hs : smAll ps := fun k hk => (h8 k hk).sm
  go_enter Try.func172, Try.ntmps172
  go_wp2_with fail
  have X0 := PointOk.box4 w ax ay bx bY 143 (k := w.heap.size) (by simp)
  have b0 := PointOk.below1 w (Obj.cells #[.int .i64 ax, .int .i64 ay, .int .i64 bx, .int .i64 bY] 143)
  have HO : ∀ W W' : World, (PointOk.Box4 W (w.heap.size) ax ay bx bY ∧ PtsAt W w.heap.size A ps ∧ Below w.heap.size w W) → Below W.heap.size W W' → (PointOk.Box4 W' (w.heap.size) ax ay bx bY ∧ PtsAt W' w.heap.size A ps ∧ Below w.heap.size w W') := fun W W' ⟨h0, x0, hb⟩ h => ⟨h0.later h, x0.later (h.mono hb.size), hb.trans (h.mono hb.size)⟩
  have hz0_ : Hid (((w.alloc (Obj.cells #[.int .i64 ax, .int .i64 ay, .int .i64 bx, .int .i64 bY] 143))).heap.size = w.heap.size + 1) := Lib.hid (by simp)
  have Y0 : PtsAt ((w.alloc (Obj.cells #[.int .i64 ax, .int .i64 ay, .int .i64 bx, .int .i64 bY] 143))) w.heap.size A ps := hp.later b0
  generalize (w.alloc (Obj.cells #[.int .i64 ax, .int .i64 ay, .int .i64 bx, .int .i64 bY] 143)) = w0 at X0 Y0 b0 hz0_ ⊢
  have S0 := (⟨X0, Y0, b0⟩ : PointOk.Box4 w0 (w.heap.size) ax ay bx bY ∧ PtsAt w0 w.heap.size A ps ∧ Below w.heap.size w w0)
  clear X0 Y0 b0
  obtain ⟨⟨_, _, _, _⟩, _, _⟩ := id S0
  have Q1 : Hid (∀ w hp, _) := Lib.hid fun w hp => BlockImpl.crossedWall A n cap ax ay bx bY w ps hl (by omega) hs sa.sm sb.sm hp
  have Q2 : Hid (∀ w hp, _) := Lib.hid fun w hp => PieceImpl.piecesOf A n cap ax ay bx bY w ps hl hn hs sa.sm sb.sm hp
  have HC1 : Hid (0 ≤ crossM ps (ax, ay) (bx, bY) → r = false) := Lib.hid (fun h => by rw [← HR.out]; exact clear_cut h)
  have HC2 : Hid (∀ j, j < (cutTo ps ((ax, ay), (bx, bY)) n).length → placeM ps (midP (gt (cutTo ps ((ax, ay), (bx, bY)) n) j)) = 0 → r = false) := Lib.hid (fun j hj h => by rw [← HR.out]; exact clear_at hl hj h)
  have HC3 : Hid (¬ 0 ≤ crossM ps (ax, ay) (bx, bY) → (∀ j, j < (cutTo ps ((ax, ay), (bx, bY)) n).length → placeM ps (midP (gt (cutTo ps ((ax, ay), (bx, bY)) n) j)) ≠ 0) → r = true) := Lib.hid (fun h0 h => by rw [← HR.out]; exact clear_of hl h0 h)
  have hsm := Lib.hid (cut_all (F := Sm) (by unfold Sm; omega) h8 (w := ((ax, ay), (bx, bY))) sa sb n (by omega))
  have hll := cutTo_len ps ((ax, ay), (bx, bY)) n
  generalize cutTo ps ((ax, ay), (bx, bY)) n = L at *
  generalize crossM ps (ax, ay) (bx, bY) = v at *
  obtain ⟨len, hlen⟩ : ∃ m, L.length = m := ⟨_, rfl⟩
  rw [hlen] at hll Q2 HC2 HC3
  have hl11 : (len : Int) ≤ 11 := by omega
  have hl0 : (0 : Int) ≤ (len : Int) := by omega
  clear HR
  refine (Q1.out _ (S0.2.1.wide S0.2.2.size)).mono ?_
  rintro e w1 ⟨rfl, hb_⟩
  replace S0 := HO _ _ S0 hb_
  clear hb_
  obtain ⟨⟨_, _, _, _⟩, _, _⟩ := id S0
  by_cases h0 : 0 ≤ v
  · have E : Hid (r = false) := Lib.hid (HC1.out h0)
    clear hl HC1 HC2 HC3 Q1 Q2 hsm
    go_wp2_with fail
    go_ret
    exact ⟨ret_bool E.out.symm, S0.2.2⟩
  replace HC3 := Lib.hid (HC3.out h0)
  go_wp2_with fail
  refine (Q2.out _ (S0.2.1.wide S0.2.2.size)).mono ?_
  rintro e w2 ⟨rfl, hb_⟩
  replace S0 := HO _ _ S0 hb_
  clear hb_
  obtain ⟨⟨_, _, _, _⟩, _, _⟩ := id S0
  clear HC1 Q1 Q2
  have na := new_array w2 182 L
  have HZ : ∀ w0 : World, Blk.Holds (w0.alloc (.cells (arrL []) 182)) w0.heap.size (arrL []) 182 := fun w0 => Blk.Holds.new w0 _ _
  dsimp only
  repeat (first
    | (refine wpList_store_whole rfl 182 _ _ rfl w2.heap.size rfl (arrL L) rfl (arrL []) (HZ _) (by rw [arrL_size]; exact info90) (by rw [arrL_size, arrL_size]) (arrL_one _) ?_)
    | go_step)
  obtain ⟨g, hg⟩ : ∃ k, w2.heap.size = k := ⟨_, rfl⟩
  have HO2_ := HO
  have HO : ∀ W W' : World, (PointOk.Box4 W (w.heap.size) ax ay bx bY ∧ PtsAt W w.heap.size A ps ∧ Blk.Holds W g (arrL L) 182 ∧ Below w.heap.size w W) → Below W.heap.size W W' → (PointOk.Box4 W' (w.heap.size) ax ay bx bY ∧ PtsAt W' w.heap.size A ps ∧ Blk.Holds W' g (arrL L) 182 ∧ Below w.heap.size w W') := fun W W' ⟨h0, x0, x1, hb⟩ h => ⟨h0.later h, x0.later (h.mono hb.size), Blk.Holds.later x1 h, hb.trans (h.mono hb.size)⟩
  refine wp_at (S := fun W => PointOk.Box4 W (w.heap.size) ax ay bx bY ∧ PtsAt W w.heap.size A ps ∧ Blk.Holds W g (arrL L) 182 ∧ Below w.heap.size w W) ⟨(HO2_ _ _ S0 na.1).1, (HO2_ _ _ S0 na.1).2.1, by rw [← hg]; exact na.2.1, (HO2_ _ _ S0 na.1).2.2⟩ (fun v0 S1 => ?_)
  clear S0 na HZ
  have S0 := S1
  clear S1
  try rw [hg]
  clear hg
  obtain ⟨⟨_, _, _, _⟩, _, _, _⟩ := id S0
  go_loopw [22] (fun q wr => ∃ j : Nat, j ≤ len ∧ q = .int .i64 j ∧ Hid (∀ i, i < j → placeM ps (midP (gt L i)) ≠ 0) ∧ (PointOk.Box4 wr (w.heap.size) ax ay bx bY ∧ PtsAt wr w.heap.size A ps ∧ Blk.Holds wr g (arrL L) 182 ∧ Below w.heap.size w wr))
    (fun q _ => len - (intOf q).toNat)
  case atStart => exact ⟨0, Nat.zero_le _, rfl, Lib.hid (fun _ h => absurd h (by omega)), S0⟩
  case round =>
    clear S0
    obtain ⟨j, hjl, rfl, hno, S0⟩ := hrel
    obtain ⟨⟨_, _, _, _⟩, _, _, _⟩ := id S0
    by_cases hlt : j < len
    · have hj1 : (j : Int) < (len : Int) := by omega
      have hj0 : (0 : Int) ≤ (j : Int) := by omega
      have hj11 : (j : Int) < 11 := by omega
      have sj := hsm.out j
      have HK := Lib.hid (HC2.out j hlt)
      obtain ⟨⟨⟨ux, uy⟩, ⟨vx, vy⟩⟩, hq⟩ : ∃ q, gt L j = q := ⟨_, rfl⟩
      have HN2 : Hid (placeM ps (midP (gt L j)) ≠ 0 → ∀ i, i < j + 1 → placeM ps (midP (gt L i)) ≠ 0) := Lib.hid (fun h i hi => by
        rcases Nat.lt_or_ge i j with h2 | h2
        · exact hno.out i h2
        · obtain rfl : i = j := by omega
          exact h)
      rw [hq] at sj HK HN2
      obtain ⟨_, _, _, _⟩ := fourC S0.2.2.1 (k := j) (by omega) hq
      have Q3 : Hid (∀ w, _) := Lib.hid fun w => PieceImpl.middle ux uy vx vy sj.1.sm sj.2.sm w
      obtain ⟨mx, my, hm⟩ : ∃ x y, midP ((ux, uy), (vx, vy)) = (x, y) := ⟨_, _, rfl⟩
      rw [hm] at Q3 HK HN2
      have smm : smP mx my := by
        have t1 := tdiv2 (ux + vx)
        have t2 := tdiv2 (uy + vy)
        unfold midP at hm
        simp only at hm
        injection hm with e1 e2
        have s1 := sj.1
        have s2 := sj.2
        unfold Sm at s1 s2
        unfold smP
        simp only at s1 s2
        omega
      have Q4 : Hid (∀ w hp, _) := Lib.hid fun w hp => PlaceImpl.placeOf A n cap mx my w ps hl (by omega) hs smm hp
      generalize placeM ps (mx, my) = u at *
      have X3 := PointOk.box4 wr ux uy vx vy 143 (k := wr.heap.size) rfl
      have ho := below1 wr (Obj.cells #[.int .i64 ux, .int .i64 uy, .int .i64 vx, .int .i64 vy] 143)
      replace S0 := HO _ _ S0 ho
      obtain ⟨_, _, _, _⟩ := X3
      clear ho sj hq hm smm hno
      go_wp2_with fail
      generalize wr.alloc (Obj.cells #[.int .i64 ux, .int .i64 uy, .int .i64 vx, .int .i64 vy] 143) = v1 at *
      obtain ⟨⟨_, _, _, _⟩, _, _, _⟩ := id S0
      refine (Q3.out _).mono ?_
      rintro e w4 ⟨rfl, hb_⟩
      replace S0 := HO _ _ S0 hb_
      clear hb_
      obtain ⟨⟨_, _, _, _⟩, _, _, _⟩ := id S0
      go_wp2_with fail
      refine (Q4.out _ (S0.2.1.wide S0.2.2.2.size)).mono ?_
      rintro e w5 ⟨rfl, hb_⟩
      replace S0 := HO _ _ S0 hb_
      clear hb_
      obtain ⟨⟨_, _, _, _⟩, _, _, _⟩ := id S0
      by_cases hu : u = 0
      · have E : Hid (r = false) := Lib.hid (HK.out hu)
        subst hu
        clear hl HC2 HC3 HK HN2 Q3 Q4 hsm
        go_wp2_with fail
        go_ret
        exact ⟨ret_bool E.out.symm, S0.2.2.2⟩
      have hu1 : (u == 0) = false := beq_eq_false_iff_ne.2 hu
      have hno2 := Lib.hid (HN2.out hu)
      clear HK HN2 Q3 Q4 hu
      go_wp2_with fail
      first
        | exact ⟨⟨j + 1, by omega, by go_num, hno2, S0⟩, by simp [intOf]; omega⟩
        | (go_roundw <;> first | exact ⟨j + 1, by omega, by go_num, hno2, S0⟩ | (simp [intOf]; omega))
    · obtain rfl : len = j := by omega
      have E : Hid (r = true) := Lib.hid (HC3.out hno.out)
      clear hl HC2 HC3 hno hsm
      go_wp2_with fail
      go_ret
      exact ⟨ret_bool E.out.symm, S0.2.2.2⟩

end Go.Proofs.Ythokeedmccfalaa.SeenImpl

