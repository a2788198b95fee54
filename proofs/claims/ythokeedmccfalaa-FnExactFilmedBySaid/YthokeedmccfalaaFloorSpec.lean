/-
  What the model's FloorPoints does, as a contract: the points of the floor in new memory; no old cell is written.
-/
import Derived.Test.YthokeedmccfalaaPlaceSpec
import Derived.Test.YthokeedmccfalaaFacts
import Derived.Test.YthokeedmccfalaaGround
import Derived.BigRegion
namespace Go.Proofs.Ythokeedmccfalaa.FloorSpec
open Go.RowKit Own PointMath WallMath RoomMath Pts Blk AreaMath PlaceMath FloorMath
open PointOk (ret_bool ret_i64 below1 below2 below3)

theorem infoP : (Try.prog.info? 49).map (fun i => (i.zero, i.size, i.bytes)) = some (some (.agg #[.int .i64 0, .int .i64 0]), 2, 16) := by kernel_rfl
theorem cellsP_app : ∀ (ps qs : List (Int × Int)), cellsP (ps ++ qs) = cellsP ps ++ cellsP qs
  | [], _ => rfl
  | p :: ps, qs => by simp [cellsP, cellsP_app ps qs]

/-- What lies in memory while the box is sought. -/
structure FT (w : World) (K : Nat) (A : Option Addr) (n cap : Nat) (ps : List (Int × Int)) (lx ly hx hy : Int) (W : World) : Prop where
  room : W.cell? ⟨w.heap.size, 0, none⟩ = some (.slice A n cap)
  pts : PtsAt W w.heap.size A ps
  nil : Holds W (w.heap.size + 1) #[] 49
  low : Holds W K #[.int .i64 lx, .int .i64 ly] 49
  high : Holds W (K + 1) #[.int .i64 hx, .int .i64 hy] 49
  size : K + 2 ≤ W.heap.size
  kk : w.heap.size + 2 ≤ K
  bel : Below w.heap.size w W
theorem FT.set {w : World} {K : Nat} {A : Option Addr} {n cap : Nat} {ps : List (Int × Int)} {lx ly hx hy : Int} {W : World} (h : FT w K A n cap ps lx ly hx hy W) (x : Int) :
    FT w K A n cap ps x ly hx hy (W.setCell ⟨K, 0, none⟩ (.int .i64 x)) ∧ FT w K A n cap ps lx x hx hy (W.setCell ⟨K, 1, none⟩ (.int .i64 x)) ∧
    FT w K A n cap ps lx ly x hy (W.setCell ⟨K + 1, 0, none⟩ (.int .i64 x)) ∧ FT w K A n cap ps lx ly hx x (W.setCell ⟨K + 1, 1, none⟩ (.int .i64 x)) := by
  have hk := h.kk
  have b : ∀ (p : Addr), w.heap.size + 2 ≤ p.block → Below (w.heap.size + 2) W (W.setCell p (.int .i64 x)) := fun p hp => (Below.refl _ _).setCell hp _
  have k : ∀ (p : Addr), w.heap.size + 2 ≤ p.block → (W.setCell p (.int .i64 x)).cell? ⟨w.heap.size, 0, none⟩ = some (.slice A n cap) ∧ PtsAt (W.setCell p (.int .i64 x)) w.heap.size A ps ∧ Holds (W.setCell p (.int .i64 x)) (w.heap.size + 1) #[] 49 ∧ K + 2 ≤ (W.setCell p (.int .i64 x)).heap.size ∧ Below w.heap.size w (W.setCell p (.int .i64 x)) := fun p hp =>
    ⟨((b p hp).cell (by show w.heap.size < _; omega)).trans h.room, h.pts.later ((b p hp).mono (by omega)), ((b p hp).block _ (by omega)).trans h.nil, Nat.le_trans h.size (b p hp).size, h.bel.trans ((b p hp).mono (by omega))⟩
  refine ⟨?_, ?_, ?_, ?_⟩
  · obtain ⟨k1, k2, k3, k4, k5⟩ := k ⟨K, 0, none⟩ hk
    exact ⟨k1, k2, k3, Blk.set_own h.low 0 _, h.high.far _ _ (by simp), k4, hk, k5⟩
  · obtain ⟨k1, k2, k3, k4, k5⟩ := k ⟨K, 1, none⟩ hk
    exact ⟨k1, k2, k3, Blk.set_own h.low 1 _, h.high.far _ _ (by simp), k4, hk, k5⟩
  · obtain ⟨k1, k2, k3, k4, k5⟩ := k ⟨K + 1, 0, none⟩ (by show _ ≤ K + 1; omega)
    exact ⟨k1, k2, k3, h.low.far _ _ (by simp), Blk.set_own h.high 0 _, k4, hk, k5⟩
  · obtain ⟨k1, k2, k3, k4, k5⟩ := k ⟨K + 1, 1, none⟩ (by show _ ≤ K + 1; omega)
    exact ⟨k1, k2, k3, h.low.far _ _ (by simp), Blk.set_own h.high 1 _, k4, hk, k5⟩
theorem FT.drew {w : World} {K : Nat} {A : Option Addr} {n cap : Nat} {ps : List (Int × Int)} {lx ly hx hy : Int} {W : World} (h : FT w K A n cap ps lx ly hx hy W) : FT w K A n cap ps lx ly hx hy W.drew :=
  ⟨h.room, h.pts, h.nil, h.low, h.high, h.size, h.kk, h.bel.drew⟩

set_option maxRecDepth 100000 in
set_option maxHeartbeats 8000000 in
theorem floorPoints (A : Option Addr) (n cap : Nat) (w : World) (ps : List (Int × Int)) (hl : ps.length = n) (hn : n ≤ 1048576) (hp : PtsAt w w.heap.size A ps) :
    Calls Try.prog 78 #[.agg #[.slice A n cap]] w (GivesC 49 2 w (floorL ps).length (cellsP (floorL ps))) := by
  obtain ⟨r, hr⟩ : ∃ r, floorL ps = r := ⟨_, rfl⟩
  have HR := Lib.hid hr
  rw [hr]
  clear hr
  obtain ⟨i0, hi, hz0, hz1, hz2⟩ := info_parts infoP
  go_enter Try.func78, Try.ntmps78
  go_wp2_with fail
  have X0 := Pts.boxR w (.slice A n cap) 37 (k := w.heap.size) (by simp)
  have b0 := PointOk.below1 w (Obj.cells #[.slice A n cap] 37)
  have HO : ∀ W W' : World, (Pts.BoxR W (w.heap.size) (.slice A n cap) ∧ PtsAt W w.heap.size A ps ∧ Below w.heap.size w W) → Below W.heap.size W W' → (Pts.BoxR W' (w.heap.size) (.slice A n cap) ∧ PtsAt W' w.heap.size A ps ∧ Below w.heap.size w W') := fun W W' ⟨h0, x0, hb⟩ h => ⟨h0.later h, x0.later (h.mono hb.size), hb.trans (h.mono hb.size)⟩
  have hz0_ : Hid (((w.alloc (Obj.cells #[.slice A n cap] 37))).heap.size = w.heap.size + 1) := Lib.hid (by simp)
  have Y0 : PtsAt ((w.alloc (Obj.cells #[.slice A n cap] 37))) w.heap.size A ps := hp.later b0
  generalize (w.alloc (Obj.cells #[.slice A n cap] 37)) = w0 at X0 Y0 b0 hz0_ ⊢
  have S0 := (⟨X0, Y0, b0⟩ : Pts.BoxR w0 (w.heap.size) (.slice A n cap) ∧ PtsAt w0 w.heap.size A ps ∧ Below w.heap.size w w0)
  clear X0 Y0 b0
  obtain ⟨⟨_, _⟩, _, _⟩ := id S0
  have hz1_ := hz0_.out
  have N0 := Blk.Holds.new w0 #[] 49
  have hs1_ : (w0.alloc (Obj.cells #[] 49)).heap.size = w.heap.size + 2 := by simp; omega
  rw [hz1_] at N0
  replace S0 := HO _ _ S0 (below1 w0 (Obj.cells #[] 49))
  generalize w0.alloc (Obj.cells #[] 49) = v0 at *
  refine (RoomOkSpec.roomOk A n cap _ ps hl hn (S0.2.1.wide S0.2.2.size)).mono ?_
  rintro e w1 ⟨rfl, hb_⟩
  replace S0 := HO _ _ S0 hb_
  replace N0 := N0.later hb_
  have hs2_ : w.heap.size + 2 ≤ w1.heap.size := by have := hb_.size; omega
  clear hb_ hz1_ hs1_
  obtain ⟨⟨_, _⟩, _, _⟩ := id S0
  cases hr : roomB ps
  · have E : Hid (r = []) := Lib.hid (by rw [← HR.out]; unfold floorL; rw [hr]; rfl)
    clear hl HR
    go_wp2_with fail
    go_ret
    exact ⟨some ⟨w.heap.size + 1, 0, none⟩, 0, by rw [E.out]; rfl, by rw [E.out]; exact ⟨by simp [cellsP], .inr ⟨w.heap.size + 1, 0, #[], rfl, by omega, N0, Nat.le_refl _, Nat.zero_le _, by simp, by simp [cellsP]⟩⟩, S0.2.2⟩
  obtain ⟨h3, hok, _, _⟩ := roomB_yes hr
  rw [hl] at h3
  have hsm := Lib.hid (smAll_of hok)
  have hbd := Lib.hid (boxTo_bound hok (by omega) n (by omega))
  have HR2 : Hid (floorTo ps (boxTo ps n).1.1 (boxTo ps n).1.2 ((boxTo ps n).2.1 - (boxTo ps n).1.1 + 1).toNat ((boxTo ps n).2.2 - (boxTo ps n).1.2 + 1).toNat = r) := Lib.hid (by rw [← HR.out]; unfold floorL widthI heightI; rw [hr, hl]; rfl)
  clear hr hok HR
  have p0 := pt_at (ps := ps) (k := 0) (by omega)
  obtain ⟨x0, y0, hx0⟩ : ∃ x y, pt ps 0 = (x, y) := ⟨_, _, rfl⟩
  have H0 : Hid (boxTo ps 0 = ((x0, y0), (x0, y0))) := Lib.hid (by unfold boxTo; rw [hx0])
  rw [hx0] at p0
  obtain ⟨ad, eA, bA, pA⟩ := S0.2.1.get p0
  subst eA
  have e0 : ad.add (0 * 2) = ad := by simp [Addr.add]
  unfold PtAt at pA
  rw [e0] at pA
  have hz0n : (0 : Int) < (n : Int) := by omega
  have pB := pA.1
  have pC := pA.2
  have o1 := below1 w1 (Obj.cells #[.int .i64 x0, .int .i64 y0] 49)
  have bW := S0.2.2.size
  have cA := (o1.cell (p := ad) (by omega)).trans pA.1
  have cB := (o1.cell (p := ⟨ad.block, ad.off + 1, none⟩) (by show ad.block < _; omega)).trans pA.2
  have cR := cell_later o1 S0.1.1
  have X1 := (Blk.Holds.box w1 #[.int .i64 x0, .int .i64 y0] 49 rfl).alloc (Obj.cells #[.int .i64 x0, .int .i64 y0] 49)
  have X2 := Blk.Holds.box (w1.alloc (Obj.cells #[.int .i64 x0, .int .i64 y0] 49)) #[.int .i64 x0, .int .i64 y0] 49 (k := w1.heap.size + 1) (by simp)
  have o2 := below2 w1 (Obj.cells #[.int .i64 x0, .int .i64 y0] 49) (Obj.cells #[.int .i64 x0, .int .i64 y0] 49)
  have S1 := HO _ _ S0 o2
  have hs3 : ((w1.alloc (Obj.cells #[.int .i64 x0, .int .i64 y0] 49)).alloc (Obj.cells #[.int .i64 x0, .int .i64 y0] 49)).heap.size = w1.heap.size + 2 := by simp
  have F0 : FT w w1.heap.size (some ad) n cap ps x0 y0 x0 y0 ((w1.alloc (Obj.cells #[.int .i64 x0, .int .i64 y0] 49)).alloc (Obj.cells #[.int .i64 x0, .int .i64 y0] 49)) :=
    ⟨S1.1.1, S1.2.1, N0.later o2, X1, X2, Nat.le_of_eq hs3.symm, hs2_, S1.2.2⟩
  have cR2 := S1.1.1
  obtain ⟨K_, hK_⟩ : ∃ K, w1.heap.size = K := ⟨_, rfl⟩
  rw [hK_] at F0
  replace hK_ := Lib.hid hK_
  replace F0 := Lib.hid F0
  clear X1 X2 S1 o1 o2 hs3 N0 S0 HO hx0 p0 e0 hp pA
  go_wp2_with fail
  generalize (w1.alloc (Obj.cells #[.int .i64 x0, .int .i64 y0] 49)).alloc (Obj.cells #[.int .i64 x0, .int .i64 y0] 49) = W9 at *
  try rw [hK_.out]
  clear pB pC cA cB cR
  go_loopw [6] (fun i wr => ∃ (k : Nat) (lx ly hx hy : Int), k ≤ n ∧ i = .int .i64 k ∧ Hid (boxTo ps k = ((lx, ly), (hx, hy))) ∧ FT w K_ (some ad) n cap ps lx ly hx hy wr)
    (fun i _ => n - (intOf i).toNat)
  case atStart => exact ⟨0, x0, y0, x0, y0, Nat.zero_le _, rfl, H0, F0.out⟩
  case round =>
    clear F0 H0 cR2
    obtain ⟨k, lx, ly, hx, hy, hkn, rfl, HB, F⟩ := hrel
    have fr := F.room
    by_cases hlt : k < n
    · have hk1 : (k : Int) < (n : Int) := by omega
      have hk0 : (0 : Int) ≤ (k : Int) := by omega
      have p1 := pt_at (ps := ps) (k := k) (by omega)
      have HB2 : Hid (boxTo ps (k + 1) = ((min lx (pt ps k).1, min ly (pt ps k).2), (max hx (pt ps k).1, max hy (pt ps k).2))) := Lib.hid (by simp only [boxTo, HB.out])
      obtain ⟨x, y, hx2⟩ : ∃ x y, pt ps k = (x, y) := ⟨_, _, rfl⟩
      rw [hx2] at p1 HB2
      obtain ⟨m1, hm1⟩ : ∃ m, min lx x = m := ⟨_, rfl⟩
      obtain ⟨m2, hm2⟩ : ∃ m, min ly y = m := ⟨_, rfl⟩
      obtain ⟨M1, hM1⟩ : ∃ m, max hx x = m := ⟨_, rfl⟩
      obtain ⟨M2, hM2⟩ : ∃ m, max hy y = m := ⟨_, rfl⟩
      simp only [hm1, hm2, hM1, hM2] at HB2
      have PT : Hid (∀ (W : World) (a b c d : Int), FT w K_ (some ad) n cap ps a b c d W → PtAt W ad k x y) := Lib.hid (fun W a b c d h => by
        obtain ⟨ad2, e2, _, p2⟩ := h.pts.get p1
        injection e2 with e2
        subst e2
        exact p2)
      clear hl HR2 HB p1 hx2
      go_wp2_with fail
      have F1 := Lib.hid (F.set m1).1.drew
      obtain ⟨_, _⟩ := PT.out _ _ _ _ _ F
      obtain ⟨⟨_, _⟩, _, _⟩ := F.low.two
      clear F
      go_region
      generalize (wr.setCell ⟨K_, 0, none⟩ (.int .i64 m1)).drew = W1 at *
      have F := F1.out
      have fr1 := F.room
      go_wp2_with fail
      have F2 := Lib.hid (F.set m2).2.1.drew
      obtain ⟨_, _⟩ := PT.out _ _ _ _ _ F
      obtain ⟨⟨_, _⟩, _, _⟩ := F.low.two
      clear F F1
      go_region
      generalize (W1.setCell ⟨K_, 1, none⟩ (.int .i64 m2)).drew = W2 at *
      have F := F2.out
      have fr2 := F.room
      go_wp2_with fail
      have F3 := Lib.hid (F.set M1).2.2.1.drew
      obtain ⟨_, _⟩ := PT.out _ _ _ _ _ F
      obtain ⟨⟨_, _⟩, _, _⟩ := F.high.two
      clear F F2
      go_region
      generalize (W2.setCell ⟨K_ + 1, 0, none⟩ (.int .i64 M1)).drew = W3 at *
      have F := F3.out
      have fr3 := F.room
      go_wp2_with fail
      have F4 := Lib.hid (F.set M2).2.2.2.drew
      obtain ⟨_, _⟩ := PT.out _ _ _ _ _ F
      obtain ⟨⟨_, _⟩, _, _⟩ := F.high.two
      clear F F3
      go_region
      generalize (W3.setCell ⟨K_ + 1, 1, none⟩ (.int .i64 M2)).drew = W4 at *
      go_wp2_with fail
      first
        | exact ⟨⟨k + 1, m1, m2, M1, M2, by omega, by go_num, HB2, F4.out⟩, by simp [intOf]; omega⟩
        | (go_roundw <;> first | exact ⟨k + 1, m1, m2, M1, M2, by omega, by go_num, HB2, F4.out⟩ | (simp [intOf]; omega))
    obtain rfl : n = k := by omega
    have HB2 := HB.out
    have hbd2 := hbd.out
    rw [HB2] at hbd2 HR2
    simp only at hbd2 HR2
    obtain ⟨Wd, hWd⟩ : ∃ k : Nat, (hx - lx + 1).toNat = k := ⟨_, rfl⟩
    obtain ⟨Hg, hHg⟩ : ∃ k : Nat, (hy - ly + 1).toNat = k := ⟨_, rfl⟩
    rw [hWd, hHg] at HR2
    obtain ⟨⟨b1, b2, b3⟩, b4, b5, b6⟩ := hbd2
    have w81 : Wd ≤ 81 := by omega
    have h81 : Hg ≤ 81 := by omega
    have hWx : (Wd : Int) = hx - lx + 1 := by omega
    have hHy : (Hg : Int) = hy - ly + 1 := by omega
    have hkk := F.kk
    have hO : wr.ownsRow (w.heap.size + 1) 49 2 (.slice (some ⟨w.heap.size + 1, 0, none⟩) 0 0) 0 [] := ⟨by simp, .inr ⟨w.heap.size + 1, 0, #[], rfl, Nat.le_refl _, F.nil, Nat.le_refl _, Nat.zero_le _, by simp, by simp⟩⟩
    have HO : ∀ W W' : World, (Pts.BoxR W w.heap.size (.slice (some ad) n cap) ∧ PtsAt W w.heap.size (some ad) ps ∧ PointOk.Box W K_ lx ly ∧ PointOk.Box W (K_ + 1) hx hy ∧ K_ + 2 ≤ W.heap.size ∧ Below w.heap.size w W) → Below W.heap.size W W' → (Pts.BoxR W' w.heap.size (.slice (some ad) n cap) ∧ PtsAt W' w.heap.size (some ad) ps ∧ PointOk.Box W' K_ lx ly ∧ PointOk.Box W' (K_ + 1) hx hy ∧ K_ + 2 ≤ W'.heap.size ∧ Below w.heap.size w W') := fun W W' ⟨x0, x1, x2, x3, x4, hb⟩ h => ⟨x0.later h, x1.later (h.mono hb.size), x2.later h, x3.later h, Nat.le_trans x4 h.size, hb.trans (h.mono hb.size)⟩
    have S0 : Pts.BoxR wr w.heap.size (.slice (some ad) n cap) ∧ PtsAt wr w.heap.size (some ad) ps ∧ PointOk.Box wr K_ lx ly ∧ PointOk.Box wr (K_ + 1) hx hy ∧ K_ + 2 ≤ wr.heap.size ∧ Below w.heap.size w wr := ⟨⟨F.room, trivial⟩, F.pts, F.low.two.1, F.high.two.1, F.size, F.bel⟩
    have HO3 : ∀ (W W' : World) (row : Option Nat), (Pts.BoxR W w.heap.size (.slice (some ad) n cap) ∧ PtsAt W w.heap.size (some ad) ps ∧ PointOk.Box W K_ lx ly ∧ PointOk.Box W (K_ + 1) hx hy ∧ K_ + 2 ≤ W.heap.size ∧ Below w.heap.size w W) → W.grownBy W' row → (∀ g, row = some g → g = w.heap.size + 1 ∨ K_ + 2 ≤ g) → (Pts.BoxR W' w.heap.size (.slice (some ad) n cap) ∧ PtsAt W' w.heap.size (some ad) ps ∧ PointOk.Box W' K_ lx ly ∧ PointOk.Box W' (K_ + 1) hx hy ∧ K_ + 2 ≤ W'.heap.size ∧ Below w.heap.size w W') := fun W W' row ⟨h0, h1, h2, h3, h4, hb⟩ hg hr => by
      have cell : ∀ (b o : Nat), b < K_ + 2 → b ≠ w.heap.size + 1 → W'.cell? ⟨b, o, none⟩ = W.cell? ⟨b, o, none⟩ := fun b o hbk hne => World.cell?_of_block (a := ⟨b, o, none⟩) (hg.block b (by omega) (fun e => by have := hr b e.symm; omega))
      have hB : Below w.heap.size W W' := (Below.refl _ _).grown hg (by omega) (fun g e => by have := hr g e; omega)
      exact ⟨⟨(cell _ _ (by omega) (by omega)).trans h0.1, trivial⟩, h1.later hB, ⟨(cell _ _ (by omega) (by omega)).trans h2.1, (cell _ _ (by omega) (by omega)).trans h2.2⟩, ⟨(cell _ _ (by omega) (by omega)).trans h3.1, (cell _ _ (by omega) (by omega)).trans h3.2⟩, Nat.le_trans h4 hg.size, hb.trans hB⟩
    clear F hWd hHg HB HB2 hbd fr
    obtain ⟨⟨_, _⟩, _, ⟨_, _⟩, ⟨_, _⟩, _, _⟩ := id S0
    go_wp2_with fail
    go_loopw [3, 7] (fun v y wr => ∃ i : Nat, i ≤ Hg ∧ y = .int .i64 (ly + i) ∧ wr.ownsRow (w.heap.size + 1) 49 2 v (floorTo ps lx ly Wd i).length (cellsP (floorTo ps lx ly Wd i)) ∧ Hid (∀ g, v.ownBlock = some g → g = w.heap.size + 1 ∨ K_ + 2 ≤ g) ∧ (Pts.BoxR wr w.heap.size (.slice (some ad) n cap) ∧ PtsAt wr w.heap.size (some ad) ps ∧ PointOk.Box wr K_ lx ly ∧ PointOk.Box wr (K_ + 1) hx hy ∧ K_ + 2 ≤ wr.heap.size ∧ Below w.heap.size w wr))
      (fun _ y _ => Hg - (intOf y - ly).toNat)
    case atStart => exact ⟨0, Nat.zero_le _, by simp, hO, Lib.hid (fun g hg => .inl (by injection hg with hg; exact hg.symm)), S0⟩
    case round =>
      clear S0 hO
      obtain ⟨i, hiH, rfl, hown, hblk, S0⟩ := hrel
      obtain ⟨⟨_, _⟩, _, ⟨_, _⟩, ⟨_, _⟩, _, _⟩ := id S0
      by_cases hlt : i < Hg
      · have hy1 : ly + (i : Int) ≤ hy := by omega
        have HL : Hid (floorTo ps lx ly Wd (i + 1) = floorTo ps lx ly Wd i ++ rowTo ps lx (ly + i) Wd) := Lib.hid rfl
        have hll := floorTo_len ps lx ly Wd i
        have hlm : i * Wd ≤ 81 * 81 := Nat.mul_le_mul (by omega) w81
        generalize floorTo ps lx ly Wd i = l0 at *
        obtain ⟨py, hpy⟩ : ∃ y, ly + (i : Int) = y := ⟨_, rfl⟩
        have upy : IntKind.i64.wrap (py + 1) = py + 1 := IntWalk.i64_in _ (by omega)
        rw [hpy] at hy1 HL ⊢
        go_wp2_with fail
        go_loopw [3, 8] (fun v x wr => ∃ j : Nat, j ≤ Wd ∧ x = .int .i64 (lx + j) ∧ wr.ownsRow (w.heap.size + 1) 49 2 v (l0 ++ rowTo ps lx py j).length (cellsP (l0 ++ rowTo ps lx py j)) ∧ Hid (∀ g, v.ownBlock = some g → g = w.heap.size + 1 ∨ K_ + 2 ≤ g) ∧ (Pts.BoxR wr w.heap.size (.slice (some ad) n cap) ∧ PtsAt wr w.heap.size (some ad) ps ∧ PointOk.Box wr K_ lx ly ∧ PointOk.Box wr (K_ + 1) hx hy ∧ K_ + 2 ≤ wr.heap.size ∧ Below w.heap.size w wr))
          (fun _ x _ => Wd - (intOf x - lx).toNat)
        case atStart => exact ⟨0, Nat.zero_le _, by simp, by rw [show l0 ++ rowTo ps lx py 0 = l0 from List.append_nil _]; exact hown, hblk, S0⟩
        case round =>
          clear S0 hown hblk
          obtain ⟨j, hjW, rfl, hown, hblk, S0⟩ := hrel
          obtain ⟨⟨_, _⟩, _, ⟨_, _⟩, ⟨_, _⟩, _, _⟩ := id S0
          by_cases hjl : j < Wd
          · have hx1 : lx + (j : Int) ≤ hx := by omega
            have HR3 : Hid (rowTo ps lx py (j + 1) = if placeM ps (lx + j, py) = 0 then rowTo ps lx py j else rowTo ps lx py j ++ [(lx + (j : Int), py)]) := Lib.hid rfl
            have hrl := rowTo_len ps lx py j
            generalize rowTo ps lx py j = l1 at *
            obtain ⟨m, hm⟩ : ∃ m, (l0 ++ l1).length = m := ⟨_, rfl⟩
            have hmb : m ≤ 100000 := by rw [← hm, List.length_append]; omega
            rw [hm] at hown
            obtain ⟨px, hpx⟩ : ∃ x, lx + (j : Int) = x := ⟨_, rfl⟩
            have upx : IntKind.i64.wrap (px + 1) = px + 1 := IntWalk.i64_in _ (by omega)
            have sp : smP px py := by unfold smP; omega
            have QP : Hid (∀ w hp, _) := Lib.hid fun w hp => PlaceSpec.holds (some ad) n cap px py w ps hl hn hsm.out sp hp
            rw [hpx] at hx1 HR3 ⊢
            have hq3 := placeM_cases ps (px, py)
            generalize placeM ps (px, py) = q at *
            obtain ⟨u, hu⟩ : ∃ u, q - 1 = u := ⟨_, rfl⟩
            rw [hu] at QP
            have X3 := PointOk.box1 wr px py 49 (k := wr.heap.size) rfl
            have ho := below1 wr (Obj.cells #[.int .i64 px, .int .i64 py] 49)
            replace S0 := HO _ _ S0 ho
            have hown2 := own_below hown ho
            replace hown := Lib.hid hown2
            clear ho hown2 sp hl
            obtain ⟨⟨_, _⟩, _, ⟨_, _⟩, ⟨_, _⟩, _, _⟩ := id S0
            obtain ⟨_, _⟩ := id X3
            obtain ⟨P_, hP_⟩ : ∃ K, wr.heap.size = K := ⟨_, rfl⟩
            rw [hP_] at X3
            replace hP_ := Lib.hid hP_
            go_wp2_with fail
            generalize wr.alloc (Obj.cells #[.int .i64 px, .int .i64 py] 49) = W8 at *
            try rw [hP_.out]
            refine (QP.out _ (S0.2.1.wide S0.2.2.2.2.2.size)).mono ?_
            rintro e w3 ⟨rfl, hb_⟩
            replace S0 := HO _ _ S0 hb_
            replace X3 := X3.later hb_
            replace hown := Lib.hid (own_below hown.out hb_)
            clear hb_ QP
            obtain ⟨⟨_, _⟩, _, ⟨_, _⟩, ⟨_, _⟩, _, _⟩ := id S0
            obtain ⟨_, _⟩ := X3
            by_cases hq : q = 0
            · have HR4 : Hid (rowTo ps lx py (j + 1) = l1) := Lib.hid (by rw [HR3.out, if_pos hq])
              have hu0 : u < 0 := by omega
              clear HR3 hq3 hq hu
              go_wp2_with fail
              first
                | exact ⟨⟨j + 1, by omega, by first | go_num | (rw [← hpx]; go_num) | (rw [← hpx]; congr 1; omega), by rw [HR4.out, hm]; exact hown.out, hblk, S0⟩, by simp [intOf]; omega⟩
                | (go_roundw <;> first | exact ⟨j + 1, by omega, by first | go_num | (rw [← hpx]; go_num) | (rw [← hpx]; congr 1; omega), by rw [HR4.out, hm]; exact hown.out, hblk, S0⟩ | (simp [intOf]; omega))
            · have HR4 : Hid (rowTo ps lx py (j + 1) = l1 ++ [(px, py)]) := Lib.hid (by rw [HR3.out, if_neg hq])
              have hu0 : 0 ≤ u := by omega
              have hown2 := hown.out
              clear HR3 hq3 hq hu
              go_wp2_with (at_builtin; refine wpList_append_lies _ rfl _ _ 35 rfl (w.heap.size + 1) 49 i0 (.agg #[.int .i64 0, .int .i64 0]) 2 16 Try.underlying35 hi hz0 hz1 hz2 rfl (by decide) _ _ _ rfl (hown2.alloc _) ⟨w3.heap.size, 0, none⟩ 1 1 [.int .i64 px, .int .i64 py] rfl rfl ?c1 ?c2 (by decide) ?c3 ?c4 ?c5 _ rfl ?_)
              case c1 => (intro a u ha; match a, ha with | 0, ha => (simp at ha; subst ha; simp [Addr.add]) | 1, ha => (simp at ha; subst ha; simp [Addr.add]))
              case c2 => (intro u hu; simp at hu; rcases hu with rfl | rfl <;> rfl)
              case c3 => (unfold maxLen; omega)
              case c4 => omega
              case c5 => (have := S0.2.2.2.2.1; simp; omega)
              intro g2_ cap2_ wa_ ho_ hg_ hgo_ hlt_
              have HN : Hid (wa_.ownsRow (w.heap.size + 1) 49 2 (.slice (some ⟨g2_, 0, none⟩) (m + 1) cap2_) (l0 ++ rowTo ps lx py (j + 1)).length (cellsP (l0 ++ rowTo ps lx py (j + 1))) ∧ Hid (∀ g, (Value.slice (some ⟨g2_, 0, none⟩) (m + 1) cap2_).ownBlock = some g → g = w.heap.size + 1 ∨ K_ + 2 ≤ g) ∧ (Pts.BoxR wa_ w.heap.size (.slice (some ad) n cap) ∧ PtsAt wa_ w.heap.size (some ad) ps ∧ PointOk.Box wa_ K_ lx ly ∧ PointOk.Box wa_ (K_ + 1) hx hy ∧ K_ + 2 ≤ wa_.heap.size ∧ Below w.heap.size w wa_)) := Lib.hid (by
                have hS1 := HO _ _ S0 (below1 w3 (Obj.cells #[.int .i64 px, .int .i64 py] 49))
                have hs := S0.2.2.2.2.1
                refine ⟨?_, Lib.hid ?_, HO3 _ _ _ hS1 hg_ hblk.out⟩
                · rw [HR4.out, ← List.append_assoc, cellsP_app, List.length_append, hm]
                  exact ho_
                · intro g hg
                  injection hg with hg
                  subst hg
                  rcases hgo_ with h | h
                  · exact hblk.out _ h
                  · right
                    try simp at h
                    show K_ + 2 ≤ g2_
                    omega)
              clear ho_ hg_ hgo_ hown hown2 HR4 S0 hlt_ hblk
              go_wp2_with fail
              first
                | exact ⟨⟨j + 1, by omega, by first | go_num | (rw [← hpx]; go_num) | (rw [← hpx]; congr 1; omega), HN.out.1, HN.out.2.1, HN.out.2.2⟩, by simp [intOf]; omega⟩
                | (go_roundw <;> first | exact ⟨j + 1, by omega, by first | go_num | (rw [← hpx]; go_num) | (rw [← hpx]; congr 1; omega), HN.out.1, HN.out.2.1, HN.out.2.2⟩ | (simp [intOf]; omega))
          · obtain rfl : j = Wd := by omega
            rw [← HL.out] at hown
            replace hown := Lib.hid hown
            clear HL
            go_wp2_with fail
            first
              | exact ⟨⟨i + 1, by omega, by first | go_num | (rw [← hpy]; go_num) | (rw [← hpy]; congr 1; omega), hown.out, hblk, S0⟩, by simp [intOf]; omega⟩
              | (go_roundw <;> first | exact ⟨i + 1, by omega, by first | go_num | (rw [← hpy]; go_num) | (rw [← hpy]; congr 1; omega), hown.out, hblk, S0⟩ | (simp [intOf]; omega))
      · obtain rfl : i = Hg := by omega
        rw [HR2.out] at hown
        have hown2 := Lib.hid hown
        obtain ⟨A1, c1, rfl⟩ := own_shape hown
        clear hl hown HR2
        go_wp2_with fail
        go_ret
        exact ⟨A1, c1, rfl, own_base hown2.out (by omega), S0.2.2.2.2.2⟩

end Go.Proofs.Ythokeedmccfalaa.FloorSpec

