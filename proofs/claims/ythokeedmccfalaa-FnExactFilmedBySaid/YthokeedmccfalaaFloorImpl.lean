/-
  What the landed FloorPoints does, as a contract: the points of the floor in new memory; no old cell is written.
-/
import Derived.Test.YthokeedmccfalaaPlaceImpl
import Derived.Test.YthokeedmccfalaaFacts
import Derived.Test.YthokeedmccfalaaGround
namespace Go.Proofs.Ythokeedmccfalaa.FloorImpl
open Go.RowKit Own PointMath WallMath RoomMath Pts Blk AreaMath PlaceMath FloorMath
open PointOk (ret_bool ret_i64 below1 below2 below3)

theorem infoP : (Try.prog.info? 49).map (fun i => (i.zero, i.size, i.bytes)) = some (some (.agg #[.int .i64 0, .int .i64 0]), 2, 16) := by kernel_rfl
/-- The first point of the slice at ad, its address spelt plainly. -/
def PtHere (w : World) (ad : Addr) (x y : Int) : Prop := w.cell? ad = some (.int .i64 x) ∧ w.cell? ⟨ad.block, ad.off + 1, none⟩ = some (.int .i64 y)
theorem PtHere.later {w w' : World} {b : Nat} {ad : Addr} {x y : Int} (h : PtHere w ad x y) (ha : ad.block < b) (hb : Below b w w') : PtHere w' ad x y :=
  ⟨(hb.cell ha).trans h.1, (hb.cell (p := ⟨ad.block, ad.off + 1, none⟩) ha).trans h.2⟩
theorem here {w : World} {ad : Addr} {x y : Int} (h : PtAt w ad 0 x y) : PtHere w ad x y := by
  have e : ad.add (0 * 2) = ad := by simp [Addr.add]
  unfold PtAt at h
  rw [e] at h
  exact h
theorem cellsP_app : ∀ (ps qs : List (Int × Int)), cellsP (ps ++ qs) = cellsP ps ++ cellsP qs
  | [], _ => rfl
  | p :: ps, qs => by simp [cellsP, cellsP_app ps qs]

set_option maxRecDepth 100000 in
set_option maxHeartbeats 1600000 in
theorem boxAround (A : Option Addr) (n cap : Nat) (w : World) (ps : List (Int × Int)) (hl : ps.length = n) (h0 : 0 < n) (hn : n ≤ 1048576) (hp : PtsAt w w.heap.size A ps) :
    Calls Try.prog 130 #[.slice A n cap] w fun e w' => e = .returned (.tuple #[.agg #[.int .i64 (boxTo ps n).1.1, .int .i64 (boxTo ps n).1.2], .agg #[.int .i64 (boxTo ps n).2.1, .int .i64 (boxTo ps n).2.2]]) ∧ Below w.heap.size w w' := by
  obtain ⟨r, hr⟩ : ∃ r, boxTo ps n = r := ⟨_, rfl⟩
  have HR := Lib.hid hr
  rw [hr]
  clear hr
  have p0 := pt_at (ps := ps) (k := 0) (by omega)
  obtain ⟨x0, y0, hx0⟩ : ∃ x y, pt ps 0 = (x, y) := ⟨_, _, rfl⟩
  rw [hx0] at p0
  obtain ⟨ad, eA, bA, pA⟩ := hp.get p0
  subst eA
  have hz0 : (0 : Int) < (n : Int) := by omega
  have hb2 := below2 w (Obj.cells #[.int .i64 0, .int .i64 0] 49) (Obj.cells #[.int .i64 0, .int .i64 0] 49)
  have R1 := (Blk.Holds.box w #[.int .i64 0, .int .i64 0] 49 rfl).alloc (Obj.cells #[.int .i64 0, .int .i64 0] 49)
  have R2 := Blk.Holds.box (w.alloc (Obj.cells #[.int .i64 0, .int .i64 0] 49)) #[.int .i64 0, .int .i64 0] 49 (k := w.heap.size + 1) (by simp)
  have hsz : ((w.alloc (Obj.cells #[.int .i64 0, .int .i64 0] 49)).alloc (Obj.cells #[.int .i64 0, .int .i64 0] 49)).heap.size = w.heap.size + 2 := by simp
  replace hp := hp.later hb2
  replace pA := here (pA.later bA hb2)
  go_enter Try.func130, Try.ntmps130
  go_wp2_with fail
  generalize (w.alloc (Obj.cells #[.int .i64 0, .int .i64 0] 49)).alloc (Obj.cells #[.int .i64 0, .int .i64 0] 49) = w0 at *
  have HO : ∀ W W' : World, (PtsAt W w.heap.size (some ad) ps ∧ PtHere W ad x0 y0 ∧ Blk.Holds W w.heap.size #[.int .i64 0, .int .i64 0] 49 ∧ Blk.Holds W (w.heap.size + 1) #[.int .i64 0, .int .i64 0] 49 ∧ w.heap.size + 2 ≤ W.heap.size ∧ Below w.heap.size w W) → Below W.heap.size W W' → (PtsAt W' w.heap.size (some ad) ps ∧ PtHere W' ad x0 y0 ∧ Blk.Holds W' w.heap.size #[.int .i64 0, .int .i64 0] 49 ∧ Blk.Holds W' (w.heap.size + 1) #[.int .i64 0, .int .i64 0] 49 ∧ w.heap.size + 2 ≤ W'.heap.size ∧ Below w.heap.size w W') := fun W W' ⟨x0, x1, x2, x3, x4, hb⟩ h => ⟨x0.later (h.mono hb.size), x1.later bA (h.mono hb.size), Blk.Holds.later x2 h, Blk.Holds.later x3 h, Nat.le_trans x4 h.size, hb.trans (h.mono hb.size)⟩
  have S0 : PtsAt w0 w.heap.size (some ad) ps ∧ PtHere w0 ad x0 y0 ∧ Blk.Holds w0 w.heap.size #[.int .i64 0, .int .i64 0] 49 ∧ Blk.Holds w0 (w.heap.size + 1) #[.int .i64 0, .int .i64 0] 49 ∧ w.heap.size + 2 ≤ w0.heap.size ∧ Below w.heap.size w w0 := ⟨hp, pA, R1, R2, Nat.le_of_eq hsz.symm, hb2⟩
  clear hp pA R1 R2 hsz hb2
  obtain ⟨_, ⟨_, _⟩, _, _, _, _⟩ := id S0
  have HO2 : ∀ W W' : World, (PtsAt W w.heap.size (some ad) ps ∧ PtHere W ad x0 y0 ∧ Blk.Holds W w.heap.size #[.int .i64 0, .int .i64 0] 49 ∧ Blk.Holds W (w.heap.size + 1) #[.int .i64 0, .int .i64 0] 49 ∧ w.heap.size + 2 ≤ W.heap.size ∧ Below w.heap.size w W) → Below (w.heap.size + 2) W W' → (PtsAt W' w.heap.size (some ad) ps ∧ PtHere W' ad x0 y0 ∧ Blk.Holds W' w.heap.size #[.int .i64 0, .int .i64 0] 49 ∧ Blk.Holds W' (w.heap.size + 1) #[.int .i64 0, .int .i64 0] 49 ∧ w.heap.size + 2 ≤ W'.heap.size ∧ Below w.heap.size w W') := fun W W' ⟨h1, h2, h3, h4, h5, h6⟩ h => ⟨h1.later (h.mono (by omega)), h2.later bA (h.mono (by omega)), (h.block _ (by omega)).trans h3, (h.block _ (by omega)).trans h4, Nat.le_trans h5 h.size, h6.trans (h.mono (by omega))⟩
  refine SettleA.regionTwo (fun W => PtsAt W w.heap.size (some ad) ps ∧ PtHere W ad x0 y0 ∧ Blk.Holds W w.heap.size #[.int .i64 0, .int .i64 0] 49 ∧ Blk.Holds W (w.heap.size + 1) #[.int .i64 0, .int .i64 0] 49 ∧ w.heap.size + 2 ≤ W.heap.size ∧ Below w.heap.size w W) 6 4 5 (w.heap.size + 2) #[.int .i64 0, .int .i64 0] #[.int .i64 x0, .int .i64 y0] #[.int .i64 x0, .int .i64 y0] 49 (by kernel_rfl) (by kernel_rfl) (by kernel_rfl) (by kernel_rfl) rfl rfl rfl rfl rfl rfl rfl rfl rfl rfl rfl rfl (by decide) (by kernel_rfl) (by kernel_rfl) (by kernel_rfl) (by kernel_rfl) (by kernel_rfl) (by kernel_rfl) (by kernel_rfl) (fun a w => by go_simp; rfl) (fun a w => by go_simp; rfl) (fun W hS => HO _ _ hS (PointOk.below1 W _)) (fun W hS => hS.2.2.2.2.1) (HO _ _ S0 ((Below.refl _ _).drew)) ?_
  simp only [List.take_succ_cons, List.take_zero]
  clear S0
  repeat (first
    | (refine SettleA.SettlesB.off (by rfl) ?_; simp only [Act.put, List.setIfInBounds_toArray, List.set_cons_zero, List.set_cons_succ])
    | (refine SettleA.SettlesB.quiet (v := ?_) (by rfl) ?_ ?_
       rotate_left
       · (intro W hS; obtain ⟨_, ⟨_, _⟩, _, _, _, _⟩ := hS; go_simp; with_reducible rfl)
       simp only [Act.put, List.setIfInBounds_toArray, List.set_cons_zero, List.set_cons_succ])
    | (refine SettleA.SettlesB.call (v := ?_) (f := ?_) (args := ?_) (by rfl) ?_ ?_ ?_
       rotate_left 3
       · (intro W; go_simp; refine ⟨?_, ?_⟩ <;> with_reducible rfl)
       · (intro W hS; fail)
       simp only [Act.put, List.setIfInBounds_toArray, List.set_cons_zero, List.set_cons_succ]))
  refine SettleA.SettlesB.nil ⟨by simp, by simp, fun g1_ g2_ => ⟨?_, ?_, ?_⟩⟩
  · skip
    rintro W ⟨hS, b1_, b2_, n12_, c1_, c2_⟩
    obtain ⟨⟨_, _⟩, _, _⟩ := Blk.Holds.two c1_
    simp only [Act.put, SettleA.ptr, List.setIfInBounds_toArray, List.set_cons_zero, List.set_cons_succ]
    first
      | refine ⟨.skip, _, .inl rfl, (by go_simp; rfl), ?_⟩
      | refine ⟨.value _, _, .inr ⟨_, rfl⟩, (by go_simp; rfl), ?_⟩
    exact ⟨HO2 _ _ hS (((Below.refl _ _).setCell b1_ _).setCell b1_ _), b1_, b2_, n12_, (Blk.set_own (Blk.set_own c1_ 0 _) 1 _), (Blk.Holds.far (Blk.Holds.far c2_ _ _ (fun h => n12_ h.symm)) _ _ (fun h => n12_ h.symm))⟩
  · skip
    rintro W ⟨hS, b1_, b2_, n12_, c1_, c2_⟩
    obtain ⟨⟨_, _⟩, _, _⟩ := Blk.Holds.two c2_
    simp only [Act.put, SettleA.ptr, List.setIfInBounds_toArray, List.set_cons_zero, List.set_cons_succ]
    first
      | refine ⟨.skip, _, .inl rfl, (by go_simp; rfl), ?_⟩
      | refine ⟨.value _, _, .inr ⟨_, rfl⟩, (by go_simp; rfl), ?_⟩
    exact ⟨HO2 _ _ hS (((Below.refl _ _).setCell b2_ _).setCell b2_ _), b1_, b2_, n12_, (Blk.Holds.far (Blk.Holds.far c1_ _ _ (n12_)) _ _ (n12_)), (Blk.set_own (Blk.set_own c2_ 0 _) 1 _)⟩
  rintro wr ⟨S0, b1_, b2_, n12_, B1_, B2_⟩
  simp only [Act.put, SettleA.ptr, List.setIfInBounds_toArray, List.set_cons_zero, List.set_cons_succ]
  replace B1_ : Blk.Holds wr g1_ #[.int .i64 x0, .int .i64 y0] 49 := B1_
  replace B2_ : Blk.Holds wr g2_ #[.int .i64 x0, .int .i64 y0] 49 := B2_
  obtain ⟨_, ⟨_, _⟩, _, _, _, _⟩ := id S0
  clear p0 hz0
  have L1 : Blk.Holds wr w.heap.size #[.int .i64 0, .int .i64 0] 49 := S0.2.2.1
  have L2 : Blk.Holds wr (w.heap.size + 1) #[.int .i64 0, .int .i64 0] 49 := S0.2.2.2.1
  have hsz := S0.2.2.2.2.1
  have hp := S0.1
  have hb := S0.2.2.2.2.2
  clear S0 HO HO2
  have hne1 : ¬ g2_ = g1_ := fun h => n12_ h.symm
  replace HR : Hid (boxTo ps n = r) := HR
  have H0 : Hid (boxTo ps 0 = ((x0, y0), (x0, y0))) := Lib.hid (by unfold boxTo; rw [hx0])
  go_wp2_with fail
  go_loopw [16] (fun i wr => ∃ (k : Nat) (lx ly hx hy : Int), k ≤ n ∧ i = .int .i64 k ∧ Hid (boxTo ps k = ((lx, ly), (hx, hy))) ∧ Blk.Holds wr g1_ #[.int .i64 lx, .int .i64 ly] 49 ∧ Blk.Holds wr g2_ #[.int .i64 hx, .int .i64 hy] 49 ∧
      Blk.Holds wr w.heap.size #[.int .i64 0, .int .i64 0] 49 ∧ Blk.Holds wr (w.heap.size + 1) #[.int .i64 0, .int .i64 0] 49 ∧ PtsAt wr w.heap.size (some ad) ps ∧ Below w.heap.size w wr)
    (fun i _ => n - (intOf i).toNat)
  case atStart => exact ⟨0, x0, y0, x0, y0, Nat.zero_le _, rfl, H0, B1_, B2_, L1, L2, hp, hb⟩
  case round =>
    clear B1_ B2_ L1 L2 hp hb hsz H0 hx0
    obtain ⟨k, lx, ly, hx, hy, hkn, rfl, HB, B1, B2, L1, L2, hp, hb⟩ := hrel
    obtain ⟨⟨_, _⟩, _, _⟩ := B1.two
    obtain ⟨⟨_, _⟩, _, _⟩ := B2.two
    by_cases hlt : k < n
    · have hk1 : (k : Int) < (n : Int) := by omega
      have hk0 : (0 : Int) ≤ (k : Int) := by omega
      have p0 := pt_at (ps := ps) (k := k) (by omega)
      have HB2 : Hid (boxTo ps (k + 1) = ((min lx (pt ps k).1, min ly (pt ps k).2), (max hx (pt ps k).1, max hy (pt ps k).2))) := Lib.hid (by simp only [boxTo, HB.out])
      obtain ⟨x, y, hx2⟩ : ∃ x y, pt ps k = (x, y) := ⟨_, _, rfl⟩
      rw [hx2] at p0 HB2
      obtain ⟨ad2, eA, _, pA⟩ := hp.get p0
      injection eA with eA
      subst eA
      obtain ⟨_, _⟩ := pA
      obtain ⟨m1, hm1⟩ : ∃ m, min lx x = m := ⟨_, rfl⟩
      obtain ⟨m2, hm2⟩ : ∃ m, min ly y = m := ⟨_, rfl⟩
      obtain ⟨M1, hM1⟩ : ∃ m, max hx x = m := ⟨_, rfl⟩
      obtain ⟨M2, hM2⟩ : ∃ m, max hy y = m := ⟨_, rfl⟩
      simp only [hm1, hm2, hM1, hM2] at HB2
      have ho := below1 wr (Obj.cells #[.int .i64 x, .int .i64 y] 49)
      have X := Blk.Holds.box wr #[.int .i64 x, .int .i64 y] 49 (k := wr.heap.size) rfl
      have K1 := B1.lt
      have K2 := B2.lt
      have C1 := B1.later ho
      have C2 := B2.later ho
      have C3 := L1.later ho
      have C4 := L2.later ho
      have C5 := hp.later (ho.mono hb.size)
      have C6 := hb.trans (ho.mono hb.size)
      have hKs : wr.heap.size ≠ g1_ := by omega
      have hKs2 : wr.heap.size ≠ g2_ := by omega
      have hg1 : g1_ ≠ wr.heap.size := by omega
      have hg2 : g2_ ≠ wr.heap.size := by omega
      obtain ⟨⟨_, _⟩, _, _⟩ := C1.two
      obtain ⟨⟨_, _⟩, _, _⟩ := C2.two
      obtain ⟨⟨_, _⟩, _, _⟩ := X.two
      have D1 := Blk.set_own (Blk.set_own C1 0 (.int .i64 m1)) 1 (.int .i64 m2)
      have D2 := (C2.far ⟨g1_, 0, none⟩ (.int .i64 m1) hne1).far ⟨g1_, 1, none⟩ (.int .i64 m2) hne1
      have D3 := (X.far ⟨g1_, 0, none⟩ (.int .i64 m1) hKs).far ⟨g1_, 1, none⟩ (.int .i64 m2) hKs
      obtain ⟨⟨_, _⟩, _, _⟩ := (show Blk.Holds _ g1_ #[.int .i64 m1, .int .i64 ly] 49 from Blk.set_own C1 0 (.int .i64 m1)).two
      obtain ⟨⟨_, _⟩, _, _⟩ := D2.two
      obtain ⟨⟨_, _⟩, _, _⟩ := D3.two
      obtain ⟨⟨_, _⟩, _, _⟩ := (show Blk.Holds _ g2_ #[.int .i64 M1, .int .i64 hy] 49 from Blk.set_own D2 0 (.int .i64 M1)).two
      have q1 : w.heap.size ≠ g1_ := by omega
      have q2 : w.heap.size ≠ g2_ := by omega
      have q3 : w.heap.size + 1 ≠ g1_ := by omega
      have q4 : w.heap.size + 1 ≠ g2_ := by omega
      have gb1 : w.heap.size ≤ g1_ := by omega
      have gb2 : w.heap.size ≤ g2_ := by omega
      have G1 := ((show Blk.Holds _ g1_ #[.int .i64 m1, .int .i64 m2] 49 from Blk.set_own (Blk.set_own B1 0 (.int .i64 m1)) 1 (.int .i64 m2)).far ⟨g2_, 0, none⟩ (.int .i64 M1) n12_).far ⟨g2_, 1, none⟩ (.int .i64 M2) n12_
      have G2 := show Blk.Holds _ g2_ #[.int .i64 M1, .int .i64 M2] 49 from Blk.set_own (Blk.set_own ((B2.far ⟨g1_, 0, none⟩ (.int .i64 m1) hne1).far ⟨g1_, 1, none⟩ (.int .i64 m2) hne1) 0 (.int .i64 M1)) 1 (.int .i64 M2)
      have G3 := (((L1.far ⟨g1_, 0, none⟩ (.int .i64 m1) q1).far ⟨g1_, 1, none⟩ (.int .i64 m2) q1).far ⟨g2_, 0, none⟩ (.int .i64 M1) q2).far ⟨g2_, 1, none⟩ (.int .i64 M2) q2
      have G4 := (((L2.far ⟨g1_, 0, none⟩ (.int .i64 m1) q3).far ⟨g1_, 1, none⟩ (.int .i64 m2) q3).far ⟨g2_, 0, none⟩ (.int .i64 M1) q4).far ⟨g2_, 1, none⟩ (.int .i64 M2) q4
      have hbs := ((((Below.refl w.heap.size wr).setCell (p := ⟨g1_, 0, none⟩) gb1 (.int .i64 m1)).setCell (p := ⟨g1_, 1, none⟩) gb1 (.int .i64 m2)).setCell (p := ⟨g2_, 0, none⟩) gb2 (.int .i64 M1)).setCell (p := ⟨g2_, 1, none⟩) gb2 (.int .i64 M2)
      have hbo := below1 ((((wr.setCell ⟨g1_, 0, none⟩ (.int .i64 m1)).setCell ⟨g1_, 1, none⟩ (.int .i64 m2)).setCell ⟨g2_, 0, none⟩ (.int .i64 M1)).setCell ⟨g2_, 1, none⟩ (.int .i64 M2)) (Obj.cells #[.int .i64 x, .int .i64 y] 49)
      have E1 := G1.later hbo
      have E2 := G2.later hbo
      have E3 := G3.later hbo
      have E4 := G4.later hbo
      have hbs2 := hbs.trans (hbo.mono (Nat.le_trans hb.size hbs.size))
      have E5 := hp.later hbs2
      have E6 := hb.trans hbs2
      replace E1 := Lib.hid E1
      replace E2 := Lib.hid E2
      replace E3 := Lib.hid E3
      replace E4 := Lib.hid E4
      replace E5 := Lib.hid E5
      replace E6 := Lib.hid E6
      clear hbs hbs2 hbo G1 G2 G3 G4 C3 C4 C5 C6 D1 D2 D3 X C1 C2 ho hp hb L1 L2 B1 B2 hl HR HB
      go_wp2_with fail
      first
        | exact ⟨⟨k + 1, m1, m2, M1, M2, by omega, by go_num, HB2, E1.out, E2.out, E3.out, E4.out, E5.out, E6.out⟩, by simp [intOf]; omega⟩
        | (go_roundw <;> first | exact ⟨k + 1, m1, m2, M1, M2, by omega, by go_num, HB2, E1.out, E2.out, E3.out, E4.out, E5.out, E6.out⟩ | (simp [intOf]; omega))
    · obtain rfl : n = k := by omega
      have E : Hid (r = ((lx, ly), (hx, hy))) := Lib.hid (by rw [← HR.out, HB.out])
      clear hl HR HB
      have HO : ∀ W W' : World, (PointOk.Box W g1_ lx ly ∧ PointOk.Box W g2_ hx hy ∧ Blk.Holds W w.heap.size #[.int .i64 0, .int .i64 0] 49 ∧ Blk.Holds W (w.heap.size + 1) #[.int .i64 0, .int .i64 0] 49 ∧ Below w.heap.size w W) → Below W.heap.size W W' → (PointOk.Box W' g1_ lx ly ∧ PointOk.Box W' g2_ hx hy ∧ Blk.Holds W' w.heap.size #[.int .i64 0, .int .i64 0] 49 ∧ Blk.Holds W' (w.heap.size + 1) #[.int .i64 0, .int .i64 0] 49 ∧ Below w.heap.size w W') := fun W W' ⟨x0, x1, x2, x3, hb⟩ h => ⟨x0.later h, x1.later h, Blk.Holds.later x2 h, Blk.Holds.later x3 h, hb.trans (h.mono hb.size)⟩
      have S0 : PointOk.Box wr g1_ lx ly ∧ PointOk.Box wr g2_ hx hy ∧ Blk.Holds wr w.heap.size #[.int .i64 0, .int .i64 0] 49 ∧ Blk.Holds wr (w.heap.size + 1) #[.int .i64 0, .int .i64 0] 49 ∧ Below w.heap.size w wr := ⟨B1.two.1, B2.two.1, L1, L2, hb⟩
      clear B1 B2 L1 L2 hb hp
      go_wp2_with fail
      obtain ⟨⟨a0_, a1_⟩, ⟨b0_, b1c_⟩, L1, L2, hb⟩ := S0
      obtain ⟨⟨_, _⟩, _, _⟩ := Blk.Holds.two L1
      obtain ⟨⟨_, _⟩, _, _⟩ := Blk.Holds.two L2
      have z1 : g1_ ≠ w.heap.size := by omega
      have z2 : g2_ ≠ w.heap.size := by omega
      have M1 := show Blk.Holds _ w.heap.size #[.int .i64 lx, .int .i64 ly] 49 from Blk.set_own (Blk.set_own L1 0 (.int .i64 lx)) 1 (.int .i64 ly)
      have M2 := (Blk.Holds.far L2 ⟨w.heap.size, 0, none⟩ (.int .i64 lx) (by simp)).far ⟨w.heap.size, 1, none⟩ (.int .i64 ly) (by simp)
      have N1 := (Blk.Holds.far M1 ⟨w.heap.size + 1, 0, none⟩ (.int .i64 hx) (by simp)).far ⟨w.heap.size + 1, 1, none⟩ (.int .i64 hy) (by simp)
      have N2 := show Blk.Holds _ (w.heap.size + 1) #[.int .i64 hx, .int .i64 hy] 49 from Blk.set_own (Blk.set_own M2 0 (.int .i64 hx)) 1 (.int .i64 hy)
      obtain ⟨⟨_, _⟩, _, _⟩ := Blk.Holds.two M2
      obtain ⟨⟨_, _⟩, _, _⟩ := (show Blk.Holds _ w.heap.size #[.int .i64 lx, .int .i64 0] 49 from Blk.set_own L1 0 (.int .i64 lx)).two
      obtain ⟨⟨_, _⟩, _, _⟩ := (show Blk.Holds _ (w.heap.size + 1) #[.int .i64 hx, .int .i64 0] 49 from Blk.set_own M2 0 (.int .i64 hx)).two
      replace N1 := Lib.hid N1
      replace N2 := Lib.hid N2
      have hbs := Lib.hid ((((hb.setCell (p := ⟨w.heap.size, 0, none⟩) (Nat.le_refl _) (.int .i64 lx)).setCell (p := ⟨w.heap.size, 1, none⟩) (Nat.le_refl _) (.int .i64 ly)).setCell (p := ⟨w.heap.size + 1, 0, none⟩) (Nat.le_succ _) (.int .i64 hx)).setCell (p := ⟨w.heap.size + 1, 1, none⟩) (Nat.le_succ _) (.int .i64 hy))
      have z3 : ¬ g1_ = w.heap.size := z1
      have z4 : ¬ g2_ = w.heap.size := z2
      have z5 : ¬ w.heap.size = g2_ := fun h => z2 h.symm
      clear L1 L2 M1 M2 hb hkn hlt hn h0 b1_ b2_ hne1 n12_ bA
      go_region
      all_goals go_wp2_with fail
      all_goals obtain ⟨⟨r0_, r1_⟩, _⟩ := Blk.Holds.two N1.out
      all_goals obtain ⟨⟨r2_, r3_⟩, _⟩ := Blk.Holds.two N2.out
      all_goals exact bodyPost_ret (v := .tuple #[.agg #[.int .i64 lx, .int .i64 ly], .agg #[.int .i64 hx, .int .i64 hy]]) (by simp [results, Try.results130, go_sem, r0_, r1_, r2_, r3_]) rfl ⟨by rw [E.out], hbs.out.drew⟩

set_option maxRecDepth 100000 in
set_option maxHeartbeats 4000000 in
theorem floorPoints (A : Option Addr) (n cap : Nat) (w : World) (ps : List (Int × Int)) (hl : ps.length = n) (hn : n ≤ 1048576) (hp : PtsAt w w.heap.size A ps) :
    Calls Try.prog 83 #[.agg #[.slice A n cap]] w (GivesC 49 2 w (floorL ps).length (cellsP (floorL ps))) := by
  obtain ⟨r, hr⟩ : ∃ r, floorL ps = r := ⟨_, rfl⟩
  have HR := Lib.hid hr
  rw [hr]
  clear hr
  obtain ⟨i0, hi, hz0, hz1, hz2⟩ := info_parts infoP
  go_enter Try.func83, Try.ntmps83
  go_wp2_with fail
  have X0 := Pts.boxR w (.slice A n cap) 37 (k := w.heap.size) (by simp)
  have b0 := PointOk.below1 w (Obj.cells #[.slice A n cap] 37)
  have HO : ∀ W W' : World, (Pts.BoxR W (w.heap.size) (.slice A n cap) ∧ PtsAt W w.heap.size A ps ∧ w.heap.size + 1 ≤ W.heap.size ∧ Below w.heap.size w W) → Below W.heap.size W W' → (Pts.BoxR W' (w.heap.size) (.slice A n cap) ∧ PtsAt W' w.heap.size A ps ∧ w.heap.size + 1 ≤ W'.heap.size ∧ Below w.heap.size w W') := fun W W' ⟨h0, x0, x1, hb⟩ h => ⟨h0.later h, x0.later (h.mono hb.size), Nat.le_trans x1 h.size, hb.trans (h.mono hb.size)⟩
  have hz0_ : Hid (((w.alloc (Obj.cells #[.slice A n cap] 37))).heap.size = w.heap.size + 1) := Lib.hid (by simp)
  have Y0 : PtsAt ((w.alloc (Obj.cells #[.slice A n cap] 37))) w.heap.size A ps := hp.later b0
  have Y1 : w.heap.size + 1 ≤ ((w.alloc (Obj.cells #[.slice A n cap] 37))).heap.size := by simp
  generalize (w.alloc (Obj.cells #[.slice A n cap] 37)) = w0 at X0 Y0 Y1 b0 hz0_ ⊢
  have S0 := (⟨X0, Y0, Y1, b0⟩ : Pts.BoxR w0 (w.heap.size) (.slice A n cap) ∧ PtsAt w0 w.heap.size A ps ∧ w.heap.size + 1 ≤ w0.heap.size ∧ Below w.heap.size w w0)
  clear X0 Y0 Y1 b0
  obtain ⟨⟨_, _⟩, _, _, _⟩ := id S0
  refine (RoomOkImpl.roomOk A n cap _ ps hl hn (S0.2.1.wide S0.2.2.2.size)).mono ?_
  rintro e w1 ⟨rfl, hb_⟩
  replace S0 := HO _ _ S0 hb_
  clear hb_
  obtain ⟨⟨_, _⟩, _, _, _⟩ := id S0
  cases hr : roomB ps
  · have E : Hid (r = []) := Lib.hid (by rw [← HR.out]; unfold floorL; rw [hr]; rfl)
    clear hl HR
    go_wp2_with fail
    go_ret
    exact ⟨none, 0, by rw [E.out]; rfl, by rw [E.out]; exact World.ownsRow_nil _ _ _ _, S0.2.2.2⟩
  obtain ⟨h3, hok, _, _⟩ := roomB_yes hr
  have hsm := Lib.hid (smAll_of hok)
  have hbd := boxTo_bound hok (by omega) n (by omega)
  have Q : Hid (∀ w hp, _) := Lib.hid fun w hp => boxAround A n cap w ps hl (by omega) hn hp
  have HR2 : Hid (floorTo ps (boxTo ps n).1.1 (boxTo ps n).1.2 ((boxTo ps n).2.1 - (boxTo ps n).1.1 + 1).toNat ((boxTo ps n).2.2 - (boxTo ps n).1.2 + 1).toNat = r) := Lib.hid (by rw [← HR.out]; unfold floorL widthI heightI; rw [hr, hl]; rfl)
  generalize (boxTo ps n).1.1 = lx at *
  generalize (boxTo ps n).1.2 = ly at *
  generalize (boxTo ps n).2.1 = hx at *
  generalize (boxTo ps n).2.2 = hy at *
  obtain ⟨Wd, hWd⟩ : ∃ k : Nat, (hx - lx + 1).toNat = k := ⟨_, rfl⟩
  obtain ⟨Hg, hHg⟩ : ∃ k : Nat, (hy - ly + 1).toNat = k := ⟨_, rfl⟩
  rw [hWd, hHg] at HR2
  have w81 : Wd ≤ 81 := by omega
  have h81 : Hg ≤ 81 := by omega
  have hWx : (Wd : Int) = hx - lx + 1 := by omega
  have hHy : (Hg : Int) = hy - ly + 1 := by omega
  obtain ⟨⟨b1, b2, b3⟩, b4, b5, b6⟩ := hbd
  clear hWd hHg hr hok HR
  go_wp2_with fail
  refine (Q.out _ (S0.2.1.wide S0.2.2.2.size)).mono ?_
  rintro e w2 ⟨rfl, hb_⟩
  replace S0 := HO _ _ S0 hb_
  clear hb_
  obtain ⟨⟨_, _⟩, _, _, _⟩ := id S0
  clear Q
  have X1 := (PointOk.box1 w2 lx ly 49 (k := w2.heap.size) rfl).alloc (Obj.cells #[.int .i64 hx, .int .i64 hy] 49)
  have X2 := PointOk.box1 (w2.alloc (Obj.cells #[.int .i64 lx, .int .i64 ly] 49)) hx hy 49 (k := w2.heap.size + 1) (by simp)
  have hK1 : w.heap.size + 1 ≤ w2.heap.size := S0.2.2.1
  have hK2 : ((w2.alloc (Obj.cells #[.int .i64 lx, .int .i64 ly] 49)).alloc (Obj.cells #[.int .i64 hx, .int .i64 hy] 49)).heap.size = w2.heap.size + 2 := by simp
  replace S0 := HO _ _ S0 (below2 w2 (Obj.cells #[.int .i64 lx, .int .i64 ly] 49) (Obj.cells #[.int .i64 hx, .int .i64 hy] 49))
  obtain ⟨⟨_, _⟩, _, _, _⟩ := id S0
  obtain ⟨_, _⟩ := id X1
  obtain ⟨_, _⟩ := id X2
  obtain ⟨K_, hK_⟩ : ∃ K, w2.heap.size = K := ⟨_, rfl⟩
  rw [hK_] at X1 X2 hK1 hK2
  replace hK_ := Lib.hid hK_
  go_wp2_with fail
  generalize (w2.alloc (Obj.cells #[.int .i64 lx, .int .i64 ly] 49)).alloc (Obj.cells #[.int .i64 hx, .int .i64 hy] 49) = W9 at *
  try rw [hK_.out]
  have HO : ∀ W W' : World, (Pts.BoxR W (w.heap.size) (.slice A n cap) ∧ PtsAt W w.heap.size A ps ∧ PointOk.Box W K_ lx ly ∧ PointOk.Box W (K_ + 1) hx hy ∧ K_ + 2 ≤ W.heap.size ∧ Below w.heap.size w W) → Below W.heap.size W W' → (Pts.BoxR W' (w.heap.size) (.slice A n cap) ∧ PtsAt W' w.heap.size A ps ∧ PointOk.Box W' K_ lx ly ∧ PointOk.Box W' (K_ + 1) hx hy ∧ K_ + 2 ≤ W'.heap.size ∧ Below w.heap.size w W') := fun W W' ⟨h0, x0, x1, x2, x3, hb⟩ h => ⟨h0.later h, x0.later (h.mono hb.size), x1.later h, x2.later h, Nat.le_trans x3 h.size, hb.trans (h.mono hb.size)⟩
  replace S0 : Pts.BoxR W9 (w.heap.size) (.slice A n cap) ∧ PtsAt W9 w.heap.size A ps ∧ PointOk.Box W9 K_ lx ly ∧ PointOk.Box W9 (K_ + 1) hx hy ∧ K_ + 2 ≤ W9.heap.size ∧ Below w.heap.size w W9 := ⟨S0.1, S0.2.1, X1, X2, Nat.le_of_eq hK2.symm, S0.2.2.2⟩
  clear X1 X2 hK2
  have HO2 : ∀ W W' : World, (Pts.BoxR W (w.heap.size) (.slice A n cap) ∧ PtsAt W w.heap.size A ps ∧ PointOk.Box W K_ lx ly ∧ PointOk.Box W (K_ + 1) hx hy ∧ K_ + 2 ≤ W.heap.size ∧ Below w.heap.size w W) → Below (K_ + 2) W W' → (Pts.BoxR W' (w.heap.size) (.slice A n cap) ∧ PtsAt W' w.heap.size A ps ∧ PointOk.Box W' K_ lx ly ∧ PointOk.Box W' (K_ + 1) hx hy ∧ K_ + 2 ≤ W'.heap.size ∧ Below w.heap.size w W') := fun W W' ⟨h0, h1, h2, h3, h4, hb⟩ h => ⟨⟨(h.cell (by show w.heap.size < _; omega)).trans h0.1, trivial⟩, h1.later (h.mono (by omega)), h2.laterB (by omega) h, h3.laterB (by omega) h, Nat.le_trans h4 h.size, hb.trans (h.mono (by omega))⟩
  go_loopw [5, 6] (fun v y wr => ∃ i : Nat, i ≤ Hg ∧ y = .int .i64 (ly + i) ∧ wr.ownsRow (K_ + 2) 49 2 v (floorTo ps lx ly Wd i).length (cellsP (floorTo ps lx ly Wd i)) ∧ (Pts.BoxR wr (w.heap.size) (.slice A n cap) ∧ PtsAt wr w.heap.size A ps ∧ PointOk.Box wr K_ lx ly ∧ PointOk.Box wr (K_ + 1) hx hy ∧ K_ + 2 ≤ wr.heap.size ∧ Below w.heap.size w wr))
    (fun _ y _ => Hg - (intOf y - ly).toNat)
  case atStart => exact ⟨0, Nat.zero_le _, by simp, World.ownsRow_nil _ _ _ _, S0⟩
  case round =>
    clear S0
    obtain ⟨i, hiH, rfl, hown, S0⟩ := hrel
    obtain ⟨⟨_, _⟩, _, ⟨_, _⟩, ⟨_, _⟩, _, _⟩ := id S0
    by_cases hlt : i < Hg
    · have hy1 : ly + (i : Int) ≤ hy := by omega
      have HL : Hid (floorTo ps lx ly Wd (i + 1) = floorTo ps lx ly Wd i ++ rowTo ps lx (ly + i) Wd) := Lib.hid rfl
      have hll := floorTo_len ps lx ly Wd i
      have hlm : i * Wd ≤ 81 * 81 := Nat.mul_le_mul (by omega) w81
      generalize floorTo ps lx ly Wd i = l0 at *
      obtain ⟨py, hpy⟩ : ∃ y, ly + (i : Int) = y := ⟨_, rfl⟩
      have upy : IntKind.i64.wrap (py + 1) = py + 1 := IntWalk.i64_in _ (by omega)
      rw [hpy] at hy1 HL ⊢
      go_wp2_with fail
      go_loopw [5, 7] (fun v x wr => ∃ j : Nat, j ≤ Wd ∧ x = .int .i64 (lx + j) ∧ wr.ownsRow (K_ + 2) 49 2 v (l0 ++ rowTo ps lx py j).length (cellsP (l0 ++ rowTo ps lx py j)) ∧ (Pts.BoxR wr (w.heap.size) (.slice A n cap) ∧ PtsAt wr w.heap.size A ps ∧ PointOk.Box wr K_ lx ly ∧ PointOk.Box wr (K_ + 1) hx hy ∧ K_ + 2 ≤ wr.heap.size ∧ Below w.heap.size w wr))
        (fun _ x _ => Wd - (intOf x - lx).toNat)
      case atStart => exact ⟨0, Nat.zero_le _, by simp, by rw [show l0 ++ rowTo ps lx py 0 = l0 from List.append_nil _]; exact hown, S0⟩
      case round =>
        clear S0 hown
        obtain ⟨j, hjW, rfl, hown, S0⟩ := hrel
        obtain ⟨⟨_, _⟩, _, ⟨_, _⟩, ⟨_, _⟩, _, _⟩ := id S0
        by_cases hjl : j < Wd
        · have hx1 : lx + (j : Int) ≤ hx := by omega
          have HR3 : Hid (rowTo ps lx py (j + 1) = if placeM ps (lx + j, py) = 0 then rowTo ps lx py j else rowTo ps lx py j ++ [(lx + (j : Int), py)]) := Lib.hid rfl
          have hrl := rowTo_len ps lx py j
          generalize rowTo ps lx py j = l1 at *
          obtain ⟨m, hm⟩ : ∃ m, (l0 ++ l1).length = m := ⟨_, rfl⟩
          have hmb : m ≤ 100000 := by rw [← hm, List.length_append]; omega
          rw [hm] at hown
          obtain ⟨px, hpx⟩ : ∃ x, lx + (j : Int) = x := ⟨_, rfl⟩
          have upx : IntKind.i64.wrap (px + 1) = px + 1 := IntWalk.i64_in _ (by omega)
          have sp : smP px py := by unfold smP; omega
          have QP : Hid (∀ w hp, _) := Lib.hid fun w hp => PlaceImpl.placeOf A n cap px py w ps hl hn hsm.out sp hp
          rw [hpx] at hx1 HR3 ⊢
          generalize placeM ps (px, py) = q at *
          have X3 := PointOk.box1 wr px py 49 (k := wr.heap.size) rfl
          have ho := below1 wr (Obj.cells #[.int .i64 px, .int .i64 py] 49)
          replace S0 := HO _ _ S0 ho
          have hown2 := own_below hown ho
          have hg9 := grown_of_below ho none
          replace hown := Lib.hid hown2
          clear ho hown2 hg9 sp hl
          obtain ⟨⟨_, _⟩, _, ⟨_, _⟩, ⟨_, _⟩, _, _⟩ := id S0
          obtain ⟨_, _⟩ := id X3
          obtain ⟨P_, hP_⟩ : ∃ K, wr.heap.size = K := ⟨_, rfl⟩
          rw [hP_] at X3
          replace hP_ := Lib.hid hP_
          go_wp2_with fail
          generalize wr.alloc (Obj.cells #[.int .i64 px, .int .i64 py] 49) = W8 at *
          try rw [hP_.out]
          refine (QP.out _ (S0.2.1.wide S0.2.2.2.2.2.size)).mono ?_
          rintro e w3 ⟨rfl, hb_⟩
          replace S0 := HO _ _ S0 hb_
          replace X3 := X3.later hb_
          replace hown := Lib.hid (own_below hown.out hb_)
          clear hb_ QP
          obtain ⟨⟨_, _⟩, _, ⟨_, _⟩, ⟨_, _⟩, _, _⟩ := id S0
          obtain ⟨_, _⟩ := X3
          by_cases hq : q = 0
          · subst hq
            have HR4 : Hid (rowTo ps lx py (j + 1) = l1) := Lib.hid (by rw [HR3.out]; rfl)
            clear HR3
            go_wp2_with fail
            first
              | exact ⟨⟨j + 1, by omega, by first | go_num | (rw [← hpx]; go_num) | (rw [← hpx]; congr 1; omega), by rw [HR4.out, hm]; exact hown.out, S0⟩, by simp [intOf]; omega⟩
              | (go_roundw <;> first | exact ⟨j + 1, by omega, by first | go_num | (rw [← hpx]; go_num) | (rw [← hpx]; congr 1; omega), by rw [HR4.out, hm]; exact hown.out, S0⟩ | (simp [intOf]; omega))
          · have hq1 : (q == 0) = false := beq_eq_false_iff_ne.2 hq
            have HR4 : Hid (rowTo ps lx py (j + 1) = l1 ++ [(px, py)]) := Lib.hid (by rw [HR3.out, if_neg hq])
            have hown2 := hown.out
            clear HR3
            go_wp2_with (at_builtin; refine wpList_append_own _ rfl _ _ 35 rfl (K_ + 2) 49 i0 (.agg #[.int .i64 0, .int .i64 0]) 2 16 Try.underlying35 hi hz0 hz1 hz2 rfl (by decide) _ _ _ rfl (hown2.alloc _) ⟨w3.heap.size, 0, none⟩ 1 1 [.int .i64 px, .int .i64 py] rfl rfl ?c1 ?c2 ?c3 ?c4 ?c5 ?_)
            case c1 => (intro a u ha; match a, ha with | 0, ha => (simp at ha; subst ha; simp [Addr.add]) | 1, ha => (simp at ha; subst ha; simp [Addr.add]))
            case c2 => (intro u hu; simp at hu; rcases hu with rfl | rfl <;> rfl)
            case c3 => (unfold maxLen; omega)
            case c4 => omega
            case c5 => (have := S0.2.2.2.2.1; simp; omega)
            intro v1_ wa_ ho_ hg_ _
            have HN : Hid (wa_.ownsRow (K_ + 2) 49 2 v1_ (l0 ++ rowTo ps lx py (j + 1)).length (cellsP (l0 ++ rowTo ps lx py (j + 1))) ∧ (Pts.BoxR wa_ (w.heap.size) (.slice A n cap) ∧ PtsAt wa_ w.heap.size A ps ∧ PointOk.Box wa_ K_ lx ly ∧ PointOk.Box wa_ (K_ + 1) hx hy ∧ K_ + 2 ≤ wa_.heap.size ∧ Below w.heap.size w wa_)) := Lib.hid (by
              have hb0 : Below (K_ + 2) w3 (w3.alloc (Obj.cells #[.int .i64 px, .int .i64 py] 49)) := (below1 _ _).mono S0.2.2.2.2.1
              have hb1 := hb0.grown hg_ (by have := S0.2.2.2.2.1; simp; omega) (fun g hg => (hown2.lt g hg).1)
              rw [HR4.out, ← List.append_assoc, cellsP_app, List.length_append, hm]
              exact ⟨ho_, HO2 _ _ S0 hb1⟩)
            clear ho_ hg_ hown hown2 HR4 S0
            go_wp2_with fail
            first
              | exact ⟨⟨j + 1, by omega, by first | go_num | (rw [← hpx]; go_num) | (rw [← hpx]; congr 1; omega), HN.out.1, HN.out.2⟩, by simp [intOf]; omega⟩
              | (go_roundw <;> first | exact ⟨j + 1, by omega, by first | go_num | (rw [← hpx]; go_num) | (rw [← hpx]; congr 1; omega), HN.out.1, HN.out.2⟩ | (simp [intOf]; omega))
        · obtain rfl : j = Wd := by omega
          rw [← HL.out] at hown
          replace hown := Lib.hid hown
          clear HL
          go_wp2_with fail
          first
            | exact ⟨⟨i + 1, by omega, by first | go_num | (rw [← hpy]; go_num) | (rw [← hpy]; congr 1; omega), hown.out, S0⟩, by simp [intOf]; omega⟩
            | (go_roundw <;> first | exact ⟨i + 1, by omega, by first | go_num | (rw [← hpy]; go_num) | (rw [← hpy]; congr 1; omega), hown.out, S0⟩ | (simp [intOf]; omega))
    · obtain rfl : i = Hg := by omega
      rw [HR2.out] at hown
      have hown2 := Lib.hid hown
      obtain ⟨A1, c1, rfl⟩ := own_shape hown
      clear hl hown HR2
      go_wp2_with fail
      go_ret
      exact ⟨A1, c1, rfl, own_base hown2.out (by omega), S0.2.2.2.2.2⟩

end Go.Proofs.Ythokeedmccfalaa.FloorImpl

