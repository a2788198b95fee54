/-
  What the model's functions on sight do, as contracts: what each answers; new memory alone is written.
-/
import Derived.Test.YthokeedmccfalaaPlaceSpec
import Derived.Test.YthokeedmccfalaaFacts
import Derived.Test.YthokeedmccfalaaGround
import Derived.Test.YthokeedmccfalaaLawInt
import Derived.BigRegion
namespace Go.Proofs.Ythokeedmccfalaa.SightSpec
open Go.RowKit Own PointMath WallMath RoomMath Pts Blk AreaMath PlaceMath FloorMath LineMath CutsMath SightMath
open PointOk (ret_bool ret_i64 below1 below2 below3)

theorem infoP : (Try.prog.info? 49).map (fun i => (i.zero, i.size, i.bytes)) = some (some (.agg #[.int .i64 0, .int .i64 0]), 2, 16) := by kernel_rfl
theorem cellsP_app : ∀ (ps qs : List (Int × Int)), cellsP (ps ++ qs) = cellsP ps ++ cellsP qs
  | [], _ => rfl
  | p :: ps, qs => by simp [cellsP, cellsP_app ps qs]

theorem doubled (x y : Int) (h : smP (2 * x) (2 * y)) (w : World) : Calls Try.prog 129 #[.agg #[.int .i64 x, .int .i64 y]] w fun e w' => e = .returned (.agg #[.int .i64 (2 * x), .int .i64 (2 * y)]) ∧ Below w.heap.size w w' := by
  unfold smP at h
  have u1 : IntKind.i64.wrap (2 * x) = 2 * x := IntWalk.i64_in _ (by omega)
  have u2 : IntKind.i64.wrap (2 * y) = 2 * y := IntWalk.i64_in _ (by omega)
  clear h
  go_enter Try.func129, Try.ntmps129
  go_wp2_with fail
  refine bodyPost_ret (v := .agg #[.int .i64 (2 * x), .int .i64 (2 * y)]) (by simp [results, Try.results129, go_sem]) rfl ⟨rfl, ?_⟩
  exact below2 _ _ _

/-- A row of points, as a slice of points in memory. -/
theorem pts_own {w : World} {b e n c : Nat} {A : Option Addr} {ps : List (Int × Int)} (h : w.ownsRow b e 2 (.slice A n c) n (cellsP ps)) : PtsAt w w.heap.size A ps := by
  obtain ⟨A2, c2, e2, _, hp⟩ := LawInt.own_pts h
  injection e2 with e2 e3 e4
  subst e2
  exact hp

set_option maxRecDepth 100000 in
set_option maxHeartbeats 16000000 in
theorem sees8 (A : Option Addr) (n cap : Nat) (ax ay bx bY : Int) (w : World) (ps : List (Int × Int)) (hl : ps.length = n) (hn : n ≤ 10) (hok : okAll ps = true) (pa : okP ax ay = true) (pb : okP bx bY = true) (hp : PtsAt w w.heap.size A ps) :
    Calls Try.prog 80 #[.slice A n cap, .agg #[.int .i64 ax, .int .i64 ay], .agg #[.int .i64 bx, .int .i64 bY]] w fun e w' => e = .returned (.bool (seesM ps (ax, ay) (bx, bY))) ∧ Below w.heap.size w w' := by
  obtain ⟨r, hr⟩ : ∃ r, seesM ps (ax, ay) (bx, bY) = r := ⟨_, rfl⟩
  have HR := Lib.hid hr
  rw [hr]
  clear hr
  obtain ⟨i0, hi, hz0, hz1, hz2⟩ := info_parts infoP
  have sa := okP_sm pa
  have sb := okP_sm pb
  have hok := Lib.hid hok
  go_enter Try.func80, Try.ntmps80
  go_wp2_with fail
  have X0 := (PointOk.box1 w ax ay 49 (k := w.heap.size) (by simp)).alloc (Obj.cells #[.int .i64 bx, .int .i64 bY] 49)
  have X1 := PointOk.box1 (w.alloc (Obj.cells #[.int .i64 ax, .int .i64 ay] 49)) bx bY 49 (k := w.heap.size + 1) (by simp)
  have b0 := PointOk.below2 w (Obj.cells #[.int .i64 ax, .int .i64 ay] 49) (Obj.cells #[.int .i64 bx, .int .i64 bY] 49)
  have HO : ∀ W W' : World, (PointOk.Box W (w.heap.size) ax ay ∧ PointOk.Box W (w.heap.size + 1) bx bY ∧ PtsAt W w.heap.size A ps ∧ Below w.heap.size w W) → Below W.heap.size W W' → (PointOk.Box W' (w.heap.size) ax ay ∧ PointOk.Box W' (w.heap.size + 1) bx bY ∧ PtsAt W' w.heap.size A ps ∧ Below w.heap.size w W') := fun W W' ⟨h0, h1, x0, hb⟩ h => ⟨h0.later h, h1.later h, x0.later (h.mono hb.size), hb.trans (h.mono hb.size)⟩
  have hz0_ : Hid ((((w.alloc (Obj.cells #[.int .i64 ax, .int .i64 ay] 49)).alloc (Obj.cells #[.int .i64 bx, .int .i64 bY] 49))).heap.size = w.heap.size + 1 + 1) := Lib.hid (by simp)
  have Y0 : PtsAt (((w.alloc (Obj.cells #[.int .i64 ax, .int .i64 ay] 49)).alloc (Obj.cells #[.int .i64 bx, .int .i64 bY] 49))) w.heap.size A ps := hp.later b0
  generalize ((w.alloc (Obj.cells #[.int .i64 ax, .int .i64 ay] 49)).alloc (Obj.cells #[.int .i64 bx, .int .i64 bY] 49)) = w0 at X0 X1 Y0 b0 hz0_ ⊢
  have S0 := (⟨X0, X1, Y0, b0⟩ : PointOk.Box w0 (w.heap.size) ax ay ∧ PointOk.Box w0 (w.heap.size + 1) bx bY ∧ PtsAt w0 w.heap.size A ps ∧ Below w.heap.size w w0)
  clear X0 X1 Y0 b0
  obtain ⟨⟨_, _⟩, ⟨_, _⟩, _, _⟩ := id S0
  have HO2 : ∀ W W' : World, (PointOk.Box W (w.heap.size) ax ay ∧ PointOk.Box W (w.heap.size + 1) bx bY ∧ PtsAt W w.heap.size A ps ∧ Below w.heap.size w W) → Below (w.heap.size + 2) W W' → (PointOk.Box W' (w.heap.size) ax ay ∧ PointOk.Box W' (w.heap.size + 1) bx bY ∧ PtsAt W' w.heap.size A ps ∧ Below w.heap.size w W') := fun W W' ⟨h0, h1, h2, hb⟩ h => ⟨⟨(h.cell (by simp)).trans h0.1, (h.cell (by simp)).trans h0.2⟩, ⟨(h.cell (by simp)).trans h1.1, (h.cell (by simp)).trans h1.2⟩, h2.later (h.mono (by omega)), hb.trans (h.mono (by omega))⟩
  have hz1_ := hz0_.out
  have N1 := (Blk.Holds.box w0 #[.int .i64 ax, .int .i64 ay, .int .i64 bx, .int .i64 bY] 49 (k := w.heap.size + 2) (by omega)).alloc (Obj.cells #[] 49)
  have N2 := Blk.Holds.box (w0.alloc (Obj.cells #[.int .i64 ax, .int .i64 ay, .int .i64 bx, .int .i64 bY] 49)) #[] 49 (k := w.heap.size + 3) (by simp; omega)
  have hc0 : ((w0.alloc (Obj.cells #[.int .i64 ax, .int .i64 ay, .int .i64 bx, .int .i64 bY] 49)).alloc (Obj.cells #[] 49)).ownsRow (w.heap.size + 2) 49 2 (.slice (some ⟨w.heap.size + 2, 0, none⟩) 2 2) 2 (cellsP [(ax, ay), (bx, bY)]) :=
    ⟨by simp [cellsP], .inr ⟨w.heap.size + 2, 2, _, rfl, Nat.le_refl _, N1, Nat.le_refl _, by decide, by simp, by simp [cellsP]⟩⟩
  have hb0 : ((w0.alloc (Obj.cells #[.int .i64 ax, .int .i64 ay, .int .i64 bx, .int .i64 bY] 49)).alloc (Obj.cells #[] 49)).ownsRow (w.heap.size + 2) 49 2 (.slice (some ⟨w.heap.size + 3, 0, none⟩) 0 0) 0 (cellsP []) :=
    ⟨by simp [cellsP], .inr ⟨w.heap.size + 3, 0, _, rfl, by omega, N2, Nat.le_refl _, Nat.zero_le _, by simp, by simp [cellsP]⟩⟩
  replace S0 := HO _ _ S0 (below2 w0 (Obj.cells #[.int .i64 ax, .int .i64 ay, .int .i64 bx, .int .i64 bY] 49) (Obj.cells #[] 49))
  have hsz : w.heap.size + 2 ≤ ((w0.alloc (Obj.cells #[.int .i64 ax, .int .i64 ay, .int .i64 bx, .int .i64 bY] 49)).alloc (Obj.cells #[] 49)).heap.size := by simp; omega
  have e2_ : w0.heap.size = w.heap.size + 2 := by omega
  have e3_ : (w0.alloc (Obj.cells #[.int .i64 ax, .int .i64 ay, .int .i64 bx, .int .i64 bY] 49)).heap.size = w.heap.size + 3 := by simp; omega
  generalize (w0.alloc (Obj.cells #[.int .i64 ax, .int .i64 ay, .int .i64 bx, .int .i64 bY] 49)).alloc (Obj.cells #[] 49) = W9 at *
  clear N1 N2
  go_loopw [8, 9, 10] (fun vc vb i wr => ∃ k : Nat, k ≤ n ∧ i = .int .i64 k ∧ Hid (∀ j, j < k → cutK ps (ax, ay) (bx, bY) j = false) ∧ wr.ownsRow (w.heap.size + 2) 49 2 vc (cutsTo ps (ax, ay) (bx, bY) k).length (cellsP (cutsTo ps (ax, ay) (bx, bY) k)) ∧ wr.ownsRow (w.heap.size + 2) 49 2 vb k (cellsP (bigTo ps k)) ∧ Hid (∀ i j, vc.ownBlock = some i → vb.ownBlock = some j → i ≠ j) ∧ w.heap.size + 2 ≤ wr.heap.size ∧ (PointOk.Box wr (w.heap.size) ax ay ∧ PointOk.Box wr (w.heap.size + 1) bx bY ∧ PtsAt wr w.heap.size A ps ∧ Below w.heap.size w wr))
    (fun _ _ i _ => n - (intOf i).toNat)
  case atStart =>
    exact ⟨0, Nat.zero_le _, rfl, Lib.hid (fun j hj => absurd hj (by omega)), hc0, hb0, Lib.hid (fun i j h1 h2 => by have h1 : some (w.heap.size + 2) = some i := h1; have h2 : some (w.heap.size + 3) = some j := h2; injection h1 with h1; injection h2 with h2; omega), hsz, S0⟩
  case round =>
    clear S0 hc0 hb0 hsz e2_ e3_
    obtain ⟨k, hkn, rfl, hno, HC, HB, hD, hsz, S0⟩ := hrel
    obtain ⟨⟨_, _⟩, ⟨_, _⟩, _, _⟩ := id S0
    have hcl := cutsTo_len ps (ax, ay) (bx, bY) k
    obtain ⟨Ac, cc, rfl⟩ := own_shape HC
    obtain ⟨Ab, cb, rfl⟩ := own_shape HB
    by_cases hlt : k < n
    · have hm : (k + 1) % n < n := Nat.mod_lt _ (by omega)
      have p0 := pt_at (ps := ps) (k := k) (by omega)
      have p1 := pt_at (ps := ps) (k := (k + 1) % n) (by omega)
      have e1 := succ_emod n k
      have e1t : ((k : Int) + 1).tmod (n : Int) = (((k + 1) % n : Nat) : Int) := by rw [Int.tmod_eq_emod_of_nonneg (by omega)]; exact e1
      have HK : Hid (cutK ps (ax, ay) (bx, bY) k = cutP (pt ps k) (pt ps ((k + 1) % n)) (ax, ay) (bx, bY)) := Lib.hid (by unfold cutK; rw [hl])
      have HL : Hid (cutsTo ps (ax, ay) (bx, bY) (k + 1) = if decide (pt ps k ≠ (ax, ay)) && decide (pt ps k ≠ (bx, bY)) && btwP (pt ps k) (ax, ay) (bx, bY) then cutsTo ps (ax, ay) (bx, bY) k ++ [pt ps k] else cutsTo ps (ax, ay) (bx, bY) k) := Lib.hid rfl
      have HG : Hid (bigTo ps (k + 1) = bigTo ps k ++ [dblP (pt ps k)]) := Lib.hid rfl
      have o0 := okAll_at hok.out (k := k) (by omega)
      have o1 := okP_sm (okAll_at hok.out (k := (k + 1) % n) (by omega))
      generalize (k + 1) % n = m1 at *
      obtain ⟨cx, cy, hcc⟩ : ∃ x y, pt ps k = (x, y) := ⟨_, _, rfl⟩
      obtain ⟨dx, dy, hdd⟩ : ∃ x y, pt ps m1 = (x, y) := ⟨_, _, rfl⟩
      rw [hcc] at p0 o0 HK HL HG
      rw [hdd] at p1 o1 HK
      replace HG : Hid (bigTo ps (k + 1) = bigTo ps k ++ [(2 * cx, 2 * cy)]) := HG
      generalize cutsTo ps (ax, ay) (bx, bY) k = l0 at *
      obtain ⟨mc, hmc⟩ : ∃ m, l0.length = m := ⟨_, rfl⟩
      rw [hmc] at HC hD hcl
      rw [hmc]
      obtain ⟨ad, eA, bA, pA⟩ := S0.2.2.1.get p0
      obtain ⟨ad2, eA2, _, pB⟩ := S0.2.2.1.get p1
      rw [eA] at eA2
      injection eA2 with eA2
      subst eA2
      subst eA
      have s0 := okP_sm o0
      have QD : Hid (∀ w, _) := Lib.hid fun w => doubled cx cy (okP_dbl o0) w
      have QC : Hid (∀ w, _) := Lib.hid fun w => WallSpec.l03Cross ax ay bx bY cx cy dx dy sa sb s0 o1 w
      have QB : Hid (∀ w, _) := Lib.hid fun w => PointSpec.l02Between cx cy ax ay bx bY s0 sa sb w
      obtain ⟨cr, hcr⟩ : ∃ c, cutW ax ay bx bY cx cy dx dy = c := ⟨_, rfl⟩
      obtain ⟨bw, hbw⟩ : ∃ c, btwB cx cy ax ay bx bY = c := ⟨_, rfl⟩
      replace HK : Hid (cutK ps (ax, ay) (bx, bY) k = cr) := Lib.hid (by rw [HK.out, ← hcr]; exact cutW_comm _ _ _ _ _ _ _ _)
      replace HL : Hid (cutsTo ps (ax, ay) (bx, bY) (k + 1) = if decide ((cx, cy) ≠ (ax, ay)) && decide ((cx, cy) ≠ (bx, bY)) && bw then l0 ++ [(cx, cy)] else l0) := Lib.hid (by rw [HL.out, ← hbw]; rfl)
      have e5 : (sepW ax ay bx bY cx cy dx dy && sepW cx cy dx dy ax ay bx bY) = cr := hcr
      have e6 : (decide (turnI ax ay bx bY cx cy = 0) && midB cx ax bx && midB cy ay bY) = bw := hbw
      rw [e5] at QC
      rw [e6] at QB
      have hk1 : (k : Int) < (n : Int) := by omega
      have hk0 : (0 : Int) ≤ (k : Int) := by omega
      have hm1I : (m1 : Int) < (n : Int) := by omega
      have hm1I0 : (0 : Int) ≤ (m1 : Int) := by omega
      have hn0 : ¬ ((n : Int) = 0) := by omega
      have hn1 : ¬ (n = 0) := by omega
      have uk1 : IntKind.i64.wrap ((k : Int) + 1) = (k : Int) + 1 := IntWalk.i64_in _ (by omega)
      clear p0 p1 o0 o1 s0 hcc hdd hcr hbw e5 e6
      have HO : ∀ W W' : World, (PointOk.Box W (w.heap.size) ax ay ∧ PointOk.Box W (w.heap.size + 1) bx bY ∧ PtsAt W w.heap.size (some ad) ps ∧ PtAt W ad k cx cy ∧ PtAt W ad m1 dx dy ∧ W.ownsRow (w.heap.size + 2) 49 2 (.slice Ac mc cc) (mc) (cellsP (l0)) ∧ W.ownsRow (w.heap.size + 2) 49 2 (.slice Ab k cb) k (cellsP (bigTo ps k)) ∧ w.heap.size + 2 ≤ W.heap.size ∧ Below w.heap.size w W) → Below W.heap.size W W' → (PointOk.Box W' (w.heap.size) ax ay ∧ PointOk.Box W' (w.heap.size + 1) bx bY ∧ PtsAt W' w.heap.size (some ad) ps ∧ PtAt W' ad k cx cy ∧ PtAt W' ad m1 dx dy ∧ W'.ownsRow (w.heap.size + 2) 49 2 (.slice Ac mc cc) (mc) (cellsP (l0)) ∧ W'.ownsRow (w.heap.size + 2) 49 2 (.slice Ab k cb) k (cellsP (bigTo ps k)) ∧ w.heap.size + 2 ≤ W'.heap.size ∧ Below w.heap.size w W') := fun W W' ⟨h0, h1, x0, x1, x2, x3, x4, x5, hb⟩ h => ⟨h0.later h, h1.later h, x0.later (h.mono hb.size), x1.later bA (h.mono hb.size), x2.later bA (h.mono hb.size), own_below x3 h, own_below x4 h, Nat.le_trans x5 h.size, hb.trans (h.mono hb.size)⟩
      replace S0 := (⟨S0.1, S0.2.1, S0.2.2.1, pA, pB, HC, HB, hsz, S0.2.2.2⟩ : PointOk.Box wr (w.heap.size) ax ay ∧ PointOk.Box wr (w.heap.size + 1) bx bY ∧ PtsAt wr w.heap.size (some ad) ps ∧ PtAt wr ad k cx cy ∧ PtAt wr ad m1 dx dy ∧ wr.ownsRow (w.heap.size + 2) 49 2 (.slice Ac mc cc) (mc) (cellsP (l0)) ∧ wr.ownsRow (w.heap.size + 2) 49 2 (.slice Ab k cb) k (cellsP (bigTo ps k)) ∧ w.heap.size + 2 ≤ wr.heap.size ∧ Below w.heap.size w wr)
      clear pA pB HC HB hsz
      obtain ⟨⟨_, _⟩, ⟨_, _⟩, _, ⟨_, _⟩, ⟨_, _⟩, _, _, _, _⟩ := id S0
      go_wp2_with fail
      refine Settle.region (fun W => PointOk.Box W (w.heap.size) ax ay ∧ PointOk.Box W (w.heap.size + 1) bx bY ∧ PtsAt W w.heap.size (some ad) ps ∧ PtAt W ad k cx cy ∧ PtAt W ad m1 dx dy ∧ W.ownsRow (w.heap.size + 2) 49 2 (.slice Ac mc cc) (mc) (cellsP (l0)) ∧ W.ownsRow (w.heap.size + 2) 49 2 (.slice Ab k cb) k (cellsP (bigTo ps k)) ∧ w.heap.size + 2 ≤ W.heap.size ∧ Below w.heap.size w W) (by kernel_rfl) (by kernel_rfl) (by kernel_rfl) (by kernel_rfl) (HO _ _ S0 ((Below.refl _ _).drew)) ?_
      clear S0
      repeat (first
        | (refine Settle.Settles.off (by rfl) ?_; simp only [Act.put, List.setIfInBounds_toArray, List.set_cons_zero, List.set_cons_succ])
        | (refine Settle.Settles.quiet (v := ?_) (by rfl) ?_ ?_
           rotate_left
           · (intro W hS; obtain ⟨⟨_, _⟩, ⟨_, _⟩, _, ⟨_, _⟩, ⟨_, _⟩, _, _, _, _⟩ := hS; go_simp; with_reducible rfl)
           simp only [Act.put, List.setIfInBounds_toArray, List.set_cons_zero, List.set_cons_succ])
        | (refine Settle.Settles.call (v := ?_) (f := ?_) (args := ?_) (by rfl) ?_ ?_ ?_
           rotate_left 3
           · (intro W; go_simp; refine ⟨?_, ?_⟩ <;> with_reducible rfl)
           · (intro W hS; first | (go_at_call 127; (with_reducible refine (QC.out _).mono ?_); rintro e W1 ⟨rfl, hb⟩; refine ⟨?_, HO _ _ hS hb⟩; with_reducible rfl))
           simp only [Act.put, List.setIfInBounds_toArray, List.set_cons_zero, List.set_cons_succ]))
      refine Settle.Settles.nil ?_
      intro wr S0
      obtain ⟨⟨_, _⟩, ⟨_, _⟩, _, ⟨_, _⟩, ⟨_, _⟩, _, _, _, _⟩ := id S0
      cases cr
      rotate_left
      · have E : Hid (r = false) := Lib.hid (by rw [← HR.out]; exact sees_cut (k := k) (by omega) HK.out)
        clear hl HR hno HK hD HL HG QB QD
        go_wp2_with fail
        go_ret
        exact ⟨ret_bool E.out.symm, S0.2.2.2.2.2.2.2.2⟩
      have hno2 : Hid (∀ j, j < k + 1 → cutK ps (ax, ay) (bx, bY) j = false) := Lib.hid (by
        intro j hj
        rcases Nat.lt_or_ge j k with h | h
        · exact hno.out j h
        · obtain rfl : j = k := by omega
          exact HK.out)
      clear HK hno QC
      go_wp2_with fail
      obtain ⟨n1, hn1⟩ : ∃ b, decide ((cx, cy) ≠ (ax, ay)) = b := ⟨_, rfl⟩
      obtain ⟨n2, hn2⟩ : ∃ b, decide ((cx, cy) ≠ (bx, bY)) = b := ⟨_, rfl⟩
      rw [hn1, hn2] at HL
      refine Settle.region (fun W => PointOk.Box W (w.heap.size) ax ay ∧ PointOk.Box W (w.heap.size + 1) bx bY ∧ PtsAt W w.heap.size (some ad) ps ∧ PtAt W ad k cx cy ∧ PtAt W ad m1 dx dy ∧ W.ownsRow (w.heap.size + 2) 49 2 (.slice Ac mc cc) (mc) (cellsP (l0)) ∧ W.ownsRow (w.heap.size + 2) 49 2 (.slice Ab k cb) k (cellsP (bigTo ps k)) ∧ w.heap.size + 2 ≤ W.heap.size ∧ Below w.heap.size w W) (by kernel_rfl) (by kernel_rfl) (by kernel_rfl) (by kernel_rfl) (HO _ _ S0 ((Below.refl _ _).drew)) ?_
      clear S0
      repeat (first
        | (refine Settle.Settles.off (by rfl) ?_; simp only [Act.put, List.setIfInBounds_toArray, List.set_cons_zero, List.set_cons_succ])
        | (refine Settle.Settles.quiet (v := ?_) (by rfl) ?_ ?_
           rotate_left
           · (intro W hS; obtain ⟨⟨_, _⟩, ⟨_, _⟩, _, ⟨_, _⟩, ⟨_, _⟩, _, _, _, _⟩ := hS; go_simp; with_reducible rfl)
           simp only [Act.put, List.setIfInBounds_toArray, List.set_cons_zero, List.set_cons_succ])
        | (refine Settle.Settles.call (v := ?_) (f := ?_) (args := ?_) (by rfl) ?_ ?_ ?_
           rotate_left 3
           · (intro W; go_simp; refine ⟨?_, ?_⟩ <;> with_reducible rfl)
           · (intro W hS; first | (go_at_call 128; (with_reducible refine (QB.out _).mono ?_); rintro e W1 ⟨rfl, hb⟩; refine ⟨?_, HO _ _ hS hb⟩; with_reducible rfl))
           simp only [Act.put, List.setIfInBounds_toArray, List.set_cons_zero, List.set_cons_succ]))
      refine Settle.Settles.quiet (v := .bool n1) (by rfl) ?_ ?_
      · intro W hS
        obtain ⟨⟨_, _⟩, ⟨_, _⟩, _, ⟨_, _⟩, ⟨_, _⟩, _, _, _, _⟩ := hS
        rw [← hn1]
        by_cases f1 : cx = ax
        · by_cases f2 : cy = ay
          · subst f1 f2; go_simp
          · subst f1; go_simp
        · go_simp
      simp only [Act.put, List.setIfInBounds_toArray, List.set_cons_zero, List.set_cons_succ]
      clear hn1
      cases n1
      · skip
        have HL2 : Hid (cutsTo ps (ax, ay) (bx, bY) (k + 1) = l0) := Lib.hid (by rw [HL.out]; rfl)
        clear HL hn2
        repeat (first
          | (refine Settle.Settles.off (by rfl) ?_; simp only [Act.put, List.setIfInBounds_toArray, List.set_cons_zero, List.set_cons_succ])
          | (refine Settle.Settles.quiet (v := ?_) (by rfl) ?_ ?_
             rotate_left
             · (intro W hS; obtain ⟨⟨_, _⟩, ⟨_, _⟩, _, ⟨_, _⟩, ⟨_, _⟩, _, _, _, _⟩ := hS; go_simp; with_reducible rfl)
             simp only [Act.put, List.setIfInBounds_toArray, List.set_cons_zero, List.set_cons_succ])
          | (refine Settle.Settles.call (v := ?_) (f := ?_) (args := ?_) (by rfl) ?_ ?_ ?_
             rotate_left 3
             · (intro W; go_simp; refine ⟨?_, ?_⟩ <;> with_reducible rfl)
             · (intro W hS; first | (go_at_call 128; (with_reducible refine (QB.out _).mono ?_); rintro e W1 ⟨rfl, hb⟩; refine ⟨?_, HO _ _ hS hb⟩; with_reducible rfl))
             simp only [Act.put, List.setIfInBounds_toArray, List.set_cons_zero, List.set_cons_succ]))
        refine Settle.Settles.nil ?_
        intro wr S0
        obtain ⟨⟨_, _⟩, ⟨_, _⟩, _, ⟨_, _⟩, ⟨_, _⟩, _, _, _, _⟩ := id S0
        go_wp2_with fail
        refine (QD.out _).mono ?_
        rintro e wd ⟨rfl, hb_⟩
        replace S0 := HO _ _ S0 hb_
        clear hb_
        obtain ⟨⟨_, _⟩, ⟨_, _⟩, _, ⟨_, _⟩, ⟨_, _⟩, _, _, _, _⟩ := id S0
        have hB := S0.2.2.2.2.2.2.1
        have hsz := S0.2.2.2.2.2.2.2.1
        have hcb := S0.2.2.2.2.2.1
        clear QD HR hl
        go_wp2_with (at_builtin; refine wpList_append_lies _ rfl _ _ 35 rfl (w.heap.size + 2) 49 i0 (.agg #[.int .i64 0, .int .i64 0]) 2 16 Try.underlying35 hi hz0 hz1 hz2 rfl (by decide) _ _ _ rfl (hB.alloc _) ⟨wd.heap.size, 0, none⟩ 1 1 [.int .i64 (2 * cx), .int .i64 (2 * cy)] rfl rfl ?c1 ?c2 (by decide) ?c3 ?c4 ?c5 _ rfl ?_)
        case c1 => (intro a u ha; match a, ha with | 0, ha => (simp at ha; subst ha; simp [Addr.add]) | 1, ha => (simp at ha; subst ha; simp [Addr.add]))
        case c2 => (intro u hu; simp at hu; rcases hu with rfl | rfl <;> rfl)
        case c3 => (unfold maxLen; omega)
        case c4 => omega
        case c5 => (simp; omega)
        intro gB_ capB_ waB_ hoB_ hgB_ hgoB_ hltB_
        have HN : Hid (waB_.ownsRow (w.heap.size + 2) 49 2 (.slice (some ⟨gB_, 0, none⟩) (k + 1) capB_) (k + 1) (cellsP (bigTo ps (k + 1))) ∧ waB_.ownsRow (w.heap.size + 2) 49 2 (.slice Ac mc cc) (cutsTo ps (ax, ay) (bx, bY) (k + 1)).length (cellsP (cutsTo ps (ax, ay) (bx, bY) (k + 1))) ∧ Hid (∀ i j, (Value.ownBlock (.slice Ac mc cc)) = some i → (Value.slice (some ⟨gB_, 0, none⟩) (k + 1) capB_).ownBlock = some j → i ≠ j) ∧ w.heap.size + 2 ≤ waB_.heap.size ∧ (PointOk.Box waB_ (w.heap.size) ax ay ∧ PointOk.Box waB_ (w.heap.size + 1) bx bY ∧ PtsAt waB_ w.heap.size (some ad) ps ∧ Below w.heap.size w waB_)) := Lib.hid (by
          have hb0 : Below (w.heap.size + 2) wd (wd.alloc (Obj.cells #[.int .i64 (2 * cx), .int .i64 (2 * cy)] 49)) := (below1 _ _).mono hsz
          have hb1 := hb0.grown hgB_ (by simp; omega) (fun g hg => (hB.lt g hg).1)
          have hc2 := kept_apart (own_below hcb (below1 wd (Obj.cells #[.int .i64 (2 * cx), .int .i64 (2 * cy)] 49))) hgB_ hD.out
          refine ⟨by rw [HG.out, cellsP_app]; exact hoB_, by rw [HL2.out, hmc]; exact hc2, Lib.hid (fun i j h1 h2 => ?_), Nat.le_trans hsz hb1.size, HO2 _ _ ⟨S0.1, S0.2.1, S0.2.2.1, S0.2.2.2.2.2.2.2.2⟩ hb1⟩
          injection h2 with h2
          subst h2
          rcases hgoB_ with h | h
          · exact hD.out i _ h1 h
          · have := (hcb.lt i h1).2
            try simp at h
            show i ≠ gB_
            omega)
        clear hoB_ hgB_ hgoB_ hB hcb S0 hD hltB_ HG HL2
        go_wp2_with fail
        first
          | exact ⟨⟨k + 1, by omega, by go_num, hno2, HN.out.2.1, HN.out.1, HN.out.2.2.1, HN.out.2.2.2.1, HN.out.2.2.2.2⟩, by simp [intOf]; omega⟩
          | (go_roundw <;> first | exact ⟨k + 1, by omega, by go_num, hno2, HN.out.2.1, HN.out.1, HN.out.2.2.1, HN.out.2.2.2.1, HN.out.2.2.2.2⟩ | (simp [intOf]; omega))
      repeat (first
        | (refine Settle.Settles.off (by rfl) ?_; simp only [Act.put, List.setIfInBounds_toArray, List.set_cons_zero, List.set_cons_succ])
        | (refine Settle.Settles.quiet (v := ?_) (by rfl) ?_ ?_
           rotate_left
           · (intro W hS; obtain ⟨⟨_, _⟩, ⟨_, _⟩, _, ⟨_, _⟩, ⟨_, _⟩, _, _, _, _⟩ := hS; go_simp; with_reducible rfl)
           simp only [Act.put, List.setIfInBounds_toArray, List.set_cons_zero, List.set_cons_succ])
        | (refine Settle.Settles.call (v := ?_) (f := ?_) (args := ?_) (by rfl) ?_ ?_ ?_
           rotate_left 3
           · (intro W; go_simp; refine ⟨?_, ?_⟩ <;> with_reducible rfl)
           · (intro W hS; first | (go_at_call 128; (with_reducible refine (QB.out _).mono ?_); rintro e W1 ⟨rfl, hb⟩; refine ⟨?_, HO _ _ hS hb⟩; with_reducible rfl))
           simp only [Act.put, List.setIfInBounds_toArray, List.set_cons_zero, List.set_cons_succ]))
      refine Settle.Settles.quiet (v := .bool n2) (by rfl) ?_ ?_
      · intro W hS
        obtain ⟨⟨_, _⟩, ⟨_, _⟩, _, ⟨_, _⟩, ⟨_, _⟩, _, _, _, _⟩ := hS
        rw [← hn2]
        by_cases f1 : cx = bx
        · by_cases f2 : cy = bY
          · subst f1 f2; go_simp
          · subst f1; go_simp
        · go_simp
      simp only [Act.put, List.setIfInBounds_toArray, List.set_cons_zero, List.set_cons_succ]
      clear hn2
      cases n2
      · skip
        have HL2 : Hid (cutsTo ps (ax, ay) (bx, bY) (k + 1) = l0) := Lib.hid (by rw [HL.out]; rfl)
        clear HL
        repeat (first
          | (refine Settle.Settles.off (by rfl) ?_; simp only [Act.put, List.setIfInBounds_toArray, List.set_cons_zero, List.set_cons_succ])
          | (refine Settle.Settles.quiet (v := ?_) (by rfl) ?_ ?_
             rotate_left
             · (intro W hS; obtain ⟨⟨_, _⟩, ⟨_, _⟩, _, ⟨_, _⟩, ⟨_, _⟩, _, _, _, _⟩ := hS; go_simp; with_reducible rfl)
             simp only [Act.put, List.setIfInBounds_toArray, List.set_cons_zero, List.set_cons_succ])
          | (refine Settle.Settles.call (v := ?_) (f := ?_) (args := ?_) (by rfl) ?_ ?_ ?_
             rotate_left 3
             · (intro W; go_simp; refine ⟨?_, ?_⟩ <;> with_reducible rfl)
             · (intro W hS; first | (go_at_call 128; (with_reducible refine (QB.out _).mono ?_); rintro e W1 ⟨rfl, hb⟩; refine ⟨?_, HO _ _ hS hb⟩; with_reducible rfl))
             simp only [Act.put, List.setIfInBounds_toArray, List.set_cons_zero, List.set_cons_succ]))
        refine Settle.Settles.nil ?_
        intro wr S0
        obtain ⟨⟨_, _⟩, ⟨_, _⟩, _, ⟨_, _⟩, ⟨_, _⟩, _, _, _, _⟩ := id S0
        go_wp2_with fail
        refine (QD.out _).mono ?_
        rintro e wd ⟨rfl, hb_⟩
        replace S0 := HO _ _ S0 hb_
        clear hb_
        obtain ⟨⟨_, _⟩, ⟨_, _⟩, _, ⟨_, _⟩, ⟨_, _⟩, _, _, _, _⟩ := id S0
        have hB := S0.2.2.2.2.2.2.1
        have hsz := S0.2.2.2.2.2.2.2.1
        have hcb := S0.2.2.2.2.2.1
        clear QD HR hl
        go_wp2_with (at_builtin; refine wpList_append_lies _ rfl _ _ 35 rfl (w.heap.size + 2) 49 i0 (.agg #[.int .i64 0, .int .i64 0]) 2 16 Try.underlying35 hi hz0 hz1 hz2 rfl (by decide) _ _ _ rfl (hB.alloc _) ⟨wd.heap.size, 0, none⟩ 1 1 [.int .i64 (2 * cx), .int .i64 (2 * cy)] rfl rfl ?c1 ?c2 (by decide) ?c3 ?c4 ?c5 _ rfl ?_)
        case c1 => (intro a u ha; match a, ha with | 0, ha => (simp at ha; subst ha; simp [Addr.add]) | 1, ha => (simp at ha; subst ha; simp [Addr.add]))
        case c2 => (intro u hu; simp at hu; rcases hu with rfl | rfl <;> rfl)
        case c3 => (unfold maxLen; omega)
        case c4 => omega
        case c5 => (simp; omega)
        intro gB_ capB_ waB_ hoB_ hgB_ hgoB_ hltB_
        have HN : Hid (waB_.ownsRow (w.heap.size + 2) 49 2 (.slice (some ⟨gB_, 0, none⟩) (k + 1) capB_) (k + 1) (cellsP (bigTo ps (k + 1))) ∧ waB_.ownsRow (w.heap.size + 2) 49 2 (.slice Ac mc cc) (cutsTo ps (ax, ay) (bx, bY) (k + 1)).length (cellsP (cutsTo ps (ax, ay) (bx, bY) (k + 1))) ∧ Hid (∀ i j, (Value.ownBlock (.slice Ac mc cc)) = some i → (Value.slice (some ⟨gB_, 0, none⟩) (k + 1) capB_).ownBlock = some j → i ≠ j) ∧ w.heap.size + 2 ≤ waB_.heap.size ∧ (PointOk.Box waB_ (w.heap.size) ax ay ∧ PointOk.Box waB_ (w.heap.size + 1) bx bY ∧ PtsAt waB_ w.heap.size (some ad) ps ∧ Below w.heap.size w waB_)) := Lib.hid (by
          have hb0 : Below (w.heap.size + 2) wd (wd.alloc (Obj.cells #[.int .i64 (2 * cx), .int .i64 (2 * cy)] 49)) := (below1 _ _).mono hsz
          have hb1 := hb0.grown hgB_ (by simp; omega) (fun g hg => (hB.lt g hg).1)
          have hc2 := kept_apart (own_below hcb (below1 wd (Obj.cells #[.int .i64 (2 * cx), .int .i64 (2 * cy)] 49))) hgB_ hD.out
          refine ⟨by rw [HG.out, cellsP_app]; exact hoB_, by rw [HL2.out, hmc]; exact hc2, Lib.hid (fun i j h1 h2 => ?_), Nat.le_trans hsz hb1.size, HO2 _ _ ⟨S0.1, S0.2.1, S0.2.2.1, S0.2.2.2.2.2.2.2.2⟩ hb1⟩
          injection h2 with h2
          subst h2
          rcases hgoB_ with h | h
          · exact hD.out i _ h1 h
          · have := (hcb.lt i h1).2
            try simp at h
            show i ≠ gB_
            omega)
        clear hoB_ hgB_ hgoB_ hB hcb S0 hD hltB_ HG HL2
        go_wp2_with fail
        first
          | exact ⟨⟨k + 1, by omega, by go_num, hno2, HN.out.2.1, HN.out.1, HN.out.2.2.1, HN.out.2.2.2.1, HN.out.2.2.2.2⟩, by simp [intOf]; omega⟩
          | (go_roundw <;> first | exact ⟨k + 1, by omega, by go_num, hno2, HN.out.2.1, HN.out.1, HN.out.2.2.1, HN.out.2.2.2.1, HN.out.2.2.2.2⟩ | (simp [intOf]; omega))
      repeat (first
        | (refine Settle.Settles.off (by rfl) ?_; simp only [Act.put, List.setIfInBounds_toArray, List.set_cons_zero, List.set_cons_succ])
        | (refine Settle.Settles.quiet (v := ?_) (by rfl) ?_ ?_
           rotate_left
           · (intro W hS; obtain ⟨⟨_, _⟩, ⟨_, _⟩, _, ⟨_, _⟩, ⟨_, _⟩, _, _, _, _⟩ := hS; go_simp; with_reducible rfl)
           simp only [Act.put, List.setIfInBounds_toArray, List.set_cons_zero, List.set_cons_succ])
        | (refine Settle.Settles.call (v := ?_) (f := ?_) (args := ?_) (by rfl) ?_ ?_ ?_
           rotate_left 3
           · (intro W; go_simp; refine ⟨?_, ?_⟩ <;> with_reducible rfl)
           · (intro W hS; first | (go_at_call 128; (with_reducible refine (QB.out _).mono ?_); rintro e W1 ⟨rfl, hb⟩; refine ⟨?_, HO _ _ hS hb⟩; with_reducible rfl))
           simp only [Act.put, List.setIfInBounds_toArray, List.set_cons_zero, List.set_cons_succ]))
      refine Settle.Settles.nil ?_
      intro wr S0
      obtain ⟨⟨_, _⟩, ⟨_, _⟩, _, ⟨_, _⟩, ⟨_, _⟩, _, _, _, _⟩ := id S0
      cases bw
      · skip
        have HL2 : Hid (cutsTo ps (ax, ay) (bx, bY) (k + 1) = l0) := Lib.hid (by rw [HL.out]; rfl)
        clear HL
        go_wp2_with fail
        refine (QD.out _).mono ?_
        rintro e wd ⟨rfl, hb_⟩
        replace S0 := HO _ _ S0 hb_
        clear hb_
        obtain ⟨⟨_, _⟩, ⟨_, _⟩, _, ⟨_, _⟩, ⟨_, _⟩, _, _, _, _⟩ := id S0
        have hB := S0.2.2.2.2.2.2.1
        have hsz := S0.2.2.2.2.2.2.2.1
        have hcb := S0.2.2.2.2.2.1
        clear QD HR hl
        go_wp2_with (at_builtin; refine wpList_append_lies _ rfl _ _ 35 rfl (w.heap.size + 2) 49 i0 (.agg #[.int .i64 0, .int .i64 0]) 2 16 Try.underlying35 hi hz0 hz1 hz2 rfl (by decide) _ _ _ rfl (hB.alloc _) ⟨wd.heap.size, 0, none⟩ 1 1 [.int .i64 (2 * cx), .int .i64 (2 * cy)] rfl rfl ?c1 ?c2 (by decide) ?c3 ?c4 ?c5 _ rfl ?_)
        case c1 => (intro a u ha; match a, ha with | 0, ha => (simp at ha; subst ha; simp [Addr.add]) | 1, ha => (simp at ha; subst ha; simp [Addr.add]))
        case c2 => (intro u hu; simp at hu; rcases hu with rfl | rfl <;> rfl)
        case c3 => (unfold maxLen; omega)
        case c4 => omega
        case c5 => (simp; omega)
        intro gB_ capB_ waB_ hoB_ hgB_ hgoB_ hltB_
        have HN : Hid (waB_.ownsRow (w.heap.size + 2) 49 2 (.slice (some ⟨gB_, 0, none⟩) (k + 1) capB_) (k + 1) (cellsP (bigTo ps (k + 1))) ∧ waB_.ownsRow (w.heap.size + 2) 49 2 (.slice Ac mc cc) (cutsTo ps (ax, ay) (bx, bY) (k + 1)).length (cellsP (cutsTo ps (ax, ay) (bx, bY) (k + 1))) ∧ Hid (∀ i j, (Value.ownBlock (.slice Ac mc cc)) = some i → (Value.slice (some ⟨gB_, 0, none⟩) (k + 1) capB_).ownBlock = some j → i ≠ j) ∧ w.heap.size + 2 ≤ waB_.heap.size ∧ (PointOk.Box waB_ (w.heap.size) ax ay ∧ PointOk.Box waB_ (w.heap.size + 1) bx bY ∧ PtsAt waB_ w.heap.size (some ad) ps ∧ Below w.heap.size w waB_)) := Lib.hid (by
          have hb0 : Below (w.heap.size + 2) wd (wd.alloc (Obj.cells #[.int .i64 (2 * cx), .int .i64 (2 * cy)] 49)) := (below1 _ _).mono hsz
          have hb1 := hb0.grown hgB_ (by simp; omega) (fun g hg => (hB.lt g hg).1)
          have hc2 := kept_apart (own_below hcb (below1 wd (Obj.cells #[.int .i64 (2 * cx), .int .i64 (2 * cy)] 49))) hgB_ hD.out
          refine ⟨by rw [HG.out, cellsP_app]; exact hoB_, by rw [HL2.out, hmc]; exact hc2, Lib.hid (fun i j h1 h2 => ?_), Nat.le_trans hsz hb1.size, HO2 _ _ ⟨S0.1, S0.2.1, S0.2.2.1, S0.2.2.2.2.2.2.2.2⟩ hb1⟩
          injection h2 with h2
          subst h2
          rcases hgoB_ with h | h
          · exact hD.out i _ h1 h
          · have := (hcb.lt i h1).2
            try simp at h
            show i ≠ gB_
            omega)
        clear hoB_ hgB_ hgoB_ hB hcb S0 hD hltB_ HG HL2
        go_wp2_with fail
        first
          | exact ⟨⟨k + 1, by omega, by go_num, hno2, HN.out.2.1, HN.out.1, HN.out.2.2.1, HN.out.2.2.2.1, HN.out.2.2.2.2⟩, by simp [intOf]; omega⟩
          | (go_roundw <;> first | exact ⟨k + 1, by omega, by go_num, hno2, HN.out.2.1, HN.out.1, HN.out.2.2.1, HN.out.2.2.2.1, HN.out.2.2.2.2⟩ | (simp [intOf]; omega))
      have HL3 : Hid (cutsTo ps (ax, ay) (bx, bY) (k + 1) = l0 ++ [(cx, cy)]) := Lib.hid (by rw [HL.out]; rfl)
      clear HL
      have hCr := S0.2.2.2.2.2.1
      have hsz1 := S0.2.2.2.2.2.2.2.1
      have hBr := S0.2.2.2.2.2.2.1
      clear QB
      go_wp2_with (at_builtin; refine wpList_append_lies _ rfl _ _ 35 rfl (w.heap.size + 2) 49 i0 (.agg #[.int .i64 0, .int .i64 0]) 2 16 Try.underlying35 hi hz0 hz1 hz2 rfl (by decide) _ _ _ rfl (hCr.alloc _) ⟨wr.heap.size, 0, none⟩ 1 1 [.int .i64 cx, .int .i64 cy] rfl rfl ?c1 ?c2 (by decide) ?c3 ?c4 ?c5 _ rfl ?_)
      case c1 => (intro a u ha; match a, ha with | 0, ha => (simp at ha; subst ha; simp [Addr.add]) | 1, ha => (simp at ha; subst ha; simp [Addr.add]))
      case c2 => (intro u hu; simp at hu; rcases hu with rfl | rfl <;> rfl)
      case c3 => (unfold maxLen; omega)
      case c4 => omega
      case c5 => (simp; omega)
      intro gC_ capC_ waC_ hoC_ hgC_ hgoC_ hltC_
      have HO : ∀ W W' : World, (PointOk.Box W (w.heap.size) ax ay ∧ PointOk.Box W (w.heap.size + 1) bx bY ∧ PtsAt W w.heap.size (some ad) ps ∧ PtAt W ad k cx cy ∧ PtAt W ad m1 dx dy ∧ W.ownsRow (w.heap.size + 2) 49 2 (.slice (some ⟨gC_, 0, none⟩) (mc + 1) capC_) (mc + 1) (cellsP (l0 ++ [(cx, cy)])) ∧ W.ownsRow (w.heap.size + 2) 49 2 (.slice Ab k cb) k (cellsP (bigTo ps k)) ∧ w.heap.size + 2 ≤ W.heap.size ∧ Below w.heap.size w W) → Below W.heap.size W W' → (PointOk.Box W' (w.heap.size) ax ay ∧ PointOk.Box W' (w.heap.size + 1) bx bY ∧ PtsAt W' w.heap.size (some ad) ps ∧ PtAt W' ad k cx cy ∧ PtAt W' ad m1 dx dy ∧ W'.ownsRow (w.heap.size + 2) 49 2 (.slice (some ⟨gC_, 0, none⟩) (mc + 1) capC_) (mc + 1) (cellsP (l0 ++ [(cx, cy)])) ∧ W'.ownsRow (w.heap.size + 2) 49 2 (.slice Ab k cb) k (cellsP (bigTo ps k)) ∧ w.heap.size + 2 ≤ W'.heap.size ∧ Below w.heap.size w W') := fun W W' ⟨h0, h1, x0, x1, x2, x3, x4, x5, hb⟩ h => ⟨h0.later h, h1.later h, x0.later (h.mono hb.size), x1.later bA (h.mono hb.size), x2.later bA (h.mono hb.size), own_below x3 h, own_below x4 h, Nat.le_trans x5 h.size, hb.trans (h.mono hb.size)⟩
      have HN2 : Hid ((PointOk.Box waC_ (w.heap.size) ax ay ∧ PointOk.Box waC_ (w.heap.size + 1) bx bY ∧ PtsAt waC_ w.heap.size (some ad) ps ∧ PtAt waC_ ad k cx cy ∧ PtAt waC_ ad m1 dx dy ∧ waC_.ownsRow (w.heap.size + 2) 49 2 (.slice (some ⟨gC_, 0, none⟩) (mc + 1) capC_) (mc + 1) (cellsP (l0 ++ [(cx, cy)])) ∧ waC_.ownsRow (w.heap.size + 2) 49 2 (.slice Ab k cb) k (cellsP (bigTo ps k)) ∧ w.heap.size + 2 ≤ waC_.heap.size ∧ Below w.heap.size w waC_) ∧ Hid (∀ i j, (Value.slice (some ⟨gC_, 0, none⟩) (mc + 1) capC_).ownBlock = some i → (Value.slice Ab k cb).ownBlock = some j → i ≠ j)) := Lib.hid (by
        have hb0 : Below (w.heap.size + 2) wr (wr.alloc (Obj.cells #[.int .i64 cx, .int .i64 cy] 49)) := (below1 _ _).mono hsz1
        have hb1 := hb0.grown hgC_ (by simp; omega) (fun g hg => (hCr.lt g hg).1)
        have hb2 := kept_apart (own_below hBr (below1 wr (Obj.cells #[.int .i64 cx, .int .i64 cy] 49))) hgC_ (fun i j h1 h2 => (hD.out j i h2 h1).symm)
        have q := HO2 _ _ ⟨S0.1, S0.2.1, S0.2.2.1, S0.2.2.2.2.2.2.2.2⟩ hb1
        refine ⟨⟨q.1, q.2.1, q.2.2.1, S0.2.2.2.1.later (by omega) hb1, S0.2.2.2.2.1.later (by omega) hb1, by rw [cellsP_app]; exact hoC_, hb2, Nat.le_trans hsz1 hb1.size, q.2.2.2⟩, Lib.hid (fun i j h1 h2 => ?_)⟩
        injection h1 with h1
        subst h1
        rcases hgoC_ with h | h
        · exact hD.out _ j h h2
        · have := (hBr.lt j h2).2
          try simp at h
          show gC_ ≠ j
          omega)
      replace S0 : PointOk.Box waC_ (w.heap.size) ax ay ∧ PointOk.Box waC_ (w.heap.size + 1) bx bY ∧ PtsAt waC_ w.heap.size (some ad) ps ∧ PtAt waC_ ad k cx cy ∧ PtAt waC_ ad m1 dx dy ∧ waC_.ownsRow (w.heap.size + 2) 49 2 (.slice (some ⟨gC_, 0, none⟩) (mc + 1) capC_) (mc + 1) (cellsP (l0 ++ [(cx, cy)])) ∧ waC_.ownsRow (w.heap.size + 2) 49 2 (.slice Ab k cb) k (cellsP (bigTo ps k)) ∧ w.heap.size + 2 ≤ waC_.heap.size ∧ Below w.heap.size w waC_ := HN2.out.1
      have hD := HN2.out.2
      replace hmc : (l0 ++ [(cx, cy)]).length = mc + 1 := by simp [hmc]
      clear hoC_ hgC_ hgoC_ hCr hBr hltC_ HN2 hsz1
      obtain ⟨⟨_, _⟩, ⟨_, _⟩, _, ⟨_, _⟩, ⟨_, _⟩, _, _, _, _⟩ := id S0
      have HL2 := HL3
      go_wp2_with fail
      refine (QD.out _).mono ?_
      rintro e wd ⟨rfl, hb_⟩
      replace S0 := HO _ _ S0 hb_
      clear hb_
      obtain ⟨⟨_, _⟩, ⟨_, _⟩, _, ⟨_, _⟩, ⟨_, _⟩, _, _, _, _⟩ := id S0
      have hB := S0.2.2.2.2.2.2.1
      have hsz := S0.2.2.2.2.2.2.2.1
      have hcb := S0.2.2.2.2.2.1
      clear QD HR hl
      go_wp2_with (at_builtin; refine wpList_append_lies _ rfl _ _ 35 rfl (w.heap.size + 2) 49 i0 (.agg #[.int .i64 0, .int .i64 0]) 2 16 Try.underlying35 hi hz0 hz1 hz2 rfl (by decide) _ _ _ rfl (hB.alloc _) ⟨wd.heap.size, 0, none⟩ 1 1 [.int .i64 (2 * cx), .int .i64 (2 * cy)] rfl rfl ?c1 ?c2 (by decide) ?c3 ?c4 ?c5 _ rfl ?_)
      case c1 => (intro a u ha; match a, ha with | 0, ha => (simp at ha; subst ha; simp [Addr.add]) | 1, ha => (simp at ha; subst ha; simp [Addr.add]))
      case c2 => (intro u hu; simp at hu; rcases hu with rfl | rfl <;> rfl)
      case c3 => (unfold maxLen; omega)
      case c4 => omega
      case c5 => (simp; omega)
      intro gB_ capB_ waB_ hoB_ hgB_ hgoB_ hltB_
      have HN : Hid (waB_.ownsRow (w.heap.size + 2) 49 2 (.slice (some ⟨gB_, 0, none⟩) (k + 1) capB_) (k + 1) (cellsP (bigTo ps (k + 1))) ∧ waB_.ownsRow (w.heap.size + 2) 49 2 (.slice (some ⟨gC_, 0, none⟩) (mc + 1) capC_) (cutsTo ps (ax, ay) (bx, bY) (k + 1)).length (cellsP (cutsTo ps (ax, ay) (bx, bY) (k + 1))) ∧ Hid (∀ i j, (Value.ownBlock (.slice (some ⟨gC_, 0, none⟩) (mc + 1) capC_)) = some i → (Value.slice (some ⟨gB_, 0, none⟩) (k + 1) capB_).ownBlock = some j → i ≠ j) ∧ w.heap.size + 2 ≤ waB_.heap.size ∧ (PointOk.Box waB_ (w.heap.size) ax ay ∧ PointOk.Box waB_ (w.heap.size + 1) bx bY ∧ PtsAt waB_ w.heap.size (some ad) ps ∧ Below w.heap.size w waB_)) := Lib.hid (by
        have hb0 : Below (w.heap.size + 2) wd (wd.alloc (Obj.cells #[.int .i64 (2 * cx), .int .i64 (2 * cy)] 49)) := (below1 _ _).mono hsz
        have hb1 := hb0.grown hgB_ (by simp; omega) (fun g hg => (hB.lt g hg).1)
        have hc2 := kept_apart (own_below hcb (below1 wd (Obj.cells #[.int .i64 (2 * cx), .int .i64 (2 * cy)] 49))) hgB_ hD.out
        refine ⟨by rw [HG.out, cellsP_app]; exact hoB_, by rw [HL2.out, hmc]; exact hc2, Lib.hid (fun i j h1 h2 => ?_), Nat.le_trans hsz hb1.size, HO2 _ _ ⟨S0.1, S0.2.1, S0.2.2.1, S0.2.2.2.2.2.2.2.2⟩ hb1⟩
        injection h2 with h2
        subst h2
        rcases hgoB_ with h | h
        · exact hD.out i _ h1 h
        · have := (hcb.lt i h1).2
          try simp at h
          show i ≠ gB_
          omega)
      clear hoB_ hgB_ hgoB_ hB hcb S0 hD hltB_ HG HL2
      go_wp2_with fail
      first
        | exact ⟨⟨k + 1, by omega, by go_num, hno2, HN.out.2.1, HN.out.1, HN.out.2.2.1, HN.out.2.2.2.1, HN.out.2.2.2.2⟩, by simp [intOf]; omega⟩
        | (go_roundw <;> first | exact ⟨k + 1, by omega, by go_num, hno2, HN.out.2.1, HN.out.1, HN.out.2.2.1, HN.out.2.2.2.1, HN.out.2.2.2.2⟩ | (simp [intOf]; omega))

    obtain rfl : n = k := by omega
    have HE : Hid (pairsB ps (cutsTo ps (ax, ay) (bx, bY) n) = r) := Lib.hid (by rw [← HR.out, sees_free (cs := ps) (by rw [hl]; exact hno.out), hl])
    have hcu : Hid (∀ j, j < (cutsTo ps (ax, ay) (bx, bY) n).length → okP (pt (cutsTo ps (ax, ay) (bx, bY) n) j).1 (pt (cutsTo ps (ax, ay) (bx, bY) n) j).2 = true) := Lib.hid (fun j hj => cuts_ok hok.out pa pb (by omega) hj)
    have hbs := Lib.hid (dbl_small hok.out)
    have hbl := dblL_len ps
    rw [hl] at hbl
    rw [bigTo_all hl] at HB
    generalize cutsTo ps (ax, ay) (bx, bY) n = C at *
    obtain ⟨m, hm⟩ : ∃ m, C.length = m := ⟨_, rfl⟩
    rw [hm] at HC hcl hcu
    obtain ⟨ad, eA, bA, _⟩ := (pts_own HC).get (pt_at (ps := C) (k := 0) (by omega))
    subst eA
    obtain ⟨Z, hZ⟩ : ∃ Z, wr.heap.size = Z := ⟨_, rfl⟩
    have P1 := pts_own HC
    have P2 := pts_own HB
    rw [hZ] at P1 P2 bA
    have HO : ∀ W W' : World, (PointOk.Box W (w.heap.size) ax ay ∧ PointOk.Box W (w.heap.size + 1) bx bY ∧ PtsAt W Z (some ad) C ∧ PtsAt W Z Ab (dblL ps) ∧ Z ≤ W.heap.size ∧ Below w.heap.size w W) → Below W.heap.size W W' → (PointOk.Box W' (w.heap.size) ax ay ∧ PointOk.Box W' (w.heap.size + 1) bx bY ∧ PtsAt W' Z (some ad) C ∧ PtsAt W' Z Ab (dblL ps) ∧ Z ≤ W'.heap.size ∧ Below w.heap.size w W') := fun W W' ⟨h0, h1, x0, x1, x2, hb⟩ h => ⟨h0.later h, h1.later h, x0.later (h.mono x2), x1.later (h.mono x2), Nat.le_trans x2 h.size, hb.trans (h.mono hb.size)⟩
    replace S0 : PointOk.Box wr (w.heap.size) ax ay ∧ PointOk.Box wr (w.heap.size + 1) bx bY ∧ PtsAt wr Z (some ad) C ∧ PtsAt wr Z Ab (dblL ps) ∧ Z ≤ wr.heap.size ∧ Below w.heap.size w wr := ⟨S0.1, S0.2.1, P1, P2, Nat.le_of_eq hZ.symm, S0.2.2.2⟩
    clear P1 P2 HC HB hZ hsz hD hno HR HO2 hlt hp
    obtain ⟨⟨_, _⟩, ⟨_, _⟩, _, _, _, _⟩ := id S0
    try rw [hm]
    go_wp2_with fail
    go_loopw [11] (fun q wr => ∃ i : Nat, i ≤ m ∧ q = .int .i64 i ∧ Hid (∀ i', i' < i → ∀ k, k < i' → pairB ps C i' k = true) ∧ (PointOk.Box wr (w.heap.size) ax ay ∧ PointOk.Box wr (w.heap.size + 1) bx bY ∧ PtsAt wr Z (some ad) C ∧ PtsAt wr Z Ab (dblL ps) ∧ Z ≤ wr.heap.size ∧ Below w.heap.size w wr))
      (fun q _ => m - (intOf q).toNat)
    case atStart => exact ⟨0, Nat.zero_le _, rfl, Lib.hid (fun _ h => absurd h (by omega)), S0⟩
    case round =>
      clear S0
      obtain ⟨i, him, rfl, hpr, S0⟩ := hrel
      obtain ⟨⟨_, _⟩, ⟨_, _⟩, _, _, _, _⟩ := id S0
      by_cases hlt2 : i < m
      · have hi1 : (i : Int) < (m : Int) := by omega
        have hi0 : (0 : Int) ≤ (i : Int) := by omega
        go_wp2_with fail
        go_loopw [12] (fun q wr => ∃ k : Nat, k ≤ i ∧ q = .int .i64 k ∧ Hid (∀ k', k' < k → pairB ps C i k' = true) ∧ (PointOk.Box wr (w.heap.size) ax ay ∧ PointOk.Box wr (w.heap.size + 1) bx bY ∧ PtsAt wr Z (some ad) C ∧ PtsAt wr Z Ab (dblL ps) ∧ Z ≤ wr.heap.size ∧ Below w.heap.size w wr))
          (fun q _ => i - (intOf q).toNat)
        case atStart => exact ⟨0, Nat.zero_le _, rfl, Lib.hid (fun _ h => absurd h (by omega)), S0⟩
        case round =>
          clear S0
          obtain ⟨k, hki, rfl, hpk, S0⟩ := hrel
          obtain ⟨⟨_, _⟩, ⟨_, _⟩, _, _, _, _⟩ := id S0
          by_cases hlt3 : k < i
          · have hk1 : (k : Int) < (i : Int) := by omega
            have hk0 : (0 : Int) ≤ (k : Int) := by omega
            have hkm : (k : Int) < (m : Int) := by omega
            go_wp2_with fail
            go_loopw [13, 14] (fun f q wr => ∃ j : Nat, j ≤ m ∧ q = .int .i64 j ∧ f = .bool (freeTo C i k j) ∧ (PointOk.Box wr (w.heap.size) ax ay ∧ PointOk.Box wr (w.heap.size + 1) bx bY ∧ PtsAt wr Z (some ad) C ∧ PtsAt wr Z Ab (dblL ps) ∧ Z ≤ wr.heap.size ∧ Below w.heap.size w wr))
              (fun _ q _ => m - (intOf q).toNat)
            case atStart => exact ⟨0, Nat.zero_le _, rfl, rfl, S0⟩
            case round =>
              clear S0
              obtain ⟨j, hjm, rfl, rfl, S0⟩ := hrel
              obtain ⟨⟨_, _⟩, ⟨_, _⟩, _, _, _, _⟩ := id S0
              by_cases hlt4 : j < m
              · have hj1 : (j : Int) < (m : Int) := by omega
                have hj0 : (0 : Int) ≤ (j : Int) := by omega
                have HF : Hid (freeTo C i k (j + 1) = (freeTo C i k j && (decide (j = i) || decide (j = k) || !btwP (pt C j) (pt C i) (pt C k)))) := Lib.hid rfl
                generalize freeTo C i k j = f at *
                cases f
                · have HF2 : Hid (freeTo C i k (j + 1) = false) := Lib.hid (by rw [HF.out]; rfl)
                  clear HF hcu HE hpr hpk
                  go_wp2_with fail
                  refine Settle.region (fun W => PointOk.Box W (w.heap.size) ax ay ∧ PointOk.Box W (w.heap.size + 1) bx bY ∧ PtsAt W Z (some ad) C ∧ PtsAt W Z Ab (dblL ps) ∧ Z ≤ W.heap.size ∧ Below w.heap.size w W) (by kernel_rfl) (by kernel_rfl) (by kernel_rfl) (by kernel_rfl) (HO _ _ S0 ((Below.refl _ _).drew)) ?_
                  clear S0
                  repeat (first
                    | (refine Settle.Settles.off (by rfl) ?_; simp only [Act.put, List.setIfInBounds_toArray, List.set_cons_zero, List.set_cons_succ])
                    | (refine Settle.Settles.quiet (v := ?_) (by rfl) ?_ ?_
                       rotate_left
                       · (intro W hS; obtain ⟨⟨_, _⟩, ⟨_, _⟩, _, _, _, _⟩ := hS; go_simp; with_reducible rfl)
                       simp only [Act.put, List.setIfInBounds_toArray, List.set_cons_zero, List.set_cons_succ])
                    | (refine Settle.Settles.call (v := ?_) (f := ?_) (args := ?_) (by rfl) ?_ ?_ ?_
                       rotate_left 3
                       · (intro W; go_simp; refine ⟨?_, ?_⟩ <;> with_reducible rfl)
                       · (intro W hS; fail)
                       simp only [Act.put, List.setIfInBounds_toArray, List.set_cons_zero, List.set_cons_succ]))
                  refine Settle.Settles.nil ?_
                  intro wr S0
                  obtain ⟨⟨_, _⟩, ⟨_, _⟩, _, _, _, _⟩ := id S0
                  go_wp2_with fail
                  first
                    | exact ⟨⟨j + 1, by omega, by go_num, by rw [HF2.out], S0⟩, by simp [intOf]; omega⟩
                    | (go_roundw <;> first | exact ⟨j + 1, by omega, by go_num, by rw [HF2.out], S0⟩ | (simp [intOf]; omega))
                by_cases hji : j = i
                · subst hji
                  have HF2 : Hid (freeTo C j k (j + 1) = true) := Lib.hid (by rw [HF.out]; simp)
                  clear HF hcu HE hpr hpk
                  go_wp2_with fail
                  refine Settle.region (fun W => PointOk.Box W (w.heap.size) ax ay ∧ PointOk.Box W (w.heap.size + 1) bx bY ∧ PtsAt W Z (some ad) C ∧ PtsAt W Z Ab (dblL ps) ∧ Z ≤ W.heap.size ∧ Below w.heap.size w W) (by kernel_rfl) (by kernel_rfl) (by kernel_rfl) (by kernel_rfl) (HO _ _ S0 ((Below.refl _ _).drew)) ?_
                  clear S0
                  repeat (first
                    | (refine Settle.Settles.off (by rfl) ?_; simp only [Act.put, List.setIfInBounds_toArray, List.set_cons_zero, List.set_cons_succ])
                    | (refine Settle.Settles.quiet (v := ?_) (by rfl) ?_ ?_
                       rotate_left
                       · (intro W hS; obtain ⟨⟨_, _⟩, ⟨_, _⟩, _, _, _, _⟩ := hS; go_simp; with_reducible rfl)
                       simp only [Act.put, List.setIfInBounds_toArray, List.set_cons_zero, List.set_cons_succ])
                    | (refine Settle.Settles.call (v := ?_) (f := ?_) (args := ?_) (by rfl) ?_ ?_ ?_
                       rotate_left 3
                       · (intro W; go_simp; refine ⟨?_, ?_⟩ <;> with_reducible rfl)
                       · (intro W hS; fail)
                       simp only [Act.put, List.setIfInBounds_toArray, List.set_cons_zero, List.set_cons_succ]))
                  refine Settle.Settles.nil ?_
                  intro wr S0
                  obtain ⟨⟨_, _⟩, ⟨_, _⟩, _, _, _, _⟩ := id S0
                  go_wp2_with fail
                  first
                    | exact ⟨⟨j + 1, by omega, by go_num, by rw [HF2.out], S0⟩, by simp [intOf]; omega⟩
                    | (go_roundw <;> first | exact ⟨j + 1, by omega, by go_num, by rw [HF2.out], S0⟩ | (simp [intOf]; omega))
                have hji2 : ((j : Int) == (i : Int)) = false := beq_eq_false_iff_ne.2 (by omega)
                have hji3 : ¬ (j : Int) = (i : Int) := by omega
                by_cases hjk : j = k
                · subst hjk
                  have HF2 : Hid (freeTo C i j (j + 1) = true) := Lib.hid (by rw [HF.out]; simp)
                  clear HF hcu HE hpr hpk
                  go_wp2_with fail
                  refine Settle.region (fun W => PointOk.Box W (w.heap.size) ax ay ∧ PointOk.Box W (w.heap.size + 1) bx bY ∧ PtsAt W Z (some ad) C ∧ PtsAt W Z Ab (dblL ps) ∧ Z ≤ W.heap.size ∧ Below w.heap.size w W) (by kernel_rfl) (by kernel_rfl) (by kernel_rfl) (by kernel_rfl) (HO _ _ S0 ((Below.refl _ _).drew)) ?_
                  clear S0
                  repeat (first
                    | (refine Settle.Settles.off (by rfl) ?_; simp only [Act.put, List.setIfInBounds_toArray, List.set_cons_zero, List.set_cons_succ])
                    | (refine Settle.Settles.quiet (v := ?_) (by rfl) ?_ ?_
                       rotate_left
                       · (intro W hS; obtain ⟨⟨_, _⟩, ⟨_, _⟩, _, _, _, _⟩ := hS; go_simp; with_reducible rfl)
                       simp only [Act.put, List.setIfInBounds_toArray, List.set_cons_zero, List.set_cons_succ])
                    | (refine Settle.Settles.call (v := ?_) (f := ?_) (args := ?_) (by rfl) ?_ ?_ ?_
                       rotate_left 3
                       · (intro W; go_simp; refine ⟨?_, ?_⟩ <;> with_reducible rfl)
                       · (intro W hS; fail)
                       simp only [Act.put, List.setIfInBounds_toArray, List.set_cons_zero, List.set_cons_succ]))
                  refine Settle.Settles.nil ?_
                  intro wr S0
                  obtain ⟨⟨_, _⟩, ⟨_, _⟩, _, _, _, _⟩ := id S0
                  go_wp2_with fail
                  first
                    | exact ⟨⟨j + 1, by omega, by go_num, by rw [HF2.out], S0⟩, by simp [intOf]; omega⟩
                    | (go_roundw <;> first | exact ⟨j + 1, by omega, by go_num, by rw [HF2.out], S0⟩ | (simp [intOf]; omega))
                have hjk2 : ((j : Int) == (k : Int)) = false := beq_eq_false_iff_ne.2 (by omega)
                have hjk3 : ¬ (j : Int) = (k : Int) := by omega
                have pj := pt_at (ps := C) (k := j) (by omega)
                have oj := hcu.out j (by omega)
                obtain ⟨jx, jy, hj⟩ : ∃ x y, pt C j = (x, y) := ⟨_, _, rfl⟩
                rw [hj] at pj oj
                obtain ⟨ad2, eA2, _, Pj⟩ := S0.2.2.1.get pj
                injection eA2 with eA2
                subst eA2
                have pi_ := pt_at (ps := C) (k := i) (by omega)
                have oi_ := hcu.out i (by omega)
                obtain ⟨ix, iy, hi_⟩ : ∃ x y, pt C i = (x, y) := ⟨_, _, rfl⟩
                rw [hi_] at pi_ oi_
                obtain ⟨ad2, eA2, _, Pi_⟩ := S0.2.2.1.get pi_
                injection eA2 with eA2
                subst eA2
                have pk := pt_at (ps := C) (k := k) (by omega)
                have ok := hcu.out k (by omega)
                obtain ⟨kx, ky, hk⟩ : ∃ x y, pt C k = (x, y) := ⟨_, _, rfl⟩
                rw [hk] at pk ok
                obtain ⟨ad2, eA2, _, Pk⟩ := S0.2.2.1.get pk
                injection eA2 with eA2
                subst eA2
                rw [hj, hi_, hk] at HF
                have QB : Hid (∀ w, _) := Lib.hid fun w => PointSpec.l02Between jx jy ix iy kx ky (okP_sm oj) (okP_sm oi_) (okP_sm ok) w
                obtain ⟨bw, hbw⟩ : ∃ c, btwB jx jy ix iy kx ky = c := ⟨_, rfl⟩
                have e6 : (decide (turnI ix iy kx ky jx jy = 0) && midB jx ix kx && midB jy iy ky) = bw := hbw
                rw [e6] at QB
                have HF2 : Hid (freeTo C i k (j + 1) = !bw) := Lib.hid (by rw [HF.out, ← hbw, decide_eq_false hji, decide_eq_false hjk]; rfl)
                clear HF hbw e6 hcu HE hpr hpk pj pi_ pk oj oi_ ok hj hi_ hk
                have HO : ∀ W W' : World, (PointOk.Box W (w.heap.size) ax ay ∧ PointOk.Box W (w.heap.size + 1) bx bY ∧ PtsAt W Z (some ad) C ∧ PtsAt W Z Ab (dblL ps) ∧ Z ≤ W.heap.size ∧ PtAt W ad j jx jy ∧ PtAt W ad i ix iy ∧ PtAt W ad k kx ky ∧ Below w.heap.size w W) → Below W.heap.size W W' → (PointOk.Box W' (w.heap.size) ax ay ∧ PointOk.Box W' (w.heap.size + 1) bx bY ∧ PtsAt W' Z (some ad) C ∧ PtsAt W' Z Ab (dblL ps) ∧ Z ≤ W'.heap.size ∧ PtAt W' ad j jx jy ∧ PtAt W' ad i ix iy ∧ PtAt W' ad k kx ky ∧ Below w.heap.size w W') := fun W W' ⟨h0, h1, x0, x1, x2, x3, x4, x5, hb⟩ h => ⟨h0.later h, h1.later h, x0.later (h.mono x2), x1.later (h.mono x2), Nat.le_trans x2 h.size, x3.later bA (h.mono x2), x4.later bA (h.mono x2), x5.later bA (h.mono x2), hb.trans (h.mono hb.size)⟩
                replace S0 : PointOk.Box wr (w.heap.size) ax ay ∧ PointOk.Box wr (w.heap.size + 1) bx bY ∧ PtsAt wr Z (some ad) C ∧ PtsAt wr Z Ab (dblL ps) ∧ Z ≤ wr.heap.size ∧ PtAt wr ad j jx jy ∧ PtAt wr ad i ix iy ∧ PtAt wr ad k kx ky ∧ Below w.heap.size w wr := ⟨S0.1, S0.2.1, S0.2.2.1, S0.2.2.2.1, S0.2.2.2.2.1, Pj, Pi_, Pk, S0.2.2.2.2.2⟩
                clear Pj Pi_ Pk
                obtain ⟨⟨_, _⟩, ⟨_, _⟩, _, _, _, ⟨_, _⟩, ⟨_, _⟩, ⟨_, _⟩, _⟩ := id S0
                go_wp2_with fail
                refine Settle.region (fun W => PointOk.Box W (w.heap.size) ax ay ∧ PointOk.Box W (w.heap.size + 1) bx bY ∧ PtsAt W Z (some ad) C ∧ PtsAt W Z Ab (dblL ps) ∧ Z ≤ W.heap.size ∧ PtAt W ad j jx jy ∧ PtAt W ad i ix iy ∧ PtAt W ad k kx ky ∧ Below w.heap.size w W) (by kernel_rfl) (by kernel_rfl) (by kernel_rfl) (by kernel_rfl) (HO _ _ S0 ((Below.refl _ _).drew)) ?_
                clear S0
                repeat (first
                  | (refine Settle.Settles.off (by rfl) ?_; simp only [Act.put, List.setIfInBounds_toArray, List.set_cons_zero, List.set_cons_succ])
                  | (refine Settle.Settles.quiet (v := ?_) (by rfl) ?_ ?_
                     rotate_left
                     · (intro W hS; obtain ⟨⟨_, _⟩, ⟨_, _⟩, _, _, _, ⟨_, _⟩, ⟨_, _⟩, ⟨_, _⟩, _⟩ := hS; go_simp; with_reducible rfl)
                     simp only [Act.put, List.setIfInBounds_toArray, List.set_cons_zero, List.set_cons_succ])
                  | (refine Settle.Settles.call (v := ?_) (f := ?_) (args := ?_) (by rfl) ?_ ?_ ?_
                     rotate_left 3
                     · (intro W; go_simp; refine ⟨?_, ?_⟩ <;> with_reducible rfl)
                     · (intro W hS; first | (go_at_call 128; (with_reducible refine (QB.out _).mono ?_); rintro e W1 ⟨rfl, hb⟩; refine ⟨?_, HO _ _ hS hb⟩; with_reducible rfl))
                     simp only [Act.put, List.setIfInBounds_toArray, List.set_cons_zero, List.set_cons_succ]))
                refine Settle.Settles.nil ?_
                intro wr S0
                obtain ⟨⟨_, _⟩, ⟨_, _⟩, _, _, _, ⟨_, _⟩, ⟨_, _⟩, ⟨_, _⟩, _⟩ := id S0
                go_wp2_with fail
                first
                  | exact ⟨⟨j + 1, by omega, by go_num, by rw [HF2.out], S0.1, S0.2.1, S0.2.2.1, S0.2.2.2.1, S0.2.2.2.2.1, S0.2.2.2.2.2.2.2.2⟩, by simp [intOf]; omega⟩
                  | (go_roundw <;> first | exact ⟨j + 1, by omega, by go_num, by rw [HF2.out], S0.1, S0.2.1, S0.2.2.1, S0.2.2.2.1, S0.2.2.2.2.1, S0.2.2.2.2.2.2.2.2⟩ | (simp [intOf]; omega))
              · obtain rfl : m = j := by omega
                have hFB : freeTo C i k m = freeB C i k := by rw [← hm]; exact freeTo_B C i k
                obtain ⟨fb, hfb⟩ : ∃ b, freeB C i k = b := ⟨_, rfl⟩
                rw [hFB, hfb]
                replace hfb := Lib.hid hfb
                clear hFB
                have pi_ := pt_at (ps := C) (k := i) (by omega)
                have oi_ := hcu.out i (by omega)
                obtain ⟨ix, iy, hi_⟩ : ∃ x y, pt C i = (x, y) := ⟨_, _, rfl⟩
                rw [hi_] at pi_ oi_
                obtain ⟨ad2, eA2, _, Pi_⟩ := S0.2.2.1.get pi_
                injection eA2 with eA2
                subst eA2
                have pk_ := pt_at (ps := C) (k := k) (by omega)
                have ok_ := hcu.out k (by omega)
                obtain ⟨kx, ky, hk_⟩ : ∃ x y, pt C k = (x, y) := ⟨_, _, rfl⟩
                rw [hk_] at pk_ ok_
                obtain ⟨ad2, eA2, _, Pk_⟩ := S0.2.2.1.get pk_
                injection eA2 with eA2
                subst eA2
                have qi := okP_yes oi_
                have qk := okP_yes ok_
                obtain ⟨mx, hmx⟩ : ∃ x, ix + kx = x := ⟨_, rfl⟩
                obtain ⟨my, hmy⟩ : ∃ x, iy + ky = x := ⟨_, rfl⟩
                have u1 : IntKind.i64.wrap (ix + kx) = mx := by rw [hmx]; exact IntWalk.i64_in _ (by omega)
                have u2 : IntKind.i64.wrap (iy + ky) = my := by rw [hmy]; exact IntWalk.i64_in _ (by omega)
                have HPB : Hid (fb = true → pairB ps C i k = decide (placeM (dblL ps) (mx, my) ≠ 0)) := Lib.hid (fun h => by rw [pair_free (by rw [hfb.out]; exact h), hi_, hk_, ← hmx, ← hmy]; rfl)
                have HPO : Hid (fb = false → pairB ps C i k = true) := Lib.hid (fun h => pair_off (by rw [hfb.out]; exact h))
                have sp : smP mx my := by unfold smP; omega
                have QH : Hid (∀ w hp, _) := Lib.hid fun w hp => PlaceSpec.holds Ab n cb mx my w (dblL ps) hbl (by omega) hbs.out sp hp
                have hq3 := placeM_cases (dblL ps) (mx, my)
                generalize placeM (dblL ps) (mx, my) = q at *
                obtain ⟨u, hu⟩ : ∃ u, q - 1 = u := ⟨_, rfl⟩
                rw [hu] at QH
                have HPR : Hid (pairB ps C i k = true → ∀ k', k' < k + 1 → pairB ps C i k' = true) := Lib.hid (fun h k' hk' => by
                  rcases Nat.lt_or_ge k' k with h2 | h2
                  · exact hpk.out k' h2
                  · obtain rfl : k' = k := by omega
                    exact h)
                have HPF : Hid (pairB ps C i k = false → r = false) := Lib.hid (fun h => by rw [← HE.out]; exact pairs_at (by omega) hlt3 h)
                clear hfb hmx hmy hi_ hk_ pi_ pk_ oi_ ok_ qi qk hcu hpk HE
                have HO : ∀ W W' : World, (PointOk.Box W (w.heap.size) ax ay ∧ PointOk.Box W (w.heap.size + 1) bx bY ∧ PtsAt W Z (some ad) C ∧ PtsAt W Z Ab (dblL ps) ∧ Z ≤ W.heap.size ∧ PtAt W ad i ix iy ∧ PtAt W ad k kx ky ∧ Below w.heap.size w W) → Below W.heap.size W W' → (PointOk.Box W' (w.heap.size) ax ay ∧ PointOk.Box W' (w.heap.size + 1) bx bY ∧ PtsAt W' Z (some ad) C ∧ PtsAt W' Z Ab (dblL ps) ∧ Z ≤ W'.heap.size ∧ PtAt W' ad i ix iy ∧ PtAt W' ad k kx ky ∧ Below w.heap.size w W') := fun W W' ⟨h0, h1, x0, x1, x2, x3, x4, hb⟩ h => ⟨h0.later h, h1.later h, x0.later (h.mono x2), x1.later (h.mono x2), Nat.le_trans x2 h.size, x3.later bA (h.mono x2), x4.later bA (h.mono x2), hb.trans (h.mono hb.size)⟩
                replace S0 : PointOk.Box wr (w.heap.size) ax ay ∧ PointOk.Box wr (w.heap.size + 1) bx bY ∧ PtsAt wr Z (some ad) C ∧ PtsAt wr Z Ab (dblL ps) ∧ Z ≤ wr.heap.size ∧ PtAt wr ad i ix iy ∧ PtAt wr ad k kx ky ∧ Below w.heap.size w wr := ⟨S0.1, S0.2.1, S0.2.2.1, S0.2.2.2.1, S0.2.2.2.2.1, Pi_, Pk_, S0.2.2.2.2.2⟩
                clear Pi_ Pk_
                obtain ⟨⟨_, _⟩, ⟨_, _⟩, _, _, _, ⟨_, _⟩, ⟨_, _⟩, _⟩ := id S0
                go_wp2_with fail
                have SD := HO _ _ S0 ((Below.refl _ _).drew)
                have HS0 : wr.drew.cell? (ad.add (i * 2)) = some (.int .i64 ix) ∧ wr.drew.cell? ⟨(ad.add (i * 2)).block, (ad.add (i * 2)).off + 1, none⟩ = some (.int .i64 iy) ∧ wr.drew.cell? (ad.add (k * 2)) = some (.int .i64 kx) ∧ wr.drew.cell? ⟨(ad.add (k * 2)).block, (ad.add (k * 2)).off + 1, none⟩ = some (.int .i64 ky) := ⟨SD.2.2.2.2.2.1.1, SD.2.2.2.2.2.1.2, SD.2.2.2.2.2.2.1.1, SD.2.2.2.2.2.2.1.2⟩
                have SA := HO _ _ SD (below1 wr.drew (Obj.cells #[.int .i64 0, .int .i64 0] 49))
                have HSA : (wr.drew.alloc (Obj.cells #[.int .i64 0, .int .i64 0] 49)).cell? (ad.add (i * 2)) = some (.int .i64 ix) ∧ (wr.drew.alloc (Obj.cells #[.int .i64 0, .int .i64 0] 49)).cell? ⟨(ad.add (i * 2)).block, (ad.add (i * 2)).off + 1, none⟩ = some (.int .i64 iy) ∧ (wr.drew.alloc (Obj.cells #[.int .i64 0, .int .i64 0] 49)).cell? (ad.add (k * 2)) = some (.int .i64 kx) ∧ (wr.drew.alloc (Obj.cells #[.int .i64 0, .int .i64 0] 49)).cell? ⟨(ad.add (k * 2)).block, (ad.add (k * 2)).off + 1, none⟩ = some (.int .i64 ky) := ⟨SA.2.2.2.2.2.1.1, SA.2.2.2.2.2.1.2, SA.2.2.2.2.2.2.1.1, SA.2.2.2.2.2.2.1.2⟩
                have SB := HO _ _ SD (below1 wr.drew (Obj.cells #[.int .i64 mx, .int .i64 my] 49))
                have HSB : (wr.drew.alloc (Obj.cells #[.int .i64 mx, .int .i64 my] 49)).cell? (ad.add (i * 2)) = some (.int .i64 ix) ∧ (wr.drew.alloc (Obj.cells #[.int .i64 mx, .int .i64 my] 49)).cell? ⟨(ad.add (i * 2)).block, (ad.add (i * 2)).off + 1, none⟩ = some (.int .i64 iy) ∧ (wr.drew.alloc (Obj.cells #[.int .i64 mx, .int .i64 my] 49)).cell? (ad.add (k * 2)) = some (.int .i64 kx) ∧ (wr.drew.alloc (Obj.cells #[.int .i64 mx, .int .i64 my] 49)).cell? ⟨(ad.add (k * 2)).block, (ad.add (k * 2)).off + 1, none⟩ = some (.int .i64 ky) := ⟨SB.2.2.2.2.2.1.1, SB.2.2.2.2.2.1.2, SB.2.2.2.2.2.2.1.1, SB.2.2.2.2.2.2.1.2⟩
                have B1 := PointOk.box1 wr.drew mx my 49 (k := wr.drew.heap.size) rfl
                go_region_held3 (fun W => W.cell? (ad.add (i * 2)) = some (.int .i64 ix) ∧ W.cell? ⟨(ad.add (i * 2)).block, (ad.add (i * 2)).off + 1, none⟩ = some (.int .i64 iy) ∧ W.cell? (ad.add (k * 2)) = some (.int .i64 kx) ∧ W.cell? ⟨(ad.add (k * 2)).block, (ad.add (k * 2)).off + 1, none⟩ = some (.int .i64 ky)) (first | exact HS0 | exact HSA | exact HSB | assumption) (fail)
                have S0 : (fun W => (PointOk.Box W (w.heap.size) ax ay ∧ PointOk.Box W (w.heap.size + 1) bx bY ∧ PtsAt W Z (some ad) C ∧ PtsAt W Z Ab (dblL ps) ∧ Z ≤ W.heap.size ∧ PtAt W ad i ix iy ∧ PtAt W ad k kx ky ∧ Below w.heap.size w W) ∧ PointOk.Box W wr.heap.size mx my) (wr.alloc (Obj.cells #[.int .i64 mx, .int .i64 my] 49)).drew := ⟨SB, B1⟩
                clear SD HS0 SA HSA HSB SB B1 u1 u2
                generalize (wr.alloc (Obj.cells #[.int .i64 mx, .int .i64 my] 49)).drew = v2 at *
                generalize wr.heap.size = kb at *
                have HO : ∀ W W' : World, (PointOk.Box W (w.heap.size) ax ay ∧ PointOk.Box W (w.heap.size + 1) bx bY ∧ PtsAt W Z (some ad) C ∧ PtsAt W Z Ab (dblL ps) ∧ Z ≤ W.heap.size ∧ PointOk.Box W kb mx my ∧ Below w.heap.size w W) → Below W.heap.size W W' → (PointOk.Box W' (w.heap.size) ax ay ∧ PointOk.Box W' (w.heap.size + 1) bx bY ∧ PtsAt W' Z (some ad) C ∧ PtsAt W' Z Ab (dblL ps) ∧ Z ≤ W'.heap.size ∧ PointOk.Box W' kb mx my ∧ Below w.heap.size w W') := fun W W' ⟨h0, h1, x0, x1, x2, x3, hb⟩ h => ⟨h0.later h, h1.later h, x0.later (h.mono x2), x1.later (h.mono x2), Nat.le_trans x2 h.size, x3.later h, hb.trans (h.mono hb.size)⟩
                have S1 : PointOk.Box v2 (w.heap.size) ax ay ∧ PointOk.Box v2 (w.heap.size + 1) bx bY ∧ PtsAt v2 Z (some ad) C ∧ PtsAt v2 Z Ab (dblL ps) ∧ Z ≤ v2.heap.size ∧ PointOk.Box v2 kb mx my ∧ Below w.heap.size w v2 := ⟨S0.1.1, S0.1.2.1, S0.1.2.2.1, S0.1.2.2.2.1, S0.1.2.2.2.2.1, S0.2, S0.1.2.2.2.2.2.2.2⟩
                clear S0
                have S0 := S1
                clear S1
                obtain ⟨⟨_, _⟩, ⟨_, _⟩, _, _, _, ⟨_, _⟩, _⟩ := id S0
                cases fb
                · have hpr2 := HPR.out (HPO.out rfl)
                  replace hpr2 := Lib.hid hpr2
                  clear HPR HPO HPB HPF QH
                  go_wp2_with fail
                  first
                    | exact ⟨⟨k + 1, by omega, by go_num, hpr2, S0.1, S0.2.1, S0.2.2.1, S0.2.2.2.1, S0.2.2.2.2.1, S0.2.2.2.2.2.2⟩, by simp [intOf]; omega⟩
                    | (go_roundw <;> first | exact ⟨k + 1, by omega, by go_num, hpr2, S0.1, S0.2.1, S0.2.2.1, S0.2.2.2.1, S0.2.2.2.2.1, S0.2.2.2.2.2.2⟩ | (simp [intOf]; omega))
                have HPT : Hid (pairB ps C i k = decide (q ≠ 0)) := Lib.hid (HPB.out rfl)
                clear HPB HPO
                go_wp2_with fail
                refine (QH.out _ (S0.2.2.2.1.wide S0.2.2.2.2.1)).mono ?_
                rintro e w1 ⟨rfl, hb_⟩
                replace S0 := HO _ _ S0 hb_
                clear hb_
                obtain ⟨⟨_, _⟩, ⟨_, _⟩, _, _, _, ⟨_, _⟩, _⟩ := id S0
                by_cases hq : q = 0
                · have E : Hid (r = false) := Lib.hid (HPF.out (by rw [HPT.out]; simp [hq]))
                  have hu0 : u < 0 := by omega
                  clear HPR HPT HPF QH hq3 hq hu hpr
                  go_wp2_with fail
                  go_ret
                  exact ⟨ret_bool E.out.symm, S0.2.2.2.2.2.2⟩
                have hpr2 := HPR.out (by rw [HPT.out]; simp [hq])
                replace hpr2 := Lib.hid hpr2
                have hu0 : ¬ u < 0 := by omega
                clear HPR HPT HPF QH hq3 hq hu
                go_wp2_with fail
                first
                  | exact ⟨⟨k + 1, by omega, by go_num, hpr2, S0.1, S0.2.1, S0.2.2.1, S0.2.2.2.1, S0.2.2.2.2.1, S0.2.2.2.2.2.2⟩, by simp [intOf]; omega⟩
                  | (go_roundw <;> first | exact ⟨k + 1, by omega, by go_num, hpr2, S0.1, S0.2.1, S0.2.2.1, S0.2.2.2.1, S0.2.2.2.2.1, S0.2.2.2.2.2.2⟩ | (simp [intOf]; omega))
          · obtain rfl : i = k := by omega
            have hpr2 : Hid (∀ i', i' < i + 1 → ∀ k, k < i' → pairB ps C i' k = true) := Lib.hid (by
              intro i' hi' k hk
              rcases Nat.lt_or_ge i' i with h | h
              · exact hpr.out i' h k hk
              · obtain rfl : i' = i := by omega
                exact hpk.out k hk)
            clear hpr hpk hcu HE
            go_wp2_with fail
            first
              | exact ⟨⟨i + 1, by omega, by go_num, hpr2, S0⟩, by simp [intOf]; omega⟩
              | (go_roundw <;> first | exact ⟨i + 1, by omega, by go_num, hpr2, S0⟩ | (simp [intOf]; omega))
      · obtain rfl : m = i := by omega
        have E : Hid (r = true) := Lib.hid (by rw [← HE.out]; exact pairs_of (by rw [hm]; exact hpr.out))
        clear hpr hcu HE
        go_wp2_with fail
        go_ret
        exact ⟨ret_bool E.out.symm, S0.2.2.2.2.2⟩

end Go.Proofs.Ythokeedmccfalaa.SightSpec


