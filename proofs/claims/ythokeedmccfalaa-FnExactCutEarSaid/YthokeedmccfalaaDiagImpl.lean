/-
  What the landed functions on diagonals and ears do, as contracts: what each answers; no old cell is written.
-/
import Derived.Test.YthokeedmccfalaaFromImpl
import Derived.Test.YthokeedmccfalaaWallOfImpl
import Derived.Test.YthokeedmccfalaaThatImpl
import Derived.Test.YthokeedmccfalaaEarMath
namespace Go.Proofs.Ythokeedmccfalaa.DiagImpl
open Go.RowKit Own PointMath WallMath RoomMath Pts Blk AreaMath PlaceMath FloorMath LineMath CutsMath SightMath DiagMath EarMath FromImpl
open PointOk (ret_bool ret_i64 below1 below2 below3)

set_option maxRecDepth 100000 in
set_option maxHeartbeats 1600000 in
theorem wayOf (A : Option Addr) (n cap i k : Nat) (w : World) (ps : List (Int × Int)) (hl : ps.length = n) (hi : i < n) (hk : k < n) (hp : PtsAt w w.heap.size A ps) :
    Calls Try.prog 140 #[.agg #[.slice A n cap], .int .i64 (i : Int), .int .i64 (k : Int)] w fun e w' => e = .returned (.agg #[.int .i64 (pt ps i).1, .int .i64 (pt ps i).2, .int .i64 (pt ps k).1, .int .i64 (pt ps k).2]) ∧ Below w.heap.size w w' := by
  have p0 := pt_at (ps := ps) (k := i) (by omega)
  have p1 := pt_at (ps := ps) (k := k) (by omega)
  obtain ⟨ax, ay, ha⟩ : ∃ x y, pt ps i = (x, y) := ⟨_, _, rfl⟩
  obtain ⟨bx, bY, hb⟩ : ∃ x y, pt ps k = (x, y) := ⟨_, _, rfl⟩
  rw [ha] at p0 ⊢
  rw [hb] at p1 ⊢
  obtain ⟨ad, eA, bA, pA⟩ := hp.get p0
  obtain ⟨ad2, eA2, _, pB⟩ := hp.get p1
  rw [eA] at eA2
  injection eA2 with eA2
  subst eA2
  subst eA
  have hi1 : (i : Int) < (n : Int) := by omega
  have hi0 : (0 : Int) ≤ (i : Int) := by omega
  have hk1 : (k : Int) < (n : Int) := by omega
  have hk0 : (0 : Int) ≤ (k : Int) := by omega
  clear hl hp ha hb p0 p1
  go_enter Try.func140, Try.ntmps140
  go_wp2_with fail
  have X0 := (Pts.boxR w (.slice (some ad) n cap) 37 (k := w.heap.size) (by simp)).alloc (Obj.cells #[.int .i64 0, .int .i64 0, .int .i64 0, .int .i64 0] 143)
  have X1 := Blk.Holds.box (w.alloc (Obj.cells #[.slice (some ad) n cap] 37)) #[.int .i64 0, .int .i64 0, .int .i64 0, .int .i64 0] 143 (k := w.heap.size + 1) (by simp)
  have b0 := PointOk.below2 w (Obj.cells #[.slice (some ad) n cap] 37) (Obj.cells #[.int .i64 0, .int .i64 0, .int .i64 0, .int .i64 0] 143)
  have HO : ∀ W W' : World, (Pts.BoxR W (w.heap.size) (.slice (some ad) n cap) ∧ Blk.Holds W (w.heap.size + 1) #[.int .i64 0, .int .i64 0, .int .i64 0, .int .i64 0] 143 ∧ PtAt W ad i ax ay ∧ PtAt W ad k bx bY ∧ Below w.heap.size w W) → Below W.heap.size W W' → (Pts.BoxR W' (w.heap.size) (.slice (some ad) n cap) ∧ Blk.Holds W' (w.heap.size + 1) #[.int .i64 0, .int .i64 0, .int .i64 0, .int .i64 0] 143 ∧ PtAt W' ad i ax ay ∧ PtAt W' ad k bx bY ∧ Below w.heap.size w W') := fun W W' ⟨h0, h1, x0, x1, hb⟩ h => ⟨h0.later h, h1.later h, x0.later bA (h.mono hb.size), x1.later bA (h.mono hb.size), hb.trans (h.mono hb.size)⟩
  have hz0_ : Hid ((((w.alloc (Obj.cells #[.slice (some ad) n cap] 37)).alloc (Obj.cells #[.int .i64 0, .int .i64 0, .int .i64 0, .int .i64 0] 143))).heap.size = w.heap.size + 1 + 1) := Lib.hid (by simp)
  have Y0 : PtAt (((w.alloc (Obj.cells #[.slice (some ad) n cap] 37)).alloc (Obj.cells #[.int .i64 0, .int .i64 0, .int .i64 0, .int .i64 0] 143))) ad i ax ay := pA.later bA b0
  have Y1 : PtAt (((w.alloc (Obj.cells #[.slice (some ad) n cap] 37)).alloc (Obj.cells #[.int .i64 0, .int .i64 0, .int .i64 0, .int .i64 0] 143))) ad k bx bY := pB.later bA b0
  generalize ((w.alloc (Obj.cells #[.slice (some ad) n cap] 37)).alloc (Obj.cells #[.int .i64 0, .int .i64 0, .int .i64 0, .int .i64 0] 143)) = w0 at X0 X1 Y0 Y1 b0 hz0_ ⊢
  have S0 := (⟨X0, X1, Y0, Y1, b0⟩ : Pts.BoxR w0 (w.heap.size) (.slice (some ad) n cap) ∧ Blk.Holds w0 (w.heap.size + 1) #[.int .i64 0, .int .i64 0, .int .i64 0, .int .i64 0] 143 ∧ PtAt w0 ad i ax ay ∧ PtAt w0 ad k bx bY ∧ Below w.heap.size w w0)
  clear X0 X1 Y0 Y1 b0
  obtain ⟨⟨_, _⟩, _, ⟨_, _⟩, ⟨_, _⟩, _⟩ := id S0
  refine Settle.regionTails (fun W => Pts.BoxR W (w.heap.size) (.slice (some ad) n cap) ∧ Blk.Holds W (w.heap.size + 1) #[.int .i64 0, .int .i64 0, .int .i64 0, .int .i64 0] 143 ∧ PtAt W ad i ax ay ∧ PtAt W ad k bx bY ∧ Below w.heap.size w W) 11 (by kernel_rfl) (by kernel_rfl) (of_decide_eq_true (by kernel_rfl)) (by kernel_rfl) (by kernel_rfl) (by kernel_rfl) (by kernel_rfl) (HO _ _ S0 ((Below.refl _ _).drew)) ?_
  simp only [List.take_succ_cons, List.take_zero, List.drop_succ_cons, List.drop_zero]
  clear S0
  repeat (first
    | (refine Settle.Settles.off (by rfl) ?_; simp only [Act.put, List.setIfInBounds_toArray, List.set_cons_zero, List.set_cons_succ])
    | (refine Settle.Settles.quiet (v := ?_) (by rfl) ?_ ?_
       rotate_left
       · (intro W hS; obtain ⟨⟨_, _⟩, _, ⟨_, _⟩, ⟨_, _⟩, _⟩ := hS; go_simp; with_reducible rfl)
       simp only [Act.put, List.setIfInBounds_toArray, List.set_cons_zero, List.set_cons_succ])
    | (refine Settle.Settles.call (v := ?_) (f := ?_) (args := ?_) (by rfl) ?_ ?_ ?_
       rotate_left 3
       · (intro W; go_simp; refine ⟨?_, ?_⟩ <;> with_reducible rfl)
       · (intro W hS; fail)
       simp only [Act.put, List.setIfInBounds_toArray, List.set_cons_zero, List.set_cons_succ]))
  refine Settle.Settles.nil ?_
  intro wr S0 K_ hK_
  obtain ⟨⟨_, _⟩, _, ⟨_, _⟩, ⟨_, _⟩, _⟩ := id S0
  obtain ⟨⟨_, _, _, _⟩, _, _, _, _⟩ := Blk.Holds.four S0.2.1
  go_wp2_with fail
  have E_ := Blk.set_own (Blk.set_own (Blk.set_own (Blk.set_own (S0.2.1) 0 (.int .i64 (ax))) 1 (.int .i64 (ay))) 2 (.int .i64 (bx))) 3 (.int .i64 (bY))
  obtain ⟨⟨r0_, r1_, r2_, r3_⟩, _⟩ := Blk.Holds.four E_
  refine bodyPost_ret (v := .agg #[.int .i64 (ax), .int .i64 (ay), .int .i64 (bx), .int .i64 (bY)]) (by simp [results, Try.results140, go_sem, r0_, r1_, r2_, r3_]) rfl ⟨rfl, ?_⟩
  exact (((((S0.2.2.2.2)).setCell (p := ⟨w.heap.size + 1, 0, none⟩) (show w.heap.size ≤ w.heap.size + 1 by omega) _).setCell (p := ⟨w.heap.size + 1, 1, none⟩) (show w.heap.size ≤ w.heap.size + 1 by omega) _).setCell (p := ⟨w.heap.size + 1, 2, none⟩) (show w.heap.size ≤ w.heap.size + 1 by omega) _).setCell (p := ⟨w.heap.size + 1, 3, none⟩) (show w.heap.size ≤ w.heap.size + 1 by omega) _

set_option maxRecDepth 100000 in
set_option maxHeartbeats 1600000 in
/-- The closure that asks whether a corner is on the way. -/
theorem onWay (A : Option Addr) (n cap k C1 C2 : Nat) (ax ay bx bY : Int) (w : World) (ps : List (Int × Int)) (hl : ps.length = n) (hk : k < n) (hok : okAll ps = true) (sa : smP ax ay) (sb : smP bx bY)
    (h1 : PointOk.Box4 w C1 ax ay bx bY) (h2 : BoxR w C2 (.slice A n cap)) (hp : PtsAt w w.heap.size A ps) :
    Calls Try.prog 181 #[.int .i64 (k : Int), .pointer (some ⟨C1, 0, none⟩), .pointer (some ⟨C2, 0, none⟩)] w fun e w' => e = .returned (.bool (btwP (pt ps k) (ax, ay) (bx, bY))) ∧ Below w.heap.size w w' := by
  have p0 := pt_at (ps := ps) (k := k) (by omega)
  have o0 := okP_sm (okAll_at hok (k := k) (by omega))
  obtain ⟨cx, cy, hc⟩ : ∃ x y, pt ps k = (x, y) := ⟨_, _, rfl⟩
  rw [hc] at p0 o0 ⊢
  obtain ⟨ad, eA, bA, pA⟩ := hp.get p0
  subst eA
  have QB : Hid (∀ w, _) := Lib.hid fun w => WallImpl.holds ax ay bx bY cx cy sa sb o0 w
  obtain ⟨o, ho⟩ : ∃ o, btwB cx cy ax ay bx bY = o := ⟨_, rfl⟩
  have E : btwP (cx, cy) (ax, ay) (bx, bY) = o := ho
  rw [E]
  rw [ho] at QB
  have hk1 : (k : Int) < (n : Int) := by omega
  have hk0 : (0 : Int) ≤ (k : Int) := by omega
  clear ho E hl hp p0 hc o0 hok
  go_enter Try.func181, Try.ntmps181
  go_wp2_with fail
  have HO : ∀ W W' : World, (PointOk.Box4 W C1 ax ay bx bY ∧ BoxR W C2 (.slice (some ad) n cap) ∧ PtAt W ad k cx cy ∧ Below w.heap.size w W) → Below W.heap.size W W' → (PointOk.Box4 W' C1 ax ay bx bY ∧ BoxR W' C2 (.slice (some ad) n cap) ∧ PtAt W' ad k cx cy ∧ Below w.heap.size w W') := fun W W' ⟨x0, x1, x2, hb⟩ h => ⟨x0.later h, x1.later h, x2.later bA (h.mono hb.size), hb.trans (h.mono hb.size)⟩
  have S0 : PointOk.Box4 w C1 ax ay bx bY ∧ BoxR w C2 (.slice (some ad) n cap) ∧ PtAt w ad k cx cy ∧ Below w.heap.size w w := ⟨h1, h2, pA, Below.refl _ _⟩
  clear h1 h2 pA
  obtain ⟨⟨_, _, _, _⟩, ⟨_, _⟩, ⟨_, _⟩, _⟩ := id S0
  refine Settle.region (fun W => PointOk.Box4 W C1 ax ay bx bY ∧ BoxR W C2 (.slice (some ad) n cap) ∧ PtAt W ad k cx cy ∧ Below w.heap.size w W) (by kernel_rfl) (by kernel_rfl) (by kernel_rfl) (by kernel_rfl) (HO _ _ S0 ((Below.refl _ _).drew)) ?_
  clear S0
  repeat (first
    | (refine Settle.Settles.off (by rfl) ?_; simp only [Act.put, List.setIfInBounds_toArray, List.set_cons_zero, List.set_cons_succ])
    | (refine Settle.Settles.quiet (v := ?_) (by rfl) ?_ ?_
       rotate_left
       · (intro W hS; obtain ⟨⟨_, _, _, _⟩, ⟨_, _⟩, ⟨_, _⟩, _⟩ := hS; go_simp; with_reducible rfl)
       simp only [Act.put, List.setIfInBounds_toArray, List.set_cons_zero, List.set_cons_succ])
    | (refine Settle.Settles.call (v := ?_) (f := ?_) (args := ?_) (by rfl) ?_ ?_ ?_
       rotate_left 3
       · (intro W; go_simp; refine ⟨?_, ?_⟩ <;> with_reducible rfl)
       · (intro W hS; first | (go_at_call 182; (with_reducible refine (QB.out _).mono ?_); rintro e W1 ⟨rfl, hb⟩; refine ⟨?_, HO _ _ hS hb⟩; with_reducible rfl))
       simp only [Act.put, List.setIfInBounds_toArray, List.set_cons_zero, List.set_cons_succ]))
  refine Settle.Settles.nil ?_
  intro wr S0
  obtain ⟨⟨_, _, _, _⟩, ⟨_, _⟩, ⟨_, _⟩, _⟩ := id S0
  go_wp2_with fail
  go_ret
  exact ⟨rfl, S0.2.2.2⟩

set_option maxRecDepth 100000 in
set_option maxHeartbeats 4000000 in
theorem diag (A : Option Addr) (n cap i k : Nat) (w : World) (ps : List (Int × Int)) (hl : ps.length = n) (hr : roomB ps = true) (hi : i < n) (hk : k < n) (hp : PtsAt w w.heap.size A ps) :
    Calls Try.prog 155 #[.agg #[.slice A n cap], .int .i64 (i : Int), .int .i64 (k : Int)] w fun e w' => e = .returned (.bool (diagM ps i k)) ∧ Below w.heap.size w w' := by
  rw [← diag_eq hr (by omega) (by omega)]
  obtain ⟨r, hr⟩ : ∃ r, diagI ps i k = r := ⟨_, rfl⟩
  have HR := Lib.hid hr
  rw [hr]
  clear hr
  have hy := roomB_yes hr
  have hok := hy.2.1
  have HE : Hid (r = (!decide (i = k) && !nbrB n i k && decide ((thatTo (fun j => btwP (pt ps j) (pt ps i) (pt ps k)) n).length = 2) && seesM ps (pt ps i) (pt ps k))) := Lib.hid (by rw [← HR.out, ← hl]; rfl)
  have hmf : ∀ (fn : Fn) (first cap : Array Value) (w : World), (Instr.makeFunc fn first cap).run Try.prog w = .ok (.func fn first cap) w := fun _ _ _ _ => rfl
  have QN : Hid (∀ w, _) := Lib.hid fun w => RoomOkImpl.neighbors A n cap i k hi hk (by omega) w
  have QW : Hid (∀ w hp, _) := Lib.hid fun w hp => wayOf A n cap i k w ps hl hi hk hp
  have o0 := okAll_at hok (k := i) (by omega)
  have o1 := okAll_at hok (k := k) (by omega)
  have in0 := corner_in hr (k := i) (by omega)
  have in1 := corner_in hr (k := k) (by omega)
  obtain ⟨ax, ay, hA⟩ : ∃ x y, pt ps i = (x, y) := ⟨_, _, rfl⟩
  obtain ⟨bx, bY, hB⟩ : ∃ x y, pt ps k = (x, y) := ⟨_, _, rfl⟩
  rw [hA] at o0 HE QW in0
  rw [hB] at o1 HE QW in1
  have QF : Hid (∀ w hp, _) := Lib.hid fun w hp => sightFrom A n cap ax ay w ps hl (by omega) hok hp
  have QC : Hid (∀ C1 C2 Ad cd w h1 h2 hq, _) := Lib.hid fun C1 C2 Ad cd w h1 h2 hq => asks ax ay bx bY C1 C2 Ad n cd w ps hl in0 in1 h1 h2 hq
  have QO : Hid (∀ (j : Nat) (hj : j < n) C1 C2 w h1 h2 hp, _) := Lib.hid fun j hj C1 C2 w h1 h2 hp => onWay A n cap j C1 C2 ax ay bx bY w ps hl hj hok (okP_sm o0) (okP_sm o1) h1 h2 hp
  generalize seesM ps (ax, ay) (bx, bY) = se at *
  unfold Asks at QF
  have hn10 : n ≤ 1048576 := by omega
  have hi1 : (i : Int) < (n : Int) := by omega
  clear HR hy hA hB o0 o1 in0 in1 hok hr
  by_cases c1 : i = k
  · have b1 : ((i : Int) == (k : Int)) = true := by rw [beq_iff_eq]; omega
    have E : Hid (r = false) := Lib.hid (by rw [HE.out]; simp [c1])
    clear HE c1 hl
    go_enter Try.func155, Try.ntmps155
    go_wp2_with fail
    have X0 := Pts.boxR w (.slice A n cap) 37 (k := w.heap.size) (by simp)
    have b0 := PointOk.below1 w (Obj.cells #[.slice A n cap] 37)
    have HO : ∀ W W' : World, (Pts.BoxR W (w.heap.size) (.slice A n cap) ∧ PtsAt W w.heap.size A ps ∧ Below w.heap.size w W) → Below W.heap.size W W' → (Pts.BoxR W' (w.heap.size) (.slice A n cap) ∧ PtsAt W' w.heap.size A ps ∧ Below w.heap.size w W') := fun W W' ⟨h0, x0, hb⟩ h => ⟨h0.later h, x0.later (h.mono hb.size), hb.trans (h.mono hb.size)⟩
    have hz0_ : Hid (((w.alloc (Obj.cells #[.slice A n cap] 37))).heap.size = w.heap.size + 1) := Lib.hid (by simp)
    have Y0 : PtsAt ((w.alloc (Obj.cells #[.slice A n cap] 37))) w.heap.size A ps := hp.later b0
    generalize (w.alloc (Obj.cells #[.slice A n cap] 37)) = w0 at X0 Y0 b0 hz0_ ⊢
    have S0 := (⟨X0, Y0, b0⟩ : Pts.BoxR w0 (w.heap.size) (.slice A n cap) ∧ PtsAt w0 w.heap.size A ps ∧ Below w.heap.size w w0)
    clear X0 Y0 b0
    obtain ⟨⟨_, _⟩, _, _⟩ := id S0
    go_ret
    exact ⟨ret_bool E.out.symm, S0.2.2⟩
  have b1 : ((i : Int) == (k : Int)) = false := beq_eq_false_iff_ne.2 (by omega)
  go_enter Try.func155, Try.ntmps155
  go_wp2_with fail
  have X0 := Pts.boxR w (.slice A n cap) 37 (k := w.heap.size) (by simp)
  have b0 := PointOk.below1 w (Obj.cells #[.slice A n cap] 37)
  have HO : ∀ W W' : World, (Pts.BoxR W (w.heap.size) (.slice A n cap) ∧ PtsAt W w.heap.size A ps ∧ Below w.heap.size w W) → Below W.heap.size W W' → (Pts.BoxR W' (w.heap.size) (.slice A n cap) ∧ PtsAt W' w.heap.size A ps ∧ Below w.heap.size w W') := fun W W' ⟨h0, x0, hb⟩ h => ⟨h0.later h, x0.later (h.mono hb.size), hb.trans (h.mono hb.size)⟩
  have hz0_ : Hid (((w.alloc (Obj.cells #[.slice A n cap] 37))).heap.size = w.heap.size + 1) := Lib.hid (by simp)
  have Y0 : PtsAt ((w.alloc (Obj.cells #[.slice A n cap] 37))) w.heap.size A ps := hp.later b0
  generalize (w.alloc (Obj.cells #[.slice A n cap] 37)) = w0 at X0 Y0 b0 hz0_ ⊢
  have S0 := (⟨X0, Y0, b0⟩ : Pts.BoxR w0 (w.heap.size) (.slice A n cap) ∧ PtsAt w0 w.heap.size A ps ∧ Below w.heap.size w w0)
  clear X0 Y0 b0
  obtain ⟨⟨_, _⟩, _, _⟩ := id S0
  refine (QN.out _).mono ?_
  rintro e w1 ⟨rfl, rfl⟩
  cases hnb : nbrB n i k
  rotate_left
  · have E : Hid (r = false) := Lib.hid (by rw [HE.out, hnb]; simp)
    clear HE hnb hl
    go_wp2_with fail
    go_ret
    exact ⟨ret_bool E.out.symm, S0.2.2⟩
  replace HE : Hid (r = (decide ((thatTo (fun j => btwP (pt ps j) (ax, ay) (bx, bY)) n).length = 2) && se)) := Lib.hid (by rw [HE.out, hnb]; simp [c1])
  clear hnb QN
  go_wp2_with fail
  refine (QW.out _ (S0.2.1.wide S0.2.2.size)).mono ?_
  rintro e w2 ⟨rfl, hb_⟩
  replace S0 := HO _ _ S0 hb_
  clear hb_ QW
  obtain ⟨⟨_, _⟩, _, _⟩ := id S0
  obtain ⟨B, hB⟩ : ∃ B, w2.heap.size = B := ⟨_, rfl⟩
  have X4 := PointOk.box4 w2 ax ay bx bY 143 (k := B) hB.symm
  replace S0 := HO _ _ S0 (below1 w2 (Obj.cells #[.int .i64 ax, .int .i64 ay, .int .i64 bx, .int .i64 bY] 143))
  obtain ⟨_, _, _, _⟩ := id X4
  obtain ⟨⟨_, _⟩, _, _⟩ := id S0
  go_wp2_with fail
  try rw [hB]
  generalize w2.alloc (Obj.cells #[.int .i64 ax, .int .i64 ay, .int .i64 bx, .int .i64 bY] 143) = w3 at *
  clear hB
  have HO : ∀ W W' : World, (BoxR W w.heap.size (.slice A n cap) ∧ PointOk.Box4 W B ax ay bx bY ∧ PtsAt W w.heap.size A ps ∧ Below w.heap.size w W) → Below W.heap.size W W' → (BoxR W' w.heap.size (.slice A n cap) ∧ PointOk.Box4 W' B ax ay bx bY ∧ PtsAt W' w.heap.size A ps ∧ Below w.heap.size w W') := fun W W' ⟨x0, x1, x2, hb⟩ h => ⟨x0.later h, x1.later h, x2.later (h.mono hb.size), hb.trans (h.mono hb.size)⟩
  have S1 : BoxR w3 w.heap.size (.slice A n cap) ∧ PointOk.Box4 w3 B ax ay bx bY ∧ PtsAt w3 w.heap.size A ps ∧ Below w.heap.size w w3 := ⟨S0.1, X4, S0.2⟩
  clear S0 X4
  have S0 := S1
  clear S1
  obtain ⟨⟨_, _⟩, ⟨_, _, _, _⟩, _, _⟩ := id S0
  refine (ThatImpl.cornersThat 181 #[.pointer (some ⟨B, 0, none⟩), .pointer (some ⟨w.heap.size, 0, none⟩)] (fun j => btwP (pt ps j) (ax, ay) (bx, bY)) A n cap w3 hn10 Try.call181 (fun W j hj hb => by
    have S9 := HO _ _ S0 hb
    exact QO.out j hj B w.heap.size W S9.2.1 S9.1 (S9.2.2.1.wide S9.2.2.2.size))).mono ?_
  rintro e w4 ⟨A2, c2, rfl, hown, hb_⟩
  replace S0 := HO _ _ S0 hb_
  clear hb_ QO hown
  generalize (thatTo (fun j => btwP (pt ps j) (ax, ay) (bx, bY)) n).length = m at *
  obtain ⟨⟨_, _⟩, ⟨_, _, _, _⟩, _, _⟩ := id S0
  by_cases c3 : m = 2
  rotate_left
  · have b2 : ((m : Int) == 2) = false := beq_eq_false_iff_ne.2 (by omega)
    have E : Hid (r = false) := Lib.hid (by rw [HE.out]; simp [c3])
    clear HE hl c3
    go_wp2_with fail
    refine Settle.region (fun W => BoxR W w.heap.size (.slice A n cap) ∧ PointOk.Box4 W B ax ay bx bY ∧ PtsAt W w.heap.size A ps ∧ Below w.heap.size w W) (by kernel_rfl) (by kernel_rfl) (by kernel_rfl) (by kernel_rfl) (HO _ _ S0 ((Below.refl _ _).drew)) ?_
    clear S0
    repeat (first
      | (refine Settle.Settles.off (by rfl) ?_; simp only [Act.put, List.setIfInBounds_toArray, List.set_cons_zero, List.set_cons_succ])
      | (refine Settle.Settles.quiet (v := ?_) (by rfl) ?_ ?_
         rotate_left
         · (intro W hS; obtain ⟨⟨_, _⟩, ⟨_, _, _, _⟩, _, _⟩ := hS; go_simp; with_reducible rfl)
         simp only [Act.put, List.setIfInBounds_toArray, List.set_cons_zero, List.set_cons_succ])
      | (refine Settle.Settles.call (v := ?_) (f := ?_) (args := ?_) (by rfl) ?_ ?_ ?_
         rotate_left 3
         · (intro W; go_simp; refine ⟨?_, ?_⟩ <;> with_reducible rfl)
         · (intro W hS; fail)
         simp only [Act.put, List.setIfInBounds_toArray, List.set_cons_zero, List.set_cons_succ]))
    refine Settle.Settles.nil ?_
    intro wr S0
    obtain ⟨⟨_, _⟩, ⟨_, _, _, _⟩, _, _⟩ := id S0
    go_wp2_with fail
    go_ret
    exact ⟨ret_bool E.out.symm, S0.2.2.2⟩
  subst c3
  have E : Hid (r = se) := Lib.hid (by rw [HE.out]; simp)
  clear HE hl
  go_wp2_with fail
  have S0_ := HO _ _ S0 ((Below.refl _ _).drew)
  have HS0_ : w4.drew.cell? ⟨w.heap.size, 0, none⟩ = some (.slice A n cap) ∧ w4.drew.cell? ⟨B, 0, none⟩ = some (.int .i64 ax) ∧ w4.drew.cell? ⟨B, 1, none⟩ = some (.int .i64 ay) ∧ w4.drew.cell? ⟨B, 2, none⟩ = some (.int .i64 bx) ∧ w4.drew.cell? ⟨B, 3, none⟩ = some (.int .i64 bY) := ⟨S0_.1.1, S0_.2.1.1, S0_.2.1.2.1, S0_.2.1.2.2.1, S0_.2.1.2.2.2⟩
  refine wp_region_held_drew (S := fun W => W.cell? ⟨w.heap.size, 0, none⟩ = some (.slice A n cap) ∧ W.cell? ⟨B, 0, none⟩ = some (.int .i64 ax) ∧ W.cell? ⟨B, 1, none⟩ = some (.int .i64 ay) ∧ W.cell? ⟨B, 2, none⟩ = some (.int .i64 bx) ∧ W.cell? ⟨B, 3, none⟩ = some (.int .i64 bY)) (by kernel_rfl) HS0_ (fun hHeld => ?_)
  refine wpAnyH_take (i := 0) (oi := ⟨some 26, _, _, _, _, _⟩) (v := ?_) rfl (by kernel_rfl) (by kernel_rfl) (by kernel_rfl) (fun _ _ _ h => h) (Or.inl ⟨by rfl, ?_⟩) (by assumption) ?_
  rotate_left 1
  · (intro w hSw; (try dsimp only at hSw); go_simp; try with_reducible rfl)
  try simp only [Act.put, List.setIfInBounds_toArray, List.set_cons_zero, List.set_cons_succ]
  refine wpAnyH_take (i := 1) (oi := ⟨some 27, _, _, _, _, _⟩) (v := ?_) rfl (by kernel_rfl) (by kernel_rfl) (by kernel_rfl) (fun _ _ _ h => h) (Or.inl ⟨by rfl, ?_⟩) (by assumption) ?_
  rotate_left 1
  · (intro w hSw; (try dsimp only at hSw); go_simp; try with_reducible rfl)
  try simp only [Act.put, List.setIfInBounds_toArray, List.set_cons_zero, List.set_cons_succ]
  refine wpAnyH_take (i := 2) (oi := ⟨some 28, _, _, _, _, _⟩) (v := ?_) rfl (by kernel_rfl) (by kernel_rfl) (by kernel_rfl) (fun _ _ _ h => h) (Or.inl ⟨by rfl, ?_⟩) (by assumption) ?_
  rotate_left 1
  · (intro w hSw; (try dsimp only at hSw); go_simp; try with_reducible rfl)
  try simp only [Act.put, List.setIfInBounds_toArray, List.set_cons_zero, List.set_cons_succ]
  refine wpAnyH_take (i := 3) (oi := ⟨some 29, _, _, _, _, _⟩) (v := ?_) rfl (by kernel_rfl) (by kernel_rfl) (by kernel_rfl) (fun _ _ _ h => h) (Or.inl ⟨by rfl, ?_⟩) (by assumption) ?_
  rotate_left 1
  · (intro w hSw; (try dsimp only at hSw); go_simp; try with_reducible rfl)
  try simp only [Act.put, List.setIfInBounds_toArray, List.set_cons_zero, List.set_cons_succ]
  refine wpAnyH_take (i := 4) (oi := ⟨some 30, _, _, _, _, _⟩) (v := ?_) rfl (by kernel_rfl) (by kernel_rfl) (by kernel_rfl) (fun _ _ _ h => h) (Or.inl ⟨by rfl, ?_⟩) (by assumption) ?_
  rotate_left 1
  · (intro w hSw; (try dsimp only at hSw); go_simp; try with_reducible rfl)
  try simp only [Act.put, List.setIfInBounds_toArray, List.set_cons_zero, List.set_cons_succ]
  refine wpAnyH_take (i := 5) (oi := ⟨some 31, _, _, _, _, _⟩) (v := ?_) rfl (by kernel_rfl) (by kernel_rfl) (by kernel_rfl) (fun _ _ _ h => h) (Or.inl ⟨by rfl, ?_⟩) (by assumption) ?_
  rotate_left 1
  · (intro w hSw; (try dsimp only at hSw); go_simp; try with_reducible rfl)
  try simp only [Act.put, List.setIfInBounds_toArray, List.set_cons_zero, List.set_cons_succ]
  refine wpAnyH_take (i := 6) (oi := ⟨some 32, _, _, _, _, _⟩) (v := ?_) rfl (by kernel_rfl) (by kernel_rfl) (by kernel_rfl) (fun _ _ _ h => h) (Or.inl ⟨by rfl, ?_⟩) (by assumption) ?_
  rotate_left 1
  · (intro w hSw; (try dsimp only at hSw); go_simp; try with_reducible rfl)
  try simp only [Act.put, List.setIfInBounds_toArray, List.set_cons_zero, List.set_cons_succ]
  refine wpAnyH_take (i := 8) (oi := ⟨some 34, _, _, _, _, _⟩) (v := ?_) rfl (by kernel_rfl) (by kernel_rfl) (by kernel_rfl) (fun _ _ _ h => h) (Or.inl ⟨by rfl, ?_⟩) (by assumption) ?_
  rotate_left 1
  · (intro w hSw; (try dsimp only at hSw); go_simp; try with_reducible rfl)
  try simp only [Act.put, List.setIfInBounds_toArray, List.set_cons_zero, List.set_cons_succ]
  refine wpAnyH_take (i := 9) (oi := ⟨some 35, _, _, _, _, _⟩) (v := ?_) rfl (by kernel_rfl) (by kernel_rfl) (by kernel_rfl) (fun _ _ _ h => h) (Or.inl ⟨by rfl, ?_⟩) (by assumption) ?_
  rotate_left 1
  · (intro w hSw; (try dsimp only at hSw); go_simp; try with_reducible rfl)
  try simp only [Act.put, List.setIfInBounds_toArray, List.set_cons_zero, List.set_cons_succ]
  refine wpAnyH_ready (rs := [7]) (by kernel_rfl) (by simp) ?_
  refine AllReadyH.cons (o := ⟨some 33, _, _, _, _, _⟩) rfl (fun K hK => ?_) ?_
  rotate_left 1
  · exact AllReadyH.nil
  go_simp
  go_at_call 136; refine (QF.out _ (S0_.2.2.1.wide S0_.2.2.2.size)).mono ?_; rintro e w5 ⟨C1, C2, Ad, cd, rfl, h1_, h2_, hq_, hb2_⟩
  have S2_ := HO _ _ S0_ hb2_
  go_wp2_with fail
  refine hK.out _ _ ⟨S2_.1.1, S2_.2.1.1, S2_.2.1.2.1, S2_.2.1.2.2.1, S2_.2.1.2.2.2⟩ (fun hHeld => ?_)
  clear hK K
  refine wpAnyH_ready (rs := [10]) (by kernel_rfl) (by simp) ?_
  refine AllReadyH.cons (o := ⟨some 36, _, _, _, _, _⟩) rfl (fun K hK => ?_) ?_
  rotate_left 1
  · exact AllReadyH.nil
  go_simp
  go_at_call 171; refine (QC.out C1 C2 Ad cd _ h1_ h2_ hq_).mono ?_; rintro e w6 ⟨rfl, hb3_⟩
  have S3_ := HO _ _ S2_ hb3_
  go_wp2_with fail
  refine hK.out _ _ ⟨S3_.1.1, S3_.2.1.1, S3_.2.1.2.1, S3_.2.1.2.2.1, S3_.2.1.2.2.2⟩ (fun hHeld => ?_)
  clear hK K
  refine wpAnyH_take (i := 11) (oi := ⟨some 37, _, _, _, _, _⟩) (v := ?_) rfl (by kernel_rfl) (by kernel_rfl) (by kernel_rfl) (fun _ _ _ h => h) (Or.inl ⟨by rfl, ?_⟩) (by assumption) ?_
  rotate_left 1
  · (intro w hSw; (try dsimp only at hSw); go_simp; try with_reducible rfl)
  try simp only [Act.put, List.setIfInBounds_toArray, List.set_cons_zero, List.set_cons_succ]
  refine wpAnyH_take (i := 12) (oi := ⟨some 6, _, _, _, _, _⟩) (v := ?_) rfl (by kernel_rfl) (by kernel_rfl) (by kernel_rfl) (fun _ _ _ h => h) (Or.inl ⟨by rfl, ?_⟩) (by assumption) ?_
  rotate_left 1
  · (intro w hSw; (try dsimp only at hSw); go_simp; try with_reducible rfl)
  try simp only [Act.put, List.setIfInBounds_toArray, List.set_cons_zero, List.set_cons_succ]
  refine wpAnyH_done (by kernel_rfl) ?_ _
  go_wp2_with fail
  go_ret
  exact ⟨ret_bool E.out.symm, S3_.2.2.2⟩

set_option maxRecDepth 100000 in
set_option maxHeartbeats 1600000 in
theorem isDiagonal (A : Option Addr) (n cap : Nat) (i k : Int) (w : World) (ps : List (Int × Int)) (hl : ps.length = n) (hn : n ≤ 1048576) (hp : PtsAt w w.heap.size A ps) :
    Calls Try.prog 139 #[.agg #[.slice A n cap], .int .i64 i, .int .i64 k] w fun e w' => e = .returned (.bool (isDiagB ps i k)) ∧ Below w.heap.size w w' := by
  obtain ⟨r, hr⟩ : ∃ r, isDiagB ps i k = r := ⟨_, rfl⟩
  have HR := Lib.hid hr
  rw [hr]
  clear hr
  go_enter Try.func139, Try.ntmps139
  go_wp2_with fail
  have X0 := Pts.boxR w (.slice A n cap) 37 (k := w.heap.size) (by simp)
  have b0 := PointOk.below1 w (Obj.cells #[.slice A n cap] 37)
  have HO : ∀ W W' : World, (Pts.BoxR W (w.heap.size) (.slice A n cap) ∧ PtsAt W w.heap.size A ps ∧ Below w.heap.size w W) → Below W.heap.size W W' → (Pts.BoxR W' (w.heap.size) (.slice A n cap) ∧ PtsAt W' w.heap.size A ps ∧ Below w.heap.size w W') := fun W W' ⟨h0, x0, hb⟩ h => ⟨h0.later h, x0.later (h.mono hb.size), hb.trans (h.mono hb.size)⟩
  have hz0_ : Hid (((w.alloc (Obj.cells #[.slice A n cap] 37))).heap.size = w.heap.size + 1) := Lib.hid (by simp)
  have Y0 : PtsAt ((w.alloc (Obj.cells #[.slice A n cap] 37))) w.heap.size A ps := hp.later b0
  generalize (w.alloc (Obj.cells #[.slice A n cap] 37)) = w0 at X0 Y0 b0 hz0_ ⊢
  have S0 := (⟨X0, Y0, b0⟩ : Pts.BoxR w0 (w.heap.size) (.slice A n cap) ∧ PtsAt w0 w.heap.size A ps ∧ Below w.heap.size w w0)
  clear X0 Y0 b0
  obtain ⟨⟨_, _⟩, _, _⟩ := id S0
  have HE : Hid (r = (decide (0 ≤ i ∧ i < (n : Int)) && decide (0 ≤ k ∧ k < (n : Int)) && roomB ps && diagM ps i.toNat k.toNat)) := Lib.hid (by rw [← HR.out]; exact isDiagB_impl hl)
  replace HR := HE
  clear HE
  refine (WallOfImpl.hasCorner A n cap i _).mono ?_
  rintro e w1 ⟨rfl, hb_⟩
  replace S0 := HO _ _ S0 hb_
  clear hb_
  obtain ⟨⟨_, _⟩, _, _⟩ := id S0
  cases hc0_ : decide (0 ≤ i ∧ i < (n : Int))
  · have E : Hid (r = false) := Lib.hid (by rw [HR.out, hc0_]; simp)
    clear hl HR
    go_wp2_with fail
    go_ret
    exact ⟨ret_bool E.out.symm, S0.2.2⟩
  go_wp2_with fail
  refine (WallOfImpl.hasCorner A n cap k _).mono ?_
  rintro e w2 ⟨rfl, hb_⟩
  replace S0 := HO _ _ S0 hb_
  clear hb_
  obtain ⟨⟨_, _⟩, _, _⟩ := id S0
  cases hc1_ : decide (0 ≤ k ∧ k < (n : Int))
  · have E : Hid (r = false) := Lib.hid (by rw [HR.out, hc1_]; simp)
    clear hl HR
    go_wp2_with fail
    go_ret
    exact ⟨ret_bool E.out.symm, S0.2.2⟩
  go_wp2_with fail
  refine (RoomOkImpl.roomOk A n cap _ ps hl hn (S0.2.1.wide S0.2.2.size)).mono ?_
  rintro e w3 ⟨rfl, hb_⟩
  replace S0 := HO _ _ S0 hb_
  clear hb_
  obtain ⟨⟨_, _⟩, _, _⟩ := id S0
  cases hc2_ : roomB ps
  · have E : Hid (r = false) := Lib.hid (by rw [HR.out, hc2_]; simp)
    clear hl HR
    go_wp2_with fail
    go_ret
    exact ⟨ret_bool E.out.symm, S0.2.2⟩
  have hi := of_decide_eq_true hc0_
  have hk := of_decide_eq_true hc1_
  obtain ⟨ii, rfl⟩ := Int.eq_ofNat_of_zero_le hi.1
  obtain ⟨kk, rfl⟩ := Int.eq_ofNat_of_zero_le hk.1
  have E : Hid (diagM ps ii kk = r) := Lib.hid (by rw [HR.out, hc0_, hc1_, hc2_]; rfl)
  have Q : Hid (∀ w hp, _) := Lib.hid fun w hp => diag A n cap ii kk w ps hl hc2_ (by omega) (by omega) hp
  rw [E.out] at Q
  clear hl HR hc0_ hc1_ hc2_ E hi hk
  go_wp2_with fail
  refine (Q.out _ (S0.2.1.wide S0.2.2.size)).mono ?_
  rintro e w4 ⟨rfl, hb_⟩
  replace S0 := HO _ _ S0 hb_
  clear hb_
  obtain ⟨⟨_, _⟩, _, _⟩ := id S0
  go_wp2_with fail
  go_ret
  exact ⟨rfl, S0.2.2⟩

set_option maxRecDepth 100000 in
set_option maxHeartbeats 1600000 in
theorem ear (A : Option Addr) (n cap k : Nat) (w : World) (ps : List (Int × Int)) (hl : ps.length = n) (hr : roomB ps = true) (hk : k < n) (hp : PtsAt w w.heap.size A ps) :
    Calls Try.prog 118 #[.agg #[.slice A n cap], .int .i64 (k : Int)] w fun e w' => e = .returned (.bool (earM ps k)) ∧ Below w.heap.size w w' := by
  obtain ⟨r, hr⟩ : ∃ r, earM ps k = r := ⟨_, rfl⟩
  have HR := Lib.hid hr
  rw [hr]
  clear hr
  have h3 := (roomB_yes hr).1
  have HE : Hid (r = (decide (n = 3) || diagM ps ((k + (n - 1)) % n) ((k + 1) % n))) := Lib.hid (by rw [← HR.out, ← hl]; rfl)
  have hm : (k + 1) % n < n := Nat.mod_lt _ (by omega)
  have hm2 : (k + (n - 1)) % n < n := Nat.mod_lt _ (by omega)
  have QA : Hid (∀ w, _) := Lib.hid fun w => RoomImpl.indexAround A n cap ((k : Int) + 1) (by omega) (by omega) w
  have QB : Hid (∀ w, _) := Lib.hid fun w => RoomImpl.indexAround A n cap ((k : Int) - 1) (by omega) (by omega) w
  rw [ix_succ (by omega)] at QA
  rw [ix_pred1 (by omega) hk] at QB
  have Q : Hid (∀ w hp, _) := Lib.hid fun w hp => diag A n cap ((k + (n - 1)) % n) ((k + 1) % n) w ps hl hr hm2 hm hp
  generalize (k + 1) % n = m1 at *
  generalize (k + (n - 1)) % n = m2 at *
  have uk1 : IntKind.i64.wrap ((k : Int) + 1) = (k : Int) + 1 := IntWalk.i64_in _ (by omega)
  have uk2 : IntKind.i64.wrap ((k : Int) - 1) = (k : Int) - 1 := IntWalk.i64_in _ (by omega)
  clear HR hr
  by_cases c1 : n = 3
  · have b1 : ((n : Int) == 3) = true := by rw [beq_iff_eq]; omega
    have E : Hid (r = true) := Lib.hid (by rw [HE.out, c1]; rfl)
    clear HE hl c1 h3
    go_enter Try.func118, Try.ntmps118
    go_wp2_with fail
    have X0 := Pts.boxR w (.slice A n cap) 37 (k := w.heap.size) (by simp)
    have b0 := PointOk.below1 w (Obj.cells #[.slice A n cap] 37)
    have HO : ∀ W W' : World, (Pts.BoxR W (w.heap.size) (.slice A n cap) ∧ PtsAt W w.heap.size A ps ∧ Below w.heap.size w W) → Below W.heap.size W W' → (Pts.BoxR W' (w.heap.size) (.slice A n cap) ∧ PtsAt W' w.heap.size A ps ∧ Below w.heap.size w W') := fun W W' ⟨h0, x0, hb⟩ h => ⟨h0.later h, x0.later (h.mono hb.size), hb.trans (h.mono hb.size)⟩
    have hz0_ : Hid (((w.alloc (Obj.cells #[.slice A n cap] 37))).heap.size = w.heap.size + 1) := Lib.hid (by simp)
    have Y0 : PtsAt ((w.alloc (Obj.cells #[.slice A n cap] 37))) w.heap.size A ps := hp.later b0
    generalize (w.alloc (Obj.cells #[.slice A n cap] 37)) = w0 at X0 Y0 b0 hz0_ ⊢
    have S0 := (⟨X0, Y0, b0⟩ : Pts.BoxR w0 (w.heap.size) (.slice A n cap) ∧ PtsAt w0 w.heap.size A ps ∧ Below w.heap.size w w0)
    clear X0 Y0 b0
    obtain ⟨⟨_, _⟩, _, _⟩ := id S0
    go_ret
    exact ⟨ret_bool E.out.symm, S0.2.2⟩
  have b1 : ((n : Int) == 3) = false := beq_eq_false_iff_ne.2 (by omega)
  have E : Hid (diagM ps m2 m1 = r) := Lib.hid (by rw [HE.out]; simp [c1])
  rw [E.out] at Q
  clear HE hl E
  go_enter Try.func118, Try.ntmps118
  go_wp2_with fail
  have X0 := Pts.boxR w (.slice A n cap) 37 (k := w.heap.size) (by simp)
  have b0 := PointOk.below1 w (Obj.cells #[.slice A n cap] 37)
  have HO : ∀ W W' : World, (Pts.BoxR W (w.heap.size) (.slice A n cap) ∧ PtsAt W w.heap.size A ps ∧ Below w.heap.size w W) → Below W.heap.size W W' → (Pts.BoxR W' (w.heap.size) (.slice A n cap) ∧ PtsAt W' w.heap.size A ps ∧ Below w.heap.size w W') := fun W W' ⟨h0, x0, hb⟩ h => ⟨h0.later h, x0.later (h.mono hb.size), hb.trans (h.mono hb.size)⟩
  have hz0_ : Hid (((w.alloc (Obj.cells #[.slice A n cap] 37))).heap.size = w.heap.size + 1) := Lib.hid (by simp)
  have Y0 : PtsAt ((w.alloc (Obj.cells #[.slice A n cap] 37))) w.heap.size A ps := hp.later b0
  generalize (w.alloc (Obj.cells #[.slice A n cap] 37)) = w0 at X0 Y0 b0 hz0_ ⊢
  have S0 := (⟨X0, Y0, b0⟩ : Pts.BoxR w0 (w.heap.size) (.slice A n cap) ∧ PtsAt w0 w.heap.size A ps ∧ Below w.heap.size w w0)
  clear X0 Y0 b0
  obtain ⟨⟨_, _⟩, _, _⟩ := id S0
  refine Settle.region (fun W => Pts.BoxR W (w.heap.size) (.slice A n cap) ∧ PtsAt W w.heap.size A ps ∧ Below w.heap.size w W) (by kernel_rfl) (by kernel_rfl) (by kernel_rfl) (by kernel_rfl) (HO _ _ S0 ((Below.refl _ _).drew)) ?_
  clear S0
  repeat (first
    | (refine Settle.Settles.off (by rfl) ?_; simp only [Act.put, List.setIfInBounds_toArray, List.set_cons_zero, List.set_cons_succ])
    | (refine Settle.Settles.quiet (v := ?_) (by rfl) ?_ ?_
       rotate_left
       · (intro W hS; obtain ⟨⟨_, _⟩, _, _⟩ := hS; go_simp; with_reducible rfl)
       simp only [Act.put, List.setIfInBounds_toArray, List.set_cons_zero, List.set_cons_succ])
    | (refine Settle.Settles.call (v := ?_) (f := ?_) (args := ?_) (by rfl) ?_ ?_ ?_
       rotate_left 3
       · (intro W; go_simp; refine ⟨?_, ?_⟩ <;> with_reducible rfl)
       · (intro W hS; first | (go_at_call 155; (with_reducible refine (Q.out _ (hS.2.1.wide hS.2.2.size)).mono ?_); rintro e W1 ⟨rfl, hb⟩; refine ⟨?_, HO _ _ hS hb⟩; with_reducible rfl) | (go_at_call 156; (with_reducible refine (QB.out _).mono ?_); rintro e W1 ⟨rfl, rfl⟩; refine ⟨?_, hS⟩; with_reducible rfl) | (go_at_call 156; (with_reducible refine (QA.out _).mono ?_); rintro e W1 ⟨rfl, rfl⟩; refine ⟨?_, hS⟩; with_reducible rfl))
       simp only [Act.put, List.setIfInBounds_toArray, List.set_cons_zero, List.set_cons_succ]))
  refine Settle.Settles.nil ?_
  intro wr S0
  obtain ⟨⟨_, _⟩, _, _⟩ := id S0
  go_wp2_with fail
  go_ret
  exact ⟨rfl, S0.2.2⟩

set_option maxRecDepth 100000 in
set_option maxHeartbeats 1600000 in
theorem isEar (A : Option Addr) (n cap : Nat) (k : Int) (w : World) (ps : List (Int × Int)) (hl : ps.length = n) (hn : n ≤ 1048576) (hp : PtsAt w w.heap.size A ps) :
    Calls Try.prog 71 #[.agg #[.slice A n cap], .int .i64 k] w fun e w' => e = .returned (.bool (isEarB ps k)) ∧ Below w.heap.size w w' := by
  obtain ⟨r, hr⟩ : ∃ r, isEarB ps k = r := ⟨_, rfl⟩
  have HR := Lib.hid hr
  rw [hr]
  clear hr
  go_enter Try.func71, Try.ntmps71
  go_wp2_with fail
  have X0 := Pts.boxR w (.slice A n cap) 37 (k := w.heap.size) (by simp)
  have b0 := PointOk.below1 w (Obj.cells #[.slice A n cap] 37)
  have HO : ∀ W W' : World, (Pts.BoxR W (w.heap.size) (.slice A n cap) ∧ PtsAt W w.heap.size A ps ∧ Below w.heap.size w W) → Below W.heap.size W W' → (Pts.BoxR W' (w.heap.size) (.slice A n cap) ∧ PtsAt W' w.heap.size A ps ∧ Below w.heap.size w W') := fun W W' ⟨h0, x0, hb⟩ h => ⟨h0.later h, x0.later (h.mono hb.size), hb.trans (h.mono hb.size)⟩
  have hz0_ : Hid (((w.alloc (Obj.cells #[.slice A n cap] 37))).heap.size = w.heap.size + 1) := Lib.hid (by simp)
  have Y0 : PtsAt ((w.alloc (Obj.cells #[.slice A n cap] 37))) w.heap.size A ps := hp.later b0
  generalize (w.alloc (Obj.cells #[.slice A n cap] 37)) = w0 at X0 Y0 b0 hz0_ ⊢
  have S0 := (⟨X0, Y0, b0⟩ : Pts.BoxR w0 (w.heap.size) (.slice A n cap) ∧ PtsAt w0 w.heap.size A ps ∧ Below w.heap.size w w0)
  clear X0 Y0 b0
  obtain ⟨⟨_, _⟩, _, _⟩ := id S0
  have HE : Hid (r = (decide (0 ≤ k ∧ k < (n : Int)) && roomB ps && earM ps k.toNat)) := Lib.hid (by rw [← HR.out]; exact isEarB_impl hl)
  replace HR := HE
  clear HE
  refine (WallOfImpl.hasCorner A n cap k _).mono ?_
  rintro e w1 ⟨rfl, hb_⟩
  replace S0 := HO _ _ S0 hb_
  clear hb_
  obtain ⟨⟨_, _⟩, _, _⟩ := id S0
  cases hc0_ : decide (0 ≤ k ∧ k < (n : Int))
  · have E : Hid (r = false) := Lib.hid (by rw [HR.out, hc0_]; simp)
    clear hl HR
    go_wp2_with fail
    go_ret
    exact ⟨ret_bool E.out.symm, S0.2.2⟩
  go_wp2_with fail
  refine (RoomOkImpl.roomOk A n cap _ ps hl hn (S0.2.1.wide S0.2.2.size)).mono ?_
  rintro e w2 ⟨rfl, hb_⟩
  replace S0 := HO _ _ S0 hb_
  clear hb_
  obtain ⟨⟨_, _⟩, _, _⟩ := id S0
  cases hc1_ : roomB ps
  · have E : Hid (r = false) := Lib.hid (by rw [HR.out, hc1_]; simp)
    clear hl HR
    go_wp2_with fail
    go_ret
    exact ⟨ret_bool E.out.symm, S0.2.2⟩
  have hk := of_decide_eq_true hc0_
  obtain ⟨kk, rfl⟩ := Int.eq_ofNat_of_zero_le hk.1
  have E : Hid (earM ps kk = r) := Lib.hid (by rw [HR.out, hc0_, hc1_]; rfl)
  have Q : Hid (∀ w hp, _) := Lib.hid fun w hp => ear A n cap kk w ps hl hc1_ (by omega) hp
  rw [E.out] at Q
  clear hl HR hc0_ hc1_ E hk
  go_wp2_with fail
  refine (Q.out _ (S0.2.1.wide S0.2.2.size)).mono ?_
  rintro e w3 ⟨rfl, hb_⟩
  replace S0 := HO _ _ S0 hb_
  clear hb_
  obtain ⟨⟨_, _⟩, _, _⟩ := id S0
  go_wp2_with fail
  go_ret
  exact ⟨rfl, S0.2.2⟩

end Go.Proofs.Ythokeedmccfalaa.DiagImpl

