/-
  What the functions on triangles of corners do, as contracts: what each answers; new memory alone is written.
-/
import Derived.Test.YtkcodmafakjkfaaGreatRoomOkSpec
import Derived.Test.YtkcodmafakjkfaaGreatGround
import Derived.Test.YtkcodmafakjkfaaGreatTriMath
import Derived.Test.YtkcodmafakjkfaaGreatBox3
namespace Go.Proofs.YtkcodmafakjkfaaGreat.TriSpec
open Go.RowKit Own PointMath WallMath RoomMath Pts Blk AreaMath TriMath
open PointOk (ret_bool ret_i64 below1 below2 below3)

set_option maxRecDepth 100000 in
set_option maxHeartbeats 1600000 in
theorem l11In (ax ay bx bY cx cy px py : Int) (ha : smP ax ay) (hb : smP bx bY) (hc : smP cx cy) (hp : smP px py) (w : World) :
    Calls Tryz.prog 90 #[.agg #[.int .i64 ax, .int .i64 ay], .agg #[.int .i64 bx, .int .i64 bY], .agg #[.int .i64 cx, .int .i64 cy], .agg #[.int .i64 px, .int .i64 py]] w fun e w' => e = .returned (.bool (triIn (ax, ay) (bx, bY) (cx, cy) (px, py))) ∧ Below w.heap.size w w' := by
  obtain ⟨r, hr⟩ : ∃ r, triIn (ax, ay) (bx, bY) (cx, cy) (px, py) = r := ⟨_, rfl⟩
  have HR := Lib.hid hr
  rw [hr]
  clear hr
  obtain ⟨t1, ht1⟩ : ∃ t, turnI ax ay bx bY px py = t := ⟨_, rfl⟩
  obtain ⟨t2, ht2⟩ : ∃ t, turnI bx bY cx cy px py = t := ⟨_, rfl⟩
  obtain ⟨t3, ht3⟩ : ∃ t, turnI cx cy ax ay px py = t := ⟨_, rfl⟩
  have Q1 : Hid (∀ w, _) := Lib.hid fun w => PointSpec.l02Turn ax ay bx bY px py ha hb hp w
  have Q2 : Hid (∀ w, _) := Lib.hid fun w => PointSpec.l02Turn bx bY cx cy px py hb hc hp w
  have Q3 : Hid (∀ w, _) := Lib.hid fun w => PointSpec.l02Turn cx cy ax ay px py hc ha hp w
  rw [ht1] at Q1
  rw [ht2] at Q2
  rw [ht3] at Q3
  have HE : Hid (r = (decide (0 ≤ t1) && decide (0 ≤ t2) && decide (0 ≤ t3))) := Lib.hid (by rw [← HR.out, ← ht1, ← ht2, ← ht3]; rfl)
  clear HR ht1 ht2 ht3 ha hb hc hp
  go_enter Tryz.func90, Tryz.ntmps90
  go_wp2_with fail
  have X0 := (((PointOk.box1 w ax ay 40 (k := w.heap.size) (by simp)).alloc (Obj.cells #[.int .i64 bx, .int .i64 bY] 40)).alloc (Obj.cells #[.int .i64 cx, .int .i64 cy] 40)).alloc (Obj.cells #[.int .i64 px, .int .i64 py] 40)
  have X1 := ((PointOk.box1 (w.alloc (Obj.cells #[.int .i64 ax, .int .i64 ay] 40)) bx bY 40 (k := w.heap.size + 1) (by simp)).alloc (Obj.cells #[.int .i64 cx, .int .i64 cy] 40)).alloc (Obj.cells #[.int .i64 px, .int .i64 py] 40)
  have X2 := (PointOk.box1 ((w.alloc (Obj.cells #[.int .i64 ax, .int .i64 ay] 40)).alloc (Obj.cells #[.int .i64 bx, .int .i64 bY] 40)) cx cy 40 (k := w.heap.size + 1 + 1) (by simp)).alloc (Obj.cells #[.int .i64 px, .int .i64 py] 40)
  have X3 := PointOk.box1 (((w.alloc (Obj.cells #[.int .i64 ax, .int .i64 ay] 40)).alloc (Obj.cells #[.int .i64 bx, .int .i64 bY] 40)).alloc (Obj.cells #[.int .i64 cx, .int .i64 cy] 40)) px py 40 (k := w.heap.size + 1 + 1 + 1) (by simp)
  have b0 := PointOk.below4 w (Obj.cells #[.int .i64 ax, .int .i64 ay] 40) (Obj.cells #[.int .i64 bx, .int .i64 bY] 40) (Obj.cells #[.int .i64 cx, .int .i64 cy] 40) (Obj.cells #[.int .i64 px, .int .i64 py] 40)
  have HO : ∀ W W' : World, (PointOk.Box W (w.heap.size) ax ay ∧ PointOk.Box W (w.heap.size + 1) bx bY ∧ PointOk.Box W (w.heap.size + 1 + 1) cx cy ∧ PointOk.Box W (w.heap.size + 1 + 1 + 1) px py ∧ Below w.heap.size w W) → Below W.heap.size W W' → (PointOk.Box W' (w.heap.size) ax ay ∧ PointOk.Box W' (w.heap.size + 1) bx bY ∧ PointOk.Box W' (w.heap.size + 1 + 1) cx cy ∧ PointOk.Box W' (w.heap.size + 1 + 1 + 1) px py ∧ Below w.heap.size w W') := fun W W' ⟨h0, h1, h2, h3, hb⟩ h => ⟨h0.later h, h1.later h, h2.later h, h3.later h, hb.trans (h.mono hb.size)⟩
  have hz0_ : Hid ((((((w.alloc (Obj.cells #[.int .i64 ax, .int .i64 ay] 40)).alloc (Obj.cells #[.int .i64 bx, .int .i64 bY] 40)).alloc (Obj.cells #[.int .i64 cx, .int .i64 cy] 40)).alloc (Obj.cells #[.int .i64 px, .int .i64 py] 40))).heap.size = w.heap.size + 1 + 1 + 1 + 1) := Lib.hid (by simp)
  generalize ((((w.alloc (Obj.cells #[.int .i64 ax, .int .i64 ay] 40)).alloc (Obj.cells #[.int .i64 bx, .int .i64 bY] 40)).alloc (Obj.cells #[.int .i64 cx, .int .i64 cy] 40)).alloc (Obj.cells #[.int .i64 px, .int .i64 py] 40)) = w0 at X0 X1 X2 X3 b0 hz0_ ⊢
  have S0 := (⟨X0, X1, X2, X3, b0⟩ : PointOk.Box w0 (w.heap.size) ax ay ∧ PointOk.Box w0 (w.heap.size + 1) bx bY ∧ PointOk.Box w0 (w.heap.size + 1 + 1) cx cy ∧ PointOk.Box w0 (w.heap.size + 1 + 1 + 1) px py ∧ Below w.heap.size w w0)
  clear X0 X1 X2 X3 b0
  obtain ⟨⟨_, _⟩, ⟨_, _⟩, ⟨_, _⟩, ⟨_, _⟩, _⟩ := id S0
  refine (Q1.out _).mono ?_
  rintro e w1 ⟨rfl, hb_⟩
  replace S0 := HO _ _ S0 hb_
  clear hb_
  obtain ⟨⟨_, _⟩, ⟨_, _⟩, ⟨_, _⟩, ⟨_, _⟩, _⟩ := id S0
  by_cases c1 : 0 ≤ t1
  rotate_left
  · have E : Hid (r = false) := Lib.hid (by rw [HE.out, decide_eq_false c1]; simp)
    have g1 : t1 < 0 := by omega
    go_wp2_with fail
    go_ret
    exact ⟨ret_bool E.out.symm, S0.2.2.2.2⟩
  have g1 : ¬ t1 < 0 := by omega
  go_wp2_with fail
  refine (Q2.out _).mono ?_
  rintro e w2 ⟨rfl, hb_⟩
  replace S0 := HO _ _ S0 hb_
  clear hb_
  obtain ⟨⟨_, _⟩, ⟨_, _⟩, ⟨_, _⟩, ⟨_, _⟩, _⟩ := id S0
  by_cases c2 : 0 ≤ t2
  rotate_left
  · have E : Hid (r = false) := Lib.hid (by rw [HE.out, decide_eq_false c2]; simp)
    have g2 : t2 < 0 := by omega
    go_wp2_with fail
    go_ret
    exact ⟨ret_bool E.out.symm, S0.2.2.2.2⟩
  have g2 : ¬ t2 < 0 := by omega
  go_wp2_with fail
  refine (Q3.out _).mono ?_
  rintro e w3 ⟨rfl, hb_⟩
  replace S0 := HO _ _ S0 hb_
  clear hb_
  obtain ⟨⟨_, _⟩, ⟨_, _⟩, ⟨_, _⟩, ⟨_, _⟩, _⟩ := id S0
  have E : Hid (r = decide (0 ≤ t3)) := Lib.hid (by rw [HE.out, decide_eq_true c1, decide_eq_true c2]; rfl)
  go_wp2_with fail
  go_ret
  exact ⟨ret_bool (by rw [E.out]), S0.2.2.2.2⟩

set_option maxRecDepth 100000 in
set_option maxHeartbeats 1600000 in
theorem area (A : Option Addr) (n cap : Nat) (a b c : Int) (w : World) (ps : List (Int × Int)) (hl : ps.length = n) (hn : n ≤ 1048576) (hp : PtsAt w w.heap.size A ps) :
    Calls Tryz.prog 103 #[.agg #[.slice A n cap], .agg #[.int .i64 a, .int .i64 b, .int .i64 c]] w fun e w' => e = .returned (.int .i64 (triAreaI ps a b c)) ∧ Below w.heap.size w w' := by
  obtain ⟨r, hr⟩ : ∃ r, triAreaI ps a b c = r := ⟨_, rfl⟩
  have HR := Lib.hid hr
  rw [hr]
  clear hr
  have HE := HR
  go_enter Tryz.func103, Tryz.ntmps103
  go_wp2_with fail
  have X0 := (Pts.boxR w (.slice A n cap) 30 (k := w.heap.size) (by simp)).alloc (Obj.cells #[.int .i64 a, .int .i64 b, .int .i64 c] 65)
  have X1 := Box3.box1 (w.alloc (Obj.cells #[.slice A n cap] 30)) a b c 65 (k := w.heap.size + 1) (by simp)
  have b0 := PointOk.below2 w (Obj.cells #[.slice A n cap] 30) (Obj.cells #[.int .i64 a, .int .i64 b, .int .i64 c] 65)
  have HO : ∀ W W' : World, (Pts.BoxR W (w.heap.size) (.slice A n cap) ∧ Box3.Box W (w.heap.size + 1) a b c ∧ PtsAt W w.heap.size A ps ∧ Below w.heap.size w W) → Below W.heap.size W W' → (Pts.BoxR W' (w.heap.size) (.slice A n cap) ∧ Box3.Box W' (w.heap.size + 1) a b c ∧ PtsAt W' w.heap.size A ps ∧ Below w.heap.size w W') := fun W W' ⟨h0, h1, x0, hb⟩ h => ⟨h0.later h, h1.later h, x0.later (h.mono hb.size), hb.trans (h.mono hb.size)⟩
  have hz0_ : Hid ((((w.alloc (Obj.cells #[.slice A n cap] 30)).alloc (Obj.cells #[.int .i64 a, .int .i64 b, .int .i64 c] 65))).heap.size = w.heap.size + 1 + 1) := Lib.hid (by simp)
  have Y0 : PtsAt (((w.alloc (Obj.cells #[.slice A n cap] 30)).alloc (Obj.cells #[.int .i64 a, .int .i64 b, .int .i64 c] 65))) w.heap.size A ps := hp.later b0
  generalize ((w.alloc (Obj.cells #[.slice A n cap] 30)).alloc (Obj.cells #[.int .i64 a, .int .i64 b, .int .i64 c] 65)) = w0 at X0 X1 Y0 b0 hz0_ ⊢
  have S0 := (⟨X0, X1, Y0, b0⟩ : Pts.BoxR w0 (w.heap.size) (.slice A n cap) ∧ Box3.Box w0 (w.heap.size + 1) a b c ∧ PtsAt w0 w.heap.size A ps ∧ Below w.heap.size w w0)
  clear X0 X1 Y0 b0
  obtain ⟨⟨_, _⟩, ⟨_, _, _⟩, _, _⟩ := id S0
  refine (RoomOkSpec.roomOk A n cap _ ps hl hn (S0.2.2.1.wide S0.2.2.2.size)).mono ?_
  rintro e w1 ⟨rfl, hb_⟩
  replace S0 := HO _ _ S0 hb_
  clear hb_
  obtain ⟨⟨_, _⟩, ⟨_, _, _⟩, _, _⟩ := id S0
  cases hr : roomB ps
  · have E : Hid (r = 0) := Lib.hid (by rw [← HR.out]; unfold triAreaI triB; rw [hr]; rfl)
    clear hl HR HE
    go_wp2_with fail
    go_ret
    exact ⟨ret_i64 E.out.symm, S0.2.2.2⟩
  by_cases c0 : 0 ≤ a
  rotate_left
  · have E : Hid (r = 0) := Lib.hid (by rw [← HR.out]; unfold triAreaI triB; rw [if_neg]; rw [hl]; simp; omega)
    have g0 : a < 0 := by omega
    clear hl HR HE
    go_wp2_with fail
    go_ret
    exact ⟨ret_i64 E.out.symm, S0.2.2.2⟩
  have g0 : ¬ (a < 0) := by omega
  by_cases c1 : a < b
  rotate_left
  · have E : Hid (r = 0) := Lib.hid (by rw [← HR.out]; unfold triAreaI triB; rw [if_neg]; rw [hl]; simp; omega)
    have g1 : b ≤ a := by omega
    clear hl HR HE
    go_wp2_with fail
    go_ret
    exact ⟨ret_i64 E.out.symm, S0.2.2.2⟩
  have g1 : ¬ (b ≤ a) := by omega
  by_cases c2 : b < c
  rotate_left
  · have E : Hid (r = 0) := Lib.hid (by rw [← HR.out]; unfold triAreaI triB; rw [if_neg]; rw [hl]; simp; omega)
    have g2 : c ≤ b := by omega
    clear hl HR HE
    go_wp2_with fail
    go_ret
    exact ⟨ret_i64 E.out.symm, S0.2.2.2⟩
  have g2 : ¬ (c ≤ b) := by omega
  by_cases c3 : c < (n : Int)
  rotate_left
  · have E : Hid (r = 0) := Lib.hid (by rw [← HR.out]; unfold triAreaI triB; rw [if_neg]; rw [hl]; simp; omega)
    have g3 : (n : Int) ≤ c := by omega
    clear hl HR HE
    go_wp2_with fail
    go_ret
    exact ⟨ret_i64 E.out.symm, S0.2.2.2⟩
  have g3 : ¬ ((n : Int) ≤ c) := by omega
  have hy := roomB_yes hr
  have hok := Lib.hid hy.2.1
  obtain ⟨i, rfl⟩ := Int.eq_ofNat_of_zero_le (show 0 ≤ a by omega)
  obtain ⟨j, rfl⟩ := Int.eq_ofNat_of_zero_le (show 0 ≤ b by omega)
  obtain ⟨k, rfl⟩ := Int.eq_ofNat_of_zero_le (show 0 ≤ c by omega)
  replace HE : Hid (turnP (pt ps i) (pt ps j) (pt ps k) = r) := Lib.hid (by
    rw [← HR.out]; unfold triAreaI triB
    rw [if_pos (by rw [hr, hl]; simp; omega)]
    rfl)
  have p0 := pt_at (ps := ps) (k := i) (by omega)
  have o0 := okP_sm (okAll_at hok.out (k := i) (by omega))
  obtain ⟨ax, ay, ha⟩ : ∃ x y, pt ps i = (x, y) := ⟨_, _, rfl⟩
  rw [ha] at p0 o0 HE
  have p1 := pt_at (ps := ps) (k := j) (by omega)
  have o1 := okP_sm (okAll_at hok.out (k := j) (by omega))
  obtain ⟨bx, by_, hb⟩ : ∃ x y, pt ps j = (x, y) := ⟨_, _, rfl⟩
  rw [hb] at p1 o1 HE
  have p2 := pt_at (ps := ps) (k := k) (by omega)
  have o2 := okP_sm (okAll_at hok.out (k := k) (by omega))
  obtain ⟨cx, cy, hc⟩ : ∃ x y, pt ps k = (x, y) := ⟨_, _, rfl⟩
  rw [hc] at p2 o2 HE
  obtain ⟨ad, eA, bA, pA⟩ := S0.2.2.1.get p0
  obtain ⟨ad2, eA2, _, pB⟩ := S0.2.2.1.get p1
  rw [eA] at eA2
  injection eA2 with eA2
  subst eA2
  obtain ⟨ad2, eA2, _, pC⟩ := S0.2.2.1.get p2
  rw [eA] at eA2
  injection eA2 with eA2
  subst eA2
  subst eA
  have hi1 : (i : Int) < (n : Int) := by omega
  have hi0 : (0 : Int) ≤ (i : Int) := by omega
  have hj1 : (j : Int) < (n : Int) := by omega
  have hj0 : (0 : Int) ≤ (j : Int) := by omega
  have hk1 : (k : Int) < (n : Int) := by omega
  have hk0 : (0 : Int) ≤ (k : Int) := by omega
  have QT : Hid (∀ w, _) := Lib.hid fun w => PointSpec.l02Turn ax ay bx by_ cx cy o0 o1 o2 w
  replace HE : Hid (turnI ax ay bx by_ cx cy = r) := HE
  rw [HE.out] at QT
  have HO : ∀ W W' : World, (BoxR W w.heap.size (.slice (some ad) n cap) ∧ Box3.Box W (w.heap.size + 1) (i : Int) (j : Int) (k : Int) ∧ PtAt W ad i ax ay ∧ PtAt W ad j bx by_ ∧ PtAt W ad k cx cy ∧ Below w.heap.size w W) → Below W.heap.size W W' → (BoxR W' w.heap.size (.slice (some ad) n cap) ∧ Box3.Box W' (w.heap.size + 1) (i : Int) (j : Int) (k : Int) ∧ PtAt W' ad i ax ay ∧ PtAt W' ad j bx by_ ∧ PtAt W' ad k cx cy ∧ Below w.heap.size w W') := fun W W' ⟨x0, x1, x2, x3, x4, hb⟩ h => ⟨x0.later h, x1.later h, x2.later bA (h.mono hb.size), x3.later bA (h.mono hb.size), x4.later bA (h.mono hb.size), hb.trans (h.mono hb.size)⟩
  replace S0 : BoxR w1 w.heap.size (.slice (some ad) n cap) ∧ Box3.Box w1 (w.heap.size + 1) (i : Int) (j : Int) (k : Int) ∧ PtAt w1 ad i ax ay ∧ PtAt w1 ad j bx by_ ∧ PtAt w1 ad k cx cy ∧ Below w.heap.size w w1 := ⟨S0.1, S0.2.1, pA, pB, pC, S0.2.2.2⟩
  clear pA pB pC hl HR HE p0 p1 p2 o0 o1 o2 ha hb hc hok hy hr hp
  obtain ⟨⟨_, _⟩, ⟨_, _, _⟩, ⟨_, _⟩, ⟨_, _⟩, ⟨_, _⟩, _⟩ := id S0
  go_wp2_with fail
  refine Settle.region (fun W => BoxR W w.heap.size (.slice (some ad) n cap) ∧ Box3.Box W (w.heap.size + 1) (i : Int) (j : Int) (k : Int) ∧ PtAt W ad i ax ay ∧ PtAt W ad j bx by_ ∧ PtAt W ad k cx cy ∧ Below w.heap.size w W) (by kernel_rfl) (by kernel_rfl) (by kernel_rfl) (by kernel_rfl) (HO _ _ S0 ((Below.refl _ _).drew)) ?_
  clear S0
  repeat (first
    | (refine Settle.Settles.off (by rfl) ?_; simp only [Act.put, List.setIfInBounds_toArray, List.set_cons_zero, List.set_cons_succ])
    | (refine Settle.Settles.quiet (v := ?_) (by rfl) ?_ ?_
       rotate_left
       · (intro W hS; obtain ⟨⟨_, _⟩, ⟨_, _, _⟩, ⟨_, _⟩, ⟨_, _⟩, ⟨_, _⟩, _⟩ := hS; go_simp; with_reducible rfl)
       simp only [Act.put, List.setIfInBounds_toArray, List.set_cons_zero, List.set_cons_succ])
    | (refine Settle.Settles.call (v := ?_) (f := ?_) (args := ?_) (by rfl) ?_ ?_ ?_
       rotate_left 3
       · (intro W; go_simp; refine ⟨?_, ?_⟩ <;> with_reducible rfl)
       · (intro W hS; first | (go_at_call 86; (with_reducible refine (QT.out _).mono ?_); rintro e W1 ⟨rfl, hb⟩; refine ⟨?_, HO _ _ hS hb⟩; with_reducible rfl))
       simp only [Act.put, List.setIfInBounds_toArray, List.set_cons_zero, List.set_cons_succ]))
  refine Settle.Settles.nil ?_
  intro wr S0
  obtain ⟨⟨_, _⟩, ⟨_, _, _⟩, ⟨_, _⟩, ⟨_, _⟩, ⟨_, _⟩, _⟩ := id S0
  go_wp2_with fail
  go_ret
  exact ⟨rfl, S0.2.2.2.2.2⟩

set_option maxRecDepth 100000 in
set_option maxHeartbeats 3200000 in
theorem inTri (A : Option Addr) (n cap : Nat) (a b c x y : Int) (w : World) (ps : List (Int × Int)) (hl : ps.length = n) (hn : n ≤ 1048576) (hp : PtsAt w w.heap.size A ps) :
    Calls Tryz.prog 68 #[.agg #[.slice A n cap], .agg #[.int .i64 a, .int .i64 b, .int .i64 c], .agg #[.int .i64 x, .int .i64 y]] w fun e w' => e = .returned (.bool (inTriB ps a b c x y)) ∧ Below w.heap.size w w' := by
  obtain ⟨r, hr⟩ : ∃ r, inTriB ps a b c x y = r := ⟨_, rfl⟩
  have HR := Lib.hid hr
  rw [hr]
  clear hr
  go_enter Tryz.func68, Tryz.ntmps68
  go_wp2_with fail
  have X0 := ((Pts.boxR w (.slice A n cap) 30 (k := w.heap.size) (by simp)).alloc (Obj.cells #[.int .i64 a, .int .i64 b, .int .i64 c] 65)).alloc (Obj.cells #[.int .i64 x, .int .i64 y] 40)
  have X1 := (Box3.box1 (w.alloc (Obj.cells #[.slice A n cap] 30)) a b c 65 (k := w.heap.size + 1) (by simp)).alloc (Obj.cells #[.int .i64 x, .int .i64 y] 40)
  have X2 := PointOk.box1 ((w.alloc (Obj.cells #[.slice A n cap] 30)).alloc (Obj.cells #[.int .i64 a, .int .i64 b, .int .i64 c] 65)) x y 40 (k := w.heap.size + 1 + 1) (by simp)
  have b0 := PointOk.below3 w (Obj.cells #[.slice A n cap] 30) (Obj.cells #[.int .i64 a, .int .i64 b, .int .i64 c] 65) (Obj.cells #[.int .i64 x, .int .i64 y] 40)
  have HO : ∀ W W' : World, (Pts.BoxR W (w.heap.size) (.slice A n cap) ∧ Box3.Box W (w.heap.size + 1) a b c ∧ PointOk.Box W (w.heap.size + 1 + 1) x y ∧ PtsAt W w.heap.size A ps ∧ Below w.heap.size w W) → Below W.heap.size W W' → (Pts.BoxR W' (w.heap.size) (.slice A n cap) ∧ Box3.Box W' (w.heap.size + 1) a b c ∧ PointOk.Box W' (w.heap.size + 1 + 1) x y ∧ PtsAt W' w.heap.size A ps ∧ Below w.heap.size w W') := fun W W' ⟨h0, h1, h2, x0, hb⟩ h => ⟨h0.later h, h1.later h, h2.later h, x0.later (h.mono hb.size), hb.trans (h.mono hb.size)⟩
  have hz0_ : Hid (((((w.alloc (Obj.cells #[.slice A n cap] 30)).alloc (Obj.cells #[.int .i64 a, .int .i64 b, .int .i64 c] 65)).alloc (Obj.cells #[.int .i64 x, .int .i64 y] 40))).heap.size = w.heap.size + 1 + 1 + 1) := Lib.hid (by simp)
  have Y0 : PtsAt ((((w.alloc (Obj.cells #[.slice A n cap] 30)).alloc (Obj.cells #[.int .i64 a, .int .i64 b, .int .i64 c] 65)).alloc (Obj.cells #[.int .i64 x, .int .i64 y] 40))) w.heap.size A ps := hp.later b0
  generalize (((w.alloc (Obj.cells #[.slice A n cap] 30)).alloc (Obj.cells #[.int .i64 a, .int .i64 b, .int .i64 c] 65)).alloc (Obj.cells #[.int .i64 x, .int .i64 y] 40)) = w0 at X0 X1 X2 Y0 b0 hz0_ ⊢
  have S0 := (⟨X0, X1, X2, Y0, b0⟩ : Pts.BoxR w0 (w.heap.size) (.slice A n cap) ∧ Box3.Box w0 (w.heap.size + 1) a b c ∧ PointOk.Box w0 (w.heap.size + 1 + 1) x y ∧ PtsAt w0 w.heap.size A ps ∧ Below w.heap.size w w0)
  clear X0 X1 X2 Y0 b0
  obtain ⟨⟨_, _⟩, ⟨_, _, _⟩, ⟨_, _⟩, _, _⟩ := id S0
  have QA : Hid (∀ w hp, _) := Lib.hid fun w hp => area A n cap a b c w ps hl hn hp
  have QP : Hid (∀ w, _) := Lib.hid fun w => PointOk.pointOk x y w
  obtain ⟨t, ht⟩ : ∃ t, triAreaI ps a b c = t := ⟨_, rfl⟩
  have HE : Hid (r = (decide (0 < t) && okP x y && triIn (pt ps a.toNat) (pt ps b.toNat) (pt ps c.toNat) (x, y))) := Lib.hid (by rw [← HR.out, ← ht]; rfl)
  rw [ht] at QA
  by_cases h0 : 0 < t
  rotate_left
  · have E : Hid (r = false) := Lib.hid (by rw [HE.out, decide_eq_false h0]; rfl)
    have d0 : decide (0 < t) = false := decide_eq_false h0
    clear hl HR HE ht h0
    go_wp2_with fail
    refine Settle.region (fun W => Pts.BoxR W (w.heap.size) (.slice A n cap) ∧ Box3.Box W (w.heap.size + 1) a b c ∧ PointOk.Box W (w.heap.size + 1 + 1) x y ∧ PtsAt W w.heap.size A ps ∧ Below w.heap.size w W) (by kernel_rfl) (by kernel_rfl) (by kernel_rfl) (by kernel_rfl) (HO _ _ S0 ((Below.refl _ _).drew)) ?_
    clear S0
    repeat (first
      | (refine Settle.Settles.off (by rfl) ?_; simp only [Act.put, List.setIfInBounds_toArray, List.set_cons_zero, List.set_cons_succ])
      | (refine Settle.Settles.quiet (v := ?_) (by rfl) ?_ ?_
         rotate_left
         · (intro W hS; obtain ⟨⟨_, _⟩, ⟨_, _, _⟩, ⟨_, _⟩, _, _⟩ := hS; go_simp; with_reducible rfl)
         simp only [Act.put, List.setIfInBounds_toArray, List.set_cons_zero, List.set_cons_succ])
      | (refine Settle.Settles.call (v := ?_) (f := ?_) (args := ?_) (by rfl) ?_ ?_ ?_
         rotate_left 3
         · (intro W; go_simp; refine ⟨?_, ?_⟩ <;> with_reducible rfl)
         · (intro W hS; first | (go_at_call 103; (with_reducible refine (QA.out _ (hS.2.2.2.1.wide hS.2.2.2.2.size)).mono ?_); rintro e W1 ⟨rfl, hb⟩; refine ⟨?_, HO _ _ hS hb⟩; with_reducible rfl))
         simp only [Act.put, List.setIfInBounds_toArray, List.set_cons_zero, List.set_cons_succ]))
    refine Settle.Settles.nil ?_
    intro wr S0
    obtain ⟨⟨_, _⟩, ⟨_, _, _⟩, ⟨_, _⟩, _, _⟩ := id S0
    go_wp2_with fail
    go_ret
    exact ⟨ret_bool E.out.symm, S0.2.2.2.2⟩
  have d0 : decide (0 < t) = true := decide_eq_true h0
  have hb3 := triB_yes (triArea_pos (ps := ps) (a := a) (b := b) (c := c) (by omega))
  cases ho : okP x y
  · have E : Hid (r = false) := Lib.hid (by rw [HE.out, ho]; simp)
    rw [ho] at QP
    clear hl HR HE ht ho hb3
    go_wp2_with fail
    refine Settle.region (fun W => Pts.BoxR W (w.heap.size) (.slice A n cap) ∧ Box3.Box W (w.heap.size + 1) a b c ∧ PointOk.Box W (w.heap.size + 1 + 1) x y ∧ PtsAt W w.heap.size A ps ∧ Below w.heap.size w W) (by kernel_rfl) (by kernel_rfl) (by kernel_rfl) (by kernel_rfl) (HO _ _ S0 ((Below.refl _ _).drew)) ?_
    clear S0
    repeat (first
      | (refine Settle.Settles.off (by rfl) ?_; simp only [Act.put, List.setIfInBounds_toArray, List.set_cons_zero, List.set_cons_succ])
      | (refine Settle.Settles.quiet (v := ?_) (by rfl) ?_ ?_
         rotate_left
         · (intro W hS; obtain ⟨⟨_, _⟩, ⟨_, _, _⟩, ⟨_, _⟩, _, _⟩ := hS; go_simp; with_reducible rfl)
         simp only [Act.put, List.setIfInBounds_toArray, List.set_cons_zero, List.set_cons_succ])
      | (refine Settle.Settles.call (v := ?_) (f := ?_) (args := ?_) (by rfl) ?_ ?_ ?_
         rotate_left 3
         · (intro W; go_simp; refine ⟨?_, ?_⟩ <;> with_reducible rfl)
         · (intro W hS; first | (go_at_call 103; (with_reducible refine (QA.out _ (hS.2.2.2.1.wide hS.2.2.2.2.size)).mono ?_); rintro e W1 ⟨rfl, hb⟩; refine ⟨?_, HO _ _ hS hb⟩; with_reducible rfl) | (go_at_call 85; (with_reducible refine (QP.out _).mono ?_); rintro e W1 ⟨rfl, hb⟩; refine ⟨?_, HO _ _ hS hb⟩; with_reducible rfl))
         simp only [Act.put, List.setIfInBounds_toArray, List.set_cons_zero, List.set_cons_succ]))
    refine Settle.Settles.nil ?_
    intro wr S0
    obtain ⟨⟨_, _⟩, ⟨_, _, _⟩, ⟨_, _⟩, _, _⟩ := id S0
    go_wp2_with fail
    go_ret
    exact ⟨ret_bool E.out.symm, S0.2.2.2.2⟩
  rw [ho] at QP
  obtain ⟨hr, i, j, k, rfl, rfl, rfl, hij, hjk, hkn⟩ := hb3
  have hy := roomB_yes hr
  have hok := Lib.hid hy.2.1
  replace HE : Hid (triIn (pt ps i) (pt ps j) (pt ps k) (x, y) = r) := Lib.hid (by rw [HE.out, decide_eq_true h0, ho]; rfl)
  have p0 := pt_at (ps := ps) (k := i) (by omega)
  have o0 := okP_sm (okAll_at hok.out (k := i) (by omega))
  obtain ⟨ax, ay, ha⟩ : ∃ x y, pt ps i = (x, y) := ⟨_, _, rfl⟩
  rw [ha] at p0 o0 HE
  have p1 := pt_at (ps := ps) (k := j) (by omega)
  have o1 := okP_sm (okAll_at hok.out (k := j) (by omega))
  obtain ⟨bx, by_, hb⟩ : ∃ x y, pt ps j = (x, y) := ⟨_, _, rfl⟩
  rw [hb] at p1 o1 HE
  have p2 := pt_at (ps := ps) (k := k) (by omega)
  have o2 := okP_sm (okAll_at hok.out (k := k) (by omega))
  obtain ⟨cx, cy, hc⟩ : ∃ x y, pt ps k = (x, y) := ⟨_, _, rfl⟩
  rw [hc] at p2 o2 HE
  obtain ⟨ad, eA, bA, pA⟩ := S0.2.2.2.1.get p0
  obtain ⟨ad2, eA2, _, pB⟩ := S0.2.2.2.1.get p1
  rw [eA] at eA2
  injection eA2 with eA2
  subst eA2
  obtain ⟨ad2, eA2, _, pC⟩ := S0.2.2.2.1.get p2
  rw [eA] at eA2
  injection eA2 with eA2
  subst eA2
  subst eA
  have hi1 : (i : Int) < (n : Int) := by omega
  have hi0 : (0 : Int) ≤ (i : Int) := by omega
  have hj1 : (j : Int) < (n : Int) := by omega
  have hj0 : (0 : Int) ≤ (j : Int) := by omega
  have hk1 : (k : Int) < (n : Int) := by omega
  have hk0 : (0 : Int) ≤ (k : Int) := by omega
  have QI : Hid (∀ w, _) := Lib.hid fun w => l11In ax ay bx by_ cx cy x y o0 o1 o2 (okP_sm ho) w
  rw [HE.out] at QI
  have HO : ∀ W W' : World, (BoxR W w.heap.size (.slice (some ad) n cap) ∧ Box3.Box W (w.heap.size + 1) (i : Int) (j : Int) (k : Int) ∧ PointOk.Box W (w.heap.size + 2) x y ∧ PtsAt W w.heap.size (some ad) ps ∧ PtAt W ad i ax ay ∧ PtAt W ad j bx by_ ∧ PtAt W ad k cx cy ∧ Below w.heap.size w W) → Below W.heap.size W W' → (BoxR W' w.heap.size (.slice (some ad) n cap) ∧ Box3.Box W' (w.heap.size + 1) (i : Int) (j : Int) (k : Int) ∧ PointOk.Box W' (w.heap.size + 2) x y ∧ PtsAt W' w.heap.size (some ad) ps ∧ PtAt W' ad i ax ay ∧ PtAt W' ad j bx by_ ∧ PtAt W' ad k cx cy ∧ Below w.heap.size w W') := fun W W' ⟨x0, x1, x2, x3, x4, x5, x6, hb⟩ h => ⟨x0.later h, x1.later h, x2.later h, x3.later (h.mono hb.size), x4.later bA (h.mono hb.size), x5.later bA (h.mono hb.size), x6.later bA (h.mono hb.size), hb.trans (h.mono hb.size)⟩
  replace S0 : BoxR w0 w.heap.size (.slice (some ad) n cap) ∧ Box3.Box w0 (w.heap.size + 1) (i : Int) (j : Int) (k : Int) ∧ PointOk.Box w0 (w.heap.size + 2) x y ∧ PtsAt w0 w.heap.size (some ad) ps ∧ PtAt w0 ad i ax ay ∧ PtAt w0 ad j bx by_ ∧ PtAt w0 ad k cx cy ∧ Below w.heap.size w w0 := ⟨S0.1, S0.2.1, S0.2.2.1, S0.2.2.2.1, pA, pB, pC, S0.2.2.2.2⟩
  clear pA pB pC hl HR HE p0 p1 p2 o0 o1 o2 ha hb hc hok hy hr hp ho ht
  obtain ⟨⟨_, _⟩, ⟨_, _, _⟩, ⟨_, _⟩, _, ⟨_, _⟩, ⟨_, _⟩, ⟨_, _⟩, _⟩ := id S0
  go_wp2_with fail
  refine Settle.region (fun W => BoxR W w.heap.size (.slice (some ad) n cap) ∧ Box3.Box W (w.heap.size + 1) (i : Int) (j : Int) (k : Int) ∧ PointOk.Box W (w.heap.size + 2) x y ∧ PtsAt W w.heap.size (some ad) ps ∧ PtAt W ad i ax ay ∧ PtAt W ad j bx by_ ∧ PtAt W ad k cx cy ∧ Below w.heap.size w W) (by kernel_rfl) (by kernel_rfl) (by kernel_rfl) (by kernel_rfl) (HO _ _ S0 ((Below.refl _ _).drew)) ?_
  clear S0
  repeat (first
    | (refine Settle.Settles.off (by rfl) ?_; simp only [Act.put, List.setIfInBounds_toArray, List.set_cons_zero, List.set_cons_succ])
    | (refine Settle.Settles.quiet (v := ?_) (by rfl) ?_ ?_
       rotate_left
       · (intro W hS; obtain ⟨⟨_, _⟩, ⟨_, _, _⟩, ⟨_, _⟩, _, ⟨_, _⟩, ⟨_, _⟩, ⟨_, _⟩, _⟩ := hS; go_simp; with_reducible rfl)
       simp only [Act.put, List.setIfInBounds_toArray, List.set_cons_zero, List.set_cons_succ])
    | (refine Settle.Settles.call (v := ?_) (f := ?_) (args := ?_) (by rfl) ?_ ?_ ?_
       rotate_left 3
       · (intro W; go_simp; refine ⟨?_, ?_⟩ <;> with_reducible rfl)
       · (intro W hS; first | (go_at_call 103; (with_reducible refine (QA.out _ (hS.2.2.2.1.wide hS.2.2.2.2.2.2.2.size)).mono ?_); rintro e W1 ⟨rfl, hb⟩; refine ⟨?_, HO _ _ hS hb⟩; with_reducible rfl) | (go_at_call 85; (with_reducible refine (QP.out _).mono ?_); rintro e W1 ⟨rfl, hb⟩; refine ⟨?_, HO _ _ hS hb⟩; with_reducible rfl) | (go_at_call 90; (with_reducible refine (QI.out _).mono ?_); rintro e W1 ⟨rfl, hb⟩; refine ⟨?_, HO _ _ hS hb⟩; with_reducible rfl))
       simp only [Act.put, List.setIfInBounds_toArray, List.set_cons_zero, List.set_cons_succ]))
  refine Settle.Settles.nil ?_
  intro wr S0
  obtain ⟨⟨_, _⟩, ⟨_, _, _⟩, ⟨_, _⟩, _, ⟨_, _⟩, ⟨_, _⟩, ⟨_, _⟩, _⟩ := id S0
  go_wp2_with fail
  go_ret
  exact ⟨rfl, S0.2.2.2.2.2.2.2⟩

end Go.Proofs.YtkcodmafakjkfaaGreat.TriSpec

