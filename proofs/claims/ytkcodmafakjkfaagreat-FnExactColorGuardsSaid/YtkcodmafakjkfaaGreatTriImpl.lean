/-
  What the functions on triangles of corners do, as contracts: what each answers; new memory alone is written.
-/
import Derived.Test.YtkcodmafakjkfaaGreatRoomOkImpl
import Derived.Test.YtkcodmafakjkfaaGreatWallOfImpl
import Derived.Test.YtkcodmafakjkfaaGreatGround
import Derived.Test.YtkcodmafakjkfaaGreatLawInt
import Derived.Test.YtkcodmafakjkfaaGreatTriMath
import Derived.Test.YtkcodmafakjkfaaGreatBox3
namespace Go.Proofs.YtkcodmafakjkfaaGreat.TriImpl
open Go.RowKit Own PointMath WallMath RoomMath Pts Blk AreaMath TriMath
open PointOk (ret_bool ret_i64 below1 below2 below3)

theorem cells3 (a b c : Int × Int) : cellsP [a, b, c] = [.int .i64 a.1, .int .i64 a.2, .int .i64 b.1, .int .i64 b.2, .int .i64 c.1, .int .i64 c.2] := rfl
/-- A row of points, as a slice of points in memory. -/
theorem pts_own {w : World} {b e n c : Nat} {A : Option Addr} {ps : List (Int × Int)} (h : w.ownsRow b e 2 (.slice A n c) n (cellsP ps)) : PtsAt w w.heap.size A ps := by
  obtain ⟨A2, c2, e2, _, hp⟩ := LawInt.own_pts h
  injection e2 with e2 e3 e4
  subst e2
  exact hp

set_option maxRecDepth 100000 in
set_option maxHeartbeats 3200000 in
theorem cornersIn (A : Option Addr) (n cap i j k : Nat) (w : World) (ps : List (Int × Int)) (hl : ps.length = n) (hi : i < n) (hj : j < n) (hk : k < n) (hp : PtsAt w w.heap.size A ps) :
    Calls Tryz.prog 98 #[.agg #[.int .i64 (i : Int), .int .i64 (j : Int), .int .i64 (k : Int)], .agg #[.slice A n cap]] w (GivesC 40 2 w 3 (cellsP [pt ps i, pt ps j, pt ps k])) := by
  have HE : Hid True := Lib.hid trivial
  have p0 := pt_at (ps := ps) (k := i) (by omega)
  have p1 := pt_at (ps := ps) (k := j) (by omega)
  have p2 := pt_at (ps := ps) (k := k) (by omega)
  generalize pt ps i = pa at *
  generalize pt ps j = pb at *
  generalize pt ps k = pc at *
  obtain ⟨ax, ay⟩ := pa
  obtain ⟨bx, by_⟩ := pb
  obtain ⟨cx, cy⟩ := pc
  rw [cells3]
  obtain ⟨ad, eA, bA, pA⟩ := hp.get p0
  obtain ⟨ad2, eA2, _, pB⟩ := hp.get p1
  rw [eA] at eA2
  injection eA2 with eA2
  subst eA2
  obtain ⟨ad2, eA2, _, pC⟩ := hp.get p2
  rw [eA] at eA2
  injection eA2 with eA2
  subst eA2
  subst eA
  have hi1 : (i : Int) < (n : Int) := by omega
  have hi0 : (0 : Int) ≤ (i : Int) := by omega
  have hj1 : (j : Int) < (n : Int) := by omega
  have hj0 : (0 : Int) ≤ (j : Int) := by omega
  have hk1 : (k : Int) < (n : Int) := by omega
  have hk0 : (0 : Int) ≤ (k : Int) := by omega
  clear hl hp p0 p1 p2 HE
  go_enter Tryz.func98, Tryz.ntmps98
  go_wp2_with fail
  have X0 := (Box3.box1 w (i:Int) (j:Int) (k:Int) 65 (k := w.heap.size) (by simp)).alloc (Obj.cells #[.slice (some ad) n cap] 30)
  have X1 := Pts.boxR (w.alloc (Obj.cells #[.int .i64 (i:Int), .int .i64 (j:Int), .int .i64 (k:Int)] 65)) (.slice (some ad) n cap) 30 (k := w.heap.size + 1) (by simp)
  have b0 := PointOk.below2 w (Obj.cells #[.int .i64 (i:Int), .int .i64 (j:Int), .int .i64 (k:Int)] 65) (Obj.cells #[.slice (some ad) n cap] 30)
  have HO : ∀ W W' : World, (Box3.Box W (w.heap.size) (i:Int) (j:Int) (k:Int) ∧ Pts.BoxR W (w.heap.size + 1) (.slice (some ad) n cap) ∧ PtAt W ad i ax ay ∧ PtAt W ad j bx by_ ∧ PtAt W ad k cx cy ∧ Below w.heap.size w W) → Below W.heap.size W W' → (Box3.Box W' (w.heap.size) (i:Int) (j:Int) (k:Int) ∧ Pts.BoxR W' (w.heap.size + 1) (.slice (some ad) n cap) ∧ PtAt W' ad i ax ay ∧ PtAt W' ad j bx by_ ∧ PtAt W' ad k cx cy ∧ Below w.heap.size w W') := fun W W' ⟨h0, h1, x0, x1, x2, hb⟩ h => ⟨h0.later h, h1.later h, x0.later bA (h.mono hb.size), x1.later bA (h.mono hb.size), x2.later bA (h.mono hb.size), hb.trans (h.mono hb.size)⟩
  have hz0_ : Hid ((((w.alloc (Obj.cells #[.int .i64 (i:Int), .int .i64 (j:Int), .int .i64 (k:Int)] 65)).alloc (Obj.cells #[.slice (some ad) n cap] 30))).heap.size = w.heap.size + 1 + 1) := Lib.hid (by simp)
  have Y0 : PtAt (((w.alloc (Obj.cells #[.int .i64 (i:Int), .int .i64 (j:Int), .int .i64 (k:Int)] 65)).alloc (Obj.cells #[.slice (some ad) n cap] 30))) ad i ax ay := pA.later bA b0
  have Y1 : PtAt (((w.alloc (Obj.cells #[.int .i64 (i:Int), .int .i64 (j:Int), .int .i64 (k:Int)] 65)).alloc (Obj.cells #[.slice (some ad) n cap] 30))) ad j bx by_ := pB.later bA b0
  have Y2 : PtAt (((w.alloc (Obj.cells #[.int .i64 (i:Int), .int .i64 (j:Int), .int .i64 (k:Int)] 65)).alloc (Obj.cells #[.slice (some ad) n cap] 30))) ad k cx cy := pC.later bA b0
  generalize ((w.alloc (Obj.cells #[.int .i64 (i:Int), .int .i64 (j:Int), .int .i64 (k:Int)] 65)).alloc (Obj.cells #[.slice (some ad) n cap] 30)) = w0 at X0 X1 Y0 Y1 Y2 b0 hz0_ ⊢
  have S0 := (⟨X0, X1, Y0, Y1, Y2, b0⟩ : Box3.Box w0 (w.heap.size) (i:Int) (j:Int) (k:Int) ∧ Pts.BoxR w0 (w.heap.size + 1) (.slice (some ad) n cap) ∧ PtAt w0 ad i ax ay ∧ PtAt w0 ad j bx by_ ∧ PtAt w0 ad k cx cy ∧ Below w.heap.size w w0)
  clear X0 X1 Y0 Y1 Y2 b0
  obtain ⟨⟨_, _, _⟩, ⟨_, _⟩, ⟨_, _⟩, ⟨_, _⟩, ⟨_, _⟩, _⟩ := id S0
  refine Settle.regionTails (fun W => Box3.Box W (w.heap.size) (i:Int) (j:Int) (k:Int) ∧ Pts.BoxR W (w.heap.size + 1) (.slice (some ad) n cap) ∧ PtAt W ad i ax ay ∧ PtAt W ad j bx by_ ∧ PtAt W ad k cx cy ∧ Below w.heap.size w W) 18 (by kernel_rfl) (by kernel_rfl) (of_decide_eq_true (by kernel_rfl)) (by kernel_rfl) (by kernel_rfl) (by kernel_rfl) (by kernel_rfl) (HO _ _ S0 ((Below.refl _ _).drew)) ?_
  simp only [List.take_succ_cons, List.take_zero, List.drop_succ_cons, List.drop_zero]
  clear S0
  repeat (first
    | (refine Settle.Settles.off (by rfl) ?_; simp only [Act.put, List.setIfInBounds_toArray, List.set_cons_zero, List.set_cons_succ])
    | (refine Settle.Settles.quiet (v := ?_) (by rfl) ?_ ?_
       rotate_left
       · (intro W hS; obtain ⟨⟨_, _, _⟩, ⟨_, _⟩, ⟨_, _⟩, ⟨_, _⟩, ⟨_, _⟩, _⟩ := hS; go_simp; with_reducible rfl)
       simp only [Act.put, List.setIfInBounds_toArray, List.set_cons_zero, List.set_cons_succ])
    | (refine Settle.Settles.call (v := ?_) (f := ?_) (args := ?_) (by rfl) ?_ ?_ ?_
       rotate_left 3
       · (intro W; go_simp; refine ⟨?_, ?_⟩ <;> with_reducible rfl)
       · (intro W hS; fail)
       simp only [Act.put, List.setIfInBounds_toArray, List.set_cons_zero, List.set_cons_succ]))
  refine Settle.Settles.nil ?_
  intro wr S0 K_ hK_
  obtain ⟨⟨_, _, _⟩, ⟨_, _⟩, ⟨_, _⟩, ⟨_, _⟩, ⟨_, _⟩, _⟩ := id S0
  have hnew := Blk.Holds.new wr #[.int .i64 ax, .int .i64 ay, .int .i64 bx, .int .i64 by_, .int .i64 cx, .int .i64 cy] 40
  have hown : (wr.alloc (Obj.cells #[.int .i64 ax, .int .i64 ay, .int .i64 bx, .int .i64 by_, .int .i64 cx, .int .i64 cy] 40)).ownsRow w.heap.size 40 2 (.slice (some ⟨wr.heap.size, 0, none⟩) 3 3) 3 [.int .i64 ax, .int .i64 ay, .int .i64 bx, .int .i64 by_, .int .i64 cx, .int .i64 cy] :=
    ⟨by simp, .inr ⟨wr.heap.size, 3, _, rfl, S0.2.2.2.2.2.size, hnew, Nat.le_refl _, by decide, by simp, by simp⟩⟩
  have hown := Lib.hid hown
  have hb := S0.2.2.2.2.2.trans ((below1 wr (Obj.cells #[.int .i64 ax, .int .i64 ay, .int .i64 bx, .int .i64 by_, .int .i64 cx, .int .i64 cy] 40)).mono S0.2.2.2.2.2.size)
  clear hnew
  go_wp2_with fail
  go_ret
  exact ⟨_, _, rfl, hown.out, hb⟩

set_option maxRecDepth 100000 in
set_option maxHeartbeats 3200000 in
theorem holds (A : Option Addr) (n cap i j k : Nat) (x y : Int) (w : World) (ps : List (Int × Int)) (hl : ps.length = n) (hi : i < n) (hj : j < n) (hk : k < n) (hok : okAll ps = true) (hq : okP x y = true) (hp : PtsAt w w.heap.size A ps) :
    Calls Tryz.prog 100 #[.agg #[.int .i64 (i : Int), .int .i64 (j : Int), .int .i64 (k : Int)], .agg #[.slice A n cap], .agg #[.int .i64 x, .int .i64 y]] w fun e w' => e = .returned (.bool (triIn (pt ps i) (pt ps j) (pt ps k) (x, y))) ∧ Below w.heap.size w w' := by
  obtain ⟨r, hr⟩ : ∃ r, triIn (pt ps i) (pt ps j) (pt ps k) (x, y) = r := ⟨_, rfl⟩
  have HR := Lib.hid hr
  rw [hr]
  clear hr
  have QC : Hid (∀ w hp, _) := Lib.hid fun w hp => cornersIn A n cap i j k w ps hl hi hj hk hp
  unfold GivesC at QC
  have o0 := okAll_at hok (k := i) (by omega)
  have o1 := okAll_at hok (k := j) (by omega)
  have o2 := okAll_at hok (k := k) (by omega)
  generalize pt ps i = pa at *
  generalize pt ps j = pb at *
  generalize pt ps k = pc at *
  have hokt : Hid (∀ m, m < 3 → smP (pt [pa, pb, pc] m).1 (pt [pa, pb, pc] m).2) := Lib.hid (by
    intro m hm
    match m, hm with
    | 0, _ => exact okP_sm o0
    | 1, _ => exact okP_sm o1
    | 2, _ => exact okP_sm o2)
  have HT : Hid (r = (decide (0 ≤ turnP (pt [pa, pb, pc] 0) (pt [pa, pb, pc] ((0 + 1) % 3)) (x, y)) && decide (0 ≤ turnP (pt [pa, pb, pc] 1) (pt [pa, pb, pc] ((1 + 1) % 3)) (x, y)) && decide (0 ≤ turnP (pt [pa, pb, pc] 2) (pt [pa, pb, pc] ((2 + 1) % 3)) (x, y)))) := Lib.hid (by rw [← HR.out]; rfl)
  have hls : [pa, pb, pc].length = 3 := rfl
  have sq := okP_sm hq
  generalize [pa, pb, pc] = qs at *
  clear HR hl hi hj hk hok hq o0 o1 o2
  go_enter Tryz.func100, Tryz.ntmps100
  go_wp2_with fail
  have X0 := ((Box3.box1 w (i:Int) (j:Int) (k:Int) 65 (k := w.heap.size) (by simp)).alloc (Obj.cells #[.slice A n cap] 30)).alloc (Obj.cells #[.int .i64 x, .int .i64 y] 40)
  have X1 := (Pts.boxR (w.alloc (Obj.cells #[.int .i64 (i:Int), .int .i64 (j:Int), .int .i64 (k:Int)] 65)) (.slice A n cap) 30 (k := w.heap.size + 1) (by simp)).alloc (Obj.cells #[.int .i64 x, .int .i64 y] 40)
  have X2 := PointOk.box1 ((w.alloc (Obj.cells #[.int .i64 (i:Int), .int .i64 (j:Int), .int .i64 (k:Int)] 65)).alloc (Obj.cells #[.slice A n cap] 30)) x y 40 (k := w.heap.size + 1 + 1) (by simp)
  have b0 := PointOk.below3 w (Obj.cells #[.int .i64 (i:Int), .int .i64 (j:Int), .int .i64 (k:Int)] 65) (Obj.cells #[.slice A n cap] 30) (Obj.cells #[.int .i64 x, .int .i64 y] 40)
  have HO : ∀ W W' : World, (Box3.Box W (w.heap.size) (i:Int) (j:Int) (k:Int) ∧ Pts.BoxR W (w.heap.size + 1) (.slice A n cap) ∧ PointOk.Box W (w.heap.size + 1 + 1) x y ∧ PtsAt W w.heap.size A ps ∧ Below w.heap.size w W) → Below W.heap.size W W' → (Box3.Box W' (w.heap.size) (i:Int) (j:Int) (k:Int) ∧ Pts.BoxR W' (w.heap.size + 1) (.slice A n cap) ∧ PointOk.Box W' (w.heap.size + 1 + 1) x y ∧ PtsAt W' w.heap.size A ps ∧ Below w.heap.size w W') := fun W W' ⟨h0, h1, h2, x0, hb⟩ h => ⟨h0.later h, h1.later h, h2.later h, x0.later (h.mono hb.size), hb.trans (h.mono hb.size)⟩
  have hz0_ : Hid (((((w.alloc (Obj.cells #[.int .i64 (i:Int), .int .i64 (j:Int), .int .i64 (k:Int)] 65)).alloc (Obj.cells #[.slice A n cap] 30)).alloc (Obj.cells #[.int .i64 x, .int .i64 y] 40))).heap.size = w.heap.size + 1 + 1 + 1) := Lib.hid (by simp)
  have Y0 : PtsAt ((((w.alloc (Obj.cells #[.int .i64 (i:Int), .int .i64 (j:Int), .int .i64 (k:Int)] 65)).alloc (Obj.cells #[.slice A n cap] 30)).alloc (Obj.cells #[.int .i64 x, .int .i64 y] 40))) w.heap.size A ps := hp.later b0
  generalize (((w.alloc (Obj.cells #[.int .i64 (i:Int), .int .i64 (j:Int), .int .i64 (k:Int)] 65)).alloc (Obj.cells #[.slice A n cap] 30)).alloc (Obj.cells #[.int .i64 x, .int .i64 y] 40)) = w0 at X0 X1 X2 Y0 b0 hz0_ ⊢
  have S0 := (⟨X0, X1, X2, Y0, b0⟩ : Box3.Box w0 (w.heap.size) (i:Int) (j:Int) (k:Int) ∧ Pts.BoxR w0 (w.heap.size + 1) (.slice A n cap) ∧ PointOk.Box w0 (w.heap.size + 1 + 1) x y ∧ PtsAt w0 w.heap.size A ps ∧ Below w.heap.size w w0)
  clear X0 X1 X2 Y0 b0
  obtain ⟨⟨_, _, _⟩, ⟨_, _⟩, ⟨_, _⟩, _, _⟩ := id S0
  refine (QC.out _ (S0.2.2.2.1.wide S0.2.2.2.2.size)).mono ?_
  rintro e w1 ⟨A3, c3, rfl, hown, hb_⟩
  replace S0 := HO _ _ S0 hb_
  have hq := pts_own hown
  clear hb_ QC hown
  have S1 := (⟨S0.2.2.1, hq, S0.2.2.2.2⟩ : PointOk.Box w1 (w.heap.size + 1 + 1) x y ∧ PtsAt w1 w1.heap.size A3 qs ∧ Below w.heap.size w w1)
  obtain ⟨B, hB⟩ : ∃ B, w1.heap.size = B := ⟨_, rfl⟩
  rw [hB] at S1
  have hBw : w.heap.size ≤ B := by rw [← hB]; exact S0.2.2.2.2.size
  clear S0 hq
  have HO : ∀ W W' : World, (PointOk.Box W (w.heap.size + 1 + 1) x y ∧ PtsAt W B A3 qs ∧ B ≤ W.heap.size ∧ Below w.heap.size w W) → Below W.heap.size W W' → (PointOk.Box W' (w.heap.size + 1 + 1) x y ∧ PtsAt W' B A3 qs ∧ B ≤ W'.heap.size ∧ Below w.heap.size w W') := fun W W' ⟨x0, x1, x2, hb⟩ h => ⟨x0.later h, x1.later (h.mono x2), Nat.le_trans x2 h.size, hb.trans (h.mono hb.size)⟩
  have S0 : PointOk.Box w1 (w.heap.size + 1 + 1) x y ∧ PtsAt w1 B A3 qs ∧ B ≤ w1.heap.size ∧ Below w.heap.size w w1 := ⟨S1.1, S1.2.1, Nat.le_of_eq hB.symm, S1.2.2⟩
  clear S1 hB
  obtain ⟨⟨_, _⟩, _, _, _⟩ := id S0
  go_wp2_with fail
  go_loopw [15] (fun q wr => ∃ m : Nat, m ≤ 3 ∧ q = .int .i64 m ∧ Hid (∀ t, t < m → decide (0 ≤ turnP (pt qs t) (pt qs ((t + 1) % 3)) (x, y)) = true) ∧ (PointOk.Box wr (w.heap.size + 1 + 1) x y ∧ PtsAt wr B A3 qs ∧ B ≤ wr.heap.size ∧ Below w.heap.size w wr))
    (fun q _ => 3 - (intOf q).toNat)
  case atStart => exact ⟨0, Nat.zero_le _, rfl, Lib.hid (fun t ht => absurd ht (by omega)), S0⟩
  case round =>
    clear S0
    obtain ⟨m, hm, rfl, hno, S0⟩ := hrel
    obtain ⟨⟨_, _⟩, _, _, _⟩ := id S0
    by_cases hlt : m < 3
    · have hk1 : (m : Int) < 3 := by omega
      have hm2 : (m + 1) % 3 < 3 := Nat.mod_lt _ (by omega)
      have QW : Hid (∀ w hp, _) := Lib.hid fun w hp => RoomOkImpl.wallBehind A3 3 c3 m w qs hls (by omega) hlt hp
      have s0 := hokt.out m hlt
      have s1 := hokt.out ((m + 1) % 3) hm2
      have HS : Hid ((decide (0 ≤ turnP (pt qs m) (pt qs ((m + 1) % 3)) (x, y)) = false → r = false) ∧ (decide (0 ≤ turnP (pt qs m) (pt qs ((m + 1) % 3)) (x, y)) = true → ∀ t, t < m + 1 → decide (0 ≤ turnP (pt qs t) (pt qs ((t + 1) % 3)) (x, y)) = true)) := Lib.hid ⟨by
        intro h
        rw [HT.out]
        match m, hlt, h with
        | 0, _, h => rw [h]; rfl
        | 1, _, h => rw [h]; simp
        | 2, _, h => rw [h]; simp, by
        intro h t ht
        rcases Nat.lt_or_ge t m with h1 | h1
        · exact hno.out t h1
        · obtain rfl : t = m := by omega
          exact h⟩
      generalize pt qs m = qa at *
      generalize pt qs ((m + 1) % 3) = qb at *
      have QT : Hid (∀ w, _) := Lib.hid fun w => PointImpl.turn qa.1 qa.2 qb.1 qb.2 x y s0 s1 sq w
      obtain ⟨t, ht⟩ : ∃ t, turnI qa.1 qa.2 qb.1 qb.2 x y = t := ⟨_, rfl⟩
      have ht2 : turnP qa qb (x, y) = t := ht
      rw [ht] at QT
      rw [ht2] at HS
      clear ht ht2 s0 s1 hno HT hokt
      go_wp2_with fail
      refine (QW.out _ (S0.2.1.wide S0.2.2.1)).mono ?_
      rintro e w2 ⟨rfl, hb_⟩
      replace S0 := HO _ _ S0 hb_
      clear hb_ QW
      obtain ⟨kb, hkb⟩ : ∃ K, w2.heap.size = K := ⟨_, rfl⟩
      have X4 := PointOk.box4 w2 qa.1 qa.2 qb.1 qb.2 95 (k := kb) hkb.symm
      replace S0 := HO _ _ S0 (below1 w2 (Obj.cells #[.int .i64 qa.1, .int .i64 qa.2, .int .i64 qb.1, .int .i64 qb.2] 95))
      obtain ⟨_, _, _, _⟩ := id X4
      obtain ⟨⟨_, _⟩, _, _, _⟩ := id S0
      go_wp2_with fail
      generalize w2.alloc (Obj.cells #[.int .i64 qa.1, .int .i64 qa.2, .int .i64 qb.1, .int .i64 qb.2] 95) = w3 at *
      refine (QT.out _).mono ?_
      rintro e w4 ⟨rfl, hb_⟩
      replace S0 := HO _ _ S0 hb_
      clear hb_ QT X4
      by_cases h0 : 0 ≤ t
      · have hno2 := Lib.hid (HS.out.2 (decide_eq_true h0))
        have g0 : ¬ t < 0 := by omega
        clear HS
        go_wp2_with fail
        first
          | exact ⟨⟨m + 1, by omega, by go_num, hno2, S0⟩, by simp [intOf]; omega⟩
          | (go_roundw <;> first | exact ⟨m + 1, by omega, by go_num, hno2, S0⟩ | (simp [intOf]; omega))
      · have E := Lib.hid (HS.out.1 (decide_eq_false h0))
        have g0 : t < 0 := by omega
        clear HS
        go_wp2_with fail
        go_ret
        exact ⟨ret_bool E.out.symm, S0.2.2.2⟩
    · obtain rfl : m = 3 := by omega
      have E : Hid (r = true) := Lib.hid (by rw [HT.out, hno.out 0 (by omega), hno.out 1 (by omega), hno.out 2 (by omega)]; rfl)
      clear hno HT hokt
      go_wp2_with fail
      go_ret
      exact ⟨ret_bool E.out.symm, S0.2.2.2⟩

set_option maxRecDepth 100000 in
set_option maxHeartbeats 1600000 in
theorem area (A : Option Addr) (n cap : Nat) (a b c : Int) (w : World) (ps : List (Int × Int)) (hl : ps.length = n) (hn : n ≤ 1048576) (hp : PtsAt w w.heap.size A ps) :
    Calls Tryz.prog 104 #[.agg #[.slice A n cap], .agg #[.int .i64 a, .int .i64 b, .int .i64 c]] w fun e w' => e = .returned (.int .i64 (triAreaI ps a b c)) ∧ Below w.heap.size w w' := by
  obtain ⟨r, hr⟩ : ∃ r, triAreaI ps a b c = r := ⟨_, rfl⟩
  have HR := Lib.hid hr
  rw [hr]
  clear hr
  have HE := HR
  by_cases d1 : a < b ∧ b < c
  rotate_left
  · have E : Hid (r = 0) := Lib.hid (by rw [← HR.out]; unfold triAreaI triB; rw [if_neg]; simp; omega)
    by_cases c1 : a < b
    · have g2 : ¬ b < c := fun h => d1 ⟨c1, h⟩
      clear hl HR HE
      go_enter Tryz.func104, Tryz.ntmps104
      go_wp2_with fail
      have X0 := (Pts.boxR w (.slice A n cap) 30 (k := w.heap.size) (by simp)).alloc (Obj.cells #[.int .i64 a, .int .i64 b, .int .i64 c] 65)
      have X1 := Box3.box1 (w.alloc (Obj.cells #[.slice A n cap] 30)) a b c 65 (k := w.heap.size + 1) (by simp)
      have b0 := PointOk.below2 w (Obj.cells #[.slice A n cap] 30) (Obj.cells #[.int .i64 a, .int .i64 b, .int .i64 c] 65)
      have HO : ∀ W W' : World, (Pts.BoxR W (w.heap.size) (.slice A n cap) ∧ Box3.Box W (w.heap.size + 1) a b c ∧ PtsAt W w.heap.size A ps ∧ Below w.heap.size w W) → Below W.heap.size W W' → (Pts.BoxR W' (w.heap.size) (.slice A n cap) ∧ Box3.Box W' (w.heap.size + 1) a b c ∧ PtsAt W' w.heap.size A ps ∧ Below w.heap.size w W') := fun W W' ⟨h0, h1, x0, hb⟩ h => ⟨h0.later h, h1.later h, x0.later (h.mono hb.size), hb.trans (h.mono hb.size)⟩
      have hz0_ : Hid ((((w.alloc (Obj.cells #[.slice A n cap] 30)).alloc (Obj.cells #[.int .i64 a, .int .i64 b, .int .i64 c] 65))).heap.size = w.heap.size + 1 + 1) := Lib.hid (by simp)
      have Y0 : PtsAt (((w.alloc (Obj.cells #[.slice A n cap] 30)).alloc (Obj.cells #[.int .i64 a, .int .i64 b, .int .i64 c] 65))) w.heap.size A ps := hp.later b0
      generalize ((w.alloc (Obj.cells #[.slice A n cap] 30)).alloc (Obj.cells #[.int .i64 a, .int .i64 b, .int .i64 c] 65)) = w0 at X0 X1 Y0 b0 hz0_ ⊢
      have S0 := (⟨X0, X1, Y0, b0⟩ : Pts.BoxR w0 (w.heap.size) (.slice A n cap) ∧ Box3.Box w0 (w.heap.size + 1) a b c ∧ PtsAt w0 w.heap.size A ps ∧ Below w.heap.size w w0)
      clear X0 X1 Y0 b0
      obtain ⟨⟨_, _⟩, ⟨_, _, _⟩, _, _⟩ := id S0
      go_ret
      exact ⟨ret_i64 E.out.symm, S0.2.2.2⟩
    · clear hl HR HE
      go_enter Tryz.func104, Tryz.ntmps104
      go_wp2_with fail
      have X0 := (Pts.boxR w (.slice A n cap) 30 (k := w.heap.size) (by simp)).alloc (Obj.cells #[.int .i64 a, .int .i64 b, .int .i64 c] 65)
      have X1 := Box3.box1 (w.alloc (Obj.cells #[.slice A n cap] 30)) a b c 65 (k := w.heap.size + 1) (by simp)
      have b0 := PointOk.below2 w (Obj.cells #[.slice A n cap] 30) (Obj.cells #[.int .i64 a, .int .i64 b, .int .i64 c] 65)
      have HO : ∀ W W' : World, (Pts.BoxR W (w.heap.size) (.slice A n cap) ∧ Box3.Box W (w.heap.size + 1) a b c ∧ PtsAt W w.heap.size A ps ∧ Below w.heap.size w W) → Below W.heap.size W W' → (Pts.BoxR W' (w.heap.size) (.slice A n cap) ∧ Box3.Box W' (w.heap.size + 1) a b c ∧ PtsAt W' w.heap.size A ps ∧ Below w.heap.size w W') := fun W W' ⟨h0, h1, x0, hb⟩ h => ⟨h0.later h, h1.later h, x0.later (h.mono hb.size), hb.trans (h.mono hb.size)⟩
      have hz0_ : Hid ((((w.alloc (Obj.cells #[.slice A n cap] 30)).alloc (Obj.cells #[.int .i64 a, .int .i64 b, .int .i64 c] 65))).heap.size = w.heap.size + 1 + 1) := Lib.hid (by simp)
      have Y0 : PtsAt (((w.alloc (Obj.cells #[.slice A n cap] 30)).alloc (Obj.cells #[.int .i64 a, .int .i64 b, .int .i64 c] 65))) w.heap.size A ps := hp.later b0
      generalize ((w.alloc (Obj.cells #[.slice A n cap] 30)).alloc (Obj.cells #[.int .i64 a, .int .i64 b, .int .i64 c] 65)) = w0 at X0 X1 Y0 b0 hz0_ ⊢
      have S0 := (⟨X0, X1, Y0, b0⟩ : Pts.BoxR w0 (w.heap.size) (.slice A n cap) ∧ Box3.Box w0 (w.heap.size + 1) a b c ∧ PtsAt w0 w.heap.size A ps ∧ Below w.heap.size w w0)
      clear X0 X1 Y0 b0
      obtain ⟨⟨_, _⟩, ⟨_, _, _⟩, _, _⟩ := id S0
      go_ret
      exact ⟨ret_i64 E.out.symm, S0.2.2.2⟩
  obtain ⟨c1, c2⟩ := d1
  go_enter Tryz.func104, Tryz.ntmps104
  go_wp2_with fail
  have X0 := (Pts.boxR w (.slice A n cap) 30 (k := w.heap.size) (by simp)).alloc (Obj.cells #[.int .i64 a, .int .i64 b, .int .i64 c] 65)
  have X1 := Box3.box1 (w.alloc (Obj.cells #[.slice A n cap] 30)) a b c 65 (k := w.heap.size + 1) (by simp)
  have b0 := PointOk.below2 w (Obj.cells #[.slice A n cap] 30) (Obj.cells #[.int .i64 a, .int .i64 b, .int .i64 c] 65)
  have HO : ∀ W W' : World, (Pts.BoxR W (w.heap.size) (.slice A n cap) ∧ Box3.Box W (w.heap.size + 1) a b c ∧ PtsAt W w.heap.size A ps ∧ Below w.heap.size w W) → Below W.heap.size W W' → (Pts.BoxR W' (w.heap.size) (.slice A n cap) ∧ Box3.Box W' (w.heap.size + 1) a b c ∧ PtsAt W' w.heap.size A ps ∧ Below w.heap.size w W') := fun W W' ⟨h0, h1, x0, hb⟩ h => ⟨h0.later h, h1.later h, x0.later (h.mono hb.size), hb.trans (h.mono hb.size)⟩
  have hz0_ : Hid ((((w.alloc (Obj.cells #[.slice A n cap] 30)).alloc (Obj.cells #[.int .i64 a, .int .i64 b, .int .i64 c] 65))).heap.size = w.heap.size + 1 + 1) := Lib.hid (by simp)
  have Y0 : PtsAt (((w.alloc (Obj.cells #[.slice A n cap] 30)).alloc (Obj.cells #[.int .i64 a, .int .i64 b, .int .i64 c] 65))) w.heap.size A ps := hp.later b0
  generalize ((w.alloc (Obj.cells #[.slice A n cap] 30)).alloc (Obj.cells #[.int .i64 a, .int .i64 b, .int .i64 c] 65)) = w0 at X0 X1 Y0 b0 hz0_ ⊢
  have S0 := (⟨X0, X1, Y0, b0⟩ : Pts.BoxR w0 (w.heap.size) (.slice A n cap) ∧ Box3.Box w0 (w.heap.size + 1) a b c ∧ PtsAt w0 w.heap.size A ps ∧ Below w.heap.size w w0)
  clear X0 X1 Y0 b0
  obtain ⟨⟨_, _⟩, ⟨_, _, _⟩, _, _⟩ := id S0
  refine (WallOfImpl.hasCorner A n cap a _).mono ?_
  rintro e w1 ⟨rfl, hb_⟩
  replace S0 := HO _ _ S0 hb_
  clear hb_
  obtain ⟨⟨_, _⟩, ⟨_, _, _⟩, _, _⟩ := id S0
  cases ha : decide (0 ≤ a ∧ a < (n : Int))
  · have E : Hid (r = 0) := Lib.hid (by have := of_decide_eq_false ha; rw [← HR.out]; unfold triAreaI triB; rw [if_neg]; rw [hl]; simp; omega)
    clear hl HR HE ha
    go_wp2_with fail
    go_ret
    exact ⟨ret_i64 E.out.symm, S0.2.2.2⟩
  go_wp2_with fail
  refine (WallOfImpl.hasCorner A n cap c _).mono ?_
  rintro e w2 ⟨rfl, hb_⟩
  replace S0 := HO _ _ S0 hb_
  clear hb_
  obtain ⟨⟨_, _⟩, ⟨_, _, _⟩, _, _⟩ := id S0
  cases hc : decide (0 ≤ c ∧ c < (n : Int))
  · have E : Hid (r = 0) := Lib.hid (by have := of_decide_eq_false hc; rw [← HR.out]; unfold triAreaI triB; rw [if_neg]; rw [hl]; simp; omega)
    clear hl HR HE ha hc
    go_wp2_with fail
    go_ret
    exact ⟨ret_i64 E.out.symm, S0.2.2.2⟩
  go_wp2_with fail
  refine (RoomOkImpl.roomOk A n cap _ ps hl hn (S0.2.2.1.wide S0.2.2.2.size)).mono ?_
  rintro e w3 ⟨rfl, hb_⟩
  replace S0 := HO _ _ S0 hb_
  clear hb_
  obtain ⟨⟨_, _⟩, ⟨_, _, _⟩, _, _⟩ := id S0
  cases hr : roomB ps
  · have E : Hid (r = 0) := Lib.hid (by rw [← HR.out]; unfold triAreaI triB; rw [hr]; rfl)
    clear hl HR HE
    go_wp2_with fail
    go_ret
    exact ⟨ret_i64 E.out.symm, S0.2.2.2⟩
  have hy := roomB_yes hr
  have ka := of_decide_eq_true ha
  have kc := of_decide_eq_true hc
  obtain ⟨i, rfl⟩ := Int.eq_ofNat_of_zero_le ka.1
  obtain ⟨j, rfl⟩ := Int.eq_ofNat_of_zero_le (show 0 ≤ b by omega)
  obtain ⟨k, rfl⟩ := Int.eq_ofNat_of_zero_le kc.1
  replace HE : Hid (turnP (pt ps i) (pt ps j) (pt ps k) = r) := Lib.hid (by
    rw [← HR.out]; unfold triAreaI triB
    rw [if_pos (by rw [hr, hl]; simp; omega)]
    rfl)
  have QC : Hid (∀ w hp, _) := Lib.hid fun w hp => cornersIn A n cap i j k w ps hl (by omega) (by omega) (by omega) hp
  unfold GivesC at QC
  have hok3 : okAll [pt ps i, pt ps j, pt ps k] = true := by
    unfold okAll
    rw [List.all_eq_true]
    intro p hp
    simp only [List.mem_cons, List.not_mem_nil, or_false] at hp
    rcases hp with rfl | rfl | rfl
    · exact okAll_at hy.2.1 (by omega)
    · exact okAll_at hy.2.1 (by omega)
    · exact okAll_at hy.2.1 (by omega)
  have QB : Hid (∀ A3 c3 w hp, _) := Lib.hid fun A3 c3 w hp => RoomOkImpl.bendAt A3 3 c3 1 w [pt ps i, pt ps j, pt ps k] rfl (by omega) (by omega) hok3 hp
  rw [bend_three, HE.out] at QB
  clear hl HR HE ha hc hr hy ka kc hok3
  go_wp2_with fail
  refine (QC.out _ (S0.2.2.1.wide S0.2.2.2.size)).mono ?_
  rintro e w8 ⟨A3, c3, rfl, hown, hb_⟩
  replace S0 := HO _ _ S0 hb_
  have hq := pts_own hown
  clear hb_ QC hown
  obtain ⟨⟨_, _⟩, ⟨_, _, _⟩, _, _⟩ := id S0
  go_wp2_with fail
  refine (QB.out A3 c3 _ hq).mono ?_
  rintro e w9 ⟨rfl, hb_⟩
  replace S0 := HO _ _ S0 hb_
  clear hb_ QB
  go_wp2_with fail
  go_ret
  exact ⟨rfl, S0.2.2.2⟩

set_option maxRecDepth 100000 in
set_option maxHeartbeats 3200000 in
theorem inTri (A : Option Addr) (n cap : Nat) (a b c x y : Int) (w : World) (ps : List (Int × Int)) (hl : ps.length = n) (hn : n ≤ 1048576) (hp : PtsAt w w.heap.size A ps) :
    Calls Tryz.prog 71 #[.agg #[.slice A n cap], .agg #[.int .i64 a, .int .i64 b, .int .i64 c], .agg #[.int .i64 x, .int .i64 y]] w fun e w' => e = .returned (.bool (inTriB ps a b c x y)) ∧ Below w.heap.size w w' := by
  obtain ⟨r, hr⟩ : ∃ r, inTriB ps a b c x y = r := ⟨_, rfl⟩
  have HR := Lib.hid hr
  rw [hr]
  clear hr
  go_enter Tryz.func71, Tryz.ntmps71
  go_wp2_with fail
  have X0 := ((Pts.boxR w (.slice A n cap) 30 (k := w.heap.size) (by simp)).alloc (Obj.cells #[.int .i64 a, .int .i64 b, .int .i64 c] 65)).alloc (Obj.cells #[.int .i64 x, .int .i64 y] 40)
  have X1 := (Box3.box1 (w.alloc (Obj.cells #[.slice A n cap] 30)) a b c 65 (k := w.heap.size + 1) (by simp)).alloc (Obj.cells #[.int .i64 x, .int .i64 y] 40)
  have X2 := PointOk.box1 ((w.alloc (Obj.cells #[.slice A n cap] 30)).alloc (Obj.cells #[.int .i64 a, .int .i64 b, .int .i64 c] 65)) x y 40 (k := w.heap.size + 1 + 1) (by simp)
  have b0 := PointOk.below3 w (Obj.cells #[.slice A n cap] 30) (Obj.cells #[.int .i64 a, .int .i64 b, .int .i64 c] 65) (Obj.cells #[.int .i64 x, .int .i64 y] 40)
  have HO : ∀ W W' : World, (Pts.BoxR W (w.heap.size) (.slice A n cap) ∧ Box3.Box W (w.heap.size + 1) a b c ∧ PointOk.Box W (w.heap.size + 1 + 1) x y ∧ PtsAt W w.heap.size A ps ∧ Below w.heap.size w W) → Below W.heap.size W W' → (Pts.BoxR W' (w.heap.size) (.slice A n cap) ∧ Box3.Box W' (w.heap.size + 1) a b c ∧ PointOk.Box W' (w.heap.size + 1 + 1) x y ∧ PtsAt W' w.heap.size A ps ∧ Below w.heap.size w W') := fun W W' ⟨h0, h1, h2, x0, hb⟩ h => ⟨h0.later h, h1.later h, h2.later h, x0.later (h.mono hb.size), hb.trans (h.mono hb.size)⟩
  have hz0_ : Hid (((((w.alloc (Obj.cells #[.slice A n cap] 30)).alloc (Obj.cells #[.int .i64 a, .int .i64 b, .int .i64 c] 65)).alloc (Obj.cells #[.int .i64 x, .int .i64 y] 40))).heap.size = w.heap.size + 1 + 1 + 1) := Lib.hid (by simp)
  have Y0 : PtsAt ((((w.alloc (Obj.cells #[.slice A n cap] 30)).alloc (Obj.cells #[.int .i64 a, .int .i64 b, .int .i64 c] 65)).alloc (Obj.cells #[.int .i64 x, .int .i64 y] 40))) w.heap.size A ps := hp.later b0
  generalize (((w.alloc (Obj.cells #[.slice A n cap] 30)).alloc (Obj.cells #[.int .i64 a, .int .i64 b, .int .i64 c] 65)).alloc (Obj.cells #[.int .i64 x, .int .i64 y] 40)) = w0 at X0 X1 X2 Y0 b0 hz0_ ⊢
  have S0 := (⟨X0, X1, X2, Y0, b0⟩ : Pts.BoxR w0 (w.heap.size) (.slice A n cap) ∧ Box3.Box w0 (w.heap.size + 1) a b c ∧ PointOk.Box w0 (w.heap.size + 1 + 1) x y ∧ PtsAt w0 w.heap.size A ps ∧ Below w.heap.size w w0)
  clear X0 X1 X2 Y0 b0
  obtain ⟨⟨_, _⟩, ⟨_, _, _⟩, ⟨_, _⟩, _, _⟩ := id S0
  obtain ⟨t, ht⟩ : ∃ t, triAreaI ps a b c = t := ⟨_, rfl⟩
  have QA : Hid (∀ w hp, _) := Lib.hid fun w hp => area A n cap a b c w ps hl hn hp
  have HE : Hid (r = (decide (0 < t) && okP x y && triIn (pt ps a.toNat) (pt ps b.toNat) (pt ps c.toNat) (x, y))) := Lib.hid (by rw [← HR.out, ← ht]; rfl)
  rw [ht] at QA
  refine (QA.out _ (S0.2.2.2.1.wide S0.2.2.2.2.size)).mono ?_
  rintro e w1 ⟨rfl, hb_⟩
  replace S0 := HO _ _ S0 hb_
  clear hb_
  obtain ⟨⟨_, _⟩, ⟨_, _, _⟩, ⟨_, _⟩, _, _⟩ := id S0
  by_cases h0 : 0 < t
  rotate_left
  · have E : Hid (r = false) := Lib.hid (by rw [HE.out, decide_eq_false h0]; rfl)
    have d0 : decide (0 < t) = false := decide_eq_false h0
    clear hl HR HE ht h0
    go_wp2_with fail
    go_ret
    exact ⟨ret_bool E.out.symm, S0.2.2.2.2⟩
  have d0 : decide (0 < t) = true := decide_eq_true h0
  have hb3 := triB_yes (triArea_pos (ps := ps) (a := a) (b := b) (c := c) (by omega))
  go_wp2_with fail
  refine (PointOkImpl.pointOk x y _).mono ?_
  rintro e w2 ⟨rfl, hb_⟩
  replace S0 := HO _ _ S0 hb_
  clear hb_
  obtain ⟨⟨_, _⟩, ⟨_, _, _⟩, ⟨_, _⟩, _, _⟩ := id S0
  cases ho : okP x y
  · have E : Hid (r = false) := Lib.hid (by rw [HE.out, ho]; simp)
    clear hl HR HE ht ho hb3 QA
    go_wp2_with fail
    go_ret
    exact ⟨ret_bool E.out.symm, S0.2.2.2.2⟩
  obtain ⟨hr, i, j, k, rfl, rfl, rfl, hij, hjk, hkn⟩ := hb3
  have hy := roomB_yes hr
  replace HE : Hid (triIn (pt ps i) (pt ps j) (pt ps k) (x, y) = r) := Lib.hid (by rw [HE.out, decide_eq_true h0, ho]; rfl)
  have QH : Hid (∀ w hp, _) := Lib.hid fun w hp => holds A n cap i j k x y w ps hl (by omega) (by omega) (by omega) hy.2.1 ho hp
  rw [HE.out] at QH
  clear hl HR HE ht ho hr hy QA hij hjk hkn
  go_wp2_with fail
  refine (QH.out _ (S0.2.2.2.1.wide S0.2.2.2.2.size)).mono ?_
  rintro e w3 ⟨rfl, hb_⟩
  replace S0 := HO _ _ S0 hb_
  clear hb_
  obtain ⟨⟨_, _⟩, ⟨_, _, _⟩, ⟨_, _⟩, _, _⟩ := id S0
  go_wp2_with fail
  go_ret
  exact ⟨rfl, S0.2.2.2.2⟩

end Go.Proofs.YtkcodmafakjkfaaGreat.TriImpl

