/-
  What the functions on the nearest guard do, as contracts: what each answers; no old cell is written.
-/
import Derived.Test.YtkoogklakacphabInImpl
import Derived.Test.YtkoogklakacphabNearMath
namespace Go.Proofs.Ytkoogklakacphab.NearImpl
open Go.RowKit Own PointMath WallMath RoomMath Pts Blk AreaMath PlaceMath FloorMath LineMath CutsMath SightMath KernMath NearMath FromImpl
open PointOk (ret_bool ret_i64 below1 below2 below3)

set_option maxRecDepth 100000 in
set_option maxHeartbeats 6400000 in
theorem nearest (A : Option Addr) (n cap : Nat) (B : Option Addr) (m cb : Nat) (x y : Int) (w : World) (ps : List (Int × Int)) (hl : ps.length = n) (hn : n ≤ 1048576) (hp : PtsAt w w.heap.size A ps) (qs : List (Int × Int)) (hl2 : qs.length = m) (hn2 : m ≤ 1048576) (hq : PtsAt w w.heap.size B qs) :
    Calls Try.prog 28 #[.agg #[.slice A n cap], .slice B m cb, .agg #[.int .i64 x, .int .i64 y]] w fun e w' => e = .returned (.int .i64 (nearestI ps qs x y)) ∧ Below w.heap.size w w' := by
  obtain ⟨r, hr⟩ : ∃ r, nearestI ps qs x y = r := ⟨_, rfl⟩
  have HR := Lib.hid hr
  rw [hr]
  clear hr
  go_enter Try.func28, Try.ntmps28
  go_wp2_with fail
  have X0 := (Pts.boxR w (.slice A n cap) 30 (k := w.heap.size) (by simp)).alloc (Obj.cells #[.int .i64 x, .int .i64 y] 48)
  have X1 := PointOk.box1 (w.alloc (Obj.cells #[.slice A n cap] 30)) x y 48 (k := w.heap.size + 1) (by simp)
  have b0 := PointOk.below2 w (Obj.cells #[.slice A n cap] 30) (Obj.cells #[.int .i64 x, .int .i64 y] 48)
  have HO : ∀ W W' : World, (Pts.BoxR W (w.heap.size) (.slice A n cap) ∧ PointOk.Box W (w.heap.size + 1) x y ∧ PtsAt W w.heap.size A ps ∧ PtsAt W w.heap.size B qs ∧ Below w.heap.size w W) → Below W.heap.size W W' → (Pts.BoxR W' (w.heap.size) (.slice A n cap) ∧ PointOk.Box W' (w.heap.size + 1) x y ∧ PtsAt W' w.heap.size A ps ∧ PtsAt W' w.heap.size B qs ∧ Below w.heap.size w W') := fun W W' ⟨h0, h1, x0, x1, hb⟩ h => ⟨h0.later h, h1.later h, x0.later (h.mono hb.size), x1.later (h.mono hb.size), hb.trans (h.mono hb.size)⟩
  have hz0_ : Hid ((((w.alloc (Obj.cells #[.slice A n cap] 30)).alloc (Obj.cells #[.int .i64 x, .int .i64 y] 48))).heap.size = w.heap.size + 1 + 1) := Lib.hid (by simp)
  have Y0 : PtsAt (((w.alloc (Obj.cells #[.slice A n cap] 30)).alloc (Obj.cells #[.int .i64 x, .int .i64 y] 48))) w.heap.size A ps := hp.later b0
  have Y1 : PtsAt (((w.alloc (Obj.cells #[.slice A n cap] 30)).alloc (Obj.cells #[.int .i64 x, .int .i64 y] 48))) w.heap.size B qs := hq.later b0
  generalize ((w.alloc (Obj.cells #[.slice A n cap] 30)).alloc (Obj.cells #[.int .i64 x, .int .i64 y] 48)) = w0 at X0 X1 Y0 Y1 b0 hz0_ ⊢
  have S0 := (⟨X0, X1, Y0, Y1, b0⟩ : Pts.BoxR w0 (w.heap.size) (.slice A n cap) ∧ PointOk.Box w0 (w.heap.size + 1) x y ∧ PtsAt w0 w.heap.size A ps ∧ PtsAt w0 w.heap.size B qs ∧ Below w.heap.size w w0)
  clear X0 X1 Y0 Y1 b0
  obtain ⟨⟨_, _⟩, ⟨_, _⟩, _, _, _⟩ := id S0
  refine (PlaceImpl.isIn A n cap x y _ ps hl hn (S0.2.2.1.wide S0.2.2.2.2.size)).mono ?_
  rintro e w1 ⟨rfl, hb_⟩
  replace S0 := HO _ _ S0 hb_
  clear hb_
  obtain ⟨⟨_, _⟩, ⟨_, _⟩, _, _, _⟩ := id S0
  cases hx : inB ps x y
  · have E : Hid (r = -1) := Lib.hid (by rw [← HR.out]; unfold nearestI; rw [hx]; simp)
    clear hl hl2 HR
    go_wp2_with fail
    go_ret
    exact ⟨ret_i64 E.out.symm, S0.2.2.2.2⟩
  go_wp2_with fail
  refine (InImpl.areIn A n cap B m cb _ ps hl hn (S0.2.2.1.wide S0.2.2.2.2.size) qs hl2 hn2 (S0.2.2.2.1.wide S0.2.2.2.2.size)).mono ?_
  rintro e w2 ⟨rfl, hb_⟩
  replace S0 := HO _ _ S0 hb_
  clear hb_
  obtain ⟨⟨_, _⟩, ⟨_, _⟩, _, _, _⟩ := id S0
  cases hi : allIn ps qs
  · have E : Hid (r = -1) := Lib.hid (by rw [← HR.out]; unfold nearestI; rw [hi]; rfl)
    clear hl hl2 HR
    go_wp2_with fail
    go_ret
    exact ⟨ret_i64 E.out.symm, S0.2.2.2.2⟩
  have HE : Hid (nearTo ps qs (x, y) m = r) := Lib.hid (by rw [← HR.out, ← hl2]; unfold nearestI; rw [hi, hx]; rfl)
  have hall := Lib.hid (allIn_at hi)
  have hinp := Lib.hid hx
  have hpx := (inB_parts hx).2
  have hy := roomB_yes hall.out.1
  have QF : Hid (∀ w hp, _) := Lib.hid fun w hp => sightFrom A n cap x y w ps hl (by omega) hy.2.1 hp
  unfold Asks at QF
  clear HR hi hx hy
  go_wp2_with fail
  refine (QF.out _ (S0.2.2.1.wide S0.2.2.2.2.size)).mono ?_
  rintro e w2_ ⟨C1, C2, Ad, cd, rfl, h1_, h2_, hq_, hb_⟩
  replace S0 := HO _ _ S0 hb_
  clear hb_ QF
  obtain ⟨K, hK⟩ : ∃ K, w2_.heap.size = K := ⟨_, rfl⟩
  rw [hK] at hq_
  have HO : ∀ W W' : World, (BoxR W C1 (.slice Ad n cd) ∧ PointOk.Box W C2 x y ∧ PtsAt W K Ad (dblL ps) ∧ PointOk.Box W (w.heap.size + 1) x y ∧ PtsAt W w.heap.size B qs ∧ K ≤ W.heap.size ∧ Below w.heap.size w W) → Below W.heap.size W W' → (BoxR W' C1 (.slice Ad n cd) ∧ PointOk.Box W' C2 x y ∧ PtsAt W' K Ad (dblL ps) ∧ PointOk.Box W' (w.heap.size + 1) x y ∧ PtsAt W' w.heap.size B qs ∧ K ≤ W'.heap.size ∧ Below w.heap.size w W') := fun W W' ⟨x0, x1, x2, x3, x4, x5, hb⟩ h => ⟨x0.later h, x1.later h, x2.later (h.mono x5), x3.later h, x4.later (h.mono hb.size), Nat.le_trans x5 h.size, hb.trans (h.mono hb.size)⟩
  have S1 : BoxR w2_ C1 (.slice Ad n cd) ∧ PointOk.Box w2_ C2 x y ∧ PtsAt w2_ K Ad (dblL ps) ∧ PointOk.Box w2_ (w.heap.size + 1) x y ∧ PtsAt w2_ w.heap.size B qs ∧ K ≤ w2_.heap.size ∧ Below w.heap.size w w2_ := ⟨h1_, h2_, hq_, S0.2.1, S0.2.2.2.1, Nat.le_of_eq hK.symm, S0.2.2.2.2⟩
  clear S0 h1_ h2_ hq_ hK
  have S0 := S1
  clear S1
  obtain ⟨⟨_, _⟩, ⟨_, _⟩, _, ⟨_, _⟩, _, _, _⟩ := id S0
  go_wp2_with fail
  go_loopw [8, 27] (fun v q wr => ∃ k : Nat, k ≤ m ∧ q = .int .i64 k ∧ v = .int .i64 (nearTo ps qs (x, y) k) ∧ (BoxR wr C1 (.slice Ad n cd) ∧ PointOk.Box wr C2 x y ∧ PtsAt wr K Ad (dblL ps) ∧ PointOk.Box wr (w.heap.size + 1) x y ∧ PtsAt wr w.heap.size B qs ∧ K ≤ wr.heap.size ∧ Below w.heap.size w wr))
    (fun _ q _ => m - (intOf q).toNat)
  case atStart => exact ⟨0, Nat.zero_le _, rfl, rfl, S0⟩
  case round =>
    clear S0
    obtain ⟨k, hk, rfl, rfl, S0⟩ := hrel
    obtain ⟨⟨_, _⟩, ⟨_, _⟩, _, ⟨_, _⟩, _, _, _⟩ := id S0
    by_cases hlt : k < m
    rotate_left
    · obtain rfl : m = k := by omega
      have E : Hid (nearTo ps qs (x, y) m = r) := HE
      rw [E.out]
      clear hl hl2 HE hall hinp E
      go_wp2_with fail
      go_ret
      exact ⟨rfl, S0.2.2.2.2.2.2⟩
    have hk1 : (k : Int) < (m : Int) := by omega
    have hk0 : (0 : Int) ≤ (k : Int) := by omega
    have p0 := pt_at (ps := qs) (k := k) (by omega)
    have in0 := hall.out.2 k (by omega)
    have HN : Hid (nearTo ps qs (x, y) (k + 1) = if seesM ps (pt qs k) (x, y) && (decide (nearTo ps qs (x, y) k < 0) || decide (squareI (pt qs k).1 (pt qs k).2 x y < squareI (pt qs (nearTo ps qs (x, y) k).toNat).1 (pt qs (nearTo ps qs (x, y) k).toNat).2 x y)) then (k : Int) else nearTo ps qs (x, y) k) := Lib.hid rfl
    have nb := near_bound ps qs (x, y) k
    generalize nearTo ps qs (x, y) k = o at *
    obtain ⟨gx, gy, hg⟩ : ∃ x y, pt qs k = (x, y) := ⟨_, _, rfl⟩
    rw [hg] at p0 in0 HN
    have hpg := (inB_parts in0).2
    obtain ⟨ad, eA, bA, pA⟩ := S0.2.2.2.2.1.get p0
    subst eA
    rw [sees_swap hall.out.1 (gx, gy) (x, y), square_sym gx gy x y] at HN
    have Q1 : Hid (∀ w h1 h2 hq, _) := Lib.hid fun w h1 h2 hq => asks x y gx gy C1 C2 Ad n cd w ps hl hinp.out in0 h1 h2 hq
    obtain ⟨s, hs⟩ : ∃ s, seesM ps (x, y) (gx, gy) = s := ⟨_, rfl⟩
    rw [hs] at Q1 HN
    have X3 := PointOk.box1 wr gx gy 48 (k := wr.heap.size) rfl
    obtain ⟨_, _⟩ := id pA
    have b1_ := below1 wr (Obj.cells #[.int .i64 gx, .int .i64 gy] 48)
    have S0a := HO _ _ S0 b1_
    obtain ⟨_, _⟩ := id X3
    obtain ⟨kb, hkb⟩ : ∃ K, wr.heap.size = K := ⟨_, rfl⟩
    rw [hkb] at X3
    replace pA := pA.later bA (b1_.mono (by have := S0.2.2.2.2.2.2.size; exact this))
    clear b1_ p0 hg hs
    replace S0 := S0a
    clear S0a
    go_wp2_with fail
    generalize wr.alloc (Obj.cells #[.int .i64 gx, .int .i64 gy] 48) = v1 at *
    try rw [hkb]
    clear hkb
    have HO : ∀ W W' : World, (BoxR W C1 (.slice Ad n cd) ∧ PointOk.Box W C2 x y ∧ PtsAt W K Ad (dblL ps) ∧ PointOk.Box W (w.heap.size + 1) x y ∧ PtsAt W w.heap.size (some ad) qs ∧ K ≤ W.heap.size ∧ PointOk.Box W kb gx gy ∧ Below w.heap.size w W) → Below W.heap.size W W' → (BoxR W' C1 (.slice Ad n cd) ∧ PointOk.Box W' C2 x y ∧ PtsAt W' K Ad (dblL ps) ∧ PointOk.Box W' (w.heap.size + 1) x y ∧ PtsAt W' w.heap.size (some ad) qs ∧ K ≤ W'.heap.size ∧ PointOk.Box W' kb gx gy ∧ Below w.heap.size w W') := fun W W' ⟨x0, x1, x2, x3, x4, x5, x6, hb⟩ h => ⟨x0.later h, x1.later h, x2.later (h.mono x5), x3.later h, x4.later (h.mono hb.size), Nat.le_trans x5 h.size, x6.later h, hb.trans (h.mono hb.size)⟩
    replace S0 : BoxR v1 C1 (.slice Ad n cd) ∧ PointOk.Box v1 C2 x y ∧ PtsAt v1 K Ad (dblL ps) ∧ PointOk.Box v1 (w.heap.size + 1) x y ∧ PtsAt v1 w.heap.size (some ad) qs ∧ K ≤ v1.heap.size ∧ PointOk.Box v1 kb gx gy ∧ Below w.heap.size w v1 := ⟨S0.1, S0.2.1, S0.2.2.1, S0.2.2.2.1, S0.2.2.2.2.1, S0.2.2.2.2.2.1, X3, S0.2.2.2.2.2.2⟩
    clear X3 pA
    obtain ⟨⟨_, _⟩, ⟨_, _⟩, _, ⟨_, _⟩, _, _, ⟨_, _⟩, _⟩ := id S0
    by_cases h0 : o < 0
    · have d0 : decide (o < 0) = true := decide_eq_true h0
      cases s
      · have HN2 : Hid (nearTo ps qs (x, y) (k + 1) = o) := Lib.hid (by rw [HN.out]; rfl)
        clear HN hall HE hl hl2 in0 h0
        go_wp2_with fail
        refine Settle.region (fun W => BoxR W C1 (.slice Ad n cd) ∧ PointOk.Box W C2 x y ∧ PtsAt W K Ad (dblL ps) ∧ PointOk.Box W (w.heap.size + 1) x y ∧ PtsAt W w.heap.size (some ad) qs ∧ K ≤ W.heap.size ∧ PointOk.Box W kb gx gy ∧ Below w.heap.size w W) (by kernel_rfl) (by kernel_rfl) (by kernel_rfl) (by kernel_rfl) (HO _ _ S0 ((Below.refl _ _).drew)) ?_
        clear S0
        repeat (first
          | (refine Settle.Settles.off (by rfl) ?_; simp only [Act.put, List.setIfInBounds_toArray, List.set_cons_zero, List.set_cons_succ])
          | (refine Settle.Settles.quiet (v := ?_) (by rfl) ?_ ?_
             rotate_left
             · (intro W hS; obtain ⟨⟨_, _⟩, ⟨_, _⟩, _, ⟨_, _⟩, _, _, ⟨_, _⟩, _⟩ := hS; go_simp; with_reducible rfl)
             simp only [Act.put, List.setIfInBounds_toArray, List.set_cons_zero, List.set_cons_succ])
          | (refine Settle.Settles.call (v := ?_) (f := ?_) (args := ?_) (by rfl) ?_ ?_ ?_
             rotate_left 3
             · (intro W; go_simp; refine ⟨?_, ?_⟩ <;> with_reducible rfl)
             · (intro W hS; fail)
             simp only [Act.put, List.setIfInBounds_toArray, List.set_cons_zero, List.set_cons_succ]))
        refine Settle.Settles.nil ?_
        intro wr S0
        obtain ⟨⟨_, _⟩, ⟨_, _⟩, _, ⟨_, _⟩, _, _, ⟨_, _⟩, _⟩ := id S0
        go_wp2_with fail
        refine (Q1.out _ S0.1 S0.2.1 (S0.2.2.1.wide S0.2.2.2.2.2.1)).mono ?_
        rintro e w4 ⟨rfl, hb_⟩
        replace S0 := HO _ _ S0 hb_
        clear hb_ Q1
        go_wp2_with fail
        first
          | exact ⟨⟨k + 1, by omega, by go_num, by rw [HN2.out], S0.1, S0.2.1, S0.2.2.1, S0.2.2.2.1, S0.2.2.2.2.1, S0.2.2.2.2.2.1, S0.2.2.2.2.2.2.2⟩, by simp [intOf]; omega⟩
          | (go_roundw <;> first | exact ⟨k + 1, by omega, by go_num, by rw [HN2.out], S0.1, S0.2.1, S0.2.2.1, S0.2.2.2.1, S0.2.2.2.2.1, S0.2.2.2.2.2.1, S0.2.2.2.2.2.2.2⟩ | (simp [intOf]; omega))
      · have HN2 : Hid (nearTo ps qs (x, y) (k + 1) = (k : Int)) := Lib.hid (by rw [HN.out, d0]; rfl)
        clear HN hall HE hl hl2 in0 h0
        go_wp2_with fail
        refine Settle.region (fun W => BoxR W C1 (.slice Ad n cd) ∧ PointOk.Box W C2 x y ∧ PtsAt W K Ad (dblL ps) ∧ PointOk.Box W (w.heap.size + 1) x y ∧ PtsAt W w.heap.size (some ad) qs ∧ K ≤ W.heap.size ∧ PointOk.Box W kb gx gy ∧ Below w.heap.size w W) (by kernel_rfl) (by kernel_rfl) (by kernel_rfl) (by kernel_rfl) (HO _ _ S0 ((Below.refl _ _).drew)) ?_
        clear S0
        repeat (first
          | (refine Settle.Settles.off (by rfl) ?_; simp only [Act.put, List.setIfInBounds_toArray, List.set_cons_zero, List.set_cons_succ])
          | (refine Settle.Settles.quiet (v := ?_) (by rfl) ?_ ?_
             rotate_left
             · (intro W hS; obtain ⟨⟨_, _⟩, ⟨_, _⟩, _, ⟨_, _⟩, _, _, ⟨_, _⟩, _⟩ := hS; go_simp; with_reducible rfl)
             simp only [Act.put, List.setIfInBounds_toArray, List.set_cons_zero, List.set_cons_succ])
          | (refine Settle.Settles.call (v := ?_) (f := ?_) (args := ?_) (by rfl) ?_ ?_ ?_
             rotate_left 3
             · (intro W; go_simp; refine ⟨?_, ?_⟩ <;> with_reducible rfl)
             · (intro W hS; fail)
             simp only [Act.put, List.setIfInBounds_toArray, List.set_cons_zero, List.set_cons_succ]))
        refine Settle.Settles.nil ?_
        intro wr S0
        obtain ⟨⟨_, _⟩, ⟨_, _⟩, _, ⟨_, _⟩, _, _, ⟨_, _⟩, _⟩ := id S0
        go_wp2_with fail
        refine (Q1.out _ S0.1 S0.2.1 (S0.2.2.1.wide S0.2.2.2.2.2.1)).mono ?_
        rintro e w4 ⟨rfl, hb_⟩
        replace S0 := HO _ _ S0 hb_
        clear hb_ Q1
        go_wp2_with fail
        first
          | exact ⟨⟨k + 1, by omega, by go_num, by rw [HN2.out], S0.1, S0.2.1, S0.2.2.1, S0.2.2.2.1, S0.2.2.2.2.1, S0.2.2.2.2.2.1, S0.2.2.2.2.2.2.2⟩, by simp [intOf]; omega⟩
          | (go_roundw <;> first | exact ⟨k + 1, by omega, by go_num, by rw [HN2.out], S0.1, S0.2.1, S0.2.2.1, S0.2.2.2.1, S0.2.2.2.2.1, S0.2.2.2.2.2.1, S0.2.2.2.2.2.2.2⟩ | (simp [intOf]; omega))
    have d0 : decide (o < 0) = false := decide_eq_false h0
    obtain ⟨j, rfl⟩ := Int.eq_ofNat_of_zero_le (show 0 ≤ o by omega)
    have p1 := pt_at (ps := qs) (k := j) (by omega)
    have in1 := hall.out.2 j (by omega)
    replace HN : Hid (nearTo ps qs (x, y) (k + 1) = if s && decide (squareI x y gx gy < squareI (pt qs j).1 (pt qs j).2 x y) then (k : Int) else (j : Int)) := Lib.hid (by rw [HN.out, d0]; rfl)
    obtain ⟨jx, jy, hj⟩ : ∃ x y, pt qs j = (x, y) := ⟨_, _, rfl⟩
    rw [hj, square_sym jx jy x y] at HN
    rw [hj] at p1 in1
    have hpj := (inB_parts in1).2
    obtain ⟨ad2, eA2, _, pB⟩ := S0.2.2.2.2.1.get p1
    injection eA2 with eA2
    subst eA2
    have hj1 : (j : Int) < (m : Int) := by omega
    have hj0 : (0 : Int) ≤ (j : Int) := by omega
    have Q2 : Hid (∀ w, _) := Lib.hid fun w => PointImpl.isNearer x y gx gy jx jy w
    rw [show nearerB x y gx gy jx jy = decide (squareI x y gx gy < squareI x y jx jy) by unfold nearerB; rw [hpx, hpg, hpj]; rfl] at Q2
    obtain ⟨c, hc⟩ : ∃ c, decide (squareI x y gx gy < squareI x y jx jy) = c := ⟨_, rfl⟩
    rw [hc] at Q2 HN
    have HO : ∀ W W' : World, (BoxR W C1 (.slice Ad n cd) ∧ PointOk.Box W C2 x y ∧ PtsAt W K Ad (dblL ps) ∧ PointOk.Box W (w.heap.size + 1) x y ∧ PtsAt W w.heap.size (some ad) qs ∧ K ≤ W.heap.size ∧ PointOk.Box W kb gx gy ∧ PtAt W ad j jx jy ∧ Below w.heap.size w W) → Below W.heap.size W W' → (BoxR W' C1 (.slice Ad n cd) ∧ PointOk.Box W' C2 x y ∧ PtsAt W' K Ad (dblL ps) ∧ PointOk.Box W' (w.heap.size + 1) x y ∧ PtsAt W' w.heap.size (some ad) qs ∧ K ≤ W'.heap.size ∧ PointOk.Box W' kb gx gy ∧ PtAt W' ad j jx jy ∧ Below w.heap.size w W') := fun W W' ⟨x0, x1, x2, x3, x4, x5, x6, x7, hb⟩ h => ⟨x0.later h, x1.later h, x2.later (h.mono x5), x3.later h, x4.later (h.mono hb.size), Nat.le_trans x5 h.size, x6.later h, x7.later bA (h.mono hb.size), hb.trans (h.mono hb.size)⟩
    replace S0 : BoxR v1 C1 (.slice Ad n cd) ∧ PointOk.Box v1 C2 x y ∧ PtsAt v1 K Ad (dblL ps) ∧ PointOk.Box v1 (w.heap.size + 1) x y ∧ PtsAt v1 w.heap.size (some ad) qs ∧ K ≤ v1.heap.size ∧ PointOk.Box v1 kb gx gy ∧ PtAt v1 ad j jx jy ∧ Below w.heap.size w v1 := ⟨S0.1, S0.2.1, S0.2.2.1, S0.2.2.2.1, S0.2.2.2.2.1, S0.2.2.2.2.2.1, S0.2.2.2.2.2.2.1, pB, S0.2.2.2.2.2.2.2⟩
    clear pB p1 hj hall HE hl hl2 in0 in1 hpg hpx hpj h0 nb hc
    obtain ⟨⟨_, _⟩, ⟨_, _⟩, _, ⟨_, _⟩, _, _, ⟨_, _⟩, ⟨_, _⟩, _⟩ := id S0
    cases c
    · have HN2 : Hid (nearTo ps qs (x, y) (k + 1) = (j : Int)) := Lib.hid (by rw [HN.out]; simp)
      clear HN
      go_wp2_with fail
      refine Settle.region (fun W => BoxR W C1 (.slice Ad n cd) ∧ PointOk.Box W C2 x y ∧ PtsAt W K Ad (dblL ps) ∧ PointOk.Box W (w.heap.size + 1) x y ∧ PtsAt W w.heap.size (some ad) qs ∧ K ≤ W.heap.size ∧ PointOk.Box W kb gx gy ∧ PtAt W ad j jx jy ∧ Below w.heap.size w W) (by kernel_rfl) (by kernel_rfl) (by kernel_rfl) (by kernel_rfl) (HO _ _ S0 ((Below.refl _ _).drew)) ?_
      clear S0
      repeat (first
        | (refine Settle.Settles.off (by rfl) ?_; simp only [Act.put, List.setIfInBounds_toArray, List.set_cons_zero, List.set_cons_succ])
        | (refine Settle.Settles.quiet (v := ?_) (by rfl) ?_ ?_
           rotate_left
           · (intro W hS; obtain ⟨⟨_, _⟩, ⟨_, _⟩, _, ⟨_, _⟩, _, _, ⟨_, _⟩, ⟨_, _⟩, _⟩ := hS; go_simp; with_reducible rfl)
           simp only [Act.put, List.setIfInBounds_toArray, List.set_cons_zero, List.set_cons_succ])
        | (refine Settle.Settles.call (v := ?_) (f := ?_) (args := ?_) (by rfl) ?_ ?_ ?_
           rotate_left 3
           · (intro W; go_simp; refine ⟨?_, ?_⟩ <;> with_reducible rfl)
           · (intro W hS; first | (go_at_call 48; (with_reducible refine (Q2.out _).mono ?_); rintro e W1 ⟨rfl, hb⟩; refine ⟨?_, HO _ _ hS hb⟩; with_reducible rfl))
           simp only [Act.put, List.setIfInBounds_toArray, List.set_cons_zero, List.set_cons_succ]))
      refine Settle.Settles.nil ?_
      intro wr S0
      obtain ⟨⟨_, _⟩, ⟨_, _⟩, _, ⟨_, _⟩, _, _, ⟨_, _⟩, ⟨_, _⟩, _⟩ := id S0
      go_wp2_with fail
      first
        | exact ⟨⟨k + 1, by omega, by go_num, by rw [HN2.out], S0.1, S0.2.1, S0.2.2.1, S0.2.2.2.1, S0.2.2.2.2.1, S0.2.2.2.2.2.1, S0.2.2.2.2.2.2.2.2⟩, by simp [intOf]; omega⟩
        | (go_roundw <;> first | exact ⟨k + 1, by omega, by go_num, by rw [HN2.out], S0.1, S0.2.1, S0.2.2.1, S0.2.2.2.1, S0.2.2.2.2.1, S0.2.2.2.2.2.1, S0.2.2.2.2.2.2.2.2⟩ | (simp [intOf]; omega))
    cases s
    · have HN2 : Hid (nearTo ps qs (x, y) (k + 1) = (j : Int)) := Lib.hid (by rw [HN.out]; rfl)
      clear HN
      go_wp2_with fail
      refine Settle.region (fun W => BoxR W C1 (.slice Ad n cd) ∧ PointOk.Box W C2 x y ∧ PtsAt W K Ad (dblL ps) ∧ PointOk.Box W (w.heap.size + 1) x y ∧ PtsAt W w.heap.size (some ad) qs ∧ K ≤ W.heap.size ∧ PointOk.Box W kb gx gy ∧ PtAt W ad j jx jy ∧ Below w.heap.size w W) (by kernel_rfl) (by kernel_rfl) (by kernel_rfl) (by kernel_rfl) (HO _ _ S0 ((Below.refl _ _).drew)) ?_
      clear S0
      repeat (first
        | (refine Settle.Settles.off (by rfl) ?_; simp only [Act.put, List.setIfInBounds_toArray, List.set_cons_zero, List.set_cons_succ])
        | (refine Settle.Settles.quiet (v := ?_) (by rfl) ?_ ?_
           rotate_left
           · (intro W hS; obtain ⟨⟨_, _⟩, ⟨_, _⟩, _, ⟨_, _⟩, _, _, ⟨_, _⟩, ⟨_, _⟩, _⟩ := hS; go_simp; with_reducible rfl)
           simp only [Act.put, List.setIfInBounds_toArray, List.set_cons_zero, List.set_cons_succ])
        | (refine Settle.Settles.call (v := ?_) (f := ?_) (args := ?_) (by rfl) ?_ ?_ ?_
           rotate_left 3
           · (intro W; go_simp; refine ⟨?_, ?_⟩ <;> with_reducible rfl)
           · (intro W hS; first | (go_at_call 48; (with_reducible refine (Q2.out _).mono ?_); rintro e W1 ⟨rfl, hb⟩; refine ⟨?_, HO _ _ hS hb⟩; with_reducible rfl))
           simp only [Act.put, List.setIfInBounds_toArray, List.set_cons_zero, List.set_cons_succ]))
      refine Settle.Settles.nil ?_
      intro wr S0
      obtain ⟨⟨_, _⟩, ⟨_, _⟩, _, ⟨_, _⟩, _, _, ⟨_, _⟩, ⟨_, _⟩, _⟩ := id S0
      go_wp2_with fail
      refine (Q1.out _ S0.1 S0.2.1 (S0.2.2.1.wide S0.2.2.2.2.2.1)).mono ?_
      rintro e w4 ⟨rfl, hb_⟩
      replace S0 := HO _ _ S0 hb_
      clear hb_ Q1
      go_wp2_with fail
      first
        | exact ⟨⟨k + 1, by omega, by go_num, by rw [HN2.out], S0.1, S0.2.1, S0.2.2.1, S0.2.2.2.1, S0.2.2.2.2.1, S0.2.2.2.2.2.1, S0.2.2.2.2.2.2.2.2⟩, by simp [intOf]; omega⟩
        | (go_roundw <;> first | exact ⟨k + 1, by omega, by go_num, by rw [HN2.out], S0.1, S0.2.1, S0.2.2.1, S0.2.2.2.1, S0.2.2.2.2.1, S0.2.2.2.2.2.1, S0.2.2.2.2.2.2.2.2⟩ | (simp [intOf]; omega))
    · have HN2 : Hid (nearTo ps qs (x, y) (k + 1) = (k : Int)) := Lib.hid (by rw [HN.out]; rfl)
      clear HN
      go_wp2_with fail
      refine Settle.region (fun W => BoxR W C1 (.slice Ad n cd) ∧ PointOk.Box W C2 x y ∧ PtsAt W K Ad (dblL ps) ∧ PointOk.Box W (w.heap.size + 1) x y ∧ PtsAt W w.heap.size (some ad) qs ∧ K ≤ W.heap.size ∧ PointOk.Box W kb gx gy ∧ PtAt W ad j jx jy ∧ Below w.heap.size w W) (by kernel_rfl) (by kernel_rfl) (by kernel_rfl) (by kernel_rfl) (HO _ _ S0 ((Below.refl _ _).drew)) ?_
      clear S0
      repeat (first
        | (refine Settle.Settles.off (by rfl) ?_; simp only [Act.put, List.setIfInBounds_toArray, List.set_cons_zero, List.set_cons_succ])
        | (refine Settle.Settles.quiet (v := ?_) (by rfl) ?_ ?_
           rotate_left
           · (intro W hS; obtain ⟨⟨_, _⟩, ⟨_, _⟩, _, ⟨_, _⟩, _, _, ⟨_, _⟩, ⟨_, _⟩, _⟩ := hS; go_simp; with_reducible rfl)
           simp only [Act.put, List.setIfInBounds_toArray, List.set_cons_zero, List.set_cons_succ])
        | (refine Settle.Settles.call (v := ?_) (f := ?_) (args := ?_) (by rfl) ?_ ?_ ?_
           rotate_left 3
           · (intro W; go_simp; refine ⟨?_, ?_⟩ <;> with_reducible rfl)
           · (intro W hS; first | (go_at_call 48; (with_reducible refine (Q2.out _).mono ?_); rintro e W1 ⟨rfl, hb⟩; refine ⟨?_, HO _ _ hS hb⟩; with_reducible rfl))
           simp only [Act.put, List.setIfInBounds_toArray, List.set_cons_zero, List.set_cons_succ]))
      refine Settle.Settles.nil ?_
      intro wr S0
      obtain ⟨⟨_, _⟩, ⟨_, _⟩, _, ⟨_, _⟩, _, _, ⟨_, _⟩, ⟨_, _⟩, _⟩ := id S0
      go_wp2_with fail
      refine (Q1.out _ S0.1 S0.2.1 (S0.2.2.1.wide S0.2.2.2.2.2.1)).mono ?_
      rintro e w4 ⟨rfl, hb_⟩
      replace S0 := HO _ _ S0 hb_
      clear hb_ Q1
      go_wp2_with fail
      first
        | exact ⟨⟨k + 1, by omega, by go_num, by rw [HN2.out], S0.1, S0.2.1, S0.2.2.1, S0.2.2.2.1, S0.2.2.2.2.1, S0.2.2.2.2.2.1, S0.2.2.2.2.2.2.2.2⟩, by simp [intOf]; omega⟩
        | (go_roundw <;> first | exact ⟨k + 1, by omega, by go_num, by rw [HN2.out], S0.1, S0.2.1, S0.2.2.1, S0.2.2.2.1, S0.2.2.2.2.1, S0.2.2.2.2.2.1, S0.2.2.2.2.2.2.2.2⟩ | (simp [intOf]; omega))

end Go.Proofs.Ytkoogklakacphab.NearImpl

