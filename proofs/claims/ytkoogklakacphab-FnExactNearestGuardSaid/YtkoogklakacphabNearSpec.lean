/-
  What the functions on the nearest guard do, as contracts: what each answers; no old cell is written.
-/
import Derived.Test.YtkoogklakacphabInSpec
import Derived.Test.YtkoogklakacphabNearMath
namespace Go.Proofs.Ytkoogklakacphab.NearSpec
open Go.RowKit Own PointMath WallMath RoomMath Pts Blk AreaMath PlaceMath FloorMath LineMath CutsMath SightMath KernMath NearMath 
open PointOk (ret_bool ret_i64 below1 below2 below3)

set_option maxRecDepth 100000 in
set_option maxHeartbeats 6400000 in
theorem nearest (A : Option Addr) (n cap : Nat) (B : Option Addr) (m cb : Nat) (x y : Int) (w : World) (ps : List (Int × Int)) (hl : ps.length = n) (hn : n ≤ 1048576) (hp : PtsAt w w.heap.size A ps) (qs : List (Int × Int)) (hl2 : qs.length = m) (hn2 : m ≤ 1048576) (hq : PtsAt w w.heap.size B qs) :
    Calls Try.prog 26 #[.agg #[.slice A n cap], .slice B m cb, .agg #[.int .i64 x, .int .i64 y]] w fun e w' => e = .returned (.int .i64 (nearestI ps qs x y)) ∧ Below w.heap.size w w' := by
  obtain ⟨r, hr⟩ : ∃ r, nearestI ps qs x y = r := ⟨_, rfl⟩
  have HR := Lib.hid hr
  rw [hr]
  clear hr
  go_enter Try.func26, Try.ntmps26
  go_wp2_with fail
  have X0 := (Pts.boxR w (.slice A n cap) 30 (k := w.heap.size) (by simp)).alloc (Obj.cells #[.int .i64 x, .int .i64 y] 48)
  have X1 := PointOk.box1 (w.alloc (Obj.cells #[.slice A n cap] 30)) x y 48 (k := w.heap.size + 1) (by simp)
  have b0 := PointOk.below2 w (Obj.cells #[.slice A n cap] 30) (Obj.cells #[.int .i64 x, .int .i64 y] 48)
  have HO : ∀ W W' : World, (Pts.BoxR W (w.heap.size) (.slice A n cap) ∧ PointOk.Box W (w.heap.size + 1) x y ∧ PtsAt W w.heap.size A ps ∧ PtsAt W w.heap.size B qs ∧ Below w.heap.size w W) → Below W.heap.size W W' → (Pts.BoxR W' (w.heap.size) (.slice A n cap) ∧ PointOk.Box W' (w.heap.size + 1) x y ∧ PtsAt W' w.heap.size A ps ∧ PtsAt W' w.heap.size B qs ∧ Below w.heap.size w W') := fun W W' ⟨h0, h1, x0, x1, hb⟩ h => ⟨h0.later h, h1.later h, x0.later (h.mono hb.size), x1.later (h.mono hb.size), hb.trans (h.mono hb.size)⟩
  have hz0_ : Hid ((((w.alloc (Obj.cells #[.slice A n cap] 30)).alloc (Obj.cells #[.int .i64 x, .int .i64 y] 48))).heap.size = w.heap.size + 1 + 1) := Lib.hid (by simp)
  have Y0 : PtsAt (((w.alloc (Obj.cells #[.slice A n cap] 30)).alloc (Obj.cells #[.int .i64 x, .int .i64 y] 48))) w.heap.size A ps := hp.later b0
  have Y1 : PtsAt (((w.alloc (Obj.cells #[.slice A n cap] 30)).alloc (Obj.cells #[.int .i64 x, .int .i64 y] 48))) w.heap.size B qs := hq.later b0
  generalize ((w.alloc (Obj.cells #[.slice A n cap] 30)).alloc (Obj.cells #[.int .i64 x, .int .i64 y] 48)) = w0 at X0 X1 Y0 Y1 b0 hz0_ ⊢
  have S0 := (⟨X0, X1, Y0, Y1, b0⟩ : Pts.BoxR w0 (w.heap.size) (.slice A n cap) ∧ PointOk.Box w0 (w.heap.size + 1) x y ∧ PtsAt w0 w.heap.size A ps ∧ PtsAt w0 w.heap.size B qs ∧ Below w.heap.size w w0)
  clear X0 X1 Y0 Y1 b0
  obtain ⟨⟨_, _⟩, ⟨_, _⟩, _, _, _⟩ := id S0
  refine (InSpec.l13In A n cap B m cb _ ps hl hn (S0.2.2.1.wide S0.2.2.2.2.size) qs hl2 hn2 (S0.2.2.2.1.wide S0.2.2.2.2.size)).mono ?_
  rintro e w1 ⟨rfl, hb_⟩
  replace S0 := HO _ _ S0 hb_
  clear hb_
  obtain ⟨⟨_, _⟩, ⟨_, _⟩, _, _, _⟩ := id S0
  cases hi : allIn ps qs
  · have E : Hid (r = -1) := Lib.hid (by rw [← HR.out]; unfold nearestI; rw [hi]; rfl)
    clear hl hl2 HR
    go_wp2_with fail
    go_ret
    exact ⟨ret_i64 E.out.symm, S0.2.2.2.2⟩
  go_wp2_with fail
  refine (PlaceSpec.isIn A n cap x y _ ps hl hn (S0.2.2.1.wide S0.2.2.2.2.size)).mono ?_
  rintro e w2 ⟨rfl, hb_⟩
  replace S0 := HO _ _ S0 hb_
  clear hb_
  obtain ⟨⟨_, _⟩, ⟨_, _⟩, _, _, _⟩ := id S0
  cases hx : inB ps x y
  · have E : Hid (r = -1) := Lib.hid (by rw [← HR.out]; unfold nearestI; rw [hi, hx]; rfl)
    clear hl hl2 HR
    go_wp2_with fail
    go_ret
    exact ⟨ret_i64 E.out.symm, S0.2.2.2.2⟩
  have HE : Hid (nearTo ps qs (x, y) m = r) := Lib.hid (by rw [← HR.out, ← hl2]; unfold nearestI; rw [hi, hx]; rfl)
  have hall := Lib.hid (allIn_at hi)
  have hinp := Lib.hid hx
  have hpx := (inB_parts hx).2
  clear HR hi hx
  go_wp2_with fail
  go_loopw [7, 8] (fun v q wr => ∃ k : Nat, k ≤ m ∧ q = .int .i64 k ∧ v = .int .i64 (nearTo ps qs (x, y) k) ∧ (Pts.BoxR wr (w.heap.size) (.slice A n cap) ∧ PointOk.Box wr (w.heap.size + 1) x y ∧ PtsAt wr w.heap.size A ps ∧ PtsAt wr w.heap.size B qs ∧ Below w.heap.size w wr))
    (fun _ q _ => m - (intOf q).toNat)
  case atStart => exact ⟨0, Nat.zero_le _, rfl, rfl, S0⟩
  case round =>
    clear S0
    obtain ⟨k, hk, rfl, rfl, S0⟩ := hrel
    obtain ⟨⟨_, _⟩, ⟨_, _⟩, _, _, _⟩ := id S0
    by_cases hlt : k < m
    rotate_left
    · obtain rfl : m = k := by omega
      have E : Hid (nearTo ps qs (x, y) m = r) := HE
      rw [E.out]
      clear hl hl2 HE hall hinp E
      go_wp2_with fail
      go_ret
      exact ⟨rfl, S0.2.2.2.2⟩
    have hk1 : (k : Int) < (m : Int) := by omega
    have hk0 : (0 : Int) ≤ (k : Int) := by omega
    have p0 := pt_at (ps := qs) (k := k) (by omega)
    have in0 := hall.out.2 k (by omega)
    have HN : Hid (nearTo ps qs (x, y) (k + 1) = if seesM ps (pt qs k) (x, y) && (decide (nearTo ps qs (x, y) k < 0) || decide (squareI (pt qs k).1 (pt qs k).2 x y < squareI (pt qs (nearTo ps qs (x, y) k).toNat).1 (pt qs (nearTo ps qs (x, y) k).toNat).2 x y)) then (k : Int) else nearTo ps qs (x, y) k) := Lib.hid rfl
    have nb := near_bound ps qs (x, y) k
    generalize nearTo ps qs (x, y) k = o at *
    obtain ⟨gx, gy, hg⟩ : ∃ x y, pt qs k = (x, y) := ⟨_, _, rfl⟩
    rw [hg] at p0 in0 HN
    have hpg := (inB_parts in0).2
    obtain ⟨ad, eA, bA, pA⟩ := S0.2.2.2.1.get p0
    subst eA
    have Q1 : Hid (∀ w hp, _) := Lib.hid fun w hp => SeenSpec.seesIn A n cap gx gy x y w ps hl in0 hinp.out hp
    obtain ⟨s, hs⟩ : ∃ s, seesM ps (gx, gy) (x, y) = s := ⟨_, rfl⟩
    rw [hs] at Q1 HN
    have HO : ∀ W W' : World, (BoxR W w.heap.size (.slice A n cap) ∧ PointOk.Box W (w.heap.size + 1) x y ∧ PtsAt W w.heap.size A ps ∧ PtsAt W w.heap.size (some ad) qs ∧ PtAt W ad k gx gy ∧ Below w.heap.size w W) → Below W.heap.size W W' → (BoxR W' w.heap.size (.slice A n cap) ∧ PointOk.Box W' (w.heap.size + 1) x y ∧ PtsAt W' w.heap.size A ps ∧ PtsAt W' w.heap.size (some ad) qs ∧ PtAt W' ad k gx gy ∧ Below w.heap.size w W') := fun W W' ⟨x0, x1, x2, x3, x4, hb⟩ h => ⟨x0.later h, x1.later h, x2.later (h.mono hb.size), x3.later (h.mono hb.size), x4.later bA (h.mono hb.size), hb.trans (h.mono hb.size)⟩
    replace S0 : BoxR wr w.heap.size (.slice A n cap) ∧ PointOk.Box wr (w.heap.size + 1) x y ∧ PtsAt wr w.heap.size A ps ∧ PtsAt wr w.heap.size (some ad) qs ∧ PtAt wr ad k gx gy ∧ Below w.heap.size w wr := ⟨S0.1, S0.2.1, S0.2.2.1, S0.2.2.2.1, pA, S0.2.2.2.2⟩
    clear pA p0 hg hs
    obtain ⟨⟨_, _⟩, ⟨_, _⟩, _, _, ⟨_, _⟩, _⟩ := id S0
    cases s
    · have HN2 : Hid (nearTo ps qs (x, y) (k + 1) = o) := Lib.hid (by rw [HN.out]; rfl)
      clear HN hall HE hl hl2 in0
      go_wp2_with fail
      refine Settle.region (fun W => BoxR W w.heap.size (.slice A n cap) ∧ PointOk.Box W (w.heap.size + 1) x y ∧ PtsAt W w.heap.size A ps ∧ PtsAt W w.heap.size (some ad) qs ∧ PtAt W ad k gx gy ∧ Below w.heap.size w W) (by kernel_rfl) (by kernel_rfl) (by kernel_rfl) (by kernel_rfl) (HO _ _ S0 ((Below.refl _ _).drew)) ?_
      clear S0
      repeat (first
        | (refine Settle.Settles.off (by rfl) ?_; simp only [Act.put, List.setIfInBounds_toArray, List.set_cons_zero, List.set_cons_succ])
        | (refine Settle.Settles.quiet (v := ?_) (by rfl) ?_ ?_
           rotate_left
           · (intro W hS; obtain ⟨⟨_, _⟩, ⟨_, _⟩, _, _, ⟨_, _⟩, _⟩ := hS; go_simp; with_reducible rfl)
           simp only [Act.put, List.setIfInBounds_toArray, List.set_cons_zero, List.set_cons_succ])
        | (refine Settle.Settles.call (v := ?_) (f := ?_) (args := ?_) (by rfl) ?_ ?_ ?_
           rotate_left 3
           · (intro W; go_simp; refine ⟨?_, ?_⟩ <;> with_reducible rfl)
           · (intro W hS; first | (go_at_call 43; (with_reducible refine (Q1.out _ (hS.2.2.1.wide hS.2.2.2.2.2.size)).mono ?_); rintro e W1 ⟨rfl, hb⟩; refine ⟨?_, HO _ _ hS hb⟩; with_reducible rfl))
           simp only [Act.put, List.setIfInBounds_toArray, List.set_cons_zero, List.set_cons_succ]))
      refine Settle.Settles.nil ?_
      intro wr S0
      obtain ⟨⟨_, _⟩, ⟨_, _⟩, _, _, ⟨_, _⟩, _⟩ := id S0
      go_wp2_with fail
      first
        | exact ⟨⟨k + 1, by omega, by go_num, by rw [HN2.out], S0.1, S0.2.1, S0.2.2.1, S0.2.2.2.1, S0.2.2.2.2.2⟩, by simp [intOf]; omega⟩
        | (go_roundw <;> first | exact ⟨k + 1, by omega, by go_num, by rw [HN2.out], S0.1, S0.2.1, S0.2.2.1, S0.2.2.2.1, S0.2.2.2.2.2⟩ | (simp [intOf]; omega))
    by_cases h0 : o < 0
    · have HN2 : Hid (nearTo ps qs (x, y) (k + 1) = (k : Int)) := Lib.hid (by rw [HN.out, decide_eq_true h0]; rfl)
      have d0 : decide (o < 0) = true := decide_eq_true h0
      clear HN hall HE hl hl2 in0 h0
      go_wp2_with fail
      refine Settle.region (fun W => BoxR W w.heap.size (.slice A n cap) ∧ PointOk.Box W (w.heap.size + 1) x y ∧ PtsAt W w.heap.size A ps ∧ PtsAt W w.heap.size (some ad) qs ∧ PtAt W ad k gx gy ∧ Below w.heap.size w W) (by kernel_rfl) (by kernel_rfl) (by kernel_rfl) (by kernel_rfl) (HO _ _ S0 ((Below.refl _ _).drew)) ?_
      clear S0
      repeat (first
        | (refine Settle.Settles.off (by rfl) ?_; simp only [Act.put, List.setIfInBounds_toArray, List.set_cons_zero, List.set_cons_succ])
        | (refine Settle.Settles.quiet (v := ?_) (by rfl) ?_ ?_
           rotate_left
           · (intro W hS; obtain ⟨⟨_, _⟩, ⟨_, _⟩, _, _, ⟨_, _⟩, _⟩ := hS; go_simp; with_reducible rfl)
           simp only [Act.put, List.setIfInBounds_toArray, List.set_cons_zero, List.set_cons_succ])
        | (refine Settle.Settles.call (v := ?_) (f := ?_) (args := ?_) (by rfl) ?_ ?_ ?_
           rotate_left 3
           · (intro W; go_simp; refine ⟨?_, ?_⟩ <;> with_reducible rfl)
           · (intro W hS; first | (go_at_call 43; (with_reducible refine (Q1.out _ (hS.2.2.1.wide hS.2.2.2.2.2.size)).mono ?_); rintro e W1 ⟨rfl, hb⟩; refine ⟨?_, HO _ _ hS hb⟩; with_reducible rfl))
           simp only [Act.put, List.setIfInBounds_toArray, List.set_cons_zero, List.set_cons_succ]))
      refine Settle.Settles.nil ?_
      intro wr S0
      obtain ⟨⟨_, _⟩, ⟨_, _⟩, _, _, ⟨_, _⟩, _⟩ := id S0
      go_wp2_with fail
      first
        | exact ⟨⟨k + 1, by omega, by go_num, by rw [HN2.out], S0.1, S0.2.1, S0.2.2.1, S0.2.2.2.1, S0.2.2.2.2.2⟩, by simp [intOf]; omega⟩
        | (go_roundw <;> first | exact ⟨k + 1, by omega, by go_num, by rw [HN2.out], S0.1, S0.2.1, S0.2.2.1, S0.2.2.2.1, S0.2.2.2.2.2⟩ | (simp [intOf]; omega))
    have d0 : decide (o < 0) = false := decide_eq_false h0
    obtain ⟨j, rfl⟩ := Int.eq_ofNat_of_zero_le (show 0 ≤ o by omega)
    have p1 := pt_at (ps := qs) (k := j) (by omega)
    have in1 := hall.out.2 j (by omega)
    replace HN : Hid (nearTo ps qs (x, y) (k + 1) = if decide (squareI gx gy x y < squareI (pt qs j).1 (pt qs j).2 x y) then (k : Int) else (j : Int)) := Lib.hid (by rw [HN.out, d0]; rfl)
    obtain ⟨jx, jy, hj⟩ : ∃ x y, pt qs j = (x, y) := ⟨_, _, rfl⟩
    rw [hj] at p1 in1 HN
    have hpj := (inB_parts in1).2
    obtain ⟨ad2, eA2, _, pB⟩ := S0.2.2.2.1.get p1
    injection eA2 with eA2
    subst eA2
    have hj1 : (j : Int) < (m : Int) := by omega
    have hj0 : (0 : Int) ≤ (j : Int) := by omega
    have Q2 : Hid (∀ w, _) := Lib.hid fun w => PointSpec.squareOf gx gy x y w
    have Q3 : Hid (∀ w, _) := Lib.hid fun w => PointSpec.squareOf jx jy x y w
    rw [show PointMath.squareOf gx gy x y = squareI gx gy x y by unfold PointMath.squareOf; rw [hpg, hpx]; rfl] at Q2
    rw [show PointMath.squareOf jx jy x y = squareI jx jy x y by unfold PointMath.squareOf; rw [hpj, hpx]; rfl] at Q3
    generalize squareI gx gy x y = s1 at *
    generalize squareI jx jy x y = s2 at *
    have HO : ∀ W W' : World, (BoxR W w.heap.size (.slice A n cap) ∧ PointOk.Box W (w.heap.size + 1) x y ∧ PtsAt W w.heap.size A ps ∧ PtsAt W w.heap.size (some ad) qs ∧ PtAt W ad k gx gy ∧ PtAt W ad j jx jy ∧ Below w.heap.size w W) → Below W.heap.size W W' → (BoxR W' w.heap.size (.slice A n cap) ∧ PointOk.Box W' (w.heap.size + 1) x y ∧ PtsAt W' w.heap.size A ps ∧ PtsAt W' w.heap.size (some ad) qs ∧ PtAt W' ad k gx gy ∧ PtAt W' ad j jx jy ∧ Below w.heap.size w W') := fun W W' ⟨x0, x1, x2, x3, x4, x5, hb⟩ h => ⟨x0.later h, x1.later h, x2.later (h.mono hb.size), x3.later (h.mono hb.size), x4.later bA (h.mono hb.size), x5.later bA (h.mono hb.size), hb.trans (h.mono hb.size)⟩
    replace S0 : BoxR wr w.heap.size (.slice A n cap) ∧ PointOk.Box wr (w.heap.size + 1) x y ∧ PtsAt wr w.heap.size A ps ∧ PtsAt wr w.heap.size (some ad) qs ∧ PtAt wr ad k gx gy ∧ PtAt wr ad j jx jy ∧ Below w.heap.size w wr := ⟨S0.1, S0.2.1, S0.2.2.1, S0.2.2.2.1, S0.2.2.2.2.1, pB, S0.2.2.2.2.2⟩
    clear pB p1 hj hall HE hl hl2 in0 in1 hpg hpx hpj h0 nb
    obtain ⟨⟨_, _⟩, ⟨_, _⟩, _, _, ⟨_, _⟩, ⟨_, _⟩, _⟩ := id S0
    go_wp2_with fail
    refine Settle.region (fun W => BoxR W w.heap.size (.slice A n cap) ∧ PointOk.Box W (w.heap.size + 1) x y ∧ PtsAt W w.heap.size A ps ∧ PtsAt W w.heap.size (some ad) qs ∧ PtAt W ad k gx gy ∧ PtAt W ad j jx jy ∧ Below w.heap.size w W) (by kernel_rfl) (by kernel_rfl) (by kernel_rfl) (by kernel_rfl) (HO _ _ S0 ((Below.refl _ _).drew)) ?_
    clear S0
    repeat (first
      | (refine Settle.Settles.off (by rfl) ?_; simp only [Act.put, List.setIfInBounds_toArray, List.set_cons_zero, List.set_cons_succ])
      | (refine Settle.Settles.quiet (v := ?_) (by rfl) ?_ ?_
         rotate_left
         · (intro W hS; obtain ⟨⟨_, _⟩, ⟨_, _⟩, _, _, ⟨_, _⟩, ⟨_, _⟩, _⟩ := hS; go_simp; with_reducible rfl)
         simp only [Act.put, List.setIfInBounds_toArray, List.set_cons_zero, List.set_cons_succ])
      | (refine Settle.Settles.call (v := ?_) (f := ?_) (args := ?_) (by rfl) ?_ ?_ ?_
         rotate_left 3
         · (intro W; go_simp; refine ⟨?_, ?_⟩ <;> with_reducible rfl)
         · (intro W hS; first | (go_at_call 43; (with_reducible refine (Q1.out _ (hS.2.2.1.wide hS.2.2.2.2.2.2.size)).mono ?_); rintro e W1 ⟨rfl, hb⟩; refine ⟨?_, HO _ _ hS hb⟩; with_reducible rfl) | (go_at_call 45; (with_reducible refine (Q2.out _).mono ?_); rintro e W1 ⟨rfl, hb⟩; refine ⟨?_, HO _ _ hS hb⟩; with_reducible rfl) | (go_at_call 45; (with_reducible refine (Q3.out _).mono ?_); rintro e W1 ⟨rfl, hb⟩; refine ⟨?_, HO _ _ hS hb⟩; with_reducible rfl))
         simp only [Act.put, List.setIfInBounds_toArray, List.set_cons_zero, List.set_cons_succ]))
    refine Settle.Settles.nil ?_
    intro wr S0
    obtain ⟨⟨_, _⟩, ⟨_, _⟩, _, _, ⟨_, _⟩, ⟨_, _⟩, _⟩ := id S0
    cases hd : decide (s1 < s2)
    · have HN2 : Hid (nearTo ps qs (x, y) (k + 1) = (j : Int)) := Lib.hid (by rw [HN.out, hd]; rfl)
      clear HN
      go_wp2_with fail
      first
        | exact ⟨⟨k + 1, by omega, by go_num, by rw [HN2.out], S0.1, S0.2.1, S0.2.2.1, S0.2.2.2.1, S0.2.2.2.2.2.2⟩, by simp [intOf]; omega⟩
        | (go_roundw <;> first | exact ⟨k + 1, by omega, by go_num, by rw [HN2.out], S0.1, S0.2.1, S0.2.2.1, S0.2.2.2.1, S0.2.2.2.2.2.2⟩ | (simp [intOf]; omega))
    · have HN2 : Hid (nearTo ps qs (x, y) (k + 1) = (k : Int)) := Lib.hid (by rw [HN.out, hd]; rfl)
      clear HN
      go_wp2_with fail
      first
        | exact ⟨⟨k + 1, by omega, by go_num, by rw [HN2.out], S0.1, S0.2.1, S0.2.2.1, S0.2.2.2.1, S0.2.2.2.2.2.2⟩, by simp [intOf]; omega⟩
        | (go_roundw <;> first | exact ⟨k + 1, by omega, by go_num, by rw [HN2.out], S0.1, S0.2.1, S0.2.2.1, S0.2.2.2.1, S0.2.2.2.2.2.2⟩ | (simp [intOf]; omega))

end Go.Proofs.Ytkoogklakacphab.NearSpec

