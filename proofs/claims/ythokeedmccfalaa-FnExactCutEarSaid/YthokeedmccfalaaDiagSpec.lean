/-
  What the model's functions on diagonals do, as contracts: what each answers; new memory alone is written.
-/
import Derived.Test.YthokeedmccfalaaSeenSpec
import Derived.Test.YthokeedmccfalaaWallOfSpec
import Derived.Test.YthokeedmccfalaaFacts
namespace Go.Proofs.Ythokeedmccfalaa.DiagSpec
open Go.RowKit Own PointMath WallMath RoomMath Pts Blk AreaMath PlaceMath FloorMath LineMath CutsMath SightMath DiagMath
open PointOk (ret_bool ret_i64 below1 below2 below3)
open SightSpec (infoP cellsP_app pts_own)

set_option maxRecDepth 100000 in
set_option maxHeartbeats 8000000 in
theorem diag (A : Option Addr) (n cap i k : Nat) (w : World) (ps : List (Int × Int)) (hl : ps.length = n) (hr : roomB ps = true) (hi : i < n) (hk : k < n) (hp : PtsAt w w.heap.size A ps) :
    Calls Try.prog 138 #[.slice A n cap, .int .i64 (i : Int), .int .i64 (k : Int)] w fun e w' => e = .returned (.bool (diagM ps i k)) ∧ Below w.heap.size w w' := by
  obtain ⟨r, hr⟩ : ∃ r, diagM ps i k = r := ⟨_, rfl⟩
  have HR := Lib.hid hr
  rw [hr]
  clear hr
  obtain ⟨i0, hii, hz0, hz1, hz2⟩ := info_parts infoP
  have hy := roomB_yes hr
  have hn : n ≤ 10 := by omega
  have hok := Lib.hid hy.2.1
  have HE : Hid (r = (!decide (i = k) && !decide ((i + 1) % n = k) && !decide ((k + 1) % n = i) && seesM ps (pt ps i) (pt ps k) && !otherB ps i k && decide (placeM (dblL ps) (addP (pt ps i) (pt ps k)) = 2))) := Lib.hid (by rw [← HR.out, ← hl]; rfl)
  have ei := succ_emod n i
  have eit : ((i : Int) + 1).tmod (n : Int) = (((i + 1) % n : Nat) : Int) := by rw [Int.tmod_eq_emod_of_nonneg (by omega)]; exact ei
  have ek := succ_emod n k
  have ekt : ((k : Int) + 1).tmod (n : Int) = (((k + 1) % n : Nat) : Int) := by rw [Int.tmod_eq_emod_of_nonneg (by omega)]; exact ek
  have p0 := pt_at (ps := ps) (k := i) (by omega)
  have p1 := pt_at (ps := ps) (k := k) (by omega)
  have o0 := okAll_at hok.out (k := i) (by omega)
  have o1 := okAll_at hok.out (k := k) (by omega)
  have HO_ : Hid (otherB ps i k = false ↔ ∀ j, j < n → j ≠ i → j ≠ k → btwP (pt ps j) (pt ps i) (pt ps k) = false) := Lib.hid (by rw [← hl]; exact other_iff)
  generalize (i + 1) % n = a at *
  generalize (k + 1) % n = b at *
  generalize otherB ps i k = oth at *
  obtain ⟨ax, ay, hA⟩ : ∃ x y, pt ps i = (x, y) := ⟨_, _, rfl⟩
  obtain ⟨bx, bY, hB⟩ : ∃ x y, pt ps k = (x, y) := ⟨_, _, rfl⟩
  rw [hA] at p0 o0 HE HO_
  rw [hB] at p1 o1 HE HO_
  obtain ⟨ad, eA, bA, pA⟩ := hp.get p0
  obtain ⟨ad2, eA2, _, pB⟩ := hp.get p1
  rw [eA] at eA2
  injection eA2 with eA2
  subst eA2
  subst eA
  have hi1 : (i : Int) < (n : Int) := by omega
  have hi0 : (0 : Int) ≤ (i : Int) := by omega
  have hk1 : (k : Int) < (n : Int) := by omega
  have hk0 : (0 : Int) ≤ (k : Int) := by omega
  have hn0 : ¬ ((n : Int) = 0) := by omega
  have hn1 : ¬ (n = 0) := by omega
  have ui : IntKind.i64.wrap ((i : Int) + 1) = (i : Int) + 1 := IntWalk.i64_in _ (by omega)
  have uk : IntKind.i64.wrap ((k : Int) + 1) = (k : Int) + 1 := IntWalk.i64_in _ (by omega)
  have QS : Hid (∀ w hp, _) := Lib.hid fun w hp => SightSpec.sees8 (some ad) n cap ax ay bx bY w ps hl hn hok.out o0 o1 hp
  obtain ⟨se, hse⟩ : ∃ s, seesM ps (ax, ay) (bx, bY) = s := ⟨_, rfl⟩
  rw [hse] at QS HE
  clear hse p0 p1 hy hr HR hA hB
  by_cases c1 : i = k
  · have b1 : ((i : Int) == (k : Int)) = true := by rw [beq_iff_eq]; omega
    have E : Hid (r = false) := Lib.hid (by rw [HE.out]; simp [c1])
    clear HE HO_ hl hok
    go_enter Try.func138, Try.ntmps138
    go_wp2_with fail
    have HO : ∀ W W' : World, (PtsAt W w.heap.size (some ad) ps ∧ PtAt W ad i ax ay ∧ PtAt W ad k bx bY ∧ Below w.heap.size w W) → Below W.heap.size W W' → (PtsAt W' w.heap.size (some ad) ps ∧ PtAt W' ad i ax ay ∧ PtAt W' ad k bx bY ∧ Below w.heap.size w W') := fun W W' ⟨x0, x1, x2, hb⟩ h => ⟨x0.later (h.mono hb.size), x1.later bA (h.mono hb.size), x2.later bA (h.mono hb.size), hb.trans (h.mono hb.size)⟩
    have S0 : PtsAt w w.heap.size (some ad) ps ∧ PtAt w ad i ax ay ∧ PtAt w ad k bx bY ∧ Below w.heap.size w w := ⟨hp, pA, pB, Below.refl _ _⟩
    clear hp pA pB
    obtain ⟨_, ⟨_, _⟩, ⟨_, _⟩, _⟩ := id S0
    refine Settle.region (fun W => PtsAt W w.heap.size (some ad) ps ∧ PtAt W ad i ax ay ∧ PtAt W ad k bx bY ∧ Below w.heap.size w W) (by kernel_rfl) (by kernel_rfl) (by kernel_rfl) (by kernel_rfl) (HO _ _ S0 ((Below.refl _ _).drew)) ?_
    clear S0
    repeat (first
      | (refine Settle.Settles.off (by rfl) ?_; simp only [Act.put, List.setIfInBounds_toArray, List.set_cons_zero, List.set_cons_succ])
      | (refine Settle.Settles.quiet (v := ?_) (by rfl) ?_ ?_
         rotate_left
         · (intro W hS; obtain ⟨_, ⟨_, _⟩, ⟨_, _⟩, _⟩ := hS; go_simp; with_reducible rfl)
         simp only [Act.put, List.setIfInBounds_toArray, List.set_cons_zero, List.set_cons_succ])
      | (refine Settle.Settles.call (v := ?_) (f := ?_) (args := ?_) (by rfl) ?_ ?_ ?_
         rotate_left 3
         · (intro W; go_simp; refine ⟨?_, ?_⟩ <;> with_reducible rfl)
         · (intro W hS; first | (go_at_call 80; (with_reducible refine (QS.out _ (hS.1.wide hS.2.2.2.size)).mono ?_); rintro e W1 ⟨rfl, hb⟩; refine ⟨?_, HO _ _ hS hb⟩; with_reducible rfl))
         simp only [Act.put, List.setIfInBounds_toArray, List.set_cons_zero, List.set_cons_succ]))
    refine Settle.Settles.nil ?_
    intro wr S0
    obtain ⟨_, ⟨_, _⟩, ⟨_, _⟩, _⟩ := id S0
    go_wp2_with fail
    go_ret
    exact ⟨ret_bool E.out.symm, S0.2.2.2⟩
  have b1 : ((i : Int) == (k : Int)) = false := beq_eq_false_iff_ne.2 (by omega)
  by_cases c2 : a = k
  · have b2 : ((a : Int) == (k : Int)) = true := by rw [beq_iff_eq]; omega
    have E : Hid (r = false) := Lib.hid (by rw [HE.out]; simp [c2])
    clear HE HO_ hl hok
    go_enter Try.func138, Try.ntmps138
    go_wp2_with fail
    have HO : ∀ W W' : World, (PtsAt W w.heap.size (some ad) ps ∧ PtAt W ad i ax ay ∧ PtAt W ad k bx bY ∧ Below w.heap.size w W) → Below W.heap.size W W' → (PtsAt W' w.heap.size (some ad) ps ∧ PtAt W' ad i ax ay ∧ PtAt W' ad k bx bY ∧ Below w.heap.size w W') := fun W W' ⟨x0, x1, x2, hb⟩ h => ⟨x0.later (h.mono hb.size), x1.later bA (h.mono hb.size), x2.later bA (h.mono hb.size), hb.trans (h.mono hb.size)⟩
    have S0 : PtsAt w w.heap.size (some ad) ps ∧ PtAt w ad i ax ay ∧ PtAt w ad k bx bY ∧ Below w.heap.size w w := ⟨hp, pA, pB, Below.refl _ _⟩
    clear hp pA pB
    obtain ⟨_, ⟨_, _⟩, ⟨_, _⟩, _⟩ := id S0
    refine Settle.region (fun W => PtsAt W w.heap.size (some ad) ps ∧ PtAt W ad i ax ay ∧ PtAt W ad k bx bY ∧ Below w.heap.size w W) (by kernel_rfl) (by kernel_rfl) (by kernel_rfl) (by kernel_rfl) (HO _ _ S0 ((Below.refl _ _).drew)) ?_
    clear S0
    repeat (first
      | (refine Settle.Settles.off (by rfl) ?_; simp only [Act.put, List.setIfInBounds_toArray, List.set_cons_zero, List.set_cons_succ])
      | (refine Settle.Settles.quiet (v := ?_) (by rfl) ?_ ?_
         rotate_left
         · (intro W hS; obtain ⟨_, ⟨_, _⟩, ⟨_, _⟩, _⟩ := hS; go_simp; with_reducible rfl)
         simp only [Act.put, List.setIfInBounds_toArray, List.set_cons_zero, List.set_cons_succ])
      | (refine Settle.Settles.call (v := ?_) (f := ?_) (args := ?_) (by rfl) ?_ ?_ ?_
         rotate_left 3
         · (intro W; go_simp; refine ⟨?_, ?_⟩ <;> with_reducible rfl)
         · (intro W hS; first | (go_at_call 80; (with_reducible refine (QS.out _ (hS.1.wide hS.2.2.2.size)).mono ?_); rintro e W1 ⟨rfl, hb⟩; refine ⟨?_, HO _ _ hS hb⟩; with_reducible rfl))
         simp only [Act.put, List.setIfInBounds_toArray, List.set_cons_zero, List.set_cons_succ]))
    refine Settle.Settles.nil ?_
    intro wr S0
    obtain ⟨_, ⟨_, _⟩, ⟨_, _⟩, _⟩ := id S0
    go_wp2_with fail
    go_ret
    exact ⟨ret_bool E.out.symm, S0.2.2.2⟩
  have b2 : ((a : Int) == (k : Int)) = false := beq_eq_false_iff_ne.2 (by omega)
  by_cases c3 : b = i
  · have b3 : ((b : Int) == (i : Int)) = true := by rw [beq_iff_eq]; omega
    have E : Hid (r = false) := Lib.hid (by rw [HE.out]; simp [c3])
    clear HE HO_ hl hok
    go_enter Try.func138, Try.ntmps138
    go_wp2_with fail
    have HO : ∀ W W' : World, (PtsAt W w.heap.size (some ad) ps ∧ PtAt W ad i ax ay ∧ PtAt W ad k bx bY ∧ Below w.heap.size w W) → Below W.heap.size W W' → (PtsAt W' w.heap.size (some ad) ps ∧ PtAt W' ad i ax ay ∧ PtAt W' ad k bx bY ∧ Below w.heap.size w W') := fun W W' ⟨x0, x1, x2, hb⟩ h => ⟨x0.later (h.mono hb.size), x1.later bA (h.mono hb.size), x2.later bA (h.mono hb.size), hb.trans (h.mono hb.size)⟩
    have S0 : PtsAt w w.heap.size (some ad) ps ∧ PtAt w ad i ax ay ∧ PtAt w ad k bx bY ∧ Below w.heap.size w w := ⟨hp, pA, pB, Below.refl _ _⟩
    clear hp pA pB
    obtain ⟨_, ⟨_, _⟩, ⟨_, _⟩, _⟩ := id S0
    refine Settle.region (fun W => PtsAt W w.heap.size (some ad) ps ∧ PtAt W ad i ax ay ∧ PtAt W ad k bx bY ∧ Below w.heap.size w W) (by kernel_rfl) (by kernel_rfl) (by kernel_rfl) (by kernel_rfl) (HO _ _ S0 ((Below.refl _ _).drew)) ?_
    clear S0
    repeat (first
      | (refine Settle.Settles.off (by rfl) ?_; simp only [Act.put, List.setIfInBounds_toArray, List.set_cons_zero, List.set_cons_succ])
      | (refine Settle.Settles.quiet (v := ?_) (by rfl) ?_ ?_
         rotate_left
         · (intro W hS; obtain ⟨_, ⟨_, _⟩, ⟨_, _⟩, _⟩ := hS; go_simp; with_reducible rfl)
         simp only [Act.put, List.setIfInBounds_toArray, List.set_cons_zero, List.set_cons_succ])
      | (refine Settle.Settles.call (v := ?_) (f := ?_) (args := ?_) (by rfl) ?_ ?_ ?_
         rotate_left 3
         · (intro W; go_simp; refine ⟨?_, ?_⟩ <;> with_reducible rfl)
         · (intro W hS; first | (go_at_call 80; (with_reducible refine (QS.out _ (hS.1.wide hS.2.2.2.size)).mono ?_); rintro e W1 ⟨rfl, hb⟩; refine ⟨?_, HO _ _ hS hb⟩; with_reducible rfl))
         simp only [Act.put, List.setIfInBounds_toArray, List.set_cons_zero, List.set_cons_succ]))
    refine Settle.Settles.nil ?_
    intro wr S0
    obtain ⟨_, ⟨_, _⟩, ⟨_, _⟩, _⟩ := id S0
    go_wp2_with fail
    go_ret
    exact ⟨ret_bool E.out.symm, S0.2.2.2⟩
  have b3 : ((b : Int) == (i : Int)) = false := beq_eq_false_iff_ne.2 (by omega)
  cases se
  · skip
    have E : Hid (r = false) := Lib.hid (by rw [HE.out]; simp)
    clear HE HO_ hl hok
    go_enter Try.func138, Try.ntmps138
    go_wp2_with fail
    have HO : ∀ W W' : World, (PtsAt W w.heap.size (some ad) ps ∧ PtAt W ad i ax ay ∧ PtAt W ad k bx bY ∧ Below w.heap.size w W) → Below W.heap.size W W' → (PtsAt W' w.heap.size (some ad) ps ∧ PtAt W' ad i ax ay ∧ PtAt W' ad k bx bY ∧ Below w.heap.size w W') := fun W W' ⟨x0, x1, x2, hb⟩ h => ⟨x0.later (h.mono hb.size), x1.later bA (h.mono hb.size), x2.later bA (h.mono hb.size), hb.trans (h.mono hb.size)⟩
    have S0 : PtsAt w w.heap.size (some ad) ps ∧ PtAt w ad i ax ay ∧ PtAt w ad k bx bY ∧ Below w.heap.size w w := ⟨hp, pA, pB, Below.refl _ _⟩
    clear hp pA pB
    obtain ⟨_, ⟨_, _⟩, ⟨_, _⟩, _⟩ := id S0
    refine Settle.region (fun W => PtsAt W w.heap.size (some ad) ps ∧ PtAt W ad i ax ay ∧ PtAt W ad k bx bY ∧ Below w.heap.size w W) (by kernel_rfl) (by kernel_rfl) (by kernel_rfl) (by kernel_rfl) (HO _ _ S0 ((Below.refl _ _).drew)) ?_
    clear S0
    repeat (first
      | (refine Settle.Settles.off (by rfl) ?_; simp only [Act.put, List.setIfInBounds_toArray, List.set_cons_zero, List.set_cons_succ])
      | (refine Settle.Settles.quiet (v := ?_) (by rfl) ?_ ?_
         rotate_left
         · (intro W hS; obtain ⟨_, ⟨_, _⟩, ⟨_, _⟩, _⟩ := hS; go_simp; with_reducible rfl)
         simp only [Act.put, List.setIfInBounds_toArray, List.set_cons_zero, List.set_cons_succ])
      | (refine Settle.Settles.call (v := ?_) (f := ?_) (args := ?_) (by rfl) ?_ ?_ ?_
         rotate_left 3
         · (intro W; go_simp; refine ⟨?_, ?_⟩ <;> with_reducible rfl)
         · (intro W hS; first | (go_at_call 80; (with_reducible refine (QS.out _ (hS.1.wide hS.2.2.2.size)).mono ?_); rintro e W1 ⟨rfl, hb⟩; refine ⟨?_, HO _ _ hS hb⟩; with_reducible rfl))
         simp only [Act.put, List.setIfInBounds_toArray, List.set_cons_zero, List.set_cons_succ]))
    refine Settle.Settles.nil ?_
    intro wr S0
    obtain ⟨_, ⟨_, _⟩, ⟨_, _⟩, _⟩ := id S0
    go_wp2_with fail
    go_ret
    exact ⟨ret_bool E.out.symm, S0.2.2.2⟩
  go_enter Try.func138, Try.ntmps138
  go_wp2_with fail
  have HO : ∀ W W' : World, (PtsAt W w.heap.size (some ad) ps ∧ PtAt W ad i ax ay ∧ PtAt W ad k bx bY ∧ Below w.heap.size w W) → Below W.heap.size W W' → (PtsAt W' w.heap.size (some ad) ps ∧ PtAt W' ad i ax ay ∧ PtAt W' ad k bx bY ∧ Below w.heap.size w W') := fun W W' ⟨x0, x1, x2, hb⟩ h => ⟨x0.later (h.mono hb.size), x1.later bA (h.mono hb.size), x2.later bA (h.mono hb.size), hb.trans (h.mono hb.size)⟩
  have S0 : PtsAt w w.heap.size (some ad) ps ∧ PtAt w ad i ax ay ∧ PtAt w ad k bx bY ∧ Below w.heap.size w w := ⟨hp, pA, pB, Below.refl _ _⟩
  clear hp pA pB
  obtain ⟨_, ⟨_, _⟩, ⟨_, _⟩, _⟩ := id S0
  refine Settle.region (fun W => PtsAt W w.heap.size (some ad) ps ∧ PtAt W ad i ax ay ∧ PtAt W ad k bx bY ∧ Below w.heap.size w W) (by kernel_rfl) (by kernel_rfl) (by kernel_rfl) (by kernel_rfl) (HO _ _ S0 ((Below.refl _ _).drew)) ?_
  clear S0
  repeat (first
    | (refine Settle.Settles.off (by rfl) ?_; simp only [Act.put, List.setIfInBounds_toArray, List.set_cons_zero, List.set_cons_succ])
    | (refine Settle.Settles.quiet (v := ?_) (by rfl) ?_ ?_
       rotate_left
       · (intro W hS; obtain ⟨_, ⟨_, _⟩, ⟨_, _⟩, _⟩ := hS; go_simp; with_reducible rfl)
       simp only [Act.put, List.setIfInBounds_toArray, List.set_cons_zero, List.set_cons_succ])
    | (refine Settle.Settles.call (v := ?_) (f := ?_) (args := ?_) (by rfl) ?_ ?_ ?_
       rotate_left 3
       · (intro W; go_simp; refine ⟨?_, ?_⟩ <;> with_reducible rfl)
       · (intro W hS; first | (go_at_call 80; (with_reducible refine (QS.out _ (hS.1.wide hS.2.2.2.size)).mono ?_); rintro e W1 ⟨rfl, hb⟩; refine ⟨?_, HO _ _ hS hb⟩; with_reducible rfl))
       simp only [Act.put, List.setIfInBounds_toArray, List.set_cons_zero, List.set_cons_succ]))
  refine Settle.Settles.nil ?_
  intro wr S0
  obtain ⟨_, ⟨_, _⟩, ⟨_, _⟩, _⟩ := id S0
  go_wp2_with fail
  have HE2 : Hid (r = (!oth && decide (placeM (dblL ps) (addP (ax, ay) (bx, bY)) = 2))) := Lib.hid (by rw [HE.out]; simp [c1, c2, c3])
  clear HE QS b1 b2 b3 ei eit ek ekt
  go_loopw [8] (fun q wr => ∃ j : Nat, j ≤ n ∧ q = .int .i64 j ∧ Hid (∀ t, t < j → t ≠ i → t ≠ k → btwP (pt ps t) (ax, ay) (bx, bY) = false) ∧ (PtsAt wr w.heap.size (some ad) ps ∧ PtAt wr ad i ax ay ∧ PtAt wr ad k bx bY ∧ Below w.heap.size w wr))
    (fun q _ => n - (intOf q).toNat)
  case atStart => exact ⟨0, Nat.zero_le _, rfl, Lib.hid (fun t ht => absurd ht (by omega)), S0⟩
  case round =>
    clear S0
    obtain ⟨j, hj, rfl, hno, S0⟩ := hrel
    obtain ⟨_, ⟨_, _⟩, ⟨_, _⟩, _⟩ := id S0
    by_cases hjn : j < n
    · have hj1 : (j : Int) < (n : Int) := by omega
      have hj0 : (0 : Int) ≤ (j : Int) := by omega
      have uj : IntKind.i64.wrap ((j : Int) + 1) = (j : Int) + 1 := IntWalk.i64_in _ (by omega)
      have p2 := pt_at (ps := ps) (k := j) (by omega)
      have o2 := okAll_at hok.out (k := j) (by omega)
      obtain ⟨cx, cy, hC⟩ : ∃ x y, pt ps j = (x, y) := ⟨_, _, rfl⟩
      rw [hC] at p2 o2
      obtain ⟨ad2, eA2, _, pC⟩ := S0.1.get p2
      injection eA2 with eA2
      subst eA2
      have QB : Hid (∀ w, _) := Lib.hid fun w => PointSpec.l02Between cx cy ax ay bx bY (okP_sm o2) (okP_sm o0) (okP_sm o1) w
      obtain ⟨bt, hbt⟩ : ∃ t, btwP (pt ps j) (ax, ay) (bx, bY) = t := ⟨_, rfl⟩
      have hbt2 : (decide (turnI ax ay bx bY cx cy = 0) && midB cx ax bx && midB cy ay bY) = bt := by rw [← hbt, hC]; rfl
      rw [hbt2] at QB
      have HO : ∀ W W' : World, (PtsAt W w.heap.size (some ad) ps ∧ PtAt W ad i ax ay ∧ PtAt W ad k bx bY ∧ PtAt W ad j cx cy ∧ Below w.heap.size w W) → Below W.heap.size W W' → (PtsAt W' w.heap.size (some ad) ps ∧ PtAt W' ad i ax ay ∧ PtAt W' ad k bx bY ∧ PtAt W' ad j cx cy ∧ Below w.heap.size w W') := fun W W' ⟨x0, x1, x2, x3, hb⟩ h => ⟨x0.later (h.mono hb.size), x1.later bA (h.mono hb.size), x2.later bA (h.mono hb.size), x3.later bA (h.mono hb.size), hb.trans (h.mono hb.size)⟩
      replace S0 : PtsAt wr w.heap.size (some ad) ps ∧ PtAt wr ad i ax ay ∧ PtAt wr ad k bx bY ∧ PtAt wr ad j cx cy ∧ Below w.heap.size w wr := ⟨S0.1, S0.2.1, S0.2.2.1, pC, S0.2.2.2⟩
      clear pC
      obtain ⟨_, ⟨_, _⟩, ⟨_, _⟩, ⟨_, _⟩, _⟩ := id S0
      have hno2 : Hid ((j ≠ i → j ≠ k → bt = false) → ∀ t, t < j + 1 → t ≠ i → t ≠ k → btwP (pt ps t) (ax, ay) (bx, bY) = false) := Lib.hid (by
        intro hb t ht h1 h2
        rcases Nat.lt_or_ge t j with h | h
        · exact hno.out t h h1 h2
        · obtain rfl : t = j := by omega
          rw [hbt]; exact hb h1 h2)
      by_cases d1 : j = i
      · have b1 : ((j : Int) != (i : Int)) = false := by simp [d1]
        have hno3 : Hid (∀ t, t < j + 1 → t ≠ i → t ≠ k → btwP (pt ps t) (ax, ay) (bx, bY) = false) := Lib.hid (hno2.out (fun h => absurd d1 h))
        clear hno hno2 hbt hbt2 p2 hC HO_ hl hok d1
        go_wp2_with fail
        refine Settle.region (fun W => PtsAt W w.heap.size (some ad) ps ∧ PtAt W ad i ax ay ∧ PtAt W ad k bx bY ∧ PtAt W ad j cx cy ∧ Below w.heap.size w W) (by kernel_rfl) (by kernel_rfl) (by kernel_rfl) (by kernel_rfl) (HO _ _ S0 ((Below.refl _ _).drew)) ?_
        clear S0
        repeat (first
          | (refine Settle.Settles.off (by rfl) ?_; simp only [Act.put, List.setIfInBounds_toArray, List.set_cons_zero, List.set_cons_succ])
          | (refine Settle.Settles.quiet (v := ?_) (by rfl) ?_ ?_
             rotate_left
             · (intro W hS; obtain ⟨_, ⟨_, _⟩, ⟨_, _⟩, ⟨_, _⟩, _⟩ := hS; go_simp; with_reducible rfl)
             simp only [Act.put, List.setIfInBounds_toArray, List.set_cons_zero, List.set_cons_succ])
          | (refine Settle.Settles.call (v := ?_) (f := ?_) (args := ?_) (by rfl) ?_ ?_ ?_
             rotate_left 3
             · (intro W; go_simp; refine ⟨?_, ?_⟩ <;> with_reducible rfl)
             · (intro W hS; first | (go_at_call 128; (with_reducible refine (QB.out _).mono ?_); rintro e W1 ⟨rfl, hb⟩; refine ⟨?_, HO _ _ hS hb⟩; with_reducible rfl))
             simp only [Act.put, List.setIfInBounds_toArray, List.set_cons_zero, List.set_cons_succ]))
        refine Settle.Settles.nil ?_
        intro wr S0
        obtain ⟨_, ⟨_, _⟩, ⟨_, _⟩, ⟨_, _⟩, _⟩ := id S0
        go_wp2_with fail
        have S1 := (⟨S0.1, S0.2.1, S0.2.2.1, S0.2.2.2.2⟩ : PtsAt wr w.heap.size (some ad) ps ∧ PtAt wr ad i ax ay ∧ PtAt wr ad k bx bY ∧ Below w.heap.size w wr)
        first
          | exact ⟨⟨j + 1, by omega, by go_num, hno3, S1⟩, by simp [intOf]; omega⟩
          | (go_roundw <;> first | exact ⟨j + 1, by omega, by go_num, hno3, S1⟩ | (simp [intOf]; omega))
      have b1 : ((j : Int) != (i : Int)) = true := by simp; omega
      by_cases d2 : j = k
      · have b2 : ((j : Int) != (k : Int)) = false := by simp [d2]
        have hno3 : Hid (∀ t, t < j + 1 → t ≠ i → t ≠ k → btwP (pt ps t) (ax, ay) (bx, bY) = false) := Lib.hid (hno2.out (fun _ h => absurd d2 h))
        clear hno hno2 hbt hbt2 p2 hC HO_ hl hok d2
        go_wp2_with fail
        refine Settle.region (fun W => PtsAt W w.heap.size (some ad) ps ∧ PtAt W ad i ax ay ∧ PtAt W ad k bx bY ∧ PtAt W ad j cx cy ∧ Below w.heap.size w W) (by kernel_rfl) (by kernel_rfl) (by kernel_rfl) (by kernel_rfl) (HO _ _ S0 ((Below.refl _ _).drew)) ?_
        clear S0
        repeat (first
          | (refine Settle.Settles.off (by rfl) ?_; simp only [Act.put, List.setIfInBounds_toArray, List.set_cons_zero, List.set_cons_succ])
          | (refine Settle.Settles.quiet (v := ?_) (by rfl) ?_ ?_
             rotate_left
             · (intro W hS; obtain ⟨_, ⟨_, _⟩, ⟨_, _⟩, ⟨_, _⟩, _⟩ := hS; go_simp; with_reducible rfl)
             simp only [Act.put, List.setIfInBounds_toArray, List.set_cons_zero, List.set_cons_succ])
          | (refine Settle.Settles.call (v := ?_) (f := ?_) (args := ?_) (by rfl) ?_ ?_ ?_
             rotate_left 3
             · (intro W; go_simp; refine ⟨?_, ?_⟩ <;> with_reducible rfl)
             · (intro W hS; first | (go_at_call 128; (with_reducible refine (QB.out _).mono ?_); rintro e W1 ⟨rfl, hb⟩; refine ⟨?_, HO _ _ hS hb⟩; with_reducible rfl))
             simp only [Act.put, List.setIfInBounds_toArray, List.set_cons_zero, List.set_cons_succ]))
        refine Settle.Settles.nil ?_
        intro wr S0
        obtain ⟨_, ⟨_, _⟩, ⟨_, _⟩, ⟨_, _⟩, _⟩ := id S0
        go_wp2_with fail
        have S1 := (⟨S0.1, S0.2.1, S0.2.2.1, S0.2.2.2.2⟩ : PtsAt wr w.heap.size (some ad) ps ∧ PtAt wr ad i ax ay ∧ PtAt wr ad k bx bY ∧ Below w.heap.size w wr)
        first
          | exact ⟨⟨j + 1, by omega, by go_num, hno3, S1⟩, by simp [intOf]; omega⟩
          | (go_roundw <;> first | exact ⟨j + 1, by omega, by go_num, hno3, S1⟩ | (simp [intOf]; omega))
      have b2 : ((j : Int) != (k : Int)) = true := by simp; omega
      cases bt
      · skip
        have hno3 : Hid (∀ t, t < j + 1 → t ≠ i → t ≠ k → btwP (pt ps t) (ax, ay) (bx, bY) = false) := Lib.hid (hno2.out (fun _ _ => rfl))
        clear hno hno2 hbt hbt2 p2 hC HO_ hl hok
        go_wp2_with fail
        refine Settle.region (fun W => PtsAt W w.heap.size (some ad) ps ∧ PtAt W ad i ax ay ∧ PtAt W ad k bx bY ∧ PtAt W ad j cx cy ∧ Below w.heap.size w W) (by kernel_rfl) (by kernel_rfl) (by kernel_rfl) (by kernel_rfl) (HO _ _ S0 ((Below.refl _ _).drew)) ?_
        clear S0
        repeat (first
          | (refine Settle.Settles.off (by rfl) ?_; simp only [Act.put, List.setIfInBounds_toArray, List.set_cons_zero, List.set_cons_succ])
          | (refine Settle.Settles.quiet (v := ?_) (by rfl) ?_ ?_
             rotate_left
             · (intro W hS; obtain ⟨_, ⟨_, _⟩, ⟨_, _⟩, ⟨_, _⟩, _⟩ := hS; go_simp; with_reducible rfl)
             simp only [Act.put, List.setIfInBounds_toArray, List.set_cons_zero, List.set_cons_succ])
          | (refine Settle.Settles.call (v := ?_) (f := ?_) (args := ?_) (by rfl) ?_ ?_ ?_
             rotate_left 3
             · (intro W; go_simp; refine ⟨?_, ?_⟩ <;> with_reducible rfl)
             · (intro W hS; first | (go_at_call 128; (with_reducible refine (QB.out _).mono ?_); rintro e W1 ⟨rfl, hb⟩; refine ⟨?_, HO _ _ hS hb⟩; with_reducible rfl))
             simp only [Act.put, List.setIfInBounds_toArray, List.set_cons_zero, List.set_cons_succ]))
        refine Settle.Settles.nil ?_
        intro wr S0
        obtain ⟨_, ⟨_, _⟩, ⟨_, _⟩, ⟨_, _⟩, _⟩ := id S0
        go_wp2_with fail
        have S1 := (⟨S0.1, S0.2.1, S0.2.2.1, S0.2.2.2.2⟩ : PtsAt wr w.heap.size (some ad) ps ∧ PtAt wr ad i ax ay ∧ PtAt wr ad k bx bY ∧ Below w.heap.size w wr)
        first
          | exact ⟨⟨j + 1, by omega, by go_num, hno3, S1⟩, by simp [intOf]; omega⟩
          | (go_roundw <;> first | exact ⟨j + 1, by omega, by go_num, hno3, S1⟩ | (simp [intOf]; omega))
      · have E : Hid (r = false) := Lib.hid (by
          rw [HE2.out]
          cases oth
          · have := HO_.out.1 rfl j hjn d1 d2
            rw [hbt] at this
            cases this
          · rfl)
        clear hno hno2 hbt hbt2 p2 hC HO_ hl hok
        go_wp2_with fail
        refine Settle.region (fun W => PtsAt W w.heap.size (some ad) ps ∧ PtAt W ad i ax ay ∧ PtAt W ad k bx bY ∧ PtAt W ad j cx cy ∧ Below w.heap.size w W) (by kernel_rfl) (by kernel_rfl) (by kernel_rfl) (by kernel_rfl) (HO _ _ S0 ((Below.refl _ _).drew)) ?_
        clear S0
        repeat (first
          | (refine Settle.Settles.off (by rfl) ?_; simp only [Act.put, List.setIfInBounds_toArray, List.set_cons_zero, List.set_cons_succ])
          | (refine Settle.Settles.quiet (v := ?_) (by rfl) ?_ ?_
             rotate_left
             · (intro W hS; obtain ⟨_, ⟨_, _⟩, ⟨_, _⟩, ⟨_, _⟩, _⟩ := hS; go_simp; with_reducible rfl)
             simp only [Act.put, List.setIfInBounds_toArray, List.set_cons_zero, List.set_cons_succ])
          | (refine Settle.Settles.call (v := ?_) (f := ?_) (args := ?_) (by rfl) ?_ ?_ ?_
             rotate_left 3
             · (intro W; go_simp; refine ⟨?_, ?_⟩ <;> with_reducible rfl)
             · (intro W hS; first | (go_at_call 128; (with_reducible refine (QB.out _).mono ?_); rintro e W1 ⟨rfl, hb⟩; refine ⟨?_, HO _ _ hS hb⟩; with_reducible rfl))
             simp only [Act.put, List.setIfInBounds_toArray, List.set_cons_zero, List.set_cons_succ]))
        refine Settle.Settles.nil ?_
        intro wr S0
        obtain ⟨_, ⟨_, _⟩, ⟨_, _⟩, ⟨_, _⟩, _⟩ := id S0
        go_wp2_with fail
        go_ret
        exact ⟨ret_bool E.out.symm, S0.2.2.2.2⟩
    · obtain rfl : j = n := by omega
      have E : Hid (r = decide (placeM (dblL ps) (addP (ax, ay) (bx, bY)) = 2)) := Lib.hid (by
        rw [HE2.out, HO_.out.2 hno.out]; rfl)
      clear HE2 HO_ hno
      obtain ⟨B, hBe⟩ : ∃ B, wr.heap.size = B := ⟨_, rfl⟩
      have hwB : w.heap.size ≤ B := by rw [← hBe]; exact S0.2.2.2.size
      have hown := own_empty wr 49 2
      rw [hBe] at hown
      replace S0 := HO _ _ S0 (below1 wr (Obj.cells #[] 49))
      have hsz : B ≤ (wr.alloc (Obj.cells #[] 49)).heap.size := by simp; omega
      have hown := Lib.hid hown
      have hsz := Lib.hid hsz
      obtain ⟨_, ⟨_, _⟩, ⟨_, _⟩, _⟩ := id S0
      go_wp2_with fail
      try rw [hBe]
      generalize wr.alloc (Obj.cells #[] 49) = v0 at *
      clear hBe
      have HO2 : ∀ W W' : World, (PtsAt W w.heap.size (some ad) ps ∧ PtAt W ad i ax ay ∧ PtAt W ad k bx bY ∧ Below w.heap.size w W) → Below B W W' → (PtsAt W' w.heap.size (some ad) ps ∧ PtAt W' ad i ax ay ∧ PtAt W' ad k bx bY ∧ Below w.heap.size w W') := fun W W' ⟨h0, h1, h2, hb⟩ h => ⟨h0.later (h.mono hwB), h1.later bA (h.mono hwB), h2.later bA (h.mono hwB), hb.trans (h.mono hwB)⟩
      go_loopw [9, 10] (fun v q wr => ∃ m : Nat, m ≤ j ∧ q = .int .i64 m ∧ wr.ownsRow B 49 2 v m (cellsP (bigTo ps m)) ∧ B ≤ wr.heap.size ∧ (PtsAt wr w.heap.size (some ad) ps ∧ PtAt wr ad i ax ay ∧ PtAt wr ad k bx bY ∧ Below w.heap.size w wr))
        (fun _ q _ => j - (intOf q).toNat)
      case atStart => exact ⟨0, Nat.zero_le _, rfl, hown.out, hsz.out, S0⟩
      case round =>
        clear S0 hown hsz
        obtain ⟨m, hmn, rfl, hown, hsz, S0⟩ := hrel
        obtain ⟨_, ⟨_, _⟩, ⟨_, _⟩, _⟩ := id S0
        by_cases hlt : m < j
        · have hm1 : (m : Int) < (j : Int) := by omega
          have hm0 : (0 : Int) ≤ (m : Int) := by omega
          have p2 := pt_at (ps := ps) (k := m) (by omega)
          have o2 := okAll_at hok.out (k := m) (by omega)
          have HG : Hid (bigTo ps (m + 1) = bigTo ps m ++ [dblP (pt ps m)]) := Lib.hid rfl
          obtain ⟨cx, cy, hC⟩ : ∃ x y, pt ps m = (x, y) := ⟨_, _, rfl⟩
          rw [hC] at p2 o2 HG
          replace HG : Hid (bigTo ps (m + 1) = bigTo ps m ++ [(2 * cx, 2 * cy)]) := HG
          obtain ⟨ad2, eA2, _, pC⟩ := S0.1.get p2
          injection eA2 with eA2
          subst eA2
          obtain ⟨_, _⟩ := id pC
          have QD : Hid (∀ w, _) := Lib.hid fun w => SightSpec.doubled cx cy (okP_dbl o2) w
          have hown := Lib.hid hown
          clear p2 hC o2 pC
          go_wp2_with fail
          refine (QD.out _).mono ?_
          rintro e wd ⟨rfl, hb_⟩
          replace S0 := HO _ _ S0 hb_
          have hown2 := own_below hown.out hb_
          replace hsz := Nat.le_trans hsz hb_.size
          clear hb_ QD hown
          obtain ⟨_, ⟨_, _⟩, ⟨_, _⟩, _⟩ := id S0
          go_wp2_with (at_builtin; refine wpList_append_own _ rfl _ _ 35 rfl B 49 i0 (.agg #[.int .i64 0, .int .i64 0]) 2 16 Try.underlying35 hii hz0 hz1 hz2 rfl (by decide) _ _ _ rfl (hown2.alloc _) ⟨wd.heap.size, 0, none⟩ 1 1 [.int .i64 (2 * cx), .int .i64 (2 * cy)] rfl rfl ?c1 ?c2 ?c3 ?c4 ?c5 ?_)
          case c1 => (intro a u ha; match a, ha with | 0, ha => (simp at ha; subst ha; simp [Addr.add]) | 1, ha => (simp at ha; subst ha; simp [Addr.add]))
          case c2 => (intro u hu; simp at hu; rcases hu with rfl | rfl <;> rfl)
          case c3 => (unfold maxLen; omega)
          case c4 => omega
          case c5 => (simp; omega)
          intro v1_ wa_ ho_ hg_ _
          have HN : Hid (wa_.ownsRow B 49 2 v1_ (m + 1) (cellsP (bigTo ps (m + 1))) ∧ B ≤ wa_.heap.size ∧ (PtsAt wa_ w.heap.size (some ad) ps ∧ PtAt wa_ ad i ax ay ∧ PtAt wa_ ad k bx bY ∧ Below w.heap.size w wa_)) := Lib.hid (by
            have hb0 : Below B wd (wd.alloc (Obj.cells #[.int .i64 (2 * cx), .int .i64 (2 * cy)] 49)) := (below1 _ _).mono hsz
            have hb1 := hb0.grown hg_ (by simp; omega) (fun g hg => (hown2.lt g hg).1)
            rw [HG.out, cellsP_app]
            exact ⟨ho_, Nat.le_trans hsz hb1.size, HO2 _ _ S0 hb1⟩)
          clear ho_ hg_ hown2 HG S0
          go_wp2_with fail
          first
            | exact ⟨⟨m + 1, by omega, by go_num, HN.out.1, HN.out.2.1, HN.out.2.2⟩, by simp [intOf]; omega⟩
            | (go_roundw <;> first | exact ⟨m + 1, by omega, by go_num, HN.out.1, HN.out.2.1, HN.out.2.2⟩ | (simp [intOf]; omega))
        · obtain rfl : m = j := by omega
          rw [bigTo_all hl] at hown
          obtain ⟨Ab, cb, rfl⟩ := own_shape hown
          have q0 := okP_yes o0
          have q1 := okP_yes o1
          have QH : Hid (∀ w hp, _) := Lib.hid fun w hp => PlaceSpec.holds Ab m cb (ax + bx) (ay + bY) w (dblL ps) (by rw [dblL_len]; exact hl) (by omega) (dbl_small hok.out) (by unfold smP; omega) hp
          have E2 : Hid (r = decide (0 < placeM (dblL ps) (ax + bx, ay + bY) - 1)) := Lib.hid (by
            rw [E.out]
            show decide (placeM (dblL ps) (ax + bx, ay + bY) = 2) = _
            rcases placeM_cases (dblL ps) (ax + bx, ay + bY) with h | h | h <;> rw [h] <;> rfl)
          generalize placeM (dblL ps) (ax + bx, ay + bY) - 1 = pl at *
          have ux : IntKind.i64.wrap (ax + bx) = ax + bx := IntWalk.i64_in _ (by omega)
          have uy : IntKind.i64.wrap (ay + bY) = ay + bY := IntWalk.i64_in _ (by omega)
          clear E q0 q1 o0 o1 hl hok
          have HO : ∀ W W' : World, (PtsAt W w.heap.size (some ad) ps ∧ PtAt W ad i ax ay ∧ PtAt W ad k bx bY ∧ W.ownsRow B 49 2 (.slice Ab m cb) m (cellsP (dblL ps)) ∧ Below w.heap.size w W) → Below W.heap.size W W' → (PtsAt W' w.heap.size (some ad) ps ∧ PtAt W' ad i ax ay ∧ PtAt W' ad k bx bY ∧ W'.ownsRow B 49 2 (.slice Ab m cb) m (cellsP (dblL ps)) ∧ Below w.heap.size w W') := fun W W' ⟨x0, x1, x2, x3, hb⟩ h => ⟨x0.later (h.mono hb.size), x1.later bA (h.mono hb.size), x2.later bA (h.mono hb.size), own_below x3 h, hb.trans (h.mono hb.size)⟩
          replace S0 : PtsAt wr w.heap.size (some ad) ps ∧ PtAt wr ad i ax ay ∧ PtAt wr ad k bx bY ∧ wr.ownsRow B 49 2 (.slice Ab m cb) m (cellsP (dblL ps)) ∧ Below w.heap.size w wr := ⟨S0.1, S0.2.1, S0.2.2.1, hown, S0.2.2.2⟩
          clear hown
          obtain ⟨_, ⟨_, _⟩, ⟨_, _⟩, _, _⟩ := id S0
          go_wp2_with fail
          refine Settle.region (fun W => PtsAt W w.heap.size (some ad) ps ∧ PtAt W ad i ax ay ∧ PtAt W ad k bx bY ∧ W.ownsRow B 49 2 (.slice Ab m cb) m (cellsP (dblL ps)) ∧ Below w.heap.size w W) (by kernel_rfl) (by kernel_rfl) (by kernel_rfl) (by kernel_rfl) (HO _ _ S0 ((Below.refl _ _).drew)) ?_
          clear S0
          repeat (first
            | (refine Settle.Settles.off (by rfl) ?_; simp only [Act.put, List.setIfInBounds_toArray, List.set_cons_zero, List.set_cons_succ])
            | (refine Settle.Settles.quiet (v := ?_) (by rfl) ?_ ?_
               rotate_left
               · (intro W hS; obtain ⟨_, ⟨_, _⟩, ⟨_, _⟩, _, _⟩ := hS; go_simp; with_reducible rfl)
               simp only [Act.put, List.setIfInBounds_toArray, List.set_cons_zero, List.set_cons_succ])
            | (refine Settle.Settles.call (v := ?_) (f := ?_) (args := ?_) (by rfl) ?_ ?_ ?_
               rotate_left 3
               · (intro W; go_simp; refine ⟨?_, ?_⟩ <;> with_reducible rfl)
               · (intro W hS; first | (go_at_call 125; (with_reducible refine (QH.out _ (pts_own hS.2.2.2.1)).mono ?_); rintro e W1 ⟨rfl, hb⟩; refine ⟨?_, HO _ _ hS hb⟩; with_reducible rfl))
               simp only [Act.put, List.setIfInBounds_toArray, List.set_cons_zero, List.set_cons_succ]))
          refine Settle.Settles.nil ?_
          intro wr S0
          obtain ⟨_, ⟨_, _⟩, ⟨_, _⟩, _, _⟩ := id S0
          go_wp2_with fail
          go_ret
          exact ⟨ret_bool E2.out.symm, S0.2.2.2.2⟩

end Go.Proofs.Ythokeedmccfalaa.DiagSpec

