/-
  What the model's AreWitnesses does, as a contract: what it answers; new memory alone is written.
-/
import Derived.Test.YtgampbjdoncdoaaWitMath
import Derived.Test.YtgampbjdoncdoaaInSpec
import Derived.Test.YtgampbjdoncdoaaFacts
namespace Go.Proofs.Ytgampbjdoncdoaa.WitSpec
open Go.RowKit Own PointMath WallMath RoomMath Pts Blk AreaMath PlaceMath FloorMath LineMath CutsMath SightMath KernMath WitMath DiagMath
open PointOk (ret_bool ret_i64 below1 below2 below3)

set_option maxRecDepth 100000 in
set_option maxHeartbeats 3200000 in
theorem areWitnesses (A : Option Addr) (n cap : Nat) (B : Option Addr) (m cb : Nat) (w : World) (ps : List (Int × Int)) (hl : ps.length = n) (hn : n ≤ 1048576) (hp : PtsAt w w.heap.size A ps) (qs : List (Int × Int)) (hl2 : qs.length = m) (hn2 : m ≤ 1048576) (hq : PtsAt w w.heap.size B qs) (_hc : m ≤ cb) :
    Calls Try.prog 54 #[.agg #[.slice A n cap], .slice B m cb] w fun e w' => e = .returned (.bool (witB ps qs)) ∧ Below w.heap.size w w' := by
  obtain ⟨r, hr⟩ : ∃ r, witB ps qs = r := ⟨_, rfl⟩
  have HR := Lib.hid hr
  rw [hr]
  clear hr
  go_enter Try.func54, Try.ntmps54
  go_wp2_with fail
  have X0 := Pts.boxR w (.slice A n cap) 63 (k := w.heap.size) (by simp)
  have b0 := PointOk.below1 w (Obj.cells #[.slice A n cap] 63)
  have HO : ∀ W W' : World, (Pts.BoxR W (w.heap.size) (.slice A n cap) ∧ PtsAt W w.heap.size A ps ∧ PtsAt W w.heap.size B qs ∧ Below w.heap.size w W) → Below W.heap.size W W' → (Pts.BoxR W' (w.heap.size) (.slice A n cap) ∧ PtsAt W' w.heap.size A ps ∧ PtsAt W' w.heap.size B qs ∧ Below w.heap.size w W') := fun W W' ⟨h0, x0, x1, hb⟩ h => ⟨h0.later h, x0.later (h.mono hb.size), x1.later (h.mono hb.size), hb.trans (h.mono hb.size)⟩
  have hz0_ : Hid (((w.alloc (Obj.cells #[.slice A n cap] 63))).heap.size = w.heap.size + 1) := Lib.hid (by simp)
  have Y0 : PtsAt ((w.alloc (Obj.cells #[.slice A n cap] 63))) w.heap.size A ps := hp.later b0
  have Y1 : PtsAt ((w.alloc (Obj.cells #[.slice A n cap] 63))) w.heap.size B qs := hq.later b0
  generalize (w.alloc (Obj.cells #[.slice A n cap] 63)) = w0 at X0 Y0 Y1 b0 hz0_ ⊢
  have S0 := (⟨X0, Y0, Y1, b0⟩ : Pts.BoxR w0 (w.heap.size) (.slice A n cap) ∧ PtsAt w0 w.heap.size A ps ∧ PtsAt w0 w.heap.size B qs ∧ Below w.heap.size w w0)
  clear X0 Y0 Y1 b0
  obtain ⟨⟨_, _⟩, _, _, _⟩ := id S0
  refine (InSpec.l13In A n cap B m cb _ ps hl hn (S0.2.1.wide S0.2.2.2.size) qs hl2 hn2 (S0.2.2.1.wide S0.2.2.2.size)).mono ?_
  rintro e w1 ⟨rfl, hb_⟩
  replace S0 := HO _ _ S0 hb_
  clear hb_
  obtain ⟨⟨_, _⟩, _, _, _⟩ := id S0
  cases hi : allIn ps qs
  · have E : Hid (r = false) := Lib.hid (by rw [← HR.out]; unfold witB; rw [hi]; rfl)
    clear hl hl2 HR
    go_wp2_with fail
    go_ret
    exact ⟨ret_bool E.out.symm, S0.2.2.2⟩
  have hall := Lib.hid (allIn_at hi)
  by_cases h10 : m ≤ 10
  rotate_left
  · have E : Hid (r = false) := Lib.hid (by rw [← HR.out]; unfold witB; rw [hi, decide_eq_false (by omega)]; rfl)
    have g10 : (10 : Int) < (m : Int) := by omega
    clear hl hl2 HR
    go_wp2_with fail
    go_ret
    exact ⟨ret_bool E.out.symm, S0.2.2.2⟩
  have HE : Hid (witM ps qs = r) := Lib.hid (by rw [← HR.out]; unfold witB; rw [hi, decide_eq_true (by omega)]; rfl)
  have g10 : ¬ (10 : Int) < (m : Int) := by omega
  clear HR hi
  go_wp2_with fail
  go_loopw [5] (fun q wr => ∃ k : Nat, k ≤ n ∧ q = .int .i64 k ∧ Hid (∀ j, j < k → cntW ps qs j m ≤ 1) ∧ (Pts.BoxR wr (w.heap.size) (.slice A n cap) ∧ PtsAt wr w.heap.size A ps ∧ PtsAt wr w.heap.size B qs ∧ Below w.heap.size w wr))
    (fun q _ => n - (intOf q).toNat)
  case atStart => exact ⟨0, Nat.zero_le _, rfl, Lib.hid (fun t ht => absurd ht (by omega)), S0⟩
  case round =>
    clear S0
    obtain ⟨k, hkn, rfl, hno, S0⟩ := hrel
    obtain ⟨⟨_, _⟩, _, _, _⟩ := id S0
    by_cases hlt : k < n
    rotate_left
    · obtain rfl : n = k := by omega
      have E : Hid (r = true) := Lib.hid (by rw [← HE.out]; exact witM_of (by rw [hl, hl2]; exact hno.out))
      clear hl hl2 HE hno hall
      go_wp2_with fail
      go_ret
      exact ⟨ret_bool E.out.symm, S0.2.2.2⟩
    have hk1 : (k : Int) < (n : Int) := by omega
    have hk0 : (0 : Int) ≤ (k : Int) := by omega
    have p0 := pt_at (ps := ps) (k := k) (by omega)
    have in0 := corner_in hall.out.1 (k := k) (by omega)
    have HX : Hid (1 < cntW ps qs k m → r = false) := Lib.hid (fun h => by rw [← HE.out]; exact witM_not (k := k) (by omega) (by rw [hl2]; exact h))
    have HY : Hid (cntW ps qs k m ≤ 1 → ∀ j, j < k + 1 → cntW ps qs j m ≤ 1) := Lib.hid (by
      intro h j hj
      rcases Nat.lt_or_ge j k with h1 | h1
      · exact hno.out j h1
      · obtain rfl : j = k := by omega
        exact h)
    have HU : Hid (∀ j, seesM ps (pt ps k) (pt qs j) = true → cntW ps qs k (j + 1) = cntW ps qs k j + 1) := Lib.hid (fun j h => cntW_yes h)
    have HN : Hid (∀ j, seesM ps (pt ps k) (pt qs j) = false → cntW ps qs k (j + 1) = cntW ps qs k j) := Lib.hid (fun j h => cntW_no h)
    have HB : Hid (∀ j, cntW ps qs k j ≤ j) := Lib.hid (cntW_le ps qs k)
    have H0 : Hid (cntW ps qs k 0 = 0) := Lib.hid rfl
    obtain ⟨ax, ay, ha⟩ : ∃ x y, pt ps k = (x, y) := ⟨_, _, rfl⟩
    rw [ha] at p0 in0 HU HN
    obtain ⟨ad, eA, bA, pA⟩ := S0.2.1.get p0
    subst eA
    generalize cntW ps qs k = C at *
    have HO : ∀ W W' : World, (Pts.BoxR W (w.heap.size) (.slice (some ad) n cap) ∧ PtsAt W w.heap.size (some ad) ps ∧ PtsAt W w.heap.size B qs ∧ PtAt W ad k ax ay ∧ Below w.heap.size w W) → Below W.heap.size W W' → (Pts.BoxR W' (w.heap.size) (.slice (some ad) n cap) ∧ PtsAt W' w.heap.size (some ad) ps ∧ PtsAt W' w.heap.size B qs ∧ PtAt W' ad k ax ay ∧ Below w.heap.size w W') := fun W W' ⟨h0, x0, x1, x2, hb⟩ h => ⟨h0.later h, x0.later (h.mono hb.size), x1.later (h.mono hb.size), x2.later bA (h.mono hb.size), hb.trans (h.mono hb.size)⟩
    replace S0 : Pts.BoxR wr (w.heap.size) (.slice (some ad) n cap) ∧ PtsAt wr w.heap.size (some ad) ps ∧ PtsAt wr w.heap.size B qs ∧ PtAt wr ad k ax ay ∧ Below w.heap.size w wr := ⟨S0.1, S0.2.1, S0.2.2.1, pA, S0.2.2.2⟩
    clear pA p0 ha hno HE
    obtain ⟨⟨_, _⟩, _, _, ⟨_, _⟩, _⟩ := id S0
    go_wp2_with fail
    go_loopw [6, 7] (fun c q wr => ∃ j : Nat, j ≤ m ∧ q = .int .i64 j ∧ c = .int .i64 (C j : Nat) ∧ (Pts.BoxR wr (w.heap.size) (.slice (some ad) n cap) ∧ PtsAt wr w.heap.size (some ad) ps ∧ PtsAt wr w.heap.size B qs ∧ PtAt wr ad k ax ay ∧ Below w.heap.size w wr))
      (fun _ q _ => m - (intOf q).toNat)
    case atStart => exact ⟨0, Nat.zero_le _, rfl, by rw [H0.out]; rfl, S0⟩
    case round =>
      clear S0
      obtain ⟨j, hjm, rfl, rfl, S0⟩ := hrel
      obtain ⟨⟨_, _⟩, _, _, ⟨_, _⟩, _⟩ := id S0
      by_cases hjt : j < m
      rotate_left
      · obtain rfl : m = j := by omega
        have hCb := HB.out m
        by_cases hc : 1 < C m
        · have E := Lib.hid (HX.out hc)
          have hc' : (1 : Int) < (C m : Int) := by omega
          generalize C m = cm at *
          clear hl hl2 HX HY HU HN HB H0 hall in0
          go_wp2_with fail
          go_ret
          exact ⟨ret_bool E.out.symm, S0.2.2.2.2⟩
        · have hno2 := Lib.hid (HY.out (by omega))
          have hc' : ¬ (1 : Int) < (C m : Int) := by omega
          generalize C m = cm at *
          clear hl hl2 HX HY HU HN HB H0 hall in0
          go_wp2_with fail
          first
            | exact ⟨⟨k + 1, by omega, by go_num, hno2, S0.1, S0.2.1, S0.2.2.1, S0.2.2.2.2⟩, by simp [intOf]; omega⟩
            | (go_roundw <;> first | exact ⟨k + 1, by omega, by go_num, hno2, S0.1, S0.2.1, S0.2.2.1, S0.2.2.2.2⟩ | (simp [intOf]; omega))
      have hj1 : (j : Int) < (m : Int) := by omega
      have hj0 : (0 : Int) ≤ (j : Int) := by omega
      have p1 := pt_at (ps := qs) (k := j) (by omega)
      have in1 := hall.out.2 j (by omega)
      have HU2 := Lib.hid (HU.out j)
      have HN2 := Lib.hid (HN.out j)
      have HB2 := HB.out j
      obtain ⟨bx, bY, hb⟩ : ∃ x y, pt qs j = (x, y) := ⟨_, _, rfl⟩
      rw [hb] at p1 in1 HU2 HN2
      obtain ⟨ad2, eA2, bA2, pB⟩ := S0.2.2.1.get p1
      subst eA2
      have Q : Hid (∀ w hp, _) := Lib.hid fun w hp => SeenSpec.seesIn (some ad) n cap ax ay bx bY w ps hl in0 in1 hp
      obtain ⟨o, ho⟩ : ∃ o, seesM ps (ax, ay) (bx, bY) = o := ⟨_, rfl⟩
      rw [ho] at Q HU2 HN2
      have HO : ∀ W W' : World, (Pts.BoxR W (w.heap.size) (.slice (some ad) n cap) ∧ PtsAt W w.heap.size (some ad) ps ∧ PtsAt W w.heap.size (some ad2) qs ∧ PtAt W ad k ax ay ∧ PtAt W ad2 j bx bY ∧ Below w.heap.size w W) → Below W.heap.size W W' → (Pts.BoxR W' (w.heap.size) (.slice (some ad) n cap) ∧ PtsAt W' w.heap.size (some ad) ps ∧ PtsAt W' w.heap.size (some ad2) qs ∧ PtAt W' ad k ax ay ∧ PtAt W' ad2 j bx bY ∧ Below w.heap.size w W') := fun W W' ⟨h0, x0, x1, x2, x3, hb⟩ h => ⟨h0.later h, x0.later (h.mono hb.size), x1.later (h.mono hb.size), x2.later bA (h.mono hb.size), x3.later bA2 (h.mono hb.size), hb.trans (h.mono hb.size)⟩
      replace S0 : Pts.BoxR wr (w.heap.size) (.slice (some ad) n cap) ∧ PtsAt wr w.heap.size (some ad) ps ∧ PtsAt wr w.heap.size (some ad2) qs ∧ PtAt wr ad k ax ay ∧ PtAt wr ad2 j bx bY ∧ Below w.heap.size w wr := ⟨S0.1, S0.2.1, S0.2.2.1, S0.2.2.2.1, pB, S0.2.2.2.2⟩
      clear pB p1 hb in1 ho hl hl2
      obtain ⟨⟨_, _⟩, _, _, ⟨_, _⟩, ⟨_, _⟩, _⟩ := id S0
      cases o
      · have hC := Lib.hid (HN2.out rfl)
        generalize C j = cj at *
        clear HN HN2 HU HU2 HX HY HB H0 hall in0
        go_wp2_with fail
        refine Settle.region (fun W => Pts.BoxR W (w.heap.size) (.slice (some ad) n cap) ∧ PtsAt W w.heap.size (some ad) ps ∧ PtsAt W w.heap.size (some ad2) qs ∧ PtAt W ad k ax ay ∧ PtAt W ad2 j bx bY ∧ Below w.heap.size w W) (by kernel_rfl) (by kernel_rfl) (by kernel_rfl) (by kernel_rfl) (HO _ _ S0 ((Below.refl _ _).drew)) ?_
        clear S0
        repeat (first
          | (refine Settle.Settles.off (by rfl) ?_; simp only [Act.put, List.setIfInBounds_toArray, List.set_cons_zero, List.set_cons_succ])
          | (refine Settle.Settles.quiet (v := ?_) (by rfl) ?_ ?_
             rotate_left
             · (intro W hS; obtain ⟨⟨_, _⟩, _, _, ⟨_, _⟩, ⟨_, _⟩, _⟩ := hS; go_simp; with_reducible rfl)
             simp only [Act.put, List.setIfInBounds_toArray, List.set_cons_zero, List.set_cons_succ])
          | (refine Settle.Settles.call (v := ?_) (f := ?_) (args := ?_) (by rfl) ?_ ?_ ?_
             rotate_left 3
             · (intro W; go_simp; refine ⟨?_, ?_⟩ <;> with_reducible rfl)
             · (intro W hS; first | (go_at_call 89; (with_reducible refine (Q.out _ (hS.2.1.wide hS.2.2.2.2.2.size)).mono ?_); rintro e W1 ⟨rfl, hb⟩; refine ⟨?_, HO _ _ hS hb⟩; with_reducible rfl))
             simp only [Act.put, List.setIfInBounds_toArray, List.set_cons_zero, List.set_cons_succ]))
        refine Settle.Settles.nil ?_
        intro wr S0
        obtain ⟨⟨_, _⟩, _, _, ⟨_, _⟩, ⟨_, _⟩, _⟩ := id S0
        go_wp2_with fail
        first
          | exact ⟨⟨j + 1, by omega, by go_num, by rw [hC.out], S0.1, S0.2.1, S0.2.2.1, S0.2.2.2.1, S0.2.2.2.2.2⟩, by simp [intOf]; omega⟩
          | (go_roundw <;> first | exact ⟨j + 1, by omega, by go_num, by rw [hC.out], S0.1, S0.2.1, S0.2.2.1, S0.2.2.2.1, S0.2.2.2.2.2⟩ | (simp [intOf]; omega))
      · have hC := Lib.hid (HU2.out rfl)
        generalize C j = cj at *
        clear HN HN2 HU HU2 HX HY HB H0 hall in0
        go_wp2_with fail
        refine Settle.region (fun W => Pts.BoxR W (w.heap.size) (.slice (some ad) n cap) ∧ PtsAt W w.heap.size (some ad) ps ∧ PtsAt W w.heap.size (some ad2) qs ∧ PtAt W ad k ax ay ∧ PtAt W ad2 j bx bY ∧ Below w.heap.size w W) (by kernel_rfl) (by kernel_rfl) (by kernel_rfl) (by kernel_rfl) (HO _ _ S0 ((Below.refl _ _).drew)) ?_
        clear S0
        repeat (first
          | (refine Settle.Settles.off (by rfl) ?_; simp only [Act.put, List.setIfInBounds_toArray, List.set_cons_zero, List.set_cons_succ])
          | (refine Settle.Settles.quiet (v := ?_) (by rfl) ?_ ?_
             rotate_left
             · (intro W hS; obtain ⟨⟨_, _⟩, _, _, ⟨_, _⟩, ⟨_, _⟩, _⟩ := hS; go_simp; with_reducible rfl)
             simp only [Act.put, List.setIfInBounds_toArray, List.set_cons_zero, List.set_cons_succ])
          | (refine Settle.Settles.call (v := ?_) (f := ?_) (args := ?_) (by rfl) ?_ ?_ ?_
             rotate_left 3
             · (intro W; go_simp; refine ⟨?_, ?_⟩ <;> with_reducible rfl)
             · (intro W hS; first | (go_at_call 89; (with_reducible refine (Q.out _ (hS.2.1.wide hS.2.2.2.2.2.size)).mono ?_); rintro e W1 ⟨rfl, hb⟩; refine ⟨?_, HO _ _ hS hb⟩; with_reducible rfl))
             simp only [Act.put, List.setIfInBounds_toArray, List.set_cons_zero, List.set_cons_succ]))
        refine Settle.Settles.nil ?_
        intro wr S0
        obtain ⟨⟨_, _⟩, _, _, ⟨_, _⟩, ⟨_, _⟩, _⟩ := id S0
        go_wp2_with fail
        first
          | exact ⟨⟨j + 1, by omega, by go_num, by rw [hC.out]; go_num, S0.1, S0.2.1, S0.2.2.1, S0.2.2.2.1, S0.2.2.2.2.2⟩, by simp [intOf]; omega⟩
          | (go_roundw <;> first | exact ⟨j + 1, by omega, by go_num, by rw [hC.out]; go_num, S0.1, S0.2.1, S0.2.2.1, S0.2.2.2.1, S0.2.2.2.2.2⟩ | (simp [intOf]; omega))

end Go.Proofs.Ytgampbjdoncdoaa.WitSpec

