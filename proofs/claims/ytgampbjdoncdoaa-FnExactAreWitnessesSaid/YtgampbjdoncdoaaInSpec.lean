/-
  What the model asks of lists of points in a room, as contracts: what each answers; new memory alone is written.
-/
import Derived.Test.YtgampbjdoncdoaaSeenSpec
import Derived.Test.YtgampbjdoncdoaaFacts
namespace Go.Proofs.Ytgampbjdoncdoaa.InSpec
open Go.RowKit Own PointMath WallMath RoomMath Pts Blk AreaMath PlaceMath FloorMath LineMath CutsMath SightMath KernMath
open PointOk (ret_bool ret_i64 below1 below2 below3)

set_option maxRecDepth 100000 in
set_option maxHeartbeats 3200000 in
theorem l13In (A : Option Addr) (n cap : Nat) (B : Option Addr) (m cb : Nat) (w : World) (ps : List (Int × Int)) (hl : ps.length = n) (hn : n ≤ 1048576) (hp : PtsAt w w.heap.size A ps) (qs : List (Int × Int)) (hl2 : qs.length = m) (hn2 : m ≤ 1048576) (hq : PtsAt w w.heap.size B qs) :
    Calls Try.prog 102 #[.agg #[.slice A n cap], .slice B m cb] w fun e w' => e = .returned (.bool (allIn ps qs)) ∧ Below w.heap.size w w' := by
  obtain ⟨r, hr⟩ : ∃ r, allIn ps qs = r := ⟨_, rfl⟩
  have HR := Lib.hid hr
  rw [hr]
  clear hr
  go_enter Try.func102, Try.ntmps102
  go_wp2_with fail
  have X0 := Pts.boxR w (.slice A n cap) 63 (k := w.heap.size) (by simp)
  have b0 := PointOk.below1 w (Obj.cells #[.slice A n cap] 63)
  have HO : ∀ W W' : World, (Pts.BoxR W (w.heap.size) (.slice A n cap) ∧ PtsAt W w.heap.size A ps ∧ PtsAt W w.heap.size B qs ∧ Below w.heap.size w W) → Below W.heap.size W W' → (Pts.BoxR W' (w.heap.size) (.slice A n cap) ∧ PtsAt W' w.heap.size A ps ∧ PtsAt W' w.heap.size B qs ∧ Below w.heap.size w W') := fun W W' ⟨h0, x0, x1, hb⟩ h => ⟨h0.later h, x0.later (h.mono hb.size), x1.later (h.mono hb.size), hb.trans (h.mono hb.size)⟩
  have hz0_ : Hid (((w.alloc (Obj.cells #[.slice A n cap] 63))).heap.size = w.heap.size + 1) := Lib.hid (by simp)
  have Y0 : PtsAt ((w.alloc (Obj.cells #[.slice A n cap] 63))) w.heap.size A ps := hp.later b0
  have Y1 : PtsAt ((w.alloc (Obj.cells #[.slice A n cap] 63))) w.heap.size B qs := hq.later b0
  generalize (w.alloc (Obj.cells #[.slice A n cap] 63)) = w0 at X0 Y0 Y1 b0 hz0_ ⊢
  have S0 := (⟨X0, Y0, Y1, b0⟩ : Pts.BoxR w0 (w.heap.size) (.slice A n cap) ∧ PtsAt w0 w.heap.size A ps ∧ PtsAt w0 w.heap.size B qs ∧ Below w.heap.size w w0)
  clear X0 Y0 Y1 b0
  obtain ⟨⟨_, _⟩, _, _, _⟩ := id S0
  refine (RoomOkSpec.roomOk A n cap _ ps hl hn (S0.2.1.wide S0.2.2.2.size)).mono ?_
  rintro e w1 ⟨rfl, hb_⟩
  replace S0 := HO _ _ S0 hb_
  clear hb_
  obtain ⟨⟨_, _⟩, _, _, _⟩ := id S0
  cases hr : roomB ps
  · have E : Hid (r = false) := Lib.hid (by rw [← HR.out]; exact allIn_no hr)
    clear hl hl2 HR
    go_wp2_with fail
    go_ret
    exact ⟨ret_bool E.out.symm, S0.2.2.2⟩
  have hy := roomB_yes hr
  have hok := Lib.hid hy.2.1
  have hr := Lib.hid hr
  clear hy
  go_wp2_with fail
  go_loopw [5] (fun q wr => ∃ k : Nat, k ≤ m ∧ q = .int .i64 k ∧ Hid (∀ j, j < k → inB ps (pt qs j).1 (pt qs j).2 = true) ∧ (Pts.BoxR wr (w.heap.size) (.slice A n cap) ∧ PtsAt wr w.heap.size A ps ∧ PtsAt wr w.heap.size B qs ∧ Below w.heap.size w wr))
    (fun q _ => m - (intOf q).toNat)
  case atStart => exact ⟨0, Nat.zero_le _, rfl, Lib.hid (fun t ht => absurd ht (by omega)), S0⟩
  case round =>
    clear S0
    obtain ⟨k, hk, rfl, hno, S0⟩ := hrel
    obtain ⟨⟨_, _⟩, _, _, _⟩ := id S0
    by_cases hkm : k < m
    · have hk1 : (k : Int) < (m : Int) := by omega
      have hk0 : (0 : Int) ≤ (k : Int) := by omega
      have p0 := pt_at (ps := qs) (k := k) (by omega)
      obtain ⟨x, y, hx⟩ : ∃ x y, pt qs k = (x, y) := ⟨_, _, rfl⟩
      rw [hx] at p0
      obtain ⟨ad, eA, bA, pA⟩ := S0.2.2.1.get p0
      subst eA
      have hstep : Hid (inB ps x y = true → ∀ j, j < k + 1 → inB ps (pt qs j).1 (pt qs j).2 = true) := Lib.hid (by
        intro hb j hj
        rcases Nat.lt_or_ge j k with h | h
        · exact hno.out j h
        · obtain rfl : j = k := by omega
          rw [hx]; exact hb)
      have hstop : Hid (inB ps x y = false → r = false) := Lib.hid (by
        intro hb
        rw [← HR.out]; exact allIn_not (k := k) (by omega) (by rw [hx]; exact hb))
      have HO : ∀ W W' : World, (Pts.BoxR W (w.heap.size) (.slice A n cap) ∧ PtsAt W w.heap.size A ps ∧ PtsAt W w.heap.size (some ad) qs ∧ PtAt W ad k x y ∧ Below w.heap.size w W) → Below W.heap.size W W' → (Pts.BoxR W' (w.heap.size) (.slice A n cap) ∧ PtsAt W' w.heap.size A ps ∧ PtsAt W' w.heap.size (some ad) qs ∧ PtAt W' ad k x y ∧ Below w.heap.size w W') := fun W W' ⟨h0, x0, x1, x2, hb⟩ h => ⟨h0.later h, x0.later (h.mono hb.size), x1.later (h.mono hb.size), x2.later bA (h.mono hb.size), hb.trans (h.mono hb.size)⟩
      replace S0 : Pts.BoxR wr (w.heap.size) (.slice A n cap) ∧ PtsAt wr w.heap.size A ps ∧ PtsAt wr w.heap.size (some ad) qs ∧ PtAt wr ad k x y ∧ Below w.heap.size w wr := ⟨S0.1, S0.2.1, S0.2.2.1, pA, S0.2.2.2⟩
      clear pA p0 hx
      obtain ⟨⟨_, _⟩, _, _, ⟨_, _⟩, _⟩ := id S0
      have QP : Hid (∀ w, _) := Lib.hid fun w => PointOk.pointOk x y w
      cases ho : okP x y
      · have E : Hid (r = false) := Lib.hid (hstop.out (inB_notok ho))
        rw [ho] at QP
        clear hl hl2 HR hstep hstop hno ho hok hr
        go_wp2_with fail
        refine Settle.region (fun W => Pts.BoxR W (w.heap.size) (.slice A n cap) ∧ PtsAt W w.heap.size A ps ∧ PtsAt W w.heap.size (some ad) qs ∧ PtAt W ad k x y ∧ Below w.heap.size w W) (by kernel_rfl) (by kernel_rfl) (by kernel_rfl) (by kernel_rfl) (HO _ _ S0 ((Below.refl _ _).drew)) ?_
        clear S0
        repeat (first
          | (refine Settle.Settles.off (by rfl) ?_; simp only [Act.put, List.setIfInBounds_toArray, List.set_cons_zero, List.set_cons_succ])
          | (refine Settle.Settles.quiet (v := ?_) (by rfl) ?_ ?_
             rotate_left
             · (intro W hS; obtain ⟨⟨_, _⟩, _, _, ⟨_, _⟩, _⟩ := hS; go_simp; with_reducible rfl)
             simp only [Act.put, List.setIfInBounds_toArray, List.set_cons_zero, List.set_cons_succ])
          | (refine Settle.Settles.call (v := ?_) (f := ?_) (args := ?_) (by rfl) ?_ ?_ ?_
             rotate_left 3
             · (intro W; go_simp; refine ⟨?_, ?_⟩ <;> with_reducible rfl)
             · (intro W hS; first | (go_at_call 118; (with_reducible refine (QP.out _).mono ?_); rintro e W1 ⟨rfl, hb⟩; refine ⟨?_, HO _ _ hS hb⟩; with_reducible rfl))
             simp only [Act.put, List.setIfInBounds_toArray, List.set_cons_zero, List.set_cons_succ]))
        refine Settle.Settles.nil ?_
        intro wr S0
        obtain ⟨⟨_, _⟩, _, _, ⟨_, _⟩, _⟩ := id S0
        go_wp2_with fail
        go_ret
        exact ⟨ret_bool E.out.symm, S0.2.2.2.2⟩
      have QH : Hid (∀ w hp, _) := Lib.hid fun w hp => PlaceSpec.holds A n cap x y w ps hl hn (smAll_of hok.out) (okP_sm ho) hp
      have HI : Hid (inB ps x y = decide (placeM ps (x, y) ≠ 0)) := Lib.hid (inB_of hr.out ho)
      have hpl := placeM_cases ps (x, y)
      rw [ho] at QP
      generalize placeM ps (x, y) = pl at *
      by_cases h0 : pl = 0
      · subst h0
        have E : Hid (r = false) := Lib.hid (hstop.out (by rw [HI.out]; rfl))
        clear hl hl2 HR hstep hstop hno ho hok hr HI hpl
        go_wp2_with fail
        refine Settle.region (fun W => Pts.BoxR W (w.heap.size) (.slice A n cap) ∧ PtsAt W w.heap.size A ps ∧ PtsAt W w.heap.size (some ad) qs ∧ PtAt W ad k x y ∧ Below w.heap.size w W) (by kernel_rfl) (by kernel_rfl) (by kernel_rfl) (by kernel_rfl) (HO _ _ S0 ((Below.refl _ _).drew)) ?_
        clear S0
        repeat (first
          | (refine Settle.Settles.off (by rfl) ?_; simp only [Act.put, List.setIfInBounds_toArray, List.set_cons_zero, List.set_cons_succ])
          | (refine Settle.Settles.quiet (v := ?_) (by rfl) ?_ ?_
             rotate_left
             · (intro W hS; obtain ⟨⟨_, _⟩, _, _, ⟨_, _⟩, _⟩ := hS; go_simp; with_reducible rfl)
             simp only [Act.put, List.setIfInBounds_toArray, List.set_cons_zero, List.set_cons_succ])
          | (refine Settle.Settles.call (v := ?_) (f := ?_) (args := ?_) (by rfl) ?_ ?_ ?_
             rotate_left 3
             · (intro W; go_simp; refine ⟨?_, ?_⟩ <;> with_reducible rfl)
             · (intro W hS; first | (go_at_call 118; (with_reducible refine (QP.out _).mono ?_); rintro e W1 ⟨rfl, hb⟩; refine ⟨?_, HO _ _ hS hb⟩; with_reducible rfl) | (go_at_call 121; (with_reducible refine (QH.out _ (hS.2.1.wide hS.2.2.2.2.size)).mono ?_); rintro e W1 ⟨rfl, hb⟩; refine ⟨?_, HO _ _ hS hb⟩; with_reducible rfl))
             simp only [Act.put, List.setIfInBounds_toArray, List.set_cons_zero, List.set_cons_succ]))
        refine Settle.Settles.nil ?_
        intro wr S0
        obtain ⟨⟨_, _⟩, _, _, ⟨_, _⟩, _⟩ := id S0
        go_wp2_with fail
        go_ret
        exact ⟨ret_bool E.out.symm, S0.2.2.2.2⟩
      · have hno2 := Lib.hid (hstep.out (by rw [HI.out]; exact decide_eq_true h0))
        have hpl0 : ¬ pl - 1 < 0 := by omega
        clear hl hl2 HR hstep hstop hno ho hok hr HI hpl h0
        go_wp2_with fail
        refine Settle.region (fun W => Pts.BoxR W (w.heap.size) (.slice A n cap) ∧ PtsAt W w.heap.size A ps ∧ PtsAt W w.heap.size (some ad) qs ∧ PtAt W ad k x y ∧ Below w.heap.size w W) (by kernel_rfl) (by kernel_rfl) (by kernel_rfl) (by kernel_rfl) (HO _ _ S0 ((Below.refl _ _).drew)) ?_
        clear S0
        repeat (first
          | (refine Settle.Settles.off (by rfl) ?_; simp only [Act.put, List.setIfInBounds_toArray, List.set_cons_zero, List.set_cons_succ])
          | (refine Settle.Settles.quiet (v := ?_) (by rfl) ?_ ?_
             rotate_left
             · (intro W hS; obtain ⟨⟨_, _⟩, _, _, ⟨_, _⟩, _⟩ := hS; go_simp; with_reducible rfl)
             simp only [Act.put, List.setIfInBounds_toArray, List.set_cons_zero, List.set_cons_succ])
          | (refine Settle.Settles.call (v := ?_) (f := ?_) (args := ?_) (by rfl) ?_ ?_ ?_
             rotate_left 3
             · (intro W; go_simp; refine ⟨?_, ?_⟩ <;> with_reducible rfl)
             · (intro W hS; first | (go_at_call 118; (with_reducible refine (QP.out _).mono ?_); rintro e W1 ⟨rfl, hb⟩; refine ⟨?_, HO _ _ hS hb⟩; with_reducible rfl) | (go_at_call 121; (with_reducible refine (QH.out _ (hS.2.1.wide hS.2.2.2.2.size)).mono ?_); rintro e W1 ⟨rfl, hb⟩; refine ⟨?_, HO _ _ hS hb⟩; with_reducible rfl))
             simp only [Act.put, List.setIfInBounds_toArray, List.set_cons_zero, List.set_cons_succ]))
        refine Settle.Settles.nil ?_
        intro wr S0
        obtain ⟨⟨_, _⟩, _, _, ⟨_, _⟩, _⟩ := id S0
        go_wp2_with fail
        first
          | exact ⟨⟨k + 1, by omega, by go_num, hno2, S0.1, S0.2.1, S0.2.2.1, S0.2.2.2.2⟩, by simp [intOf]; omega⟩
          | (go_roundw <;> first | exact ⟨k + 1, by omega, by go_num, hno2, S0.1, S0.2.1, S0.2.2.1, S0.2.2.2.2⟩ | (simp [intOf]; omega))
    · obtain rfl : m = k := by omega
      have E : Hid (r = true) := Lib.hid (by rw [← HR.out]; exact allIn_of hr.out (by rw [hl2]; exact hno.out))
      clear hl hl2 HR hno hr hok
      go_wp2_with fail
      go_ret
      exact ⟨ret_bool E.out.symm, S0.2.2.2⟩

end Go.Proofs.Ytgampbjdoncdoaa.InSpec

