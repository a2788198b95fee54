/-
  What the model's functions on kernels do, as contracts: what each answers; new memory alone is written.
-/
import Derived.Test.YtkoogklakacphacSeenSpec
import Derived.Test.YtkoogklakacphacKernMath
namespace Go.Proofs.Ytkoogklakacphac.KernSpec
open Go.RowKit Own PointMath WallMath RoomMath Pts Blk AreaMath PlaceMath FloorMath LineMath CutsMath SightMath KernMath
open PointOk (ret_bool ret_i64 below1 below2 below3)
open SightSpec (infoP cellsP_app pts_own)

set_option maxRecDepth 100000 in
set_option maxHeartbeats 3200000 in
theorem inKernel (A : Option Addr) (n cap : Nat) (ax ay : Int) (w : World) (ps : List (Int × Int)) (hl : ps.length = n) (hn : n ≤ 1048576) (hp : PtsAt w w.heap.size A ps) :
    Calls Try.prog 41 #[.agg #[.slice A n cap], .agg #[.int .i64 ax, .int .i64 ay]] w fun e w' => e = .returned (.bool (kernB ps ax ay)) ∧ Below w.heap.size w w' := by
  obtain ⟨r, hr⟩ : ∃ r, kernB ps ax ay = r := ⟨_, rfl⟩
  have HR := Lib.hid hr
  rw [hr]
  clear hr
  go_enter Try.func41, Try.ntmps41
  go_wp2_with fail
  have X0 := (Pts.boxR w (.slice A n cap) 29 (k := w.heap.size) (by simp)).alloc (Obj.cells #[.int .i64 ax, .int .i64 ay] 51)
  have X1 := PointOk.box1 (w.alloc (Obj.cells #[.slice A n cap] 29)) ax ay 51 (k := w.heap.size + 1) (by simp)
  have b0 := PointOk.below2 w (Obj.cells #[.slice A n cap] 29) (Obj.cells #[.int .i64 ax, .int .i64 ay] 51)
  have HO : ∀ W W' : World, (Pts.BoxR W (w.heap.size) (.slice A n cap) ∧ PointOk.Box W (w.heap.size + 1) ax ay ∧ PtsAt W w.heap.size A ps ∧ Below w.heap.size w W) → Below W.heap.size W W' → (Pts.BoxR W' (w.heap.size) (.slice A n cap) ∧ PointOk.Box W' (w.heap.size + 1) ax ay ∧ PtsAt W' w.heap.size A ps ∧ Below w.heap.size w W') := fun W W' ⟨h0, h1, x0, hb⟩ h => ⟨h0.later h, h1.later h, x0.later (h.mono hb.size), hb.trans (h.mono hb.size)⟩
  have hz0_ : Hid ((((w.alloc (Obj.cells #[.slice A n cap] 29)).alloc (Obj.cells #[.int .i64 ax, .int .i64 ay] 51))).heap.size = w.heap.size + 1 + 1) := Lib.hid (by simp)
  have Y0 : PtsAt (((w.alloc (Obj.cells #[.slice A n cap] 29)).alloc (Obj.cells #[.int .i64 ax, .int .i64 ay] 51))) w.heap.size A ps := hp.later b0
  generalize ((w.alloc (Obj.cells #[.slice A n cap] 29)).alloc (Obj.cells #[.int .i64 ax, .int .i64 ay] 51)) = w0 at X0 X1 Y0 b0 hz0_ ⊢
  have S0 := (⟨X0, X1, Y0, b0⟩ : Pts.BoxR w0 (w.heap.size) (.slice A n cap) ∧ PointOk.Box w0 (w.heap.size + 1) ax ay ∧ PtsAt w0 w.heap.size A ps ∧ Below w.heap.size w w0)
  clear X0 X1 Y0 b0
  obtain ⟨⟨_, _⟩, ⟨_, _⟩, _, _⟩ := id S0
  refine (PlaceSpec.isIn A n cap ax ay _ ps hl hn (S0.2.2.1.wide S0.2.2.2.size)).mono ?_
  rintro e w1 ⟨rfl, hb_⟩
  replace S0 := HO _ _ S0 hb_
  clear hb_
  obtain ⟨⟨_, _⟩, ⟨_, _⟩, _, _⟩ := id S0
  cases ha : inB ps ax ay
  · have E : Hid (r = false) := Lib.hid (by rw [← HR.out]; unfold kernB; rw [ha]; rfl)
    clear hl HR
    go_wp2_with fail
    go_ret
    exact ⟨ret_bool E.out.symm, S0.2.2.2⟩
  have hb := inB_parts ha
  have hy := roomB_yes hb.1
  have hok := Lib.hid hy.2.1
  have hq := okP_sm hb.2
  have HE : Hid (kernM ps (ax, ay) = r) := Lib.hid (by rw [← HR.out]; unfold kernB; rw [ha]; rfl)
  have hn0 : ¬ ((n : Int) = 0) := by omega
  have hn1 : ¬ (n = 0) := by omega
  clear HR ha hb hy
  go_wp2_with fail
  go_loopw [5] (fun q wr => ∃ k : Nat, k ≤ n ∧ q = .int .i64 k ∧ Hid (∀ j, j < k → leftK ps (ax, ay) j = true) ∧ (Pts.BoxR wr (w.heap.size) (.slice A n cap) ∧ PointOk.Box wr (w.heap.size + 1) ax ay ∧ PtsAt wr w.heap.size A ps ∧ Below w.heap.size w wr))
    (fun q _ => n - (intOf q).toNat)
  case atStart => exact ⟨0, Nat.zero_le _, rfl, Lib.hid (fun t ht => absurd ht (by omega)), S0⟩
  case round =>
    clear S0
    obtain ⟨k, hk, rfl, hno, S0⟩ := hrel
    obtain ⟨⟨_, _⟩, ⟨_, _⟩, _, _⟩ := id S0
    by_cases hkn : k < n
    · have hm : (k + 1) % n < n := Nat.mod_lt _ (by omega)
      have p0 := pt_at (ps := ps) (k := k) (by omega)
      have p1 := pt_at (ps := ps) (k := (k + 1) % n) (by omega)
      have s0 := okP_sm (okAll_at hok.out (k := k) (by omega))
      have s1 := okP_sm (okAll_at hok.out (k := (k + 1) % n) (by omega))
      have HK : Hid (leftK ps (ax, ay) k = decide (0 ≤ turnP (pt ps k) (pt ps ((k + 1) % n)) (ax, ay))) := Lib.hid (by unfold leftK; rw [hl])
      have e1 := succ_emod n k
      have e1t : ((k : Int) + 1).tmod (n : Int) = (((k + 1) % n : Nat) : Int) := by rw [Int.tmod_eq_emod_of_nonneg (by omega)]; exact e1
      generalize (k + 1) % n = m at *
      obtain ⟨cx, cy, hc⟩ : ∃ x y, pt ps k = (x, y) := ⟨_, _, rfl⟩
      obtain ⟨dx, dy, hd⟩ : ∃ x y, pt ps m = (x, y) := ⟨_, _, rfl⟩
      rw [hc] at p0 s0 HK
      rw [hd] at p1 s1 HK
      obtain ⟨ad, eA, bA, pA⟩ := S0.2.2.1.get p0
      obtain ⟨ad2, eA2, _, pB⟩ := S0.2.2.1.get p1
      rw [eA] at eA2
      injection eA2 with eA2
      subst eA2
      subst eA
      have hk1 : (k : Int) < (n : Int) := by omega
      have hk0 : (0 : Int) ≤ (k : Int) := by omega
      have hm1 : (m : Int) < (n : Int) := by omega
      have hm0 : (0 : Int) ≤ (m : Int) := by omega
      have uk : IntKind.i64.wrap ((k : Int) + 1) = (k : Int) + 1 := IntWalk.i64_in _ (by omega)
      obtain ⟨t, ht⟩ : ∃ t, turnI cx cy dx dy ax ay = t := ⟨_, rfl⟩
      have QT : Hid (∀ w, _) := Lib.hid fun w => PointSpec.l02Turn cx cy dx dy ax ay s0 s1 hq w
      rw [ht] at QT
      replace HK : Hid (leftK ps (ax, ay) k = decide (0 ≤ t)) := Lib.hid (by rw [HK.out, ← ht]; rfl)
      have HO : ∀ W W' : World, (Pts.BoxR W (w.heap.size) (.slice (some ad) n cap) ∧ PointOk.Box W (w.heap.size + 1) ax ay ∧ PtsAt W w.heap.size (some ad) ps ∧ PtAt W ad k cx cy ∧ PtAt W ad m dx dy ∧ Below w.heap.size w W) → Below W.heap.size W W' → (Pts.BoxR W' (w.heap.size) (.slice (some ad) n cap) ∧ PointOk.Box W' (w.heap.size + 1) ax ay ∧ PtsAt W' w.heap.size (some ad) ps ∧ PtAt W' ad k cx cy ∧ PtAt W' ad m dx dy ∧ Below w.heap.size w W') := fun W W' ⟨h0, h1, x0, x1, x2, hb⟩ h => ⟨h0.later h, h1.later h, x0.later (h.mono hb.size), x1.later bA (h.mono hb.size), x2.later bA (h.mono hb.size), hb.trans (h.mono hb.size)⟩
      replace S0 : Pts.BoxR wr (w.heap.size) (.slice (some ad) n cap) ∧ PointOk.Box wr (w.heap.size + 1) ax ay ∧ PtsAt wr w.heap.size (some ad) ps ∧ PtAt wr ad k cx cy ∧ PtAt wr ad m dx dy ∧ Below w.heap.size w wr := ⟨S0.1, S0.2.1, S0.2.2.1, pA, pB, S0.2.2.2⟩
      clear pA pB p0 p1 hc hd ht s0 s1
      obtain ⟨⟨_, _⟩, ⟨_, _⟩, _, ⟨_, _⟩, ⟨_, _⟩, _⟩ := id S0
      by_cases h0 : t < 0
      · have E : Hid (r = false) := Lib.hid (by rw [← HE.out]; exact kernM_not (k := k) (by omega) (by rw [HK.out]; exact decide_eq_false (by omega)))
        clear HE hl HK hno hok hq
        go_wp2_with fail
        refine Settle.region (fun W => Pts.BoxR W (w.heap.size) (.slice (some ad) n cap) ∧ PointOk.Box W (w.heap.size + 1) ax ay ∧ PtsAt W w.heap.size (some ad) ps ∧ PtAt W ad k cx cy ∧ PtAt W ad m dx dy ∧ Below w.heap.size w W) (by kernel_rfl) (by kernel_rfl) (by kernel_rfl) (by kernel_rfl) (HO _ _ S0 ((Below.refl _ _).drew)) ?_
        clear S0
        repeat (first
          | (refine Settle.Settles.off (by rfl) ?_; simp only [Act.put, List.setIfInBounds_toArray, List.set_cons_zero, List.set_cons_succ])
          | (refine Settle.Settles.quiet (v := ?_) (by rfl) ?_ ?_
             rotate_left
             · (intro W hS; obtain ⟨⟨_, _⟩, ⟨_, _⟩, _, ⟨_, _⟩, ⟨_, _⟩, _⟩ := hS; go_simp; with_reducible rfl)
             simp only [Act.put, List.setIfInBounds_toArray, List.set_cons_zero, List.set_cons_succ])
          | (refine Settle.Settles.call (v := ?_) (f := ?_) (args := ?_) (by rfl) ?_ ?_ ?_
             rotate_left 3
             · (intro W; go_simp; refine ⟨?_, ?_⟩ <;> with_reducible rfl)
             · (intro W hS; first | (go_at_call 74; (with_reducible refine (QT.out _).mono ?_); rintro e W1 ⟨rfl, hb⟩; refine ⟨?_, HO _ _ hS hb⟩; with_reducible rfl))
             simp only [Act.put, List.setIfInBounds_toArray, List.set_cons_zero, List.set_cons_succ]))
        refine Settle.Settles.nil ?_
        intro wr S0
        obtain ⟨⟨_, _⟩, ⟨_, _⟩, _, ⟨_, _⟩, ⟨_, _⟩, _⟩ := id S0
        go_wp2_with fail
        go_ret
        exact ⟨ret_bool E.out.symm, S0.2.2.2.2.2⟩
      · have hno2 : Hid (∀ j, j < k + 1 → leftK ps (ax, ay) j = true) := Lib.hid (by
          intro j hj
          rcases Nat.lt_or_ge j k with h | h
          · exact hno.out j h
          · obtain rfl : j = k := by omega
            rw [HK.out]; exact decide_eq_true (by omega))
        clear HE hl HK hno hok hq
        go_wp2_with fail
        refine Settle.region (fun W => Pts.BoxR W (w.heap.size) (.slice (some ad) n cap) ∧ PointOk.Box W (w.heap.size + 1) ax ay ∧ PtsAt W w.heap.size (some ad) ps ∧ PtAt W ad k cx cy ∧ PtAt W ad m dx dy ∧ Below w.heap.size w W) (by kernel_rfl) (by kernel_rfl) (by kernel_rfl) (by kernel_rfl) (HO _ _ S0 ((Below.refl _ _).drew)) ?_
        clear S0
        repeat (first
          | (refine Settle.Settles.off (by rfl) ?_; simp only [Act.put, List.setIfInBounds_toArray, List.set_cons_zero, List.set_cons_succ])
          | (refine Settle.Settles.quiet (v := ?_) (by rfl) ?_ ?_
             rotate_left
             · (intro W hS; obtain ⟨⟨_, _⟩, ⟨_, _⟩, _, ⟨_, _⟩, ⟨_, _⟩, _⟩ := hS; go_simp; with_reducible rfl)
             simp only [Act.put, List.setIfInBounds_toArray, List.set_cons_zero, List.set_cons_succ])
          | (refine Settle.Settles.call (v := ?_) (f := ?_) (args := ?_) (by rfl) ?_ ?_ ?_
             rotate_left 3
             · (intro W; go_simp; refine ⟨?_, ?_⟩ <;> with_reducible rfl)
             · (intro W hS; first | (go_at_call 74; (with_reducible refine (QT.out _).mono ?_); rintro e W1 ⟨rfl, hb⟩; refine ⟨?_, HO _ _ hS hb⟩; with_reducible rfl))
             simp only [Act.put, List.setIfInBounds_toArray, List.set_cons_zero, List.set_cons_succ]))
        refine Settle.Settles.nil ?_
        intro wr S0
        obtain ⟨⟨_, _⟩, ⟨_, _⟩, _, ⟨_, _⟩, ⟨_, _⟩, _⟩ := id S0
        go_wp2_with fail
        have S1 := (⟨S0.1, S0.2.1, S0.2.2.1, S0.2.2.2.2.2⟩ : BoxR wr w.heap.size (.slice (some ad) n cap) ∧ PointOk.Box wr (w.heap.size + 1) ax ay ∧ PtsAt wr w.heap.size (some ad) ps ∧ Below w.heap.size w wr)
        first
          | exact ⟨⟨k + 1, by omega, by go_num, hno2, S1⟩, by simp [intOf]; omega⟩
          | (go_roundw <;> first | exact ⟨k + 1, by omega, by go_num, hno2, S1⟩ | (simp [intOf]; omega))
    · obtain rfl : n = k := by omega
      have E : Hid (r = true) := Lib.hid (by rw [← HE.out]; exact kernM_of (by rw [hl]; exact hno.out))
      clear hl HE hno
      go_wp2_with fail
      go_ret
      exact ⟨ret_bool E.out.symm, S0.2.2.2⟩

set_option maxRecDepth 100000 in
set_option maxHeartbeats 1600000 in
theorem seesCorners (A : Option Addr) (n cap : Nat) (ax ay : Int) (w : World) (ps : List (Int × Int)) (hl : ps.length = n) (hn : n ≤ 1048576) (hp : PtsAt w w.heap.size A ps) :
    Calls Try.prog 48 #[.agg #[.slice A n cap], .agg #[.int .i64 ax, .int .i64 ay]] w fun e w' => e = .returned (.bool (seesCornB ps ax ay)) ∧ Below w.heap.size w w' := by
  obtain ⟨r, hr⟩ : ∃ r, seesCornB ps ax ay = r := ⟨_, rfl⟩
  have HR := Lib.hid hr
  rw [hr]
  clear hr
  replace HR : Hid ((inB ps ax ay && decide ((cornTo ps (ax, ay) n).length = n)) = r) := Lib.hid (by rw [← HR.out, ← hl]; rfl)
  go_enter Try.func48, Try.ntmps48
  go_wp2_with fail
  have X0 := (Pts.boxR w (.slice A n cap) 29 (k := w.heap.size) (by simp)).alloc (Obj.cells #[.int .i64 ax, .int .i64 ay] 51)
  have X1 := PointOk.box1 (w.alloc (Obj.cells #[.slice A n cap] 29)) ax ay 51 (k := w.heap.size + 1) (by simp)
  have b0 := PointOk.below2 w (Obj.cells #[.slice A n cap] 29) (Obj.cells #[.int .i64 ax, .int .i64 ay] 51)
  have HO : ∀ W W' : World, (Pts.BoxR W (w.heap.size) (.slice A n cap) ∧ PointOk.Box W (w.heap.size + 1) ax ay ∧ PtsAt W w.heap.size A ps ∧ Below w.heap.size w W) → Below W.heap.size W W' → (Pts.BoxR W' (w.heap.size) (.slice A n cap) ∧ PointOk.Box W' (w.heap.size + 1) ax ay ∧ PtsAt W' w.heap.size A ps ∧ Below w.heap.size w W') := fun W W' ⟨h0, h1, x0, hb⟩ h => ⟨h0.later h, h1.later h, x0.later (h.mono hb.size), hb.trans (h.mono hb.size)⟩
  have hz0_ : Hid ((((w.alloc (Obj.cells #[.slice A n cap] 29)).alloc (Obj.cells #[.int .i64 ax, .int .i64 ay] 51))).heap.size = w.heap.size + 1 + 1) := Lib.hid (by simp)
  have Y0 : PtsAt (((w.alloc (Obj.cells #[.slice A n cap] 29)).alloc (Obj.cells #[.int .i64 ax, .int .i64 ay] 51))) w.heap.size A ps := hp.later b0
  generalize ((w.alloc (Obj.cells #[.slice A n cap] 29)).alloc (Obj.cells #[.int .i64 ax, .int .i64 ay] 51)) = w0 at X0 X1 Y0 b0 hz0_ ⊢
  have S0 := (⟨X0, X1, Y0, b0⟩ : Pts.BoxR w0 (w.heap.size) (.slice A n cap) ∧ PointOk.Box w0 (w.heap.size + 1) ax ay ∧ PtsAt w0 w.heap.size A ps ∧ Below w.heap.size w w0)
  clear X0 X1 Y0 b0
  obtain ⟨⟨_, _⟩, ⟨_, _⟩, _, _⟩ := id S0
  have QI : Hid (∀ w hp, _) := Lib.hid fun w hp => PlaceSpec.isIn A n cap ax ay w ps hl hn hp
  have QC : Hid (∀ w hp, _) := Lib.hid fun w hp => SeenSpec.cornersSeen A n cap ax ay w ps hl hn hp
  cases ha : inB ps ax ay
  · have E : Hid (r = false) := Lib.hid (by rw [← HR.out, ha]; rfl)
    rw [ha] at QI
    clear hl HR ha QC
    go_wp2_with fail
    refine Settle.region (fun W => Pts.BoxR W (w.heap.size) (.slice A n cap) ∧ PointOk.Box W (w.heap.size + 1) ax ay ∧ PtsAt W w.heap.size A ps ∧ Below w.heap.size w W) (by kernel_rfl) (by kernel_rfl) (by kernel_rfl) (by kernel_rfl) (HO _ _ S0 ((Below.refl _ _).drew)) ?_
    clear S0
    repeat (first
      | (refine Settle.Settles.off (by rfl) ?_; simp only [Act.put, List.setIfInBounds_toArray, List.set_cons_zero, List.set_cons_succ])
      | (refine Settle.Settles.quiet (v := ?_) (by rfl) ?_ ?_
         rotate_left
         · (intro W hS; obtain ⟨⟨_, _⟩, ⟨_, _⟩, _, _⟩ := hS; go_simp; with_reducible rfl)
         simp only [Act.put, List.setIfInBounds_toArray, List.set_cons_zero, List.set_cons_succ])
      | (refine Settle.Settles.call (v := ?_) (f := ?_) (args := ?_) (by rfl) ?_ ?_ ?_
         rotate_left 3
         · (intro W; go_simp; refine ⟨?_, ?_⟩ <;> with_reducible rfl)
         · (intro W hS; first | (go_at_call 73; (with_reducible refine (QI.out _ (hS.2.2.1.wide hS.2.2.2.size)).mono ?_); rintro e W1 ⟨rfl, hb⟩; refine ⟨?_, HO _ _ hS hb⟩; with_reducible rfl))
         simp only [Act.put, List.setIfInBounds_toArray, List.set_cons_zero, List.set_cons_succ]))
    refine Settle.Settles.nil ?_
    intro wr S0
    obtain ⟨⟨_, _⟩, ⟨_, _⟩, _, _⟩ := id S0
    go_wp2_with fail
    go_ret
    exact ⟨ret_bool E.out.symm, S0.2.2.2⟩
  have HC : Hid (cornL ps ax ay = cornTo ps (ax, ay) n) := Lib.hid (by unfold cornL; rw [ha, hl]; rfl)
  rw [HC.out] at QC
  have E : Hid (decide ((cornTo ps (ax, ay) n).length = n) = r) := Lib.hid (by rw [← HR.out, ha]; rfl)
  rw [ha] at QI
  generalize cornTo ps (ax, ay) n = l at *
  clear hl HR ha HC
  go_wp2_with fail
  have S0_ := HO _ _ S0 ((Below.refl _ _).drew)
  have HS0_ : w0.drew.cell? ⟨w.heap.size, 0, none⟩ = some (.slice A n cap) ∧ w0.drew.cell? ⟨w.heap.size + 1, 0, none⟩ = some (.int .i64 ax) ∧ w0.drew.cell? ⟨w.heap.size + 1, 1, none⟩ = some (.int .i64 ay) := ⟨S0_.1.1, S0_.2.1.1, S0_.2.1.2⟩
  refine wp_region_held_drew (S := fun W => W.cell? ⟨w.heap.size, 0, none⟩ = some (.slice A n cap) ∧ W.cell? ⟨w.heap.size + 1, 0, none⟩ = some (.int .i64 ax) ∧ W.cell? ⟨w.heap.size + 1, 1, none⟩ = some (.int .i64 ay)) (by kernel_rfl) HS0_ (fun hHeld => ?_)
  refine wpAnyH_take (i := 0) (oi := ⟨some 5, _, _, _, _, _⟩) (v := ?_) rfl (by kernel_rfl) (by kernel_rfl) (by kernel_rfl) (fun _ _ _ h => h) (Or.inl ⟨by rfl, ?_⟩) (by assumption) ?_
  rotate_left 1
  · (intro w hSw; (try dsimp only at hSw); go_simp; try with_reducible rfl)
  try simp only [Act.put, List.setIfInBounds_toArray, List.set_cons_zero, List.set_cons_succ]
  refine wpAnyH_take (i := 1) (oi := ⟨some 6, _, _, _, _, _⟩) (v := ?_) rfl (by kernel_rfl) (by kernel_rfl) (by kernel_rfl) (fun _ _ _ h => h) (Or.inl ⟨by rfl, ?_⟩) (by assumption) ?_
  rotate_left 1
  · (intro w hSw; (try dsimp only at hSw); go_simp; try with_reducible rfl)
  try simp only [Act.put, List.setIfInBounds_toArray, List.set_cons_zero, List.set_cons_succ]
  refine wpAnyH_ready (rs := [2]) (by kernel_rfl) (by simp) ?_
  refine AllReadyH.cons (o := ⟨some 7, _, _, _, _, _⟩) rfl (fun K hK => ?_) ?_
  rotate_left 1
  · exact AllReadyH.nil
  go_simp
  go_at_call 73; refine (QI.out _ (S0_.2.2.1.wide S0_.2.2.2.size)).mono ?_; rintro e w3 ⟨rfl, hb2_⟩
  have S3_ := HO _ _ S0_ hb2_
  go_wp2_with fail
  refine hK.out _ _ ⟨S3_.1.1, S3_.2.1.1, S3_.2.1.2⟩ (fun hHeld => ?_)
  clear hK K
  refine wpAnyH_take (i := 3) (oi := ⟨some 8, _, _, _, _, _⟩) (v := ?_) rfl (by kernel_rfl) (by kernel_rfl) (by kernel_rfl) (fun _ _ _ h => h) (Or.inl ⟨by rfl, ?_⟩) (by assumption) ?_
  rotate_left 1
  · (intro w hSw; (try dsimp only at hSw); go_simp; try with_reducible rfl)
  try simp only [Act.put, List.setIfInBounds_toArray, List.set_cons_zero, List.set_cons_succ]
  refine wpAnyH_take (i := 4) (oi := ⟨some 9, _, _, _, _, _⟩) (v := ?_) rfl (by kernel_rfl) (by kernel_rfl) (by kernel_rfl) (fun _ _ _ h => h) (Or.inl ⟨by rfl, ?_⟩) (by assumption) ?_
  rotate_left 1
  · (intro w hSw; (try dsimp only at hSw); go_simp; try with_reducible rfl)
  try simp only [Act.put, List.setIfInBounds_toArray, List.set_cons_zero, List.set_cons_succ]
  refine wpAnyH_take (i := 5) (oi := ⟨some 10, _, _, _, _, _⟩) (v := ?_) rfl (by kernel_rfl) (by kernel_rfl) (by kernel_rfl) (fun _ _ _ h => h) (Or.inl ⟨by rfl, ?_⟩) (by assumption) ?_
  rotate_left 1
  · (intro w hSw; (try dsimp only at hSw); go_simp; try with_reducible rfl)
  try simp only [Act.put, List.setIfInBounds_toArray, List.set_cons_zero, List.set_cons_succ]
  refine wpAnyH_take (i := 8) (oi := ⟨some 13, _, _, _, _, _⟩) (v := ?_) rfl (by kernel_rfl) (by kernel_rfl) (by kernel_rfl) (fun _ _ _ h => h) (Or.inl ⟨by rfl, ?_⟩) (by assumption) ?_
  rotate_left 1
  · (intro w hSw; (try dsimp only at hSw); go_simp; try with_reducible rfl)
  try simp only [Act.put, List.setIfInBounds_toArray, List.set_cons_zero, List.set_cons_succ]
  refine wpAnyH_take (i := 9) (oi := ⟨some 14, _, _, _, _, _⟩) (v := ?_) rfl (by kernel_rfl) (by kernel_rfl) (by kernel_rfl) (fun _ _ _ h => h) (Or.inl ⟨by rfl, ?_⟩) (by assumption) ?_
  rotate_left 1
  · (intro w hSw; (try dsimp only at hSw); go_simp; try with_reducible rfl)
  try simp only [Act.put, List.setIfInBounds_toArray, List.set_cons_zero, List.set_cons_succ]
  refine wpAnyH_take (i := 10) (oi := ⟨some 15, _, _, _, _, _⟩) (v := ?_) rfl (by kernel_rfl) (by kernel_rfl) (by kernel_rfl) (fun _ _ _ h => h) (Or.inl ⟨by rfl, ?_⟩) (by assumption) ?_
  rotate_left 1
  · (intro w hSw; (try dsimp only at hSw); go_simp; try with_reducible rfl)
  try simp only [Act.put, List.setIfInBounds_toArray, List.set_cons_zero, List.set_cons_succ]
  refine wpAnyH_ready (rs := [6]) (by kernel_rfl) (by simp) ?_
  refine AllReadyH.cons (o := ⟨some 11, _, _, _, _, _⟩) rfl (fun K hK => ?_) ?_
  rotate_left 1
  · exact AllReadyH.nil
  go_simp
  go_at_call 77; refine (QC.out _ (S3_.2.2.1.wide S3_.2.2.2.size)).mono ?_; rintro e w4 ⟨A2, c2, rfl, _, hb3_⟩
  have S4_ := HO _ _ S3_ hb3_
  go_wp2_with fail
  refine hK.out _ _ ⟨S4_.1.1, S4_.2.1.1, S4_.2.1.2⟩ (fun hHeld => ?_)
  clear hK K
  refine wpAnyH_take (i := 7) (oi := ⟨some 12, _, _, _, _, _⟩) (v := ?_) rfl (by kernel_rfl) (by kernel_rfl) (by kernel_rfl) (fun _ _ _ h => h) (Or.inl ⟨by rfl, ?_⟩) (by assumption) ?_
  rotate_left 1
  · (intro w hSw; (try dsimp only at hSw); go_simp; try with_reducible rfl)
  try simp only [Act.put, List.setIfInBounds_toArray, List.set_cons_zero, List.set_cons_succ]
  refine wpAnyH_take (i := 11) (oi := ⟨some 16, _, _, _, _, _⟩) (v := ?_) rfl (by kernel_rfl) (by kernel_rfl) (by kernel_rfl) (fun _ _ _ h => h) (Or.inl ⟨by rfl, ?_⟩) (by assumption) ?_
  rotate_left 1
  · (intro w hSw; (try dsimp only at hSw); go_simp; try with_reducible rfl)
  try simp only [Act.put, List.setIfInBounds_toArray, List.set_cons_zero, List.set_cons_succ]
  refine wpAnyH_take (i := 12) (oi := ⟨some 17, _, _, _, _, _⟩) (v := ?_) rfl (by kernel_rfl) (by kernel_rfl) (by kernel_rfl) (fun _ _ _ h => h) (Or.inl ⟨by rfl, ?_⟩) (by assumption) ?_
  rotate_left 1
  · (intro w hSw; (try dsimp only at hSw); go_simp; try with_reducible rfl)
  try simp only [Act.put, List.setIfInBounds_toArray, List.set_cons_zero, List.set_cons_succ]
  refine wpAnyH_take (i := 13) (oi := ⟨some 4, _, _, _, _, _⟩) (v := ?_) rfl (by kernel_rfl) (by kernel_rfl) (by kernel_rfl) (fun _ _ _ h => h) (Or.inl ⟨by rfl, ?_⟩) (by assumption) ?_
  rotate_left 1
  · (intro w hSw; (try dsimp only at hSw); go_simp; try with_reducible rfl)
  try simp only [Act.put, List.setIfInBounds_toArray, List.set_cons_zero, List.set_cons_succ]
  refine wpAnyH_done (by kernel_rfl) ?_ _
  go_wp2_with fail
  go_ret
  exact ⟨ret_bool (by rw [← E.out, Bool.eq_iff_iff]; simp; omega), S4_.2.2.2⟩

set_option maxRecDepth 100000 in
set_option maxHeartbeats 4000000 in
theorem kernelPoints (A : Option Addr) (n cap : Nat) (w : World) (ps : List (Int × Int)) (hl : ps.length = n) (hn : n ≤ 1048576) (hp : PtsAt w w.heap.size A ps) :
    Calls Try.prog 44 #[.agg #[.slice A n cap]] w (GivesC 51 2 w (kernL ps).length (cellsP (kernL ps))) := by
  obtain ⟨r, hr⟩ : ∃ r, kernL ps = r := ⟨_, rfl⟩
  have HR := Lib.hid hr
  rw [hr]
  clear hr
  obtain ⟨i0, hi, hz0, hz1, hz2⟩ := info_parts infoP
  go_enter Try.func44, Try.ntmps44
  go_wp2_with fail
  have X0 := Pts.boxR w (.slice A n cap) 29 (k := w.heap.size) (by simp)
  have b0 := PointOk.below1 w (Obj.cells #[.slice A n cap] 29)
  have HO : ∀ W W' : World, (Pts.BoxR W (w.heap.size) (.slice A n cap) ∧ PtsAt W w.heap.size A ps ∧ Below w.heap.size w W) → Below W.heap.size W W' → (Pts.BoxR W' (w.heap.size) (.slice A n cap) ∧ PtsAt W' w.heap.size A ps ∧ Below w.heap.size w W') := fun W W' ⟨h0, x0, hb⟩ h => ⟨h0.later h, x0.later (h.mono hb.size), hb.trans (h.mono hb.size)⟩
  have hz0_ : Hid (((w.alloc (Obj.cells #[.slice A n cap] 29))).heap.size = w.heap.size + 1) := Lib.hid (by simp)
  have Y0 : PtsAt ((w.alloc (Obj.cells #[.slice A n cap] 29))) w.heap.size A ps := hp.later b0
  generalize (w.alloc (Obj.cells #[.slice A n cap] 29)) = w0 at X0 Y0 b0 hz0_ ⊢
  have S0 := (⟨X0, Y0, b0⟩ : Pts.BoxR w0 (w.heap.size) (.slice A n cap) ∧ PtsAt w0 w.heap.size A ps ∧ Below w.heap.size w w0)
  clear X0 Y0 b0
  obtain ⟨⟨_, _⟩, _, _⟩ := id S0
  have HO2 : ∀ W W' : World, (Pts.BoxR W (w.heap.size) (.slice A n cap) ∧ PtsAt W w.heap.size A ps ∧ Below w.heap.size w W) → Below (w.heap.size + 1) W W' → (Pts.BoxR W' (w.heap.size) (.slice A n cap) ∧ PtsAt W' w.heap.size A ps ∧ Below w.heap.size w W') := fun W W' ⟨h0, h1, hb⟩ h => ⟨⟨(h.cell (by simp)).trans h0.1, trivial⟩, h1.later (h.mono (by omega)), hb.trans (h.mono (by omega))⟩
  have hz1_ := hz0_.out
  have hown := own_empty w0 51 2
  rw [hz1_] at hown
  replace hown : (w0.alloc (Obj.cells #[] 51)).ownsRow (w.heap.size + 1) 51 2 (.slice (some ⟨w.heap.size + 1, 0, none⟩) 0 0) 0 [] := hown
  replace S0 := HO _ _ S0 (below1 w0 (Obj.cells #[] 51))
  have hsz : w.heap.size + 1 ≤ (w0.alloc (Obj.cells #[] 51)).heap.size := by simp; omega
  replace hown := Lib.hid hown
  replace hsz := Lib.hid hsz
  obtain ⟨⟨_, _⟩, _, _⟩ := id S0
  have HR2 : Hid (kernTo ps (floorL ps) (floorL ps).length = r) := HR
  have QF : Hid (∀ w hp, _) := Lib.hid fun w hp => FloorSpec.floorPoints A n cap w ps hl hn hp
  have QK : Hid (∀ x y w hp, _) := Lib.hid fun x y w hp => inKernel A n cap x y w ps hl hn hp
  have hle := floorL_le ps
  clear HR
  generalize floorL ps = l at *
  obtain ⟨m, hm⟩ : ∃ m, l.length = m := ⟨_, rfl⟩
  unfold GivesC at QF
  rw [hm] at QF hle HR2
  go_wp2_with fail
  generalize w0.alloc (Obj.cells #[] 51) = v0 at *
  refine (QF.out _ (S0.2.1.wide S0.2.2.size)).mono ?_
  rintro e w2 ⟨Al, cl, rfl, HL, hb_⟩
  have hD : Hid (∀ i j, (Value.slice (some ⟨w.heap.size + 1, 0, none⟩) 0 0).ownBlock = some i → (Value.slice Al m cl).ownBlock = some j → i ≠ j) := Lib.hid (fun i j h1 h2 => by
    have := (hown.out.lt i h1).2
    have := (HL.lt j h2).1
    omega)
  replace HL := Lib.hid (own_base HL (b' := w.heap.size) S0.2.2.size)
  replace S0 := HO _ _ S0 hb_
  replace hown := Lib.hid (own_below hown.out hb_)
  replace hsz := Lib.hid (Nat.le_trans hsz.out hb_.size)
  clear hb_ QF hl
  obtain ⟨⟨_, _⟩, _, _⟩ := id S0
  go_wp2_with fail
  go_loopw [3, 5] (fun v q wr => ∃ k : Nat, k ≤ m ∧ q = .int .i64 k ∧ wr.ownsRow (w.heap.size + 1) 51 2 v (kernTo ps l k).length (cellsP (kernTo ps l k)) ∧ wr.ownsRow w.heap.size 51 2 (.slice Al m cl) m (cellsP l) ∧ Hid (∀ i j, v.ownBlock = some i → (Value.slice Al m cl).ownBlock = some j → i ≠ j) ∧ w.heap.size + 1 ≤ wr.heap.size ∧ (Pts.BoxR wr (w.heap.size) (.slice A n cap) ∧ PtsAt wr w.heap.size A ps ∧ Below w.heap.size w wr))
    (fun _ q _ => m - (intOf q).toNat)
  case atStart => exact ⟨0, Nat.zero_le _, rfl, hown.out, HL.out, hD, hsz.out, S0⟩
  case round =>
    clear S0 hown HL hsz hD
    obtain ⟨k, hkm, rfl, hown, HL, hD, hsz, S0⟩ := hrel
    obtain ⟨⟨_, _⟩, _, _⟩ := id S0
    by_cases hlt : k < m
    · have hk1 : (k : Int) < (m : Int) := by omega
      have hk0 : (0 : Int) ≤ (k : Int) := by omega
      have hcl := kernTo_len ps l k
      have HS : Hid (kernTo ps l (k + 1) = if kernB ps (pt l k).1 (pt l k).2 then kernTo ps l k ++ [pt l k] else kernTo ps l k) := Lib.hid rfl
      generalize kernTo ps l k = l0 at *
      obtain ⟨mc, hmc⟩ : ∃ x, l0.length = x := ⟨_, rfl⟩
      rw [hmc] at hown hcl
      have p0 := pt_at (ps := l) (k := k) (by omega)
      obtain ⟨x, y, hx⟩ : ∃ x y, pt l k = (x, y) := ⟨_, _, rfl⟩
      rw [hx] at p0 HS
      obtain ⟨ad, eA, bA, pA⟩ := (pts_own HL).get p0
      subst eA
      obtain ⟨Ao, co, rfl⟩ := own_shape hown
      have Q : Hid (∀ w hp, _) := Lib.hid fun w hp => QK.out x y w hp
      obtain ⟨o, ho⟩ : ∃ o, kernB ps x y = o := ⟨_, rfl⟩
      rw [ho] at Q HS
      clear ho p0 hx
      have HO : ∀ W W' : World, (Pts.BoxR W (w.heap.size) (.slice A n cap) ∧ PtsAt W w.heap.size A ps ∧ PtAt W ad k x y ∧ W.ownsRow (w.heap.size + 1) 51 2 (.slice Ao mc co) mc (cellsP l0) ∧ W.ownsRow w.heap.size 51 2 (.slice (some ad) m cl) m (cellsP l) ∧ w.heap.size + 1 ≤ W.heap.size ∧ wr.heap.size ≤ W.heap.size ∧ Below w.heap.size w W) → Below W.heap.size W W' → (Pts.BoxR W' (w.heap.size) (.slice A n cap) ∧ PtsAt W' w.heap.size A ps ∧ PtAt W' ad k x y ∧ W'.ownsRow (w.heap.size + 1) 51 2 (.slice Ao mc co) mc (cellsP l0) ∧ W'.ownsRow w.heap.size 51 2 (.slice (some ad) m cl) m (cellsP l) ∧ w.heap.size + 1 ≤ W'.heap.size ∧ wr.heap.size ≤ W'.heap.size ∧ Below w.heap.size w W') := fun W W' ⟨h0, x0, x1, x2, x3, x4, x5, hb⟩ h => ⟨h0.later h, x0.later (h.mono hb.size), x1.later (Nat.lt_of_lt_of_le bA x5) h, own_below x2 h, own_below x3 h, Nat.le_trans x4 h.size, Nat.le_trans x5 h.size, hb.trans (h.mono hb.size)⟩
      replace S0 : Pts.BoxR wr (w.heap.size) (.slice A n cap) ∧ PtsAt wr w.heap.size A ps ∧ PtAt wr ad k x y ∧ wr.ownsRow (w.heap.size + 1) 51 2 (.slice Ao mc co) mc (cellsP l0) ∧ wr.ownsRow w.heap.size 51 2 (.slice (some ad) m cl) m (cellsP l) ∧ w.heap.size + 1 ≤ wr.heap.size ∧ wr.heap.size ≤ wr.heap.size ∧ Below w.heap.size w wr := ⟨S0.1, S0.2.1, pA, hown, HL, hsz, Nat.le_refl _, S0.2.2⟩
      clear pA hown HL hsz
      obtain ⟨⟨_, _⟩, _, ⟨_, _⟩, _, _, _, _, _⟩ := id S0
      go_wp2_with fail
      refine Settle.region (fun W => Pts.BoxR W (w.heap.size) (.slice A n cap) ∧ PtsAt W w.heap.size A ps ∧ PtAt W ad k x y ∧ W.ownsRow (w.heap.size + 1) 51 2 (.slice Ao mc co) mc (cellsP l0) ∧ W.ownsRow w.heap.size 51 2 (.slice (some ad) m cl) m (cellsP l) ∧ w.heap.size + 1 ≤ W.heap.size ∧ wr.heap.size ≤ W.heap.size ∧ Below w.heap.size w W) (by kernel_rfl) (by kernel_rfl) (by kernel_rfl) (by kernel_rfl) (HO _ _ S0 ((Below.refl _ _).drew)) ?_
      clear S0
      repeat (first
        | (refine Settle.Settles.off (by rfl) ?_; simp only [Act.put, List.setIfInBounds_toArray, List.set_cons_zero, List.set_cons_succ])
        | (refine Settle.Settles.quiet (v := ?_) (by rfl) ?_ ?_
           rotate_left
           · (intro W hS; obtain ⟨⟨_, _⟩, _, ⟨_, _⟩, _, _, _, _, _⟩ := hS; go_simp; with_reducible rfl)
           simp only [Act.put, List.setIfInBounds_toArray, List.set_cons_zero, List.set_cons_succ])
        | (refine Settle.Settles.call (v := ?_) (f := ?_) (args := ?_) (by rfl) ?_ ?_ ?_
           rotate_left 3
           · (intro W; go_simp; refine ⟨?_, ?_⟩ <;> with_reducible rfl)
           · (intro W hS; first | (go_at_call 41; (with_reducible refine (Q.out _ (hS.2.1.wide hS.2.2.2.2.2.2.2.size)).mono ?_); rintro e W1 ⟨rfl, hb⟩; refine ⟨?_, HO _ _ hS hb⟩; with_reducible rfl))
           simp only [Act.put, List.setIfInBounds_toArray, List.set_cons_zero, List.set_cons_succ]))
      refine Settle.Settles.nil ?_
      intro wr S0
      obtain ⟨⟨_, _⟩, _, ⟨_, _⟩, _, _, _, _, _⟩ := id S0
      have hown := S0.2.2.2.1
      have HL := S0.2.2.2.2.1
      have hsz := S0.2.2.2.2.2.1
      cases o
      · have HS2 : Hid (kernTo ps l (k + 1) = l0) := Lib.hid (by rw [HS.out]; rfl)
        replace hown := Lib.hid hown
        replace HL := Lib.hid HL
        clear HS
        go_wp2_with fail
        first
          | exact ⟨⟨k + 1, by omega, by go_num, by rw [HS2.out, hmc]; exact hown.out, HL.out, hD, hsz, S0.1, S0.2.1, S0.2.2.2.2.2.2.2⟩, by simp [intOf]; omega⟩
          | (go_roundw <;> first | exact ⟨k + 1, by omega, by go_num, by rw [HS2.out, hmc]; exact hown.out, HL.out, hD, hsz, S0.1, S0.2.1, S0.2.2.2.2.2.2.2⟩ | (simp [intOf]; omega))
      · have HS2 : Hid (kernTo ps l (k + 1) = l0 ++ [(x, y)]) := Lib.hid (by rw [HS.out]; rfl)
        clear HS Q
        go_wp2_with (at_builtin; refine wpList_append_lies _ rfl _ _ 26 rfl (w.heap.size + 1) 51 i0 (.agg #[.int .i64 0, .int .i64 0]) 2 16 Try.underlying26 hi hz0 hz1 hz2 rfl (by decide) _ _ _ rfl (hown.alloc _) ⟨_, 0, none⟩ 1 1 [.int .i64 x, .int .i64 y] rfl rfl ?c1 ?c2 (by decide) ?c3 ?c4 ?c5 _ rfl ?_)
        case c1 => (intro a u ha; match a, ha with | 0, ha => (simp at ha; subst ha; simp [Addr.add]) | 1, ha => (simp at ha; subst ha; simp [Addr.add]))
        case c2 => (intro u hu; simp at hu; rcases hu with rfl | rfl <;> rfl)
        case c3 => (unfold maxLen; omega)
        case c4 => omega
        case c5 => (simp; omega)
        intro g_ cap_ wa_ ho_ hg_ hgo_ hlt_
        have HN : Hid (wa_.ownsRow (w.heap.size + 1) 51 2 (.slice (some ⟨g_, 0, none⟩) (mc + 1) cap_) (kernTo ps l (k + 1)).length (cellsP (kernTo ps l (k + 1))) ∧ wa_.ownsRow w.heap.size 51 2 (.slice (some ad) m cl) m (cellsP l) ∧ Hid (∀ i j, (Value.slice (some ⟨g_, 0, none⟩) (mc + 1) cap_).ownBlock = some i → (Value.slice (some ad) m cl).ownBlock = some j → i ≠ j) ∧ w.heap.size + 1 ≤ wa_.heap.size ∧ (Pts.BoxR wa_ (w.heap.size) (.slice A n cap) ∧ PtsAt wa_ w.heap.size A ps ∧ Below w.heap.size w wa_)) := Lib.hid (by
          have hb0 := (below1 wr (Obj.cells #[.int .i64 x, .int .i64 y] 51)).mono hsz
          have hb1 := hb0.grown hg_ (by simp; omega) (fun g hg => (hown.lt g hg).1)
          have hc2 := kept_apart (own_below HL (below1 wr (Obj.cells #[.int .i64 x, .int .i64 y] 51))) hg_ (fun i j h1 h2 => (hD.out j i h2 h1).symm)
          refine ⟨by rw [HS2.out, cellsP_app, List.length_append, hmc]; exact ho_, hc2, Lib.hid (fun i j h1 h2 => ?_), Nat.le_trans hsz hb1.size, HO2 _ _ ⟨S0.1, S0.2.1, S0.2.2.2.2.2.2.2⟩ hb1⟩
          injection h1 with h1
          subst h1
          rcases hgo_ with h | h
          · exact hD.out _ j h h2
          · have := (HL.lt j h2).2
            try simp at h
            show g_ ≠ j
            omega)
        clear ho_ hg_ hgo_ hown HL S0 hD hlt_ HS2
        go_wp2_with fail
        first
          | exact ⟨⟨k + 1, by omega, by go_num, HN.out.1, HN.out.2.1, HN.out.2.2.1, HN.out.2.2.2.1, HN.out.2.2.2.2⟩, by simp [intOf]; omega⟩
          | (go_roundw <;> first | exact ⟨k + 1, by omega, by go_num, HN.out.1, HN.out.2.1, HN.out.2.2.1, HN.out.2.2.2.1, HN.out.2.2.2.2⟩ | (simp [intOf]; omega))
    · obtain rfl : m = k := by omega
      rw [HR2.out] at hown
      have hown2 := Lib.hid hown
      obtain ⟨A1, c1, rfl⟩ := own_shape hown
      clear hown HL HR2
      go_wp2_with fail
      go_ret
      exact ⟨A1, c1, rfl, own_base hown2.out (by omega), S0.2.2⟩

set_option maxRecDepth 100000 in
theorem isStar (A : Option Addr) (n cap : Nat) (w : World) (ps : List (Int × Int)) (hl : ps.length = n) (hn : n ≤ 1048576) (hp : PtsAt w w.heap.size A ps) :
    Calls Try.prog 46 #[.agg #[.slice A n cap]] w fun e w' => e = .returned (.bool (decide (0 < (kernL ps).length))) ∧ Below w.heap.size w w' := by
  have Q : Hid (∀ w hp, _) := Lib.hid fun w hp => kernelPoints A n cap w ps hl hn hp
  unfold GivesC at Q
  generalize kernL ps = l at *
  generalize cellsP l = cs at *
  generalize l.length = m at *
  clear hl
  go_enter Try.func46, Try.ntmps46
  go_wp2_with fail
  have X0 := Pts.boxR w (.slice A n cap) 29 (k := w.heap.size) (by simp)
  have b0 := PointOk.below1 w (Obj.cells #[.slice A n cap] 29)
  have HO : ∀ W W' : World, (Pts.BoxR W (w.heap.size) (.slice A n cap) ∧ PtsAt W w.heap.size A ps ∧ Below w.heap.size w W) → Below W.heap.size W W' → (Pts.BoxR W' (w.heap.size) (.slice A n cap) ∧ PtsAt W' w.heap.size A ps ∧ Below w.heap.size w W') := fun W W' ⟨h0, x0, hb⟩ h => ⟨h0.later h, x0.later (h.mono hb.size), hb.trans (h.mono hb.size)⟩
  have hz0_ : Hid (((w.alloc (Obj.cells #[.slice A n cap] 29))).heap.size = w.heap.size + 1) := Lib.hid (by simp)
  have Y0 : PtsAt ((w.alloc (Obj.cells #[.slice A n cap] 29))) w.heap.size A ps := hp.later b0
  generalize (w.alloc (Obj.cells #[.slice A n cap] 29)) = w0 at X0 Y0 b0 hz0_ ⊢
  have S0 := (⟨X0, Y0, b0⟩ : Pts.BoxR w0 (w.heap.size) (.slice A n cap) ∧ PtsAt w0 w.heap.size A ps ∧ Below w.heap.size w w0)
  clear X0 Y0 b0
  obtain ⟨⟨_, _⟩, _, _⟩ := id S0
  refine (Q.out _ (S0.2.1.wide S0.2.2.size)).mono ?_
  rintro e w2 ⟨A2, c2, rfl, _, hb_⟩
  replace S0 := HO _ _ S0 hb_
  clear hb_ Q
  go_wp2_with fail
  go_ret
  exact ⟨ret_bool (by first | rfl | (rw [Bool.eq_iff_iff]; simp)), S0.2.2⟩

end Go.Proofs.Ytkoogklakacphac.KernSpec

