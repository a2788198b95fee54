/-
  What the model's functions on kernels do, as contracts: what each answers; new memory alone is written.
-/
import Derived.Test.YtkoogklakacphacSeenSpec
import Derived.Test.YtkoogklakacphacKernMath
namespace Go.Proofs.Ytkoogklakacphac.KernSpec
open Go.RowKit Own PointMath WallMath RoomMath Pts Blk AreaMath PlaceMath FloorMath LineMath CutsMath SightMath KernMath
open PointOk (ret_bool ret_i64 below1 below2 below3)
open SightSpec (infoP cellsP_app pts_own)

set_option maxRecDepth 100000 in
set_option maxHeartbeats 3200000 in
theorem inKernel (A : Option Addr) (n cap : Nat) (ax ay : Int) (w : World) (ps : List (Int × Int)) (hl : ps.length = n) (hn : n ≤ 1048576) (hp : PtsAt w w.heap.size A ps) :
    Calls Try.prog 41 #[.agg #[.slice A n cap], .agg #[.int .i64 ax, .int .i64 ay]] w fun e w' => e = .returned (.bool (kernB ps ax ay)) ∧ Below w.heap.size w w' := by
  obtain ⟨r, hr⟩ : ∃ r, kernB ps ax ay = r := ⟨_, rfl⟩
  have HR := Lib.hid hr
  rw [hr]
  clear hr
  go_enter Try.func41, Try.ntmps41
  go_wp2_with fail
  have X0 := (Pts.boxR w (.slice A n cap) 29 (k := w.heap.size) (by simp)).alloc (Obj.cells #[.int .i64 ax, .int .i64 ay] 51)
  have X1 := PointOk.box1 (w.alloc (Obj.cells #[.slice A n cap] 29)) ax ay 51 (k := w.heap.size + 1) (by simp)
  have b0 := PointOk.below2 w (Obj.cells #[.slice A n cap] 29) (Obj.cells #[.int .i64 ax, .int .i64 ay] 51)
  have HO : ∀ W W' : World, (Pts.BoxR W (w.heap.size) (.slice A n cap) ∧ PointOk.Box W (w.heap.size + 1) ax ay ∧ PtsAt W w.heap.size A ps ∧ Below w.heap.size w W) → Below W.heap.size W W' → (Pts.BoxR W' (w.heap.size) (.slice A n cap) ∧ PointOk.Box W' (w.heap.size + 1) ax ay ∧ PtsAt W' w.heap.size A ps ∧ Below w.heap.size w W') := fun W W' ⟨h0, h1, x0, hb⟩ h => ⟨h0.later h, h1.later h, x0.later (h.mono hb.size), hb.trans (h.mono hb.size)⟩
  have hz0_ : Hid ((((w.alloc (Obj.cells #[.slice A n cap] 29)).alloc (Obj.cells #[.int .i64 ax, .int .i64 ay] 51))).heap.size = w.heap.size + 1 + 1) := Lib.hid (by simp)
  have Y0 : PtsAt (((w.alloc (Obj.cells #[.slice A n cap] 29)).alloc (Obj.cells #[.int .i64 ax, .int .i64 ay] 51))) w.heap.size A ps := hp.later b0
  generalize ((w.alloc (Obj.cells #[.slice A n cap] 29)).alloc (Obj.cells #[.int .i64 ax, .int .i64 ay] 51)) = w0 at X0 X1 Y0 b0 hz0_ ⊢
  have S0 := (⟨X0, X1, Y0, b0⟩ : Pts.BoxR w0 (w.heap.size) (.slice A n cap) ∧ PointOk.Box w0 (w.heap.size + 1) ax ay ∧ PtsAt w0 w.heap.size A ps ∧ Below w.heap.size w w0)
  clear X0 X1 Y0 b0
  obtain ⟨⟨_, _⟩, ⟨_, _⟩, _, _⟩ := id S0
  refine (PlaceSpec.isIn A n cap ax ay _ ps hl hn (S0.2.2.1.wide S0.2.2.2.size)).mono ?_
  rintro e w1 ⟨rfl, hb_⟩
  replace S0 := HO _ _ S0 hb_
  clear hb_
  obtain ⟨⟨_, _⟩, ⟨_, _⟩, _, _⟩ := id S0
  cases ha : inB ps ax ay
  · have E : Hid (r = false) := Lib.hid (by rw [← HR.out]; unfold kernB; rw [ha]; rfl)
    clear hl HR
    go_wp2_with fail
    go_ret
    exact ⟨ret_bool E.out.symm, S0.2.2.2⟩
  have hb := inB_parts ha
  have hy := roomB_yes hb.1
  have hok := Lib.hid hy.2.1
  have hq := okP_sm hb.2
  have HE : Hid (kernM ps (ax, ay) = r) := Lib.hid (by rw [← HR.out]; unfold kernB; rw [ha]; rfl)
  have hn0 : ¬ ((n : Int) = 0) := by omega
  have hn1 : ¬ (n = 0) := by omega
  clear HR ha hb hy
  go_wp2_with fail
  go_loopw [5] (fun q wr => ∃ k : Nat, k ≤ n ∧ q = .int .i64 k ∧ Hid (∀ j, j < k → leftK ps (ax, ay) j = true) ∧ (Pts.BoxR wr (w.heap.size) (.slice A n cap) ∧ PointOk.Box wr (w.heap.size + 1) ax ay ∧ PtsAt wr w.heap.size A ps ∧ Below w.heap.size w wr))
    (fun q _ => n - (intOf q).toNat)
  case atStart => exact ⟨0, Nat.zero_le _, rfl, Lib.hid (fun t ht => absurd ht (by omega)), S0⟩
  case round =>
    clear S0
    obtain ⟨k, hk, rfl, hno, S0⟩ := hrel
    obtain ⟨⟨_, _⟩, ⟨_, _⟩, _, _⟩ := id S0
    by_cases hkn : k < n
    · have hm : (k + 1) % n < n := Nat.mod_lt _ (by omega)
      have p0 := pt_at (ps := ps) (k := k) (by omega)
      have p1 := pt_at (ps := ps) (k := (k + 1) % n) (by omega)
      have s0 := okP_sm (okAll_at hok.out (k := k) (by omega))
      have s1 := okP_sm (okAll_at hok.out (k := (k + 1) % n) (by omega))
      have HK : Hid (leftK ps (ax, ay) k = decide (0 ≤ turnP (pt ps k) (pt ps ((k + 1) % n)) (ax, ay))) := Lib.hid (by unfold leftK; rw [hl])
      have e1 := succ_emod n k
      have e1t : ((k : Int) + 1).tmod (n : Int) = (((k + 1) % n : Nat) : Int) := by rw [Int.tmod_eq_emod_of_nonneg (by omega)]; exact e1
      generalize (k + 1) % n = m at *
      obtain ⟨cx, cy, hc⟩ : ∃ x y, pt ps k = (x, y) := ⟨_, _, rfl⟩
      obtain ⟨dx, dy, hd⟩ : ∃ x y, pt ps m = (x, y) := ⟨_, _, rfl⟩
      rw [hc] at p0 s0 HK
      rw [hd] at p1 s1 HK
      obtain ⟨ad, eA, bA, pA⟩ := S0.2.2.1.get p0
      obtain ⟨ad2, eA2, _, pB⟩ := S0.2.2.1.get p1
      rw [eA] at eA2
      injection eA2 with eA2
      subst eA2
      subst eA
      have hk1 : (k : Int) < (n : Int) := by omega
      have hk0 : (0 : Int) ≤ (k : Int) := by omega
      have hm1 : (m : Int) < (n : Int) := by omega
      have hm0 : (0 : Int) ≤ (m : Int) := by omega
      have uk : IntKind.i64.wrap ((k : Int) + 1) = (k : Int) + 1 := IntWalk.i64_in _ (by omega)
      obtain ⟨t, ht⟩ : ∃ t, turnI cx cy dx dy ax ay = t := ⟨_, rfl⟩
      have QT : Hid (∀ w, _) := Lib.hid fun w => PointSpec.l02Turn cx cy dx dy ax ay s0 s1 hq w
      rw [ht] at QT
      replace HK : Hid (leftK ps (ax, ay) k = decide (0 ≤ t)) := Lib.hid (by rw [HK.out, ← ht]; rfl)
      have HO : ∀ W W' : World, (Pts.BoxR W (w.heap.size) (.slice (some ad) n cap) ∧ PointOk.Box W (w.heap.size + 1) ax ay ∧ PtsAt W w.heap.size (some ad) ps ∧ PtAt W ad k cx cy ∧ PtAt W ad m dx dy ∧ Below w.heap.size w W) → Below W.heap.size W W' → (Pts.BoxR W' (w.heap.size) (.slice (some ad) n cap) ∧ PointOk.Box W' (w.heap.size + 1) ax ay ∧ PtsAt W' w.heap.size (some ad) ps ∧ PtAt W' ad k cx cy ∧ PtAt W' ad m dx dy ∧ Below w.heap.size w W') := fun W W' ⟨h0, h1, x0, x1, x2, hb⟩ h => ⟨h0.later h, h1.later h, x0.later (h.mono hb.size), x1.later bA (h.mono hb.size), x2.later bA (h.mono hb.size), hb.trans (h.mono hb.size)⟩
      replace S0 : Pts.BoxR wr (w.heap.size) (.slice (some ad) n cap) ∧ PointOk.Box wr (w.heap.size + 1) ax ay ∧ PtsAt wr w.heap.size (some ad) ps ∧ PtAt wr ad k cx cy ∧ PtAt wr ad m dx dy ∧ Below w.heap.size w wr := ⟨S0.1, S0.2.1, S0.2.2.1, pA, pB, S0.2.2.2⟩
      clear pA pB p0 p1 hc hd ht s0 s1
      obtain ⟨⟨_, _⟩, ⟨_, _⟩, _, ⟨_, _⟩, ⟨_, _⟩, _⟩ := id S0
      by_cases h0 : t < 0
      · have E : Hid (r = false) := Lib.hid (by rw [← HE.out]; exact kernM_not (k := k) (by omega) (by rw [HK.out]; exact decide_eq_false (by omega)))
        clear HE hl HK hno hok hq
        go_wp2_with fail
        refine Settle.region (fun W => Pts.BoxR W (w.heap.size) (.slice (some ad) n cap) ∧ PointOk.Box W (w.heap.size + 1) ax ay ∧ PtsAt W w.heap.size (some ad) ps ∧ PtAt W ad k cx cy ∧ PtAt W ad m dx dy ∧ Below w.heap.size w W) (by kernel_rfl) (by kernel_rfl) (by kernel_rfl) (by kernel_rfl) (HO _ _ S0 ((Below.refl _ _).drew)) ?_
        clear S0
        repeat (first
          | (refine Settle.Settles.off (by rfl) ?_; simp only [Act.put, List.setIfInBounds_toArray, List.set_cons_zero, List.set_cons_succ])
          | (refine Settle.Settles.quiet (v := ?_) (by rfl) ?_ ?_
             rotate_left
             · (intro W hS; obtain ⟨⟨_, _⟩, ⟨_, _⟩, _, ⟨_, _⟩, ⟨_, _⟩, _⟩ := hS; go_simp; with_reducible rfl)
             simp only [Act.put, List.setIfInBounds_toArray, List.set_cons_zero, List.set_cons_succ])
          | (refine Settle.Settles.call (v := ?_) (f := ?_) (args := ?_) (by rfl) ?_ ?_ ?_
             rotate_left 3
             · (intro W; go_simp; refine ⟨?_, ?_⟩ <;> with_reducible rfl)
             · (intro W hS; first | (go_at_call 74; (with_reducible refine (QT.out _).mono ?_); rintro e W1 ⟨rfl, hb⟩; refine ⟨?_, HO _ _ hS hb⟩; with_reducible rfl))
             simp only [Act.put, List.setIfInBounds_toArray, List.set_cons_zero, List.set_cons_succ]))
        refine Settle.Settles.nil ?_
        intro wr S0
        obtain ⟨⟨_, _⟩, ⟨_, _⟩, _, ⟨_, _⟩, ⟨_, _⟩, _⟩ := id S0
        go_wp2_with fail
        go_ret
        exact ⟨ret_bool E.out.symm, S0.2.2.2.2.2⟩
      · have hno2 : Hid (∀ j, j < k + 1 → leftK ps (ax, ay) j = true) := Lib.hid (by
          intro j hj
          rcases Nat.lt_or_ge j k with h | h
          · exact hno.out j h
          · obtain rfl : j = k := by omega
            rw [HK.out]; exact decide_eq_true (by omega))
        clear HE hl HK hno hok hq
        go_wp2_with fail
        refine Settle.region (fun W => Pts.BoxR W (w.heap.size) (.slice (some ad) n cap) ∧ PointOk.Box W (w.heap.size + 1) ax ay ∧ PtsAt W w.heap.size (some ad) ps ∧ PtAt W ad k cx cy ∧ PtAt W ad m dx dy ∧ Below w.heap.size w W) (by kernel_rfl) (by kernel_rfl) (by kernel_rfl) (by kernel_rfl) (HO _ _ S0 ((Below.refl _ _).drew)) ?_
        clear S0
        repeat (first
          | (refine Settle.Settles.off (by rfl) ?_; simp only [Act.put, List.setIfInBounds_toArray, List.set_cons_zero, List.set_cons_succ])
          | (refine Settle.Settles.quiet (v := ?_) (by rfl) ?_ ?_
             rotate_left
             · (intro W hS; obtain ⟨⟨_, _⟩, ⟨_, _⟩, _, ⟨_, _⟩, ⟨_, _⟩, _⟩ := hS; go_simp; with_reducible rfl)
             simp only [Act.put, List.setIfInBounds_toArray, List.set_cons_zero, List.set_cons_succ])
          | (refine Settle.Settles.call (v := ?_) (f := ?_) (args := ?_) (by rfl) ?_ ?_ ?_
             rotate_left 3
             · (intro W; go_simp; refine ⟨?_, ?_⟩ <;> with_reducible rfl)
             · (intro W hS; first | (go_at_call 74; (with_reducible refine (QT.out _).mono ?_); rintro e W1 ⟨rfl, hb⟩; refine ⟨?_, HO _ _ hS hb⟩; with_reducible rfl))
             simp only [Act.put, List.setIfInBounds_toArray, List.set_cons_zero, List.set_cons_succ]))
        refine Settle.Settles.nil ?_
        intro wr S0
        obtain ⟨⟨_, _⟩, ⟨_, _⟩, _, ⟨_, _⟩, ⟨_, _⟩, _⟩ := id S0
        go_wp2_with fail
        have S1 := (⟨S0.1, S0.2.1, S0.2.2.1, S0.2.2.2.2.2⟩ : BoxR wr w.heap.size (.slice (some ad) n cap) ∧ PointOk.Box wr (w.heap.size + 1) ax ay ∧ PtsAt wr w.heap.size (some ad) ps ∧ Below w.heap.size w wr)
        first
          | exact ⟨⟨k + 1, by omega, by go_num, hno2, S1⟩, by simp [intOf]; omega⟩
          | (go_roundw <;> first | exact ⟨k + 1, by omega, by go_num, hno2, S1⟩ | (simp [intOf]; omega))
    · obtain rfl : n = k := by omega
      have E : Hid (r = true) := Lib.hid (by rw [← HE.out]; exact kernM_of (by rw [hl]; exact hno.out))
      clear hl HE hno
      go_wp2_with fail
      go_ret
      exact ⟨ret_bool E.out.symm, S0.2.2.2⟩

set_option maxRecDepth 100000 in
set_option maxHeartbeats 1600000 in
theorem seesCorners (A : Option Addr) (n cap : Nat) (ax ay : Int) (w : World) (ps : List (Int × Int)) (hl : ps.length = n) (hn : n ≤ 1048576) (hp : PtsAt w w.heap.size A ps) :
    Calls Try.prog 48 #[.agg #[.slice A n cap], .agg #[.int .i64 ax, .int .i64 ay]] w fun e w' => e = .returned (.bool (seesCornB ps ax ay)) ∧ Below w.heap.size w w' := by
  obtain ⟨r, hr⟩ : ∃ r, seesCornB ps ax ay = r := ⟨_, rfl⟩
  have HR := Lib.hid hr
  rw [hr]
  clear hr
  replace HR : Hid ((inB ps ax ay && decide ((cornTo ps (ax, ay) n).length = n)) = r) := Lib.hid (by rw [← HR.out, ← hl]; rfl)
  go_enter Try.func48, Try.ntmps48
  go_wp2_with fail
  have X0 := (Pts.boxR w (.slice A n cap) 29 (k := w.heap.size) (by simp)).alloc (Obj.cells #[.int .i64 ax, .int .i64 ay] 51)
  have X1 := PointOk.box1 (w.alloc (Obj.cells #[.slice A n cap] 29)) ax ay 51 (k := w.heap.size + 1) (by simp)
  have b0 := PointOk.below2 w (Obj.cells #[.slice A n cap] 29) (Obj.cells #[.int .i64 ax, .int .i64 ay] 51)
  have HO : ∀ W W' : World, (Pts.BoxR W (w.heap.size) (.slice A n cap) ∧ PointOk.Box W (w.heap.size + 1) ax ay ∧ PtsAt W w.heap.size A ps ∧ Below w.heap.size w W) → Below W.heap.size W W' → (Pts.BoxR W' (w.heap.size) (.slice A n cap) ∧ PointOk.Box W' (w.heap.size + 1) ax ay ∧ PtsAt W' w.heap.size A ps ∧ Below w.heap.size w W') := fun W W' ⟨h0, h1, x0, hb⟩ h => ⟨h0.later h, h1.later h, x0.later (h.mono hb.size), hb.trans (h.mono hb.size)⟩
  have hz0_ : Hid ((((w.alloc (Obj.cells #[.slice A n cap] 29)).alloc (Obj.cells #[.int .i64 ax, .int .i64 ay] 51))).heap.size = w.heap.size + 1 + 1) := Lib.hid (by simp)
  have Y0 : PtsAt (((w.alloc (Obj.cells #[.slice A n cap] 29)).alloc (Obj.cells #[.int .i64 ax, .int .i64 ay] 51))) w.heap.size A ps := hp.later b0
  generalize ((w.alloc (Obj.cells #[.slice A n cap] 29)).alloc (Obj.cells #[.int .i64 ax, .int .i64 ay] 51)) = w0 at X0 X1 Y0 b0 hz0_ ⊢
  have S0 := (⟨X0, X1, Y0, b0⟩ : Pts.BoxR w0 (w.heap.size) (.slice A n cap) ∧ PointOk.Box w0 (w.heap.size + 1) ax ay ∧ PtsAt w0 w.heap.size A ps ∧ Below w.heap.size w w0)
  clear X0 X1 Y0 b0
  obtain ⟨⟨_, _⟩, ⟨_, _⟩, _, _⟩ := id S0
  have QI : Hid (∀ w hp, _) := Lib.hid fun w hp => PlaceSpec.isIn A n cap ax ay w ps hl hn hp
  have QC : Hid (∀ w hp, _) := Lib.hid fun w hp => SeenSpec.cornersSeen A n cap ax ay w ps hl hn hp
  cases ha : inB ps ax ay
  · have E : Hid (r = false) := Lib.hid (by rw [← HR.out, ha]; rfl)
    rw [ha] at QI
    clear hl HR ha QC
    go_wp2_with fail
    refine Settle.region (fun W => Pts.BoxR W (w.heap.size) (.slice A n cap) ∧ PointOk.Box W (w.heap.size + 1) ax ay ∧ PtsAt W w.heap.size A ps ∧ Below w.heap.size w W) (by kernel_rfl) (by kernel_rfl) (by kernel_rfl) (by kernel_rfl) (HO _ _ S0 ((Below.refl _ _).drew)) ?_
    clear S0
    repeat (first
      | (refine Settle.Settles.off (by rfl) ?_; simp only [Act.put, List.setIfInBounds_toArray, List.set_cons_zero, List.set_cons_succ])
      | (refine Settle.Settles.quiet (v := ?_) (by rfl) ?_ ?_
         rotate_left
         · (intro W hS; obtain ⟨⟨_, _⟩, ⟨_, _⟩, _, _⟩ := hS; go_simp; with_reducible rfl)
         simp only [Act.put, List.setIfInBounds_toArray, List.set_cons_zero, List.set_cons_succ])
      | (refine Settle.Settles.call (v := ?_) (f := ?_) (args := ?_) (by rfl) ?_ ?_ ?_
         rotate_left 3
         · (intro W; go_simp; refine ⟨?_, ?_⟩ <;> with_reducible rfl)
         · (intro W hS; first | (go_at_call 73; (with_reducible refine (QI.out _ (hS.2.2.1.wide hS.2.2.2.size)).mono ?_); rintro e W1 ⟨rfl, hb⟩; refine ⟨?_, HO _ _ hS hb⟩; with_reducible rfl))
         simp only [Act.put, List.setIfInBounds_toArray, List.set_cons_zero, List.set_cons_succ]))
    refine Settle.Settles.nil ?_
    intro wr S0
    obtain ⟨⟨_, _⟩, ⟨_, _⟩, _, _⟩ := id S0
    go_wp2_with fail
    go_ret
    exact ⟨ret_bool E.out.symm, S0.2.2.2⟩
  have HC : Hid (cornL ps ax ay = cornTo ps (ax, ay) n) := Lib.hid (by unfold cornL; rw [ha, hl]; rfl)
  rw [HC.out] at QC
  have E : Hid (decide ((cornTo ps (ax, ay) n).length = n) = r) := Lib.hid (by rw [← HR.out, ha]; rfl)
  rw [ha] at QI
  generalize cornTo ps (ax, ay) n = l at *
  clear hl HR ha HC
  go_wp2_with fail
  have S0_ := HO _ _ S0 ((Below.refl _ _).drew)
  have HS0_ : w0.drew.cell? ⟨w.heap.size, 0, none⟩ = some (.slice A n cap) ∧ w0.drew.cell? ⟨w.heap.size + 1, 0, none⟩ = some (.int .i64 ax) ∧ w0.drew.cell? ⟨w.heap.size + 1, 1, none⟩ = some (.int .i64 ay) := ⟨S0_.1.1, S0_.2.1.1, S0_.2.1.2⟩
  refine wp_region_held_drew (S := fun W => W.cell? ⟨w.heap.size, 0, none⟩ = some (.slice A n cap) ∧ W.cell? ⟨w.heap.size + 1, 0, none⟩ = some (.int .i64 ax) ∧ W.cell? ⟨w.heap.size + 1, 1, none⟩ = some (.int .i64 ay)) (by kernel_rfl) HS0_ (fun hHeld => ?_)
  refine wpAnyH_take (i := 0) (oi := ⟨some 5, _, _, _, _, _⟩) (v := ?_) rfl (by kernel_rfl) (by kernel_rfl) (by kernel_rfl) (fun _ _ _ h => h) (Or.inl ⟨by rfl, ?_⟩) (by assumption) ?_
  rotate_left 1
  · (intro w hSw; (try dsimp only at hSw); go_simp; try with_reducible rfl)
  try simp only [Act.put, List.setIfInBounds_toArray, List.set_cons_zero, List.set_cons_succ]
  refine wpAnyH_take (i := 1) (oi := ⟨some 6, _, _, _, _, _⟩) (v := ?_) rfl (by kernel_rfl) (by kernel_rfl) (by kernel_rfl) (fun _ _ _ h => h) (Or.inl ⟨by rfl, ?_⟩) (by assumption) ?_
  rotate_left 1
  · (intro w hSw; (try dsimp only at hSw); go_simp; try with_reducible rfl)
  try simp only [Act.put, List.setIfInBounds_toArray, List.set_cons_zero, List.set_cons_succ]
  refine wpAnyH_ready (rs := [2]) (by kernel_rfl) (by simp) ?_
  refine AllReadyH.cons (o := ⟨some 7, _, _, _, _, _⟩) rfl (fun K hK => ?_) ?_
  rotate_left 1
  · exact AllReadyH.nil
  go_simp
  go_at_call 73; refine (QI.out _ (S0_.2.2.1.wide S0_.2.2.2.size)).mono ?_; rintro e w3 ⟨rfl, hb2_⟩
  have S3_ := HO _ _ S0_ hb2_
  go_wp2_with fail
  refine hK.out _ _ ⟨S3_.1.1, S3_.2.1.1, S3_.2.1.2⟩ (fun hHeld => ?_)
  clear hK K
  refine wpAnyH_take (i := 3) (oi := ⟨some 8, _, _, _, _, _⟩) (v := ?_) rfl (by kernel_rfl) (by kernel_rfl) (by kernel_rfl) (fun _ _ _ h => h) (Or.inl ⟨by rfl, ?_⟩) (by assumption) ?_
  rotate_left 1
  · (intro w hSw; (try dsimp only at hSw); go_simp; try with_reducible rfl)
  try simp only [Act.put, List.setIfInBounds_toArray, List.set_cons_zero, List.set_cons_succ]
  refine wpAnyH_take (i := 4) (oi := ⟨some 9, _, _, _, _, _⟩) (v := ?_) rfl (by kernel_rfl) (by kernel_rfl) (by kernel_rfl) (fun _ _ _ h => h) (Or.inl ⟨by rfl, ?_⟩) (by assumption) ?_
  rotate_left 1
  · (intro w hSw; (try dsimp only at hSw); go_simp; try with_reducible rfl)
  try simp only [Act.put, List.setIfInBounds_toArray, List.set_cons_zero, List.set_cons_succ]
  refine wpAnyH_take (i := 5) (oi := ⟨some 10, _, _, _, _, _⟩) (v := ?_) rfl (by kernel_rfl) (by kernel_rfl) (by kernel_rfl) (fun _ _ _ h => h) (Or.inl ⟨by rfl, ?_⟩) (by assumption) ?_
  rotate_left 1
  · (intro w hSw; (try dsimp only at hSw); go_simp; try with_reducible rfl)
  try simp only [Act.put, List.setIfInBounds_toArray, List.set_cons_zero, List.set_cons_succ]
  refine wpAnyH_take (i := 8) (oi := ⟨some 13, _, _, _, _, _⟩) (v := ?_) rfl (by kernel_rfl) (by kernel_rfl) (by kernel_rfl) (fun _ _ _ h => h) (Or.inl ⟨by rfl, ?_⟩) (by assumption) ?_
  rotate_left 1
  · (intro w hSw; (try dsimp only at hSw); go_simp; try with_reducible rfl)
  try simp only [Act.put, List.setIfInBounds_toArray, List.set_cons_zero, List.set_cons_succ]
  refine wpAnyH_take (i := 9) (oi := ⟨some 14, _, _, _, _, _⟩) (v := ?_) rfl (by kernel_rfl) (by kernel_rfl) (by kernel_rfl) (fun _ _ _ h => h) (Or.inl ⟨by rfl, ?_⟩) (by assumption) ?_
  rotate_left 1
  · (intro w hSw; (try dsimp only at hSw); go_simp; try with_reducible rfl)
  try simp only [Act.put, List.setIfInBounds_toArray, List.set_cons_zero, List.set_cons_succ]
  refine wpAnyH_take (i := 10) (oi := ⟨some 15, _, _, _, _, _⟩) (v := ?_) rfl (by kernel_rfl) (by kernel_rfl) (by kernel_rfl) (fun _ _ _ h => h) (Or.inl ⟨by rfl, ?_⟩) (by assumption) ?_
  rotate_left 1
  · (intro w hSw; (try dsimp only at hSw); go_simp; try with_reducible rfl)
  try simp only [Act.put, List.setIfInBounds_toArray, List.set_cons_zero, List.set_cons_succ]
  refine wpAnyH_ready (rs := [6]) (by kernel_rfl) (by simp) ?_
  refine AllReadyH.cons (o := ⟨some 11, _, _, _, _, _⟩) rfl (fun K hK => ?_) ?_
  rotate_left 1
  · exact AllReadyH.nil
  go_simp
  go_at_call 77; refine (QC.out _ (S3_.2.2.1.wide S3_.2.2.2.size)).mono ?_; rintro e w4 ⟨A2, c2, rfl, _, hb3_⟩
  have S4_ := HO _ _ S3_ hb3_
  go_wp2_with fail
  refine hK.out _ _ ⟨S4_.1.1, S4_.2.1.1, S4_.2.1.2⟩ (fun hHeld => ?_)
  clear hK K
  refine wpAnyH_take (i := 7) (oi := ⟨some 12, _, _, _, _, _⟩) (v := ?_) rfl (by kernel_rfl) (by kernel_rfl) (by kernel_rfl) (fun _ _ _ h => h) (Or.inl ⟨by rfl, ?_⟩) (by assumption) ?_
  rotate_left 1
  · (intro w hSw; (try dsimp only at hSw); go_simp; try with_reducible rfl)
  try simp only [Act.put, List.setIfInBounds_toArray, List.set_cons_zero, List.set_cons_succ]
  refine wpAnyH_take (i := 11) (oi := ⟨some 16, _, _, _, _, _⟩) (v := ?_) rfl (by kernel_rfl) (by kernel_rfl) (by kernel_rfl) (fun _ _ _ h => h) (Or.inl ⟨by rfl, ?_⟩) (by assumption) ?_
  rotate_left 1
  · (intro w hSw; (try dsimp only at hSw); go_simp; try with_reducible rfl)
  try simp only [Act.put, List.setIfInBounds_toArray, List.set_cons_zero, List.set_cons_succ]
  refine wpAnyH_take (i := 12) (oi := ⟨some 17, _, _, _, _, _⟩) (v := ?_) rfl (by kernel_rfl) (by kernel_rfl) (by kernel_rfl) (fun _ _ _ h => h) (Or.inl ⟨by rfl, ?_⟩) (by assumption) ?_
  rotate_left 1
  · (intro w hSw; (try dsimp only at hSw); go_simp; try with_reducible rfl)
  try simp only [Act.put, List.setIfInBounds_toArray, List.set_cons_zero, List.set_cons_succ]
  refine wpAnyH_take (i := 13) (oi := ⟨some 4, _, _, _, _, _⟩) (v := ?_) rfl (by kernel_rfl) (by kernel_rfl) (by kernel_rfl) (fun _ _ _ h => h) (Or.inl ⟨by rfl, ?_⟩) (by assumption) ?_
  rotate_left 1
  · (intro w hSw; (try dsimp only at hSw); go_simp; try with_reducible rfl)
  try simp only [Act.put, List.setIfInBounds_toArray, List.set_cons_zero, List.set_cons_succ]
  refine wpAnyH_done (by kernel_rfl) ?_ _
  go_wp2_with fail
  go_ret
  exact ⟨ret_bool (by rw [← E.out, Bool.eq_iff_iff]; simp; omega), S4_.2.2.2⟩

end Go.Proofs.Ytkoogklakacphac.KernSpec

