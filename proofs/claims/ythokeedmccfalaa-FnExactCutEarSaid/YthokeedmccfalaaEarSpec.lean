/-
  What the model's functions on diagonals and ears do, as contracts: what each answers; new memory alone is written.
-/
import Derived.Test.YthokeedmccfalaaDiagSpec
import Derived.Test.YthokeedmccfalaaEarMath
namespace Go.Proofs.Ythokeedmccfalaa.EarSpec
open Go.RowKit Own PointMath WallMath RoomMath Pts Blk AreaMath PlaceMath FloorMath LineMath CutsMath SightMath DiagMath EarMath
open PointOk (ret_bool ret_i64 below1 below2 below3)

theorem infoI : (Try.prog.info? 3).map (fun i => (i.zero, i.size, i.bytes)) = some (some (.int .i64 0), 1, 8) := by kernel_rfl

set_option maxRecDepth 100000 in
set_option maxHeartbeats 1600000 in
theorem isDiagonal (A : Option Addr) (n cap : Nat) (i k : Int) (w : World) (ps : List (Int × Int)) (hl : ps.length = n) (hn : n ≤ 1048576) (hp : PtsAt w w.heap.size A ps) :
    Calls Try.prog 87 #[.agg #[.slice A n cap], .int .i64 i, .int .i64 k] w fun e w' => e = .returned (.bool (isDiagB ps i k)) ∧ Below w.heap.size w w' := by
  obtain ⟨r, hr⟩ : ∃ r, isDiagB ps i k = r := ⟨_, rfl⟩
  have HR := Lib.hid hr
  rw [hr]
  clear hr
  go_enter Try.func87, Try.ntmps87
  go_wp2_with fail
  have X0 := Pts.boxR w (.slice A n cap) 37 (k := w.heap.size) (by simp)
  have b0 := PointOk.below1 w (Obj.cells #[.slice A n cap] 37)
  have HO : ∀ W W' : World, (Pts.BoxR W (w.heap.size) (.slice A n cap) ∧ PtsAt W w.heap.size A ps ∧ Below w.heap.size w W) → Below W.heap.size W W' → (Pts.BoxR W' (w.heap.size) (.slice A n cap) ∧ PtsAt W' w.heap.size A ps ∧ Below w.heap.size w W') := fun W W' ⟨h0, x0, hb⟩ h => ⟨h0.later h, x0.later (h.mono hb.size), hb.trans (h.mono hb.size)⟩
  have hz0_ : Hid (((w.alloc (Obj.cells #[.slice A n cap] 37))).heap.size = w.heap.size + 1) := Lib.hid (by simp)
  have Y0 : PtsAt ((w.alloc (Obj.cells #[.slice A n cap] 37))) w.heap.size A ps := hp.later b0
  generalize (w.alloc (Obj.cells #[.slice A n cap] 37)) = w0 at X0 Y0 b0 hz0_ ⊢
  have S0 := (⟨X0, Y0, b0⟩ : Pts.BoxR w0 (w.heap.size) (.slice A n cap) ∧ PtsAt w0 w.heap.size A ps ∧ Below w.heap.size w w0)
  clear X0 Y0 b0
  obtain ⟨⟨_, _⟩, _, _⟩ := id S0
  have u0 : IntKind.i64.wrap ((n : Int) - 1) = (n : Int) - 1 := IntWalk.i64_in _ (by omega)
  have HE : Hid (r = (roomB ps && decide (0 ≤ i ∧ i ≤ (n : Int) - 1) && decide (0 ≤ k ∧ k ≤ (n : Int) - 1) && diagM ps i.toNat k.toNat)) := Lib.hid (by rw [← HR.out]; exact isDiagB_le hl)
  replace HR := HE
  clear HE
  refine (RoomOkSpec.roomOk A n cap _ ps hl hn (S0.2.1.wide S0.2.2.size)).mono ?_
  rintro e w1 ⟨rfl, hb_⟩
  replace S0 := HO _ _ S0 hb_
  clear hb_
  obtain ⟨⟨_, _⟩, _, _⟩ := id S0
  cases hc0_ : roomB ps
  · have E : Hid (r = false) := Lib.hid (by rw [HR.out, hc0_]; simp)
    clear hl HR
    go_wp2_with fail
    go_ret
    exact ⟨ret_bool E.out.symm, S0.2.2⟩
  go_wp2_with fail
  refine (PointOk.l01In i 0 ((n : Int) - 1) _).mono ?_
  rintro e w_ ⟨rfl, rfl⟩
  cases hc1_ : decide (0 ≤ i ∧ i ≤ (n : Int) - 1)
  · have E : Hid (r = false) := Lib.hid (by rw [HR.out, hc1_]; simp)
    clear hl HR
    go_wp2_with fail
    go_ret
    exact ⟨ret_bool E.out.symm, S0.2.2⟩
  go_wp2_with fail
  refine (PointOk.l01In k 0 ((n : Int) - 1) _).mono ?_
  rintro e w_ ⟨rfl, rfl⟩
  cases hc2_ : decide (0 ≤ k ∧ k ≤ (n : Int) - 1)
  · have E : Hid (r = false) := Lib.hid (by rw [HR.out, hc2_]; simp)
    clear hl HR
    go_wp2_with fail
    go_ret
    exact ⟨ret_bool E.out.symm, S0.2.2⟩
  have hi := of_decide_eq_true hc1_
  have hk := of_decide_eq_true hc2_
  obtain ⟨ii, rfl⟩ := Int.eq_ofNat_of_zero_le hi.1
  obtain ⟨kk, rfl⟩ := Int.eq_ofNat_of_zero_le hk.1
  have E : Hid (diagM ps ii kk = r) := Lib.hid (by rw [HR.out, hc0_, hc1_, hc2_]; rfl)
  have Q : Hid (∀ w hp, _) := Lib.hid fun w hp => DiagSpec.diag A n cap ii kk w ps hl hc0_ (by omega) (by omega) hp
  rw [E.out] at Q
  clear hl HR hc0_ hc1_ hc2_ E hi hk
  go_wp2_with fail
  refine (Q.out _ (S0.2.1.wide S0.2.2.size)).mono ?_
  rintro e w4 ⟨rfl, hb_⟩
  replace S0 := HO _ _ S0 hb_
  clear hb_
  obtain ⟨⟨_, _⟩, _, _⟩ := id S0
  go_wp2_with fail
  go_ret
  exact ⟨rfl, S0.2.2⟩

set_option maxRecDepth 100000 in
set_option maxHeartbeats 1600000 in
theorem ear (A : Option Addr) (n cap k : Nat) (w : World) (ps : List (Int × Int)) (hl : ps.length = n) (hr : roomB ps = true) (hk : k < n) (hp : PtsAt w w.heap.size A ps) :
    Calls Try.prog 112 #[.slice A n cap, .int .i64 (k : Int)] w fun e w' => e = .returned (.bool (earM ps k)) ∧ Below w.heap.size w w' := by
  obtain ⟨r, hr⟩ : ∃ r, earM ps k = r := ⟨_, rfl⟩
  have HR := Lib.hid hr
  rw [hr]
  clear hr
  have h3 := (roomB_yes hr).1
  have HE : Hid (r = (decide (n = 3) || diagM ps ((k + (n - 1)) % n) ((k + 1) % n))) := Lib.hid (by rw [← HR.out, ← hl]; rfl)
  have hm : (k + 1) % n < n := Nat.mod_lt _ (by omega)
  have hm2 : (k + (n - 1)) % n < n := Nat.mod_lt _ (by omega)
  have e1 := succ_emod n k
  have e1t : ((k : Int) + 1).tmod (n : Int) = (((k + 1) % n : Nat) : Int) := by rw [Int.tmod_eq_emod_of_nonneg (by omega)]; exact e1
  have e2 : ((k : Int) + (n : Int) - 1) % (n : Int) = (((k + (n - 1)) % n : Nat) : Int) := by
    rw [Int.natCast_emod, Int.natCast_add, show ((n - 1 : Nat) : Int) = (n : Int) - 1 by omega]; congr 1; omega
  have e2t : ((k : Int) + (n : Int) - 1).tmod (n : Int) = (((k + (n - 1)) % n : Nat) : Int) := by rw [Int.tmod_eq_emod_of_nonneg (by omega)]; exact e2
  have Q : Hid (∀ w hp, _) := Lib.hid fun w hp => DiagSpec.diag A n cap ((k + (n - 1)) % n) ((k + 1) % n) w ps hl hr hm2 hm hp
  generalize (k + 1) % n = m1 at *
  generalize (k + (n - 1)) % n = m2 at *
  have hn0 : ¬ ((n : Int) = 0) := by omega
  have hn1 : ¬ (n = 0) := by omega
  have uk1 : IntKind.i64.wrap ((k : Int) + 1) = (k : Int) + 1 := IntWalk.i64_in _ (by omega)
  have uk2 : IntKind.i64.wrap ((k : Int) + (n : Int)) = (k : Int) + (n : Int) := IntWalk.i64_in _ (by omega)
  have uk3 : IntKind.i64.wrap ((k : Int) + (n : Int) - 1) = (k : Int) + (n : Int) - 1 := IntWalk.i64_in _ (by omega)
  clear HR hr
  by_cases c1 : n = 3
  · have b1 : ((n : Int) == 3) = true := by rw [beq_iff_eq]; omega
    have E : Hid (r = true) := Lib.hid (by rw [HE.out, c1]; rfl)
    clear HE hl c1 h3
    go_enter Try.func112, Try.ntmps112
    go_wp2_with fail
    have HO : ∀ W W' : World, (PtsAt W w.heap.size A ps ∧ Below w.heap.size w W) → Below W.heap.size W W' → (PtsAt W' w.heap.size A ps ∧ Below w.heap.size w W') := fun W W' ⟨x0, hb⟩ h => ⟨x0.later (h.mono hb.size), hb.trans (h.mono hb.size)⟩
    have S0 : PtsAt w w.heap.size A ps ∧ Below w.heap.size w w := ⟨hp, Below.refl _ _⟩
    clear hp
    refine Settle.region (fun W => PtsAt W w.heap.size A ps ∧ Below w.heap.size w W) (by kernel_rfl) (by kernel_rfl) (by kernel_rfl) (by kernel_rfl) (HO _ _ S0 ((Below.refl _ _).drew)) ?_
    clear S0
    repeat (first
      | (refine Settle.Settles.off (by rfl) ?_; simp only [Act.put, List.setIfInBounds_toArray, List.set_cons_zero, List.set_cons_succ])
      | (refine Settle.Settles.quiet (v := ?_) (by rfl) ?_ ?_
         rotate_left
         · (intro W hS; obtain ⟨_, _⟩ := hS; go_simp; with_reducible rfl)
         simp only [Act.put, List.setIfInBounds_toArray, List.set_cons_zero, List.set_cons_succ])
      | (refine Settle.Settles.call (v := ?_) (f := ?_) (args := ?_) (by rfl) ?_ ?_ ?_
         rotate_left 3
         · (intro W; go_simp; refine ⟨?_, ?_⟩ <;> with_reducible rfl)
         · (intro W hS; first | (go_at_call 138; (with_reducible refine (Q.out _ (hS.1.wide hS.2.size)).mono ?_); rintro e W1 ⟨rfl, hb⟩; refine ⟨?_, HO _ _ hS hb⟩; with_reducible rfl))
         simp only [Act.put, List.setIfInBounds_toArray, List.set_cons_zero, List.set_cons_succ]))
    refine Settle.Settles.nil ?_
    intro wr S0
    obtain ⟨_, _⟩ := id S0
    go_wp2_with fail
    go_ret
    exact ⟨ret_bool E.out.symm, S0.2⟩
  have b1 : ((n : Int) == 3) = false := beq_eq_false_iff_ne.2 (by omega)
  have E : Hid (diagM ps m2 m1 = r) := Lib.hid (by rw [HE.out]; simp [c1])
  rw [E.out] at Q
  clear HE hl E
  go_enter Try.func112, Try.ntmps112
  go_wp2_with fail
  have HO : ∀ W W' : World, (PtsAt W w.heap.size A ps ∧ Below w.heap.size w W) → Below W.heap.size W W' → (PtsAt W' w.heap.size A ps ∧ Below w.heap.size w W') := fun W W' ⟨x0, hb⟩ h => ⟨x0.later (h.mono hb.size), hb.trans (h.mono hb.size)⟩
  have S0 : PtsAt w w.heap.size A ps ∧ Below w.heap.size w w := ⟨hp, Below.refl _ _⟩
  clear hp
  refine Settle.region (fun W => PtsAt W w.heap.size A ps ∧ Below w.heap.size w W) (by kernel_rfl) (by kernel_rfl) (by kernel_rfl) (by kernel_rfl) (HO _ _ S0 ((Below.refl _ _).drew)) ?_
  clear S0
  repeat (first
    | (refine Settle.Settles.off (by rfl) ?_; simp only [Act.put, List.setIfInBounds_toArray, List.set_cons_zero, List.set_cons_succ])
    | (refine Settle.Settles.quiet (v := ?_) (by rfl) ?_ ?_
       rotate_left
       · (intro W hS; obtain ⟨_, _⟩ := hS; go_simp; with_reducible rfl)
       simp only [Act.put, List.setIfInBounds_toArray, List.set_cons_zero, List.set_cons_succ])
    | (refine Settle.Settles.call (v := ?_) (f := ?_) (args := ?_) (by rfl) ?_ ?_ ?_
       rotate_left 3
       · (intro W; go_simp; refine ⟨?_, ?_⟩ <;> with_reducible rfl)
       · (intro W hS; first | (go_at_call 138; (with_reducible refine (Q.out _ (hS.1.wide hS.2.size)).mono ?_); rintro e W1 ⟨rfl, hb⟩; refine ⟨?_, HO _ _ hS hb⟩; with_reducible rfl))
       simp only [Act.put, List.setIfInBounds_toArray, List.set_cons_zero, List.set_cons_succ]))
  refine Settle.Settles.nil ?_
  intro wr S0
  obtain ⟨_, _⟩ := id S0
  go_wp2_with fail
  go_ret
  exact ⟨rfl, S0.2⟩

set_option maxRecDepth 100000 in
set_option maxHeartbeats 1600000 in
theorem isEar (A : Option Addr) (n cap : Nat) (k : Int) (w : World) (ps : List (Int × Int)) (hl : ps.length = n) (hn : n ≤ 1048576) (hp : PtsAt w w.heap.size A ps) :
    Calls Try.prog 67 #[.agg #[.slice A n cap], .int .i64 k] w fun e w' => e = .returned (.bool (isEarB ps k)) ∧ Below w.heap.size w w' := by
  obtain ⟨r, hr⟩ : ∃ r, isEarB ps k = r := ⟨_, rfl⟩
  have HR := Lib.hid hr
  rw [hr]
  clear hr
  go_enter Try.func67, Try.ntmps67
  go_wp2_with fail
  have X0 := Pts.boxR w (.slice A n cap) 37 (k := w.heap.size) (by simp)
  have b0 := PointOk.below1 w (Obj.cells #[.slice A n cap] 37)
  have HO : ∀ W W' : World, (Pts.BoxR W (w.heap.size) (.slice A n cap) ∧ PtsAt W w.heap.size A ps ∧ Below w.heap.size w W) → Below W.heap.size W W' → (Pts.BoxR W' (w.heap.size) (.slice A n cap) ∧ PtsAt W' w.heap.size A ps ∧ Below w.heap.size w W') := fun W W' ⟨h0, x0, hb⟩ h => ⟨h0.later h, x0.later (h.mono hb.size), hb.trans (h.mono hb.size)⟩
  have hz0_ : Hid (((w.alloc (Obj.cells #[.slice A n cap] 37))).heap.size = w.heap.size + 1) := Lib.hid (by simp)
  have Y0 : PtsAt ((w.alloc (Obj.cells #[.slice A n cap] 37))) w.heap.size A ps := hp.later b0
  generalize (w.alloc (Obj.cells #[.slice A n cap] 37)) = w0 at X0 Y0 b0 hz0_ ⊢
  have S0 := (⟨X0, Y0, b0⟩ : Pts.BoxR w0 (w.heap.size) (.slice A n cap) ∧ PtsAt w0 w.heap.size A ps ∧ Below w.heap.size w w0)
  clear X0 Y0 b0
  obtain ⟨⟨_, _⟩, _, _⟩ := id S0
  have u0 : IntKind.i64.wrap ((n : Int) - 1) = (n : Int) - 1 := IntWalk.i64_in _ (by omega)
  have HE : Hid (r = (roomB ps && decide (0 ≤ k ∧ k ≤ (n : Int) - 1) && earM ps k.toNat)) := Lib.hid (by rw [← HR.out]; exact isEarB_le hl)
  replace HR := HE
  clear HE
  refine (RoomOkSpec.roomOk A n cap _ ps hl hn (S0.2.1.wide S0.2.2.size)).mono ?_
  rintro e w1 ⟨rfl, hb_⟩
  replace S0 := HO _ _ S0 hb_
  clear hb_
  obtain ⟨⟨_, _⟩, _, _⟩ := id S0
  cases hc0_ : roomB ps
  · have E : Hid (r = false) := Lib.hid (by rw [HR.out, hc0_]; simp)
    clear hl HR
    go_wp2_with fail
    go_ret
    exact ⟨ret_bool E.out.symm, S0.2.2⟩
  go_wp2_with fail
  refine (PointOk.l01In k 0 ((n : Int) - 1) _).mono ?_
  rintro e w_ ⟨rfl, rfl⟩
  cases hc1_ : decide (0 ≤ k ∧ k ≤ (n : Int) - 1)
  · have E : Hid (r = false) := Lib.hid (by rw [HR.out, hc1_]; simp)
    clear hl HR
    go_wp2_with fail
    go_ret
    exact ⟨ret_bool E.out.symm, S0.2.2⟩
  have hk := of_decide_eq_true hc1_
  obtain ⟨kk, rfl⟩ := Int.eq_ofNat_of_zero_le hk.1
  have E : Hid (earM ps kk = r) := Lib.hid (by rw [HR.out, hc0_, hc1_]; rfl)
  have Q : Hid (∀ w hp, _) := Lib.hid fun w hp => ear A n cap kk w ps hl hc0_ (by omega) hp
  rw [E.out] at Q
  clear hl HR hc0_ hc1_ E hk
  go_wp2_with fail
  refine (Q.out _ (S0.2.1.wide S0.2.2.size)).mono ?_
  rintro e w3 ⟨rfl, hb_⟩
  replace S0 := HO _ _ S0 hb_
  clear hb_
  obtain ⟨⟨_, _⟩, _, _⟩ := id S0
  go_wp2_with fail
  go_ret
  exact ⟨rfl, S0.2.2⟩

end Go.Proofs.Ythokeedmccfalaa.EarSpec

