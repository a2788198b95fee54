/-
  What the model's functions on diagonals and ears do, as contracts: what each answers; new memory alone is written.
-/
import Derived.Test.YtkoogklakacphaaDiagSpec
import Derived.Test.YtkoogklakacphaaEarMath
namespace Go.Proofs.Ytkoogklakacphaa.EarSpec
open Go.RowKit Own PointMath WallMath RoomMath Pts Blk AreaMath PlaceMath FloorMath LineMath CutsMath SightMath DiagMath EarMath
open PointOk (ret_bool ret_i64 below1 below2 below3)

theorem infoI : (Try.prog.info? 3).map (fun i => (i.zero, i.size, i.bytes)) = some (some (.int .i64 0), 1, 8) := by kernel_rfl

set_option maxRecDepth 100000 in
set_option maxHeartbeats 1600000 in
theorem isDiagonal (A : Option Addr) (n cap : Nat) (i k : Int) (w : World) (ps : List (Int × Int)) (hl : ps.length = n) (hn : n ≤ 1048576) (hp : PtsAt w w.heap.size A ps) :
    Calls Try.prog 14 #[.agg #[.slice A n cap], .int .i64 i, .int .i64 k] w fun e w' => e = .returned (.bool (isDiagB ps i k)) ∧ Below w.heap.size w w' := by
  obtain ⟨r, hr⟩ : ∃ r, isDiagB ps i k = r := ⟨_, rfl⟩
  have HR := Lib.hid hr
  rw [hr]
  clear hr
  go_enter Try.func14, Try.ntmps14
  go_wp2_with fail
  have X0 := Pts.boxR w (.slice A n cap) 29 (k := w.heap.size) (by simp)
  have b0 := PointOk.below1 w (Obj.cells #[.slice A n cap] 29)
  have HO : ∀ W W' : World, (Pts.BoxR W (w.heap.size) (.slice A n cap) ∧ PtsAt W w.heap.size A ps ∧ Below w.heap.size w W) → Below W.heap.size W W' → (Pts.BoxR W' (w.heap.size) (.slice A n cap) ∧ PtsAt W' w.heap.size A ps ∧ Below w.heap.size w W') := fun W W' ⟨h0, x0, hb⟩ h => ⟨h0.later h, x0.later (h.mono hb.size), hb.trans (h.mono hb.size)⟩
  have hz0_ : Hid (((w.alloc (Obj.cells #[.slice A n cap] 29))).heap.size = w.heap.size + 1) := Lib.hid (by simp)
  have Y0 : PtsAt ((w.alloc (Obj.cells #[.slice A n cap] 29))) w.heap.size A ps := hp.later b0
  generalize (w.alloc (Obj.cells #[.slice A n cap] 29)) = w0 at X0 Y0 b0 hz0_ ⊢
  have S0 := (⟨X0, Y0, b0⟩ : Pts.BoxR w0 (w.heap.size) (.slice A n cap) ∧ PtsAt w0 w.heap.size A ps ∧ Below w.heap.size w w0)
  clear X0 Y0 b0
  obtain ⟨⟨_, _⟩, _, _⟩ := id S0
  have u0 : IntKind.i64.wrap ((n : Int) - 1) = (n : Int) - 1 := IntWalk.i64_in _ (by omega)
  have HE : Hid (r = (roomB ps && decide (0 ≤ i ∧ i ≤ (n : Int) - 1) && decide (0 ≤ k ∧ k ≤ (n : Int) - 1) && diagM ps i.toNat k.toNat)) := Lib.hid (by rw [← HR.out]; exact isDiagB_le hl)
  replace HR := HE
  clear HE
  refine (RoomOkSpec.roomOk A n cap _ ps hl hn (S0.2.1.wide S0.2.2.size)).mono ?_
  rintro e w1 ⟨rfl, hb_⟩
  replace S0 := HO _ _ S0 hb_
  clear hb_
  obtain ⟨⟨_, _⟩, _, _⟩ := id S0
  cases hc0_ : roomB ps
  · have E : Hid (r = false) := Lib.hid (by rw [HR.out, hc0_]; simp)
    clear hl HR
    go_wp2_with fail
    go_ret
    exact ⟨ret_bool E.out.symm, S0.2.2⟩
  go_wp2_with fail
  refine (PointOk.l01In i 0 ((n : Int) - 1) _).mono ?_
  rintro e w_ ⟨rfl, rfl⟩
  cases hc1_ : decide (0 ≤ i ∧ i ≤ (n : Int) - 1)
  · have E : Hid (r = false) := Lib.hid (by rw [HR.out, hc1_]; simp)
    clear hl HR
    go_wp2_with fail
    go_ret
    exact ⟨ret_bool E.out.symm, S0.2.2⟩
  go_wp2_with fail
  refine (PointOk.l01In k 0 ((n : Int) - 1) _).mono ?_
  rintro e w_ ⟨rfl, rfl⟩
  cases hc2_ : decide (0 ≤ k ∧ k ≤ (n : Int) - 1)
  · have E : Hid (r = false) := Lib.hid (by rw [HR.out, hc2_]; simp)
    clear hl HR
    go_wp2_with fail
    go_ret
    exact ⟨ret_bool E.out.symm, S0.2.2⟩
  have hi := of_decide_eq_true hc1_
  have hk := of_decide_eq_true hc2_
  obtain ⟨ii, rfl⟩ := Int.eq_ofNat_of_zero_le hi.1
  obtain ⟨kk, rfl⟩ := Int.eq_ofNat_of_zero_le hk.1
  have E : Hid (diagM ps ii kk = r) := Lib.hid (by rw [HR.out, hc0_, hc1_, hc2_]; rfl)
  have Q : Hid (∀ w hp, _) := Lib.hid fun w hp => DiagSpec.diag A n cap ii kk w ps hl hc0_ (by omega) (by omega) hp
  rw [E.out] at Q
  clear hl HR hc0_ hc1_ hc2_ E hi hk
  go_wp2_with fail
  refine (Q.out _ (S0.2.1.wide S0.2.2.size)).mono ?_
  rintro e w4 ⟨rfl, hb_⟩
  replace S0 := HO _ _ S0 hb_
  clear hb_
  obtain ⟨⟨_, _⟩, _, _⟩ := id S0
  go_wp2_with fail
  go_ret
  exact ⟨rfl, S0.2.2⟩

set_option maxRecDepth 100000 in
set_option maxHeartbeats 1600000 in
theorem ear (A : Option Addr) (n cap k : Nat) (w : World) (ps : List (Int × Int)) (hl : ps.length = n) (hr : roomB ps = true) (hk : k < n) (hp : PtsAt w w.heap.size A ps) :
    Calls Try.prog 64 #[.slice A n cap, .int .i64 (k : Int)] w fun e w' => e = .returned (.bool (earM ps k)) ∧ Below w.heap.size w w' := by
  obtain ⟨r, hr⟩ : ∃ r, earM ps k = r := ⟨_, rfl⟩
  have HR := Lib.hid hr
  rw [hr]
  clear hr
  have h3 := (roomB_yes hr).1
  have HE : Hid (r = (decide (n = 3) || diagM ps ((k + (n - 1)) % n) ((k + 1) % n))) := Lib.hid (by rw [← HR.out, ← hl]; rfl)
  have hm : (k + 1) % n < n := Nat.mod_lt _ (by omega)
  have hm2 : (k + (n - 1)) % n < n := Nat.mod_lt _ (by omega)
  have e1 := succ_emod n k
  have e1t : ((k : Int) + 1).tmod (n : Int) = (((k + 1) % n : Nat) : Int) := by rw [Int.tmod_eq_emod_of_nonneg (by omega)]; exact e1
  have e2 : ((k : Int) + (n : Int) - 1) % (n : Int) = (((k + (n - 1)) % n : Nat) : Int) := by
    rw [Int.natCast_emod, Int.natCast_add, show ((n - 1 : Nat) : Int) = (n : Int) - 1 by omega]; congr 1; omega
  have e2t : ((k : Int) + (n : Int) - 1).tmod (n : Int) = (((k + (n - 1)) % n : Nat) : Int) := by rw [Int.tmod_eq_emod_of_nonneg (by omega)]; exact e2
  have Q : Hid (∀ w hp, _) := Lib.hid fun w hp => DiagSpec.diag A n cap ((k + (n - 1)) % n) ((k + 1) % n) w ps hl hr hm2 hm hp
  generalize (k + 1) % n = m1 at *
  generalize (k + (n - 1)) % n = m2 at *
  have hn0 : ¬ ((n : Int) = 0) := by omega
  have hn1 : ¬ (n = 0) := by omega
  have uk1 : IntKind.i64.wrap ((k : Int) + 1) = (k : Int) + 1 := IntWalk.i64_in _ (by omega)
  have uk2 : IntKind.i64.wrap ((k : Int) + (n : Int)) = (k : Int) + (n : Int) := IntWalk.i64_in _ (by omega)
  have uk3 : IntKind.i64.wrap ((k : Int) + (n : Int) - 1) = (k : Int) + (n : Int) - 1 := IntWalk.i64_in _ (by omega)
  clear HR hr
  by_cases c1 : n = 3
  · have b1 : ((n : Int) == 3) = true := by rw [beq_iff_eq]; omega
    have E : Hid (r = true) := Lib.hid (by rw [HE.out, c1]; rfl)
    clear HE hl c1 h3
    go_enter Try.func64, Try.ntmps64
    go_wp2_with fail
    have HO : ∀ W W' : World, (PtsAt W w.heap.size A ps ∧ Below w.heap.size w W) → Below W.heap.size W W' → (PtsAt W' w.heap.size A ps ∧ Below w.heap.size w W') := fun W W' ⟨x0, hb⟩ h => ⟨x0.later (h.mono hb.size), hb.trans (h.mono hb.size)⟩
    have S0 : PtsAt w w.heap.size A ps ∧ Below w.heap.size w w := ⟨hp, Below.refl _ _⟩
    clear hp
    refine Settle.region (fun W => PtsAt W w.heap.size A ps ∧ Below w.heap.size w W) (by kernel_rfl) (by kernel_rfl) (by kernel_rfl) (by kernel_rfl) (HO _ _ S0 ((Below.refl _ _).drew)) ?_
    clear S0
    repeat (first
      | (refine Settle.Settles.off (by rfl) ?_; simp only [Act.put, List.setIfInBounds_toArray, List.set_cons_zero, List.set_cons_succ])
      | (refine Settle.Settles.quiet (v := ?_) (by rfl) ?_ ?_
         rotate_left
         · (intro W hS; obtain ⟨_, _⟩ := hS; go_simp; with_reducible rfl)
         simp only [Act.put, List.setIfInBounds_toArray, List.set_cons_zero, List.set_cons_succ])
      | (refine Settle.Settles.call (v := ?_) (f := ?_) (args := ?_) (by rfl) ?_ ?_ ?_
         rotate_left 3
         · (intro W; go_simp; refine ⟨?_, ?_⟩ <;> with_reducible rfl)
         · (intro W hS; first | (go_at_call 50; (with_reducible refine (Q.out _ (hS.1.wide hS.2.size)).mono ?_); rintro e W1 ⟨rfl, hb⟩; refine ⟨?_, HO _ _ hS hb⟩; with_reducible rfl))
         simp only [Act.put, List.setIfInBounds_toArray, List.set_cons_zero, List.set_cons_succ]))
    refine Settle.Settles.nil ?_
    intro wr S0
    obtain ⟨_, _⟩ := id S0
    go_wp2_with fail
    go_ret
    exact ⟨ret_bool E.out.symm, S0.2⟩
  have b1 : ((n : Int) == 3) = false := beq_eq_false_iff_ne.2 (by omega)
  have E : Hid (diagM ps m2 m1 = r) := Lib.hid (by rw [HE.out]; simp [c1])
  rw [E.out] at Q
  clear HE hl E
  go_enter Try.func64, Try.ntmps64
  go_wp2_with fail
  have HO : ∀ W W' : World, (PtsAt W w.heap.size A ps ∧ Below w.heap.size w W) → Below W.heap.size W W' → (PtsAt W' w.heap.size A ps ∧ Below w.heap.size w W') := fun W W' ⟨x0, hb⟩ h => ⟨x0.later (h.mono hb.size), hb.trans (h.mono hb.size)⟩
  have S0 : PtsAt w w.heap.size A ps ∧ Below w.heap.size w w := ⟨hp, Below.refl _ _⟩
  clear hp
  refine Settle.region (fun W => PtsAt W w.heap.size A ps ∧ Below w.heap.size w W) (by kernel_rfl) (by kernel_rfl) (by kernel_rfl) (by kernel_rfl) (HO _ _ S0 ((Below.refl _ _).drew)) ?_
  clear S0
  repeat (first
    | (refine Settle.Settles.off (by rfl) ?_; simp only [Act.put, List.setIfInBounds_toArray, List.set_cons_zero, List.set_cons_succ])
    | (refine Settle.Settles.quiet (v := ?_) (by rfl) ?_ ?_
       rotate_left
       · (intro W hS; obtain ⟨_, _⟩ := hS; go_simp; with_reducible rfl)
       simp only [Act.put, List.setIfInBounds_toArray, List.set_cons_zero, List.set_cons_succ])
    | (refine Settle.Settles.call (v := ?_) (f := ?_) (args := ?_) (by rfl) ?_ ?_ ?_
       rotate_left 3
       · (intro W; go_simp; refine ⟨?_, ?_⟩ <;> with_reducible rfl)
       · (intro W hS; first | (go_at_call 50; (with_reducible refine (Q.out _ (hS.1.wide hS.2.size)).mono ?_); rintro e W1 ⟨rfl, hb⟩; refine ⟨?_, HO _ _ hS hb⟩; with_reducible rfl))
       simp only [Act.put, List.setIfInBounds_toArray, List.set_cons_zero, List.set_cons_succ]))
  refine Settle.Settles.nil ?_
  intro wr S0
  obtain ⟨_, _⟩ := id S0
  go_wp2_with fail
  go_ret
  exact ⟨rfl, S0.2⟩

set_option maxRecDepth 100000 in
set_option maxHeartbeats 1600000 in
theorem isEar (A : Option Addr) (n cap : Nat) (k : Int) (w : World) (ps : List (Int × Int)) (hl : ps.length = n) (hn : n ≤ 1048576) (hp : PtsAt w w.heap.size A ps) :
    Calls Try.prog 31 #[.agg #[.slice A n cap], .int .i64 k] w fun e w' => e = .returned (.bool (isEarB ps k)) ∧ Below w.heap.size w w' := by
  obtain ⟨r, hr⟩ : ∃ r, isEarB ps k = r := ⟨_, rfl⟩
  have HR := Lib.hid hr
  rw [hr]
  clear hr
  go_enter Try.func31, Try.ntmps31
  go_wp2_with fail
  have X0 := Pts.boxR w (.slice A n cap) 29 (k := w.heap.size) (by simp)
  have b0 := PointOk.below1 w (Obj.cells #[.slice A n cap] 29)
  have HO : ∀ W W' : World, (Pts.BoxR W (w.heap.size) (.slice A n cap) ∧ PtsAt W w.heap.size A ps ∧ Below w.heap.size w W) → Below W.heap.size W W' → (Pts.BoxR W' (w.heap.size) (.slice A n cap) ∧ PtsAt W' w.heap.size A ps ∧ Below w.heap.size w W') := fun W W' ⟨h0, x0, hb⟩ h => ⟨h0.later h, x0.later (h.mono hb.size), hb.trans (h.mono hb.size)⟩
  have hz0_ : Hid (((w.alloc (Obj.cells #[.slice A n cap] 29))).heap.size = w.heap.size + 1) := Lib.hid (by simp)
  have Y0 : PtsAt ((w.alloc (Obj.cells #[.slice A n cap] 29))) w.heap.size A ps := hp.later b0
  generalize (w.alloc (Obj.cells #[.slice A n cap] 29)) = w0 at X0 Y0 b0 hz0_ ⊢
  have S0 := (⟨X0, Y0, b0⟩ : Pts.BoxR w0 (w.heap.size) (.slice A n cap) ∧ PtsAt w0 w.heap.size A ps ∧ Below w.heap.size w w0)
  clear X0 Y0 b0
  obtain ⟨⟨_, _⟩, _, _⟩ := id S0
  have u0 : IntKind.i64.wrap ((n : Int) - 1) = (n : Int) - 1 := IntWalk.i64_in _ (by omega)
  have HE : Hid (r = (roomB ps && decide (0 ≤ k ∧ k ≤ (n : Int) - 1) && earM ps k.toNat)) := Lib.hid (by rw [← HR.out]; exact isEarB_le hl)
  replace HR := HE
  clear HE
  refine (RoomOkSpec.roomOk A n cap _ ps hl hn (S0.2.1.wide S0.2.2.size)).mono ?_
  rintro e w1 ⟨rfl, hb_⟩
  replace S0 := HO _ _ S0 hb_
  clear hb_
  obtain ⟨⟨_, _⟩, _, _⟩ := id S0
  cases hc0_ : roomB ps
  · have E : Hid (r = false) := Lib.hid (by rw [HR.out, hc0_]; simp)
    clear hl HR
    go_wp2_with fail
    go_ret
    exact ⟨ret_bool E.out.symm, S0.2.2⟩
  go_wp2_with fail
  refine (PointOk.l01In k 0 ((n : Int) - 1) _).mono ?_
  rintro e w_ ⟨rfl, rfl⟩
  cases hc1_ : decide (0 ≤ k ∧ k ≤ (n : Int) - 1)
  · have E : Hid (r = false) := Lib.hid (by rw [HR.out, hc1_]; simp)
    clear hl HR
    go_wp2_with fail
    go_ret
    exact ⟨ret_bool E.out.symm, S0.2.2⟩
  have hk := of_decide_eq_true hc1_
  obtain ⟨kk, rfl⟩ := Int.eq_ofNat_of_zero_le hk.1
  have E : Hid (earM ps kk = r) := Lib.hid (by rw [HR.out, hc0_, hc1_]; rfl)
  have Q : Hid (∀ w hp, _) := Lib.hid fun w hp => ear A n cap kk w ps hl hc0_ (by omega) hp
  rw [E.out] at Q
  clear hl HR hc0_ hc1_ E hk
  go_wp2_with fail
  refine (Q.out _ (S0.2.1.wide S0.2.2.size)).mono ?_
  rintro e w3 ⟨rfl, hb_⟩
  replace S0 := HO _ _ S0 hb_
  clear hb_
  obtain ⟨⟨_, _⟩, _, _⟩ := id S0
  go_wp2_with fail
  go_ret
  exact ⟨rfl, S0.2.2⟩

set_option maxRecDepth 100000 in
set_option maxHeartbeats 1600000 in
theorem earsOf (A : Option Addr) (n cap : Nat) (w : World) (ps : List (Int × Int)) (hl : ps.length = n) (hn : n ≤ 1048576) (hp : PtsAt w w.heap.size A ps) :
    Calls Try.prog 33 #[.agg #[.slice A n cap]] w (GivesI 3 w (earsL ps)) := by
  obtain ⟨r, hr⟩ : ∃ r, earsL ps = r := ⟨_, rfl⟩
  have HR := Lib.hid hr
  rw [hr]
  clear hr
  obtain ⟨i0, hi, hz0, hz1, hz2⟩ := info_parts infoI
  go_enter Try.func33, Try.ntmps33
  go_wp2_with fail
  have X0 := Pts.boxR w (.slice A n cap) 29 (k := w.heap.size) (by simp)
  have b0 := PointOk.below1 w (Obj.cells #[.slice A n cap] 29)
  have HO : ∀ W W' : World, (Pts.BoxR W (w.heap.size) (.slice A n cap) ∧ PtsAt W w.heap.size A ps ∧ Below w.heap.size w W) → Below W.heap.size W W' → (Pts.BoxR W' (w.heap.size) (.slice A n cap) ∧ PtsAt W' w.heap.size A ps ∧ Below w.heap.size w W') := fun W W' ⟨h0, x0, hb⟩ h => ⟨h0.later h, x0.later (h.mono hb.size), hb.trans (h.mono hb.size)⟩
  have hz0_ : Hid (((w.alloc (Obj.cells #[.slice A n cap] 29))).heap.size = w.heap.size + 1) := Lib.hid (by simp)
  have Y0 : PtsAt ((w.alloc (Obj.cells #[.slice A n cap] 29))) w.heap.size A ps := hp.later b0
  generalize (w.alloc (Obj.cells #[.slice A n cap] 29)) = w0 at X0 Y0 b0 hz0_ ⊢
  have S0 := (⟨X0, Y0, b0⟩ : Pts.BoxR w0 (w.heap.size) (.slice A n cap) ∧ PtsAt w0 w.heap.size A ps ∧ Below w.heap.size w w0)
  clear X0 Y0 b0
  obtain ⟨⟨_, _⟩, _, _⟩ := id S0
  have HO2 : ∀ W W' : World, (Pts.BoxR W (w.heap.size) (.slice A n cap) ∧ PtsAt W w.heap.size A ps ∧ Below w.heap.size w W) → Below (w.heap.size + 1) W W' → (Pts.BoxR W' (w.heap.size) (.slice A n cap) ∧ PtsAt W' w.heap.size A ps ∧ Below w.heap.size w W') := fun W W' ⟨h0, h1, hb⟩ h => ⟨⟨(h.cell (by simp)).trans h0.1, trivial⟩, h1.later (h.mono (by omega)), hb.trans (h.mono (by omega))⟩
  have hz1_ := hz0_.out
  go_loopw [3, 4] (fun v i wr => ∃ k : Nat, k ≤ n ∧ (k = 0 ∨ roomB ps = true) ∧ i = .int .i64 k ∧ wr.ownsRow (w.heap.size + 1) 3 1 v (thatTo (earM ps) k).length (icells (thatTo (earM ps) k)) ∧ w.heap.size + 1 ≤ wr.heap.size ∧ (Pts.BoxR wr (w.heap.size) (.slice A n cap) ∧ PtsAt wr w.heap.size A ps ∧ Below w.heap.size w wr))
    (fun _ i _ => n - (intOf i).toNat)
  case atStart => exact ⟨0, Nat.zero_le _, .inl rfl, rfl, by have := own_empty w0 3 1; rw [hz1_] at this; exact this, by simp; omega, HO _ _ S0 (below1 _ _)⟩
  case round =>
    clear S0
    obtain ⟨k, hkn, hc, rfl, hown, hsz, S0⟩ := hrel
    obtain ⟨⟨_, _⟩, _, _⟩ := id S0
    have hex := exit_of (ps := ps) (F := thatTo (earM ps)) hc (by omega)
    by_cases hlt : k < n
    · have hk1 : (k : Int) < (n : Int) := by omega
      have hlen := thatTo_len (earM ps) k
      have HL : Hid (thatTo (earM ps) (k + 1) = if (earM ps) k then thatTo (earM ps) k ++ [(k : Int)] else thatTo (earM ps) k) := Lib.hid rfl
      replace hown := Lib.hid hown
      go_wp2_with fail
      refine (RoomOkSpec.roomOk A n cap _ ps hl hn (S0.2.1.wide S0.2.2.size)).mono ?_
      rintro e w2 ⟨rfl, hb_⟩
      replace S0 := HO _ _ S0 hb_
      replace hown := Lib.hid (own_below hown.out hb_)
      replace hsz := Nat.le_trans hsz hb_.size
      clear hb_
      obtain ⟨⟨_, _⟩, _, _⟩ := id S0
      cases hr : roomB ps
      · have E : Hid (thatTo (earM ps) k = r) := Lib.hid (by rw [← HR.out, ← hex (.inl hr)]; rfl)
        rw [E.out] at hown
        have hown2 := hown.out
        obtain ⟨A1, c1, rfl⟩ := own_shape hown2
        clear hl HR hc hex hown2 hlen HL
        go_wp2_with fail
        go_ret
        exact ⟨A1, c1, rfl, own_base hown.out (by omega), S0.2.2⟩
      obtain ⟨h3, hok, _, _⟩ := roomB_yes hr
      have QK : Hid (∀ w hp, _) := Lib.hid fun w hp => ear A n cap k w ps hl hr hlt hp
      replace hr := Lib.hid hr
      generalize thatTo (earM ps) k = l at *
      obtain ⟨m, hm⟩ : ∃ m, l.length = m := ⟨_, rfl⟩
      rw [hm] at hown hlen
      generalize earM ps k = b at *
      clear hl hok HR hc hex
      go_wp2_with fail
      refine (QK.out _ (S0.2.1.wide S0.2.2.size)).mono ?_
      rintro e w3 ⟨rfl, hb_⟩
      replace S0 := HO _ _ S0 hb_
      replace hown := Lib.hid (own_below hown.out hb_)
      replace hsz := Nat.le_trans hsz hb_.size
      clear hb_ QK
      obtain ⟨⟨_, _⟩, _, _⟩ := id S0
      cases b
      · have HL2 : Hid (thatTo (earM ps) (k + 1) = l) := Lib.hid (by rw [HL.out]; rfl)
        clear HL
        go_wp2_with fail
        first
          | exact ⟨⟨k + 1, by omega, .inr hr.out, by go_num, by rw [HL2.out, hm]; exact hown.out, hsz, S0⟩, by simp [intOf]; omega⟩
          | (go_roundw <;> first | exact ⟨k + 1, by omega, .inr hr.out, by go_num, by rw [HL2.out, hm]; exact hown.out, hsz, S0⟩ | (simp [intOf]; omega))
      · have HL2 : Hid (thatTo (earM ps) (k + 1) = l ++ [(k : Int)]) := Lib.hid (by rw [HL.out]; rfl)
        have hown2 := hown.out
        clear HL
        go_wp2_with (at_builtin; refine wpList_append_own _ rfl _ _ 41 rfl (w.heap.size + 1) 3 i0 (.int .i64 0) 1 8 Try.underlying41 hi hz0 hz1 hz2 rfl (by decide) _ _ _ rfl (hown2.alloc _) ⟨w3.heap.size, 0, none⟩ 1 1 [.int .i64 (k : Int)] rfl rfl ?c1 ?c2 ?c3 ?c4 ?c5 ?_)
        case c1 => (intro j u hj; match j, hj with | 0, hj => (simp at hj; subst hj; simp [Addr.add]))
        case c2 => (intro u hu; simp at hu; subst hu; rfl)
        case c3 => (unfold maxLen; omega)
        case c4 => omega
        case c5 => (simp; omega)
        intro v1_ wa_ ho_ hg_ _
        have HN : Hid (wa_.ownsRow (w.heap.size + 1) 3 1 v1_ (thatTo (earM ps) (k + 1)).length (icells (thatTo (earM ps) (k + 1))) ∧ w.heap.size + 1 ≤ wa_.heap.size ∧ (Pts.BoxR wa_ (w.heap.size) (.slice A n cap) ∧ PtsAt wa_ w.heap.size A ps ∧ Below w.heap.size w wa_)) := Lib.hid (by
          have hb0 : Below (w.heap.size + 1) w3 (w3.alloc (Obj.cells #[.int .i64 (k : Int)] 3)) := (below1 _ _).mono hsz
          have hb1 := hb0.grown hg_ (by simp; omega) (fun g hg => (hown2.lt g hg).1)
          rw [HL2.out, icells_snoc, List.length_append, hm]
          exact ⟨ho_, Nat.le_trans hsz hb1.size, HO2 _ _ S0 hb1⟩)
        clear ho_ hg_ hown hown2 HL2 S0
        go_wp2_with fail
        first
          | exact ⟨⟨k + 1, by omega, .inr hr.out, by go_num, HN.out.1, HN.out.2.1, HN.out.2.2⟩, by simp [intOf]; omega⟩
          | (go_roundw <;> first | exact ⟨k + 1, by omega, .inr hr.out, by go_num, HN.out.1, HN.out.2.1, HN.out.2.2⟩ | (simp [intOf]; omega))
    · obtain rfl : n = k := by omega
      have E : Hid (thatTo (earM ps) n = r) := Lib.hid (by rw [← HR.out, ← hex (.inr hl.symm)]; rfl)
      rw [E.out] at hown
      have hown2 := Lib.hid hown
      obtain ⟨A1, c1, rfl⟩ := own_shape hown
      clear hl hown HR hc hex
      go_wp2_with fail
      go_ret
      exact ⟨A1, c1, rfl, own_base hown2.out (by omega), S0.2.2⟩

set_option maxRecDepth 100000 in
set_option maxHeartbeats 1600000 in
theorem earArea (A : Option Addr) (n cap : Nat) (k : Int) (w : World) (ps : List (Int × Int)) (hl : ps.length = n) (hn : n ≤ 1048576) (hp : PtsAt w w.heap.size A ps) :
    Calls Try.prog 39 #[.agg #[.slice A n cap], .int .i64 k] w fun e w' => e = .returned (.int .i64 (earAreaI ps k)) ∧ Below w.heap.size w w' := by
  obtain ⟨r, hr⟩ : ∃ r, earAreaI ps k = r := ⟨_, rfl⟩
  have HR := Lib.hid hr
  rw [hr]
  clear hr
  go_enter Try.func39, Try.ntmps39
  go_wp2_with fail
  have X0 := Pts.boxR w (.slice A n cap) 29 (k := w.heap.size) (by simp)
  have b0 := PointOk.below1 w (Obj.cells #[.slice A n cap] 29)
  have HO : ∀ W W' : World, (Pts.BoxR W (w.heap.size) (.slice A n cap) ∧ PtsAt W w.heap.size A ps ∧ Below w.heap.size w W) → Below W.heap.size W W' → (Pts.BoxR W' (w.heap.size) (.slice A n cap) ∧ PtsAt W' w.heap.size A ps ∧ Below w.heap.size w W') := fun W W' ⟨h0, x0, hb⟩ h => ⟨h0.later h, x0.later (h.mono hb.size), hb.trans (h.mono hb.size)⟩
  have hz0_ : Hid (((w.alloc (Obj.cells #[.slice A n cap] 29))).heap.size = w.heap.size + 1) := Lib.hid (by simp)
  have Y0 : PtsAt ((w.alloc (Obj.cells #[.slice A n cap] 29))) w.heap.size A ps := hp.later b0
  generalize (w.alloc (Obj.cells #[.slice A n cap] 29)) = w0 at X0 Y0 b0 hz0_ ⊢
  have S0 := (⟨X0, Y0, b0⟩ : Pts.BoxR w0 (w.heap.size) (.slice A n cap) ∧ PtsAt w0 w.heap.size A ps ∧ Below w.heap.size w w0)
  clear X0 Y0 b0
  obtain ⟨⟨_, _⟩, _, _⟩ := id S0
  refine (isEar A n cap k _ ps hl hn (S0.2.1.wide S0.2.2.size)).mono ?_
  rintro e w1 ⟨rfl, hb_⟩
  replace S0 := HO _ _ S0 hb_
  clear hb_
  obtain ⟨⟨_, _⟩, _, _⟩ := id S0
  cases he : isEarB ps k
  · have E : Hid (r = 0) := Lib.hid (by rw [← HR.out]; unfold earAreaI; rw [he]; rfl)
    clear hl HR
    go_wp2_with fail
    go_ret
    exact ⟨ret_i64 E.out.symm, S0.2.2⟩
  obtain ⟨hr, kk, rfl, hkk, _⟩ := isEarB_yes he
  rw [hl] at hkk
  have hy := roomB_yes hr
  have HE : Hid (r = turnP (pt ps ((kk + (n - 1)) % n)) (pt ps kk) (pt ps ((kk + 1) % n))) := Lib.hid (by rw [← HR.out]; unfold earAreaI; rw [he, ← hl]; rfl)
  have hok := hy.2.1
  have e1 := succ_emod n kk
  have e1t : ((kk : Int) + 1).tmod (n : Int) = (((kk + 1) % n : Nat) : Int) := by rw [Int.tmod_eq_emod_of_nonneg (by omega)]; exact e1
  have e2 : ((kk : Int) + (n : Int) - 1) % (n : Int) = (((kk + (n - 1)) % n : Nat) : Int) := by
    rw [Int.natCast_emod, Int.natCast_add, show ((n - 1 : Nat) : Int) = (n : Int) - 1 by omega]; congr 1; omega
  have e2t : ((kk : Int) + (n : Int) - 1).tmod (n : Int) = (((kk + (n - 1)) % n : Nat) : Int) := by rw [Int.tmod_eq_emod_of_nonneg (by omega)]; exact e2
  have hm : (kk + 1) % n < n := Nat.mod_lt _ (by omega)
  have hm2 : (kk + (n - 1)) % n < n := Nat.mod_lt _ (by omega)
  have p0 := pt_at (ps := ps) (k := kk) (by omega)
  have p1 := pt_at (ps := ps) (k := (kk + 1) % n) (by omega)
  have p2 := pt_at (ps := ps) (k := (kk + (n - 1)) % n) (by omega)
  have o0 := okP_sm (okAll_at hok (k := kk) (by omega))
  have o1 := okP_sm (okAll_at hok (k := (kk + 1) % n) (by omega))
  have o2 := okP_sm (okAll_at hok (k := (kk + (n - 1)) % n) (by omega))
  generalize (kk + 1) % n = m1 at *
  generalize (kk + (n - 1)) % n = m2 at *
  obtain ⟨ax, ay, ha⟩ : ∃ x y, pt ps kk = (x, y) := ⟨_, _, rfl⟩
  obtain ⟨bx, bY, hbb⟩ : ∃ x y, pt ps m1 = (x, y) := ⟨_, _, rfl⟩
  obtain ⟨cx, cy, hc⟩ : ∃ x y, pt ps m2 = (x, y) := ⟨_, _, rfl⟩
  rw [ha] at p0 o0 HE
  rw [hbb] at p1 o1 HE
  rw [hc] at p2 o2 HE
  obtain ⟨ad, eA, bA, pA⟩ := S0.2.1.get p0
  obtain ⟨ad2, eA2, _, pB⟩ := S0.2.1.get p1
  rw [eA] at eA2
  injection eA2 with eA2
  subst eA2
  obtain ⟨ad2, eA2, _, pC⟩ := S0.2.1.get p2
  rw [eA] at eA2
  injection eA2 with eA2
  subst eA2
  subst eA
  obtain ⟨t, ht⟩ : ∃ t, turnI cx cy ax ay bx bY = t := ⟨_, rfl⟩
  have QT : Hid (∀ w, _) := Lib.hid fun w => PointSpec.l02Turn cx cy ax ay bx bY o2 o0 o1 w
  rw [ht] at QT
  have E : Hid (r = t) := Lib.hid (by rw [HE.out, ← ht]; rfl)
  have hk1 : (kk : Int) < (n : Int) := by omega
  have hk0 : (0 : Int) ≤ (kk : Int) := by omega
  have hm1I : (m1 : Int) < (n : Int) := by omega
  have hm1I0 : (0 : Int) ≤ (m1 : Int) := by omega
  have hm2I : (m2 : Int) < (n : Int) := by omega
  have hm2I0 : (0 : Int) ≤ (m2 : Int) := by omega
  have hn0 : ¬ ((n : Int) = 0) := by omega
  have hn1 : ¬ (n = 0) := by omega
  have uk1 : IntKind.i64.wrap ((kk : Int) + 1) = (kk : Int) + 1 := IntWalk.i64_in _ (by omega)
  have uk2 : IntKind.i64.wrap ((kk : Int) + (n : Int)) = (kk : Int) + (n : Int) := IntWalk.i64_in _ (by omega)
  have uk3 : IntKind.i64.wrap ((kk : Int) + (n : Int) - 1) = (kk : Int) + (n : Int) - 1 := IntWalk.i64_in _ (by omega)
  have S1 := (⟨S0.1, pA, pB, pC, S0.2.2⟩ : BoxR w1 w.heap.size (.slice (some ad) n cap) ∧ PtAt w1 ad kk ax ay ∧ PtAt w1 ad m1 bx bY ∧ PtAt w1 ad m2 cx cy ∧ Below w.heap.size w w1)
  clear S0 pA pB pC hl hp HE p0 p1 p2 o0 o1 o2 ht ha hbb hc hok HR hy he hr
  have S0 := S1
  clear S1
  have HO : ∀ W W' : World, (BoxR W w.heap.size (.slice (some ad) n cap) ∧ PtAt W ad kk ax ay ∧ PtAt W ad m1 bx bY ∧ PtAt W ad m2 cx cy ∧ Below w.heap.size w W) → Below W.heap.size W W' → (BoxR W' w.heap.size (.slice (some ad) n cap) ∧ PtAt W' ad kk ax ay ∧ PtAt W' ad m1 bx bY ∧ PtAt W' ad m2 cx cy ∧ Below w.heap.size w W') := fun W W' ⟨x0, x1, x2, x3, hb⟩ h => ⟨x0.later h, x1.later bA (h.mono hb.size), x2.later bA (h.mono hb.size), x3.later bA (h.mono hb.size), hb.trans (h.mono hb.size)⟩
  obtain ⟨⟨_, _⟩, ⟨_, _⟩, ⟨_, _⟩, ⟨_, _⟩, _⟩ := id S0
  go_wp2_with fail
  refine Settle.region (fun W => BoxR W w.heap.size (.slice (some ad) n cap) ∧ PtAt W ad kk ax ay ∧ PtAt W ad m1 bx bY ∧ PtAt W ad m2 cx cy ∧ Below w.heap.size w W) (by kernel_rfl) (by kernel_rfl) (by kernel_rfl) (by kernel_rfl) (HO _ _ S0 ((Below.refl _ _).drew)) ?_
  clear S0
  repeat (first
    | (refine Settle.Settles.off (by rfl) ?_; simp only [Act.put, List.setIfInBounds_toArray, List.set_cons_zero, List.set_cons_succ])
    | (refine Settle.Settles.quiet (v := ?_) (by rfl) ?_ ?_
       rotate_left
       · (intro W hS; obtain ⟨⟨_, _⟩, ⟨_, _⟩, ⟨_, _⟩, ⟨_, _⟩, _⟩ := hS; go_simp; with_reducible rfl)
       simp only [Act.put, List.setIfInBounds_toArray, List.set_cons_zero, List.set_cons_succ])
    | (refine Settle.Settles.call (v := ?_) (f := ?_) (args := ?_) (by rfl) ?_ ?_ ?_
       rotate_left 3
       · (intro W; go_simp; refine ⟨?_, ?_⟩ <;> with_reducible rfl)
       · (intro W hS; first | (go_at_call 72; (with_reducible refine (QT.out _).mono ?_); rintro e W1 ⟨rfl, hb⟩; refine ⟨?_, HO _ _ hS hb⟩; with_reducible rfl))
       simp only [Act.put, List.setIfInBounds_toArray, List.set_cons_zero, List.set_cons_succ]))
  refine Settle.Settles.nil ?_
  intro wr S0
  obtain ⟨⟨_, _⟩, ⟨_, _⟩, ⟨_, _⟩, ⟨_, _⟩, _⟩ := id S0
  go_wp2_with fail
  go_ret
  exact ⟨ret_i64 E.out.symm, S0.2.2.2.2⟩

end Go.Proofs.Ytkoogklakacphaa.EarSpec

