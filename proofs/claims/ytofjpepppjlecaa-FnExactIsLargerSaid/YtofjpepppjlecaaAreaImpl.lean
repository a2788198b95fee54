/-
  What the landed functions on areas do, as contracts: what each answers; new memory alone is written.
-/
import Derived.Test.YtofjpepppjlecaaRoomOkImpl
import Derived.Test.YtofjpepppjlecaaGcdImpl
import Derived.Test.YtofjpepppjlecaaFacts
namespace Go.Proofs.Ytofjpepppjlecaa.AreaImpl
open Go.RowKit PointMath WallMath RoomMath Pts Blk AreaMath
open PointOk (ret_bool ret_i64 below1 below2 below3)

set_option maxHeartbeats 800000 in
theorem doubleArea (A : Option Addr) (n cap : Nat) (w : World) (ps : List (Int × Int)) (hl : ps.length = n) (hn : n ≤ 1048576) (hp : PtsAt w w.heap.size A ps) :
    Calls Try.prog 33 #[.slice A n cap] w fun e w' => e = .returned (.int .i64 (doubleI ps)) ∧ Below w.heap.size w w' := by
  obtain ⟨r, hr⟩ : ∃ r, doubleI ps = r := ⟨_, rfl⟩
  have HR := Lib.hid hr
  rw [hr]
  clear hr
  by_cases h10 : 10 < n
  · have E : Hid (r = 0) := Lib.hid (by rw [← HR.out]; unfold doubleI; rw [hl, show decide (n ≤ 10) = false from decide_eq_false (by omega)]; rfl)
    clear hl hp HR
    go_enter Try.func33, Try.ntmps33
    go_wp2_with fail
    go_ret
    exact ⟨ret_i64 E.out.symm, Below.refl _ _⟩
  go_enter Try.func33, Try.ntmps33
  go_wp2_with fail
  have HO : ∀ W W' : World, (PtsAt W w.heap.size A ps ∧ Below w.heap.size w W) → Below W.heap.size W W' → (PtsAt W' w.heap.size A ps ∧ Below w.heap.size w W') := fun W W' ⟨x0, hb⟩ h => ⟨x0.later (h.mono hb.size), hb.trans (h.mono hb.size)⟩
  have S0 : PtsAt w w.heap.size A ps ∧ Below w.heap.size w w := ⟨hp, Below.refl _ _⟩
  clear hp
  refine (RoomOkImpl.arePointsOk A n cap _ ps hl hn (S0.1.wide S0.2.size)).mono ?_
  rintro e w1 ⟨rfl, hb_⟩
  replace S0 := HO _ _ S0 hb_
  clear hb_
  obtain ⟨_, _⟩ := id S0
  cases hok : okAll ps
  · have E : Hid (r = 0) := Lib.hid (by rw [← HR.out]; unfold doubleI; rw [hok]; simp)
    clear hl HR
    go_wp2_with fail
    go_ret
    exact ⟨ret_i64 E.out.symm, S0.2⟩
  have E : Hid (r = dblTo ps n) := Lib.hid (by rw [← HR.out]; unfold doubleI; rw [hok, hl, show decide (n ≤ 10) = true from decide_eq_true (by omega)]; rfl)
  have Q : Hid (∀ w hp, _) := Lib.hid fun w hp => RoomOkImpl.crossSum A n cap w ps hl (by omega) hok hp
  generalize dblTo ps n = d at *
  clear HR hl hok
  go_wp2_with fail
  refine (Q.out _ (S0.1.wide S0.2.size)).mono ?_
  rintro e w2 ⟨rfl, hb_⟩
  replace S0 := HO _ _ S0 hb_
  clear hb_
  obtain ⟨_, _⟩ := id S0
  go_wp2_with fail
  go_ret
  exact ⟨ret_i64 E.out.symm, S0.2⟩

set_option maxRecDepth 100000 in
set_option maxHeartbeats 1600000 in
theorem edgePoints (A : Option Addr) (n cap : Nat) (w : World) (ps : List (Int × Int)) (hl : ps.length = n) (hn : n ≤ 1048576) (hp : PtsAt w w.heap.size A ps) :
    Calls Try.prog 36 #[.agg #[.slice A n cap]] w fun e w' => e = .returned (.int .i64 (edgeI ps)) ∧ Below w.heap.size w w' := by
  obtain ⟨r, hr⟩ : ∃ r, edgeI ps = r := ⟨_, rfl⟩
  have HR := Lib.hid hr
  rw [hr]
  clear hr
  go_enter Try.func36, Try.ntmps36
  go_wp2_with fail
  have X0 := Pts.boxR w (.slice A n cap) 29 (k := w.heap.size) (by simp)
  have b0 := PointOk.below1 w (Obj.cells #[.slice A n cap] 29)
  have HO : ∀ W W' : World, (Pts.BoxR W (w.heap.size) (.slice A n cap) ∧ PtsAt W w.heap.size A ps ∧ Below w.heap.size w W) → Below W.heap.size W W' → (Pts.BoxR W' (w.heap.size) (.slice A n cap) ∧ PtsAt W' w.heap.size A ps ∧ Below w.heap.size w W') := fun W W' ⟨h0, x0, hb⟩ h => ⟨h0.later h, x0.later (h.mono hb.size), hb.trans (h.mono hb.size)⟩
  have hz0_ : Hid (((w.alloc (Obj.cells #[.slice A n cap] 29))).heap.size = w.heap.size + 1) := Lib.hid (by simp)
  have Y0 : PtsAt ((w.alloc (Obj.cells #[.slice A n cap] 29))) w.heap.size A ps := hp.later b0
  generalize (w.alloc (Obj.cells #[.slice A n cap] 29)) = w0 at X0 Y0 b0 hz0_ ⊢
  have S0 := (⟨X0, Y0, b0⟩ : Pts.BoxR w0 (w.heap.size) (.slice A n cap) ∧ PtsAt w0 w.heap.size A ps ∧ Below w.heap.size w w0)
  clear X0 Y0 b0
  obtain ⟨⟨_, _⟩, _, _⟩ := id S0
  refine (RoomOkImpl.roomOk A n cap _ ps hl hn (S0.2.1.wide S0.2.2.size)).mono ?_
  rintro e w1 ⟨rfl, hb_⟩
  replace S0 := HO _ _ S0 hb_
  clear hb_
  obtain ⟨⟨_, _⟩, _, _⟩ := id S0
  cases hr : roomB ps
  · have E : Hid (r = 0) := Lib.hid (by rw [← HR.out]; unfold edgeI; rw [hr]; rfl)
    clear hl HR
    go_wp2_with fail
    go_ret
    exact ⟨ret_i64 E.out.symm, S0.2.2⟩
  obtain ⟨h3, hok, _, _⟩ := roomB_yes hr
  rw [hl] at h3
  replace HR : Hid (edgeTo ps n = r) := Lib.hid (by rw [← HR.out]; unfold edgeI; rw [hr, hl]; rfl)
  clear hr
  go_wp2_with fail
  go_loopw [3, 11] (fun s i wr => ∃ k : Nat, k ≤ n ∧ i = .int .i64 k ∧ s = .int .i64 (edgeTo ps k) ∧ (Pts.BoxR wr (w.heap.size) (.slice A n cap) ∧ PtsAt wr w.heap.size A ps ∧ Below w.heap.size w wr))
    (fun _ i _ => n - (intOf i).toNat)
  case atStart => exact ⟨0, Nat.zero_le _, rfl, rfl, S0⟩
  case round =>
    clear S0
    obtain ⟨k, hkn, rfl, rfl, S0⟩ := hrel
    obtain ⟨⟨_, _⟩, _, _⟩ := id S0
    by_cases hlt : k < n
    · have hk1 : (k : Int) < (n : Int) := by omega
      have bd := edgeTo_bound ps k
      have e2 : Hid (edgeTo ps (k + 1) = edgeTo ps k + stepP (pt ps k) (pt ps ((k + 1) % n))) := Lib.hid (by rw [← hl]; rfl)
      have QW : Hid (∀ w hp, _) := Lib.hid fun w hp => RoomOkImpl.wallBehind A n cap k w ps hl (by omega) hlt hp
      generalize pt ps k = a at *
      generalize pt ps ((k + 1) % n) = b at *
      have sb := steps_bound a.1 a.2 b.1 b.2
      have QL : Hid (∀ w, _) := Lib.hid fun w => GcdImpl.latticeSteps a.1 a.2 b.1 b.2 w
      obtain ⟨t, ht⟩ : ∃ t, GcdMath.stepsI a.1 a.2 b.1 b.2 = t := ⟨_, rfl⟩
      rw [ht] at QL sb
      generalize edgeTo ps k = s at *
      have u1 : IntKind.i64.wrap (s + t) = s + t := IntWalk.i64_in _ (by omega)
      have E2 : Hid (edgeTo ps (k + 1) = s + t) := Lib.hid (by rw [e2.out, ← ht]; rfl)
      clear e2 ht bd sb hl HR hok
      go_wp2_with fail
      refine (QW.out _ (S0.2.1.wide S0.2.2.size)).mono ?_
      rintro e w2 ⟨rfl, hb_⟩
      replace S0 := HO _ _ S0 hb_
      clear hb_
      obtain ⟨⟨_, _⟩, _, _⟩ := id S0
      go_wp2_with fail
      refine (QL.out _).mono ?_
      rintro e w3 ⟨rfl, hb_⟩
      replace S0 := HO _ _ S0 hb_
      clear hb_
      obtain ⟨⟨_, _⟩, _, _⟩ := id S0
      go_wp2_with fail
      first
        | exact ⟨⟨k + 1, by omega, by go_num, by rw [E2.out], S0⟩, by simp [intOf]; omega⟩
        | (go_roundw <;> first | exact ⟨k + 1, by omega, by go_num, by rw [E2.out], S0⟩ | (simp [intOf]; omega))
    · obtain rfl : n = k := by omega
      clear hl
      go_wp2_with fail
      go_ret
      exact ⟨ret_i64 HR.out, S0.2.2⟩

set_option maxRecDepth 100000 in
set_option maxHeartbeats 800000 in
theorem innerPoints (A : Option Addr) (n cap : Nat) (w : World) (ps : List (Int × Int)) (hl : ps.length = n) (hn : n ≤ 1048576) (hp : PtsAt w w.heap.size A ps) :
    Calls Try.prog 38 #[.agg #[.slice A n cap]] w fun e w' => e = .returned (.int .i64 (innerI ps)) ∧ Below w.heap.size w w' := by
  obtain ⟨r, hr⟩ : ∃ r, innerI ps = r := ⟨_, rfl⟩
  have HR := Lib.hid hr
  rw [hr]
  clear hr
  go_enter Try.func38, Try.ntmps38
  go_wp2_with fail
  have X0 := Pts.boxR w (.slice A n cap) 29 (k := w.heap.size) (by simp)
  have b0 := PointOk.below1 w (Obj.cells #[.slice A n cap] 29)
  have HO : ∀ W W' : World, (Pts.BoxR W (w.heap.size) (.slice A n cap) ∧ PtsAt W w.heap.size A ps ∧ Below w.heap.size w W) → Below W.heap.size W W' → (Pts.BoxR W' (w.heap.size) (.slice A n cap) ∧ PtsAt W' w.heap.size A ps ∧ Below w.heap.size w W') := fun W W' ⟨h0, x0, hb⟩ h => ⟨h0.later h, x0.later (h.mono hb.size), hb.trans (h.mono hb.size)⟩
  have hz0_ : Hid (((w.alloc (Obj.cells #[.slice A n cap] 29))).heap.size = w.heap.size + 1) := Lib.hid (by simp)
  have Y0 : PtsAt ((w.alloc (Obj.cells #[.slice A n cap] 29))) w.heap.size A ps := hp.later b0
  generalize (w.alloc (Obj.cells #[.slice A n cap] 29)) = w0 at X0 Y0 b0 hz0_ ⊢
  have S0 := (⟨X0, Y0, b0⟩ : Pts.BoxR w0 (w.heap.size) (.slice A n cap) ∧ PtsAt w0 w.heap.size A ps ∧ Below w.heap.size w w0)
  clear X0 Y0 b0
  obtain ⟨⟨_, _⟩, _, _⟩ := id S0
  refine (RoomOkImpl.roomOk A n cap _ ps hl hn (S0.2.1.wide S0.2.2.size)).mono ?_
  rintro e w1 ⟨rfl, hb_⟩
  replace S0 := HO _ _ S0 hb_
  clear hb_
  obtain ⟨⟨_, _⟩, _, _⟩ := id S0
  cases hr : roomB ps
  · have E : Hid (r = -1) := Lib.hid (by rw [← HR.out]; unfold innerI; rw [hr]; rfl)
    clear hl HR
    go_wp2_with fail
    go_ret
    exact ⟨ret_i64 E.out.symm, S0.2.2⟩
  obtain ⟨h3, hok, _, _⟩ := roomB_yes hr
  rw [hl] at h3
  have bd := dblTo_bound hok n (by omega)
  have be := edgeTo_bound ps n
  have QC : Hid (∀ w hp, _) := Lib.hid fun w hp => RoomOkImpl.crossSum A n cap w ps hl h3.2 hok hp
  have QE : Hid (∀ w hp, _) := Lib.hid fun w hp => edgePoints A n cap w ps hl hn hp
  rw [show edgeI ps = edgeTo ps n by unfold edgeI; rw [hr, hl]; rfl] at QE
  replace HR : Hid ((dblTo ps n - edgeTo ps n + 2).tdiv 2 = r) := Lib.hid (by rw [← HR.out]; unfold innerI; rw [hr, hl]; rfl)
  generalize dblTo ps n = d at *
  generalize edgeTo ps n = t at *
  have u1 : IntKind.i64.wrap (d - t) = d - t := IntWalk.i64_in _ (by omega)
  have u2 : IntKind.i64.wrap (d - t + 2) = d - t + 2 := IntWalk.i64_in _ (by omega)
  have u3 : IntKind.i64.wrap ((d - t + 2).tdiv 2) = (d - t + 2).tdiv 2 := IntWalk.i64_in _ (by have := tdiv2 (d - t + 2); omega)
  clear hr bd be hl hok
  go_wp2_with fail
  refine Settle.region (fun W => Pts.BoxR W (w.heap.size) (.slice A n cap) ∧ PtsAt W w.heap.size A ps ∧ Below w.heap.size w W) (by kernel_rfl) (by kernel_rfl) (by kernel_rfl) (by kernel_rfl) (HO _ _ S0 ((Below.refl _ _).drew)) ?_
  clear S0
  repeat (first
    | (refine Settle.Settles.off (by rfl) ?_; simp only [Act.put, List.setIfInBounds_toArray, List.set_cons_zero, List.set_cons_succ])
    | (refine Settle.Settles.quiet (v := ?_) (by rfl) ?_ ?_
       rotate_left
       · (intro W hS; obtain ⟨⟨_, _⟩, _, _⟩ := hS; go_simp; with_reducible rfl)
       simp only [Act.put, List.setIfInBounds_toArray, List.set_cons_zero, List.set_cons_succ])
    | (refine Settle.Settles.call (v := ?_) (f := ?_) (args := ?_) (by rfl) ?_ ?_ ?_
       rotate_left 3
       · (intro W; go_simp; refine ⟨?_, ?_⟩ <;> with_reducible rfl)
       · (intro W hS; first | (go_at_call 59; (with_reducible refine (QC.out _ (hS.2.1.wide hS.2.2.size)).mono ?_); rintro e W1 ⟨rfl, hb⟩; refine ⟨?_, HO _ _ hS hb⟩; with_reducible rfl) | (go_at_call 36; (with_reducible refine (QE.out _ (hS.2.1.wide hS.2.2.size)).mono ?_); rintro e W1 ⟨rfl, hb⟩; refine ⟨?_, HO _ _ hS hb⟩; with_reducible rfl))
       simp only [Act.put, List.setIfInBounds_toArray, List.set_cons_zero, List.set_cons_succ]))
  refine Settle.Settles.nil ?_
  intro wr S0
  obtain ⟨⟨_, _⟩, _, _⟩ := id S0
  go_wp2_with fail
  go_ret
  exact ⟨ret_i64 HR.out, S0.2.2⟩

set_option maxRecDepth 100000 in
set_option maxHeartbeats 800000 in
theorem isLarger (A : Option Addr) (n ca : Nat) (B : Option Addr) (m cb : Nat) (w : World) (ps : List (Int × Int)) (hl : ps.length = n) (hn : n ≤ 1048576) (hp : PtsAt w w.heap.size A ps) (qs : List (Int × Int)) (hl2 : qs.length = m) (hn2 : m ≤ 1048576) (hq : PtsAt w w.heap.size B qs) :
    Calls Try.prog 40 #[.agg #[.slice A n ca], .agg #[.slice B m cb]] w fun e w' => e = .returned (.bool (largerB ps qs)) ∧ Below w.heap.size w w' := by
  obtain ⟨r, hr⟩ : ∃ r, largerB ps qs = r := ⟨_, rfl⟩
  have HR := Lib.hid hr
  rw [hr]
  clear hr
  have QA : roomB ps = true → Hid (∀ w hp, _) := fun h => Lib.hid fun w hp => RoomOkImpl.crossSum A n ca w ps hl (by have := (roomB_yes h).1; omega) (roomB_yes h).2.1 hp
  have QB : roomB qs = true → Hid (∀ w hp, _) := fun h => Lib.hid fun w hp => RoomOkImpl.crossSum B m cb w qs hl2 (by have := (roomB_yes h).1; omega) (roomB_yes h).2.1 hp
  have R1 : Hid (∀ w hp, _) := Lib.hid fun w hp => RoomOkImpl.roomOk A n ca w ps hl hn hp
  have R2 : Hid (∀ w hp, _) := Lib.hid fun w hp => RoomOkImpl.roomOk B m cb w qs hl2 hn2 hp
  have E : Hid (r = (roomB ps && roomB qs && decide (dblTo qs m < dblTo ps n))) := Lib.hid (by rw [← HR.out]; unfold largerB; rw [hl, hl2])
  generalize dblTo ps n = d at *
  generalize dblTo qs m = t at *
  clear hl hl2 HR
  go_enter Try.func40, Try.ntmps40
  go_wp2_with fail
  have X0 := (Pts.boxR w (.slice A n ca) 29 (k := w.heap.size) (by simp)).alloc (Obj.cells #[.slice B m cb] 29)
  have X1 := Pts.boxR (w.alloc (Obj.cells #[.slice A n ca] 29)) (.slice B m cb) 29 (k := w.heap.size + 1) (by simp)
  have b0 := PointOk.below2 w (Obj.cells #[.slice A n ca] 29) (Obj.cells #[.slice B m cb] 29)
  have HO : ∀ W W' : World, (Pts.BoxR W (w.heap.size) (.slice A n ca) ∧ Pts.BoxR W (w.heap.size + 1) (.slice B m cb) ∧ PtsAt W w.heap.size A ps ∧ PtsAt W w.heap.size B qs ∧ Below w.heap.size w W) → Below W.heap.size W W' → (Pts.BoxR W' (w.heap.size) (.slice A n ca) ∧ Pts.BoxR W' (w.heap.size + 1) (.slice B m cb) ∧ PtsAt W' w.heap.size A ps ∧ PtsAt W' w.heap.size B qs ∧ Below w.heap.size w W') := fun W W' ⟨h0, h1, x0, x1, hb⟩ h => ⟨h0.later h, h1.later h, x0.later (h.mono hb.size), x1.later (h.mono hb.size), hb.trans (h.mono hb.size)⟩
  have hz0_ : Hid ((((w.alloc (Obj.cells #[.slice A n ca] 29)).alloc (Obj.cells #[.slice B m cb] 29))).heap.size = w.heap.size + 1 + 1) := Lib.hid (by simp)
  have Y0 : PtsAt (((w.alloc (Obj.cells #[.slice A n ca] 29)).alloc (Obj.cells #[.slice B m cb] 29))) w.heap.size A ps := hp.later b0
  have Y1 : PtsAt (((w.alloc (Obj.cells #[.slice A n ca] 29)).alloc (Obj.cells #[.slice B m cb] 29))) w.heap.size B qs := hq.later b0
  generalize ((w.alloc (Obj.cells #[.slice A n ca] 29)).alloc (Obj.cells #[.slice B m cb] 29)) = w0 at X0 X1 Y0 Y1 b0 hz0_ ⊢
  have S0 := (⟨X0, X1, Y0, Y1, b0⟩ : Pts.BoxR w0 (w.heap.size) (.slice A n ca) ∧ Pts.BoxR w0 (w.heap.size + 1) (.slice B m cb) ∧ PtsAt w0 w.heap.size A ps ∧ PtsAt w0 w.heap.size B qs ∧ Below w.heap.size w w0)
  clear X0 X1 Y0 Y1 b0
  obtain ⟨⟨_, _⟩, ⟨_, _⟩, _, _, _⟩ := id S0
  refine Settle.region (fun W => Pts.BoxR W (w.heap.size) (.slice A n ca) ∧ Pts.BoxR W (w.heap.size + 1) (.slice B m cb) ∧ PtsAt W w.heap.size A ps ∧ PtsAt W w.heap.size B qs ∧ Below w.heap.size w W) (by kernel_rfl) (by kernel_rfl) (by kernel_rfl) (by kernel_rfl) (HO _ _ S0 ((Below.refl _ _).drew)) ?_
  clear S0
  repeat (first
    | (refine Settle.Settles.off (by rfl) ?_; simp only [Act.put, List.setIfInBounds_toArray, List.set_cons_zero, List.set_cons_succ])
    | (refine Settle.Settles.quiet (v := ?_) (by rfl) ?_ ?_
       rotate_left
       · (intro W hS; obtain ⟨⟨_, _⟩, ⟨_, _⟩, _, _, _⟩ := hS; go_simp; with_reducible rfl)
       simp only [Act.put, List.setIfInBounds_toArray, List.set_cons_zero, List.set_cons_succ])
    | (refine Settle.Settles.call (v := ?_) (f := ?_) (args := ?_) (by rfl) ?_ ?_ ?_
       rotate_left 3
       · (intro W; go_simp; refine ⟨?_, ?_⟩ <;> with_reducible rfl)
       · (intro W hS; first | (go_at_call 18; (with_reducible refine (R1.out _ (hS.2.2.1.wide hS.2.2.2.2.size)).mono ?_); rintro e W1 ⟨rfl, hb⟩; refine ⟨?_, HO _ _ hS hb⟩; with_reducible rfl) | (go_at_call 18; (with_reducible refine (R2.out _ (hS.2.2.2.1.wide hS.2.2.2.2.size)).mono ?_); rintro e W1 ⟨rfl, hb⟩; refine ⟨?_, HO _ _ hS hb⟩; with_reducible rfl) | (go_at_call 59; (with_reducible refine ((QA h1.out).out _ (hS.2.2.1.wide hS.2.2.2.2.size)).mono ?_); rintro e W1 ⟨rfl, hb⟩; refine ⟨?_, HO _ _ hS hb⟩; with_reducible rfl) | (go_at_call 59; (with_reducible refine ((QB h2.out).out _ (hS.2.2.2.1.wide hS.2.2.2.2.size)).mono ?_); rintro e W1 ⟨rfl, hb⟩; refine ⟨?_, HO _ _ hS hb⟩; with_reducible rfl))
       simp only [Act.put, List.setIfInBounds_toArray, List.set_cons_zero, List.set_cons_succ]))
  cases h1 : roomB ps
  · skip
    repeat (first
      | (refine Settle.Settles.off (by rfl) ?_; simp only [Act.put, List.setIfInBounds_toArray, List.set_cons_zero, List.set_cons_succ])
      | (refine Settle.Settles.quiet (v := ?_) (by rfl) ?_ ?_
         rotate_left
         · (intro W hS; obtain ⟨⟨_, _⟩, ⟨_, _⟩, _, _, _⟩ := hS; go_simp; with_reducible rfl)
         simp only [Act.put, List.setIfInBounds_toArray, List.set_cons_zero, List.set_cons_succ])
      | (refine Settle.Settles.call (v := ?_) (f := ?_) (args := ?_) (by rfl) ?_ ?_ ?_
         rotate_left 3
         · (intro W; go_simp; refine ⟨?_, ?_⟩ <;> with_reducible rfl)
         · (intro W hS; first | (go_at_call 18; (with_reducible refine (R1.out _ (hS.2.2.1.wide hS.2.2.2.2.size)).mono ?_); rintro e W1 ⟨rfl, hb⟩; refine ⟨?_, HO _ _ hS hb⟩; with_reducible rfl) | (go_at_call 18; (with_reducible refine (R2.out _ (hS.2.2.2.1.wide hS.2.2.2.2.size)).mono ?_); rintro e W1 ⟨rfl, hb⟩; refine ⟨?_, HO _ _ hS hb⟩; with_reducible rfl) | (go_at_call 59; (with_reducible refine ((QA h1.out).out _ (hS.2.2.1.wide hS.2.2.2.2.size)).mono ?_); rintro e W1 ⟨rfl, hb⟩; refine ⟨?_, HO _ _ hS hb⟩; with_reducible rfl) | (go_at_call 59; (with_reducible refine ((QB h2.out).out _ (hS.2.2.2.1.wide hS.2.2.2.2.size)).mono ?_); rintro e W1 ⟨rfl, hb⟩; refine ⟨?_, HO _ _ hS hb⟩; with_reducible rfl))
         simp only [Act.put, List.setIfInBounds_toArray, List.set_cons_zero, List.set_cons_succ]))
    refine Settle.Settles.nil ?_
    intro wr S0
    obtain ⟨⟨_, _⟩, ⟨_, _⟩, _, _, _⟩ := id S0
    go_wp2_with fail
    go_ret
    exact ⟨ret_bool (by rw [E.out, h1]; rfl), S0.2.2.2.2⟩
  replace h1 := Lib.hid h1
  repeat (first
    | (refine Settle.Settles.off (by rfl) ?_; simp only [Act.put, List.setIfInBounds_toArray, List.set_cons_zero, List.set_cons_succ])
    | (refine Settle.Settles.quiet (v := ?_) (by rfl) ?_ ?_
       rotate_left
       · (intro W hS; obtain ⟨⟨_, _⟩, ⟨_, _⟩, _, _, _⟩ := hS; go_simp; with_reducible rfl)
       simp only [Act.put, List.setIfInBounds_toArray, List.set_cons_zero, List.set_cons_succ])
    | (refine Settle.Settles.call (v := ?_) (f := ?_) (args := ?_) (by rfl) ?_ ?_ ?_
       rotate_left 3
       · (intro W; go_simp; refine ⟨?_, ?_⟩ <;> with_reducible rfl)
       · (intro W hS; first | (go_at_call 18; (with_reducible refine (R1.out _ (hS.2.2.1.wide hS.2.2.2.2.size)).mono ?_); rintro e W1 ⟨rfl, hb⟩; refine ⟨?_, HO _ _ hS hb⟩; with_reducible rfl) | (go_at_call 18; (with_reducible refine (R2.out _ (hS.2.2.2.1.wide hS.2.2.2.2.size)).mono ?_); rintro e W1 ⟨rfl, hb⟩; refine ⟨?_, HO _ _ hS hb⟩; with_reducible rfl) | (go_at_call 59; (with_reducible refine ((QA h1.out).out _ (hS.2.2.1.wide hS.2.2.2.2.size)).mono ?_); rintro e W1 ⟨rfl, hb⟩; refine ⟨?_, HO _ _ hS hb⟩; with_reducible rfl) | (go_at_call 59; (with_reducible refine ((QB h2.out).out _ (hS.2.2.2.1.wide hS.2.2.2.2.size)).mono ?_); rintro e W1 ⟨rfl, hb⟩; refine ⟨?_, HO _ _ hS hb⟩; with_reducible rfl))
       simp only [Act.put, List.setIfInBounds_toArray, List.set_cons_zero, List.set_cons_succ]))
  cases h2 : roomB qs
  · skip
    repeat (first
      | (refine Settle.Settles.off (by rfl) ?_; simp only [Act.put, List.setIfInBounds_toArray, List.set_cons_zero, List.set_cons_succ])
      | (refine Settle.Settles.quiet (v := ?_) (by rfl) ?_ ?_
         rotate_left
         · (intro W hS; obtain ⟨⟨_, _⟩, ⟨_, _⟩, _, _, _⟩ := hS; go_simp; with_reducible rfl)
         simp only [Act.put, List.setIfInBounds_toArray, List.set_cons_zero, List.set_cons_succ])
      | (refine Settle.Settles.call (v := ?_) (f := ?_) (args := ?_) (by rfl) ?_ ?_ ?_
         rotate_left 3
         · (intro W; go_simp; refine ⟨?_, ?_⟩ <;> with_reducible rfl)
         · (intro W hS; first | (go_at_call 18; (with_reducible refine (R1.out _ (hS.2.2.1.wide hS.2.2.2.2.size)).mono ?_); rintro e W1 ⟨rfl, hb⟩; refine ⟨?_, HO _ _ hS hb⟩; with_reducible rfl) | (go_at_call 18; (with_reducible refine (R2.out _ (hS.2.2.2.1.wide hS.2.2.2.2.size)).mono ?_); rintro e W1 ⟨rfl, hb⟩; refine ⟨?_, HO _ _ hS hb⟩; with_reducible rfl) | (go_at_call 59; (with_reducible refine ((QA h1.out).out _ (hS.2.2.1.wide hS.2.2.2.2.size)).mono ?_); rintro e W1 ⟨rfl, hb⟩; refine ⟨?_, HO _ _ hS hb⟩; with_reducible rfl) | (go_at_call 59; (with_reducible refine ((QB h2.out).out _ (hS.2.2.2.1.wide hS.2.2.2.2.size)).mono ?_); rintro e W1 ⟨rfl, hb⟩; refine ⟨?_, HO _ _ hS hb⟩; with_reducible rfl))
         simp only [Act.put, List.setIfInBounds_toArray, List.set_cons_zero, List.set_cons_succ]))
    refine Settle.Settles.nil ?_
    intro wr S0
    obtain ⟨⟨_, _⟩, ⟨_, _⟩, _, _, _⟩ := id S0
    go_wp2_with fail
    go_ret
    exact ⟨ret_bool (by rw [E.out, h1.out, h2]; rfl), S0.2.2.2.2⟩
  replace h2 := Lib.hid h2
  repeat (first
    | (refine Settle.Settles.off (by rfl) ?_; simp only [Act.put, List.setIfInBounds_toArray, List.set_cons_zero, List.set_cons_succ])
    | (refine Settle.Settles.quiet (v := ?_) (by rfl) ?_ ?_
       rotate_left
       · (intro W hS; obtain ⟨⟨_, _⟩, ⟨_, _⟩, _, _, _⟩ := hS; go_simp; with_reducible rfl)
       simp only [Act.put, List.setIfInBounds_toArray, List.set_cons_zero, List.set_cons_succ])
    | (refine Settle.Settles.call (v := ?_) (f := ?_) (args := ?_) (by rfl) ?_ ?_ ?_
       rotate_left 3
       · (intro W; go_simp; refine ⟨?_, ?_⟩ <;> with_reducible rfl)
       · (intro W hS; first | (go_at_call 18; (with_reducible refine (R1.out _ (hS.2.2.1.wide hS.2.2.2.2.size)).mono ?_); rintro e W1 ⟨rfl, hb⟩; refine ⟨?_, HO _ _ hS hb⟩; with_reducible rfl) | (go_at_call 18; (with_reducible refine (R2.out _ (hS.2.2.2.1.wide hS.2.2.2.2.size)).mono ?_); rintro e W1 ⟨rfl, hb⟩; refine ⟨?_, HO _ _ hS hb⟩; with_reducible rfl) | (go_at_call 59; (with_reducible refine ((QA h1.out).out _ (hS.2.2.1.wide hS.2.2.2.2.size)).mono ?_); rintro e W1 ⟨rfl, hb⟩; refine ⟨?_, HO _ _ hS hb⟩; with_reducible rfl) | (go_at_call 59; (with_reducible refine ((QB h2.out).out _ (hS.2.2.2.1.wide hS.2.2.2.2.size)).mono ?_); rintro e W1 ⟨rfl, hb⟩; refine ⟨?_, HO _ _ hS hb⟩; with_reducible rfl))
       simp only [Act.put, List.setIfInBounds_toArray, List.set_cons_zero, List.set_cons_succ]))
  refine Settle.Settles.nil ?_
  intro wr S0
  obtain ⟨⟨_, _⟩, ⟨_, _⟩, _, _, _⟩ := id S0
  go_wp2_with fail
  go_ret
  exact ⟨ret_bool (by rw [E.out, h1.out, h2.out]; rfl), S0.2.2.2.2⟩

end Go.Proofs.Ytofjpepppjlecaa.AreaImpl

