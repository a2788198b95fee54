/-
  What the functions on lists of frames and of sightings do, as contracts: what each answers; new memory alone is written.
-/
import Derived.Test.YtonbpmabmjhdgaaTrackImpl
import Derived.Test.YtonbpmabmjhdgaaListMath
import Derived.Test.YtonbpmabmjhdgaaGround
import Derived.Lib.MinMax
namespace Go.Proofs.Ytonbpmabmjhdgaa.ListImpl
open Go.RowKit Own PointMath TrackMath DiagMath ListMath Tup3 Blk
open PointOk (ret_bool ret_i64 below1 below2 below3)

theorem infoI : (Try.prog.info? 3).map (fun i => (i.zero, i.size, i.bytes)) = some (some (.int .i64 0), 1, 8) := by kernel_rfl

set_option maxRecDepth 100000 in
set_option maxHeartbeats 6400000 in
theorem isOrdered (A : Option Addr) (n cap : Nat) (w : World) (ps : List Tu) (hl : ps.length = n) (hn : n ≤ 1048576) (hp : TsAt w w.heap.size A ps) :
    Calls Try.prog 41 #[.slice A n cap] w fun e w' => e = .returned (.bool (orderedB ps)) ∧ Below w.heap.size w w' := by
  obtain ⟨r, hr⟩ : ∃ r, orderedB ps = r := ⟨_, rfl⟩
  have HR := Lib.hid hr
  rw [hr]
  clear hr
  go_enter Try.func41, Try.ntmps41
  go_wp2_with fail
  have HO : ∀ W W' : World, (TsAt W w.heap.size A ps ∧ Below w.heap.size w W) → Below W.heap.size W W' → (TsAt W' w.heap.size A ps ∧ Below w.heap.size w W') := fun W W' ⟨x0, hb⟩ h => ⟨x0.later (h.mono hb.size), hb.trans (h.mono hb.size)⟩
  have S0 : TsAt w w.heap.size A ps ∧ Below w.heap.size w w := ⟨hp, Below.refl _ _⟩
  clear hp
  go_loopw [3] (fun q wr => ∃ k : Nat, 1 ≤ k ∧ (k ≤ n ∨ k = 1) ∧ q = .int .i64 k ∧ Hid (∀ j, j ≤ k → j ≤ n → ordTo ps j = true) ∧ (TsAt wr w.heap.size A ps ∧ Below w.heap.size w wr))
    (fun q _ => n + 1 - (intOf q).toNat)
  case atStart => exact ⟨1, Nat.le_refl _, .inr rfl, rfl, Lib.hid (fun j hj _ => by match j, hj with | 0, _ => rfl | 1, _ => rfl), S0⟩
  case round =>
    clear S0
    obtain ⟨k, hk, hkm, rfl, hw, S0⟩ := hrel
    obtain ⟨_, _⟩ := id S0
    by_cases hlt : k < n
    rotate_left
    · have hk1 : ¬ ((k : Int) < (n : Int)) := by omega
      have E : Hid (r = true) := Lib.hid (by rw [← HR.out]; unfold orderedB; rw [hl]; exact hw.out n (by omega) (Nat.le_refl _))
      clear hl HR hw
      go_wp2_with fail
      go_ret
      exact ⟨ret_bool E.out.symm, S0.2⟩
    have hk1 : (k : Int) < (n : Int) := by omega
    have hk0 : (0 : Int) ≤ (k : Int) := by omega
    have HN : Hid ((tt ps (k - 1)).1 < (tt ps k).1 → (tt ps (k - 1)).2.1 < (tt ps k).2.1 → ∀ j, j ≤ k + 1 → j ≤ n → ordTo ps j = true) := Lib.hid (by
      intro h1 h2 j hj hjm
      rcases Nat.lt_or_ge k j with h | h
      · obtain rfl : j = k + 1 := by omega
        show (ordTo ps k && (decide (k = 0) || (decide ((tt ps (k - 1)).1 < (tt ps k).1) && decide ((tt ps (k - 1)).2.1 < (tt ps k).2.1)))) = true
        rw [hw.out k (Nat.le_refl _) (by omega), decide_eq_true h1, decide_eq_true h2]; simp
      · exact hw.out j h hjm)
    have HF : Hid ((tt ps k).1 ≤ (tt ps (k - 1)).1 ∨ (tt ps k).2.1 ≤ (tt ps (k - 1)).2.1 → r = false) := Lib.hid (by
      intro h
      rw [← HR.out]; unfold orderedB
      rw [hl]; exact ordTo_not (by omega) h n hlt)
    obtain ⟨j, hkj⟩ : ∃ j, k - 1 = j := ⟨_, rfl⟩
    have uj : IntKind.i64.wrap ((k : Int) - 1) = (j : Int) := by rw [IntWalk.i64_in _ (by omega)]; omega
    have hj1 : (j : Int) < (n : Int) := by omega
    have hj0 : (0 : Int) ≤ (j : Int) := by omega
    have p0 := tt_at (ps := ps) (k := k) (by omega)
    have p1 := tt_at (ps := ps) (k := j) (by omega)
    rw [hkj] at HN HF
    obtain ⟨a, b, c, hg⟩ : ∃ a b c, tt ps k = (a, b, c) := ⟨_, _, _, rfl⟩
    obtain ⟨d, e, f, hj⟩ : ∃ a b c, tt ps j = (a, b, c) := ⟨_, _, _, rfl⟩
    rw [hg] at p0 HN HF
    rw [hj] at p1 HN HF
    obtain ⟨bd, eB, bB, pB⟩ := S0.1.get p0
    subst eB
    obtain ⟨bd2, eB2, _, pJ⟩ := S0.1.get p1
    injection eB2 with eB2
    subst eB2
    have HO : ∀ W W' : World, (TsAt W w.heap.size (some bd) ps ∧ TAt W bd k a b c ∧ TAt W bd j d e f ∧ Below w.heap.size w W) → Below W.heap.size W W' → (TsAt W' w.heap.size (some bd) ps ∧ TAt W' bd k a b c ∧ TAt W' bd j d e f ∧ Below w.heap.size w W') := fun W W' ⟨x0, x1, x2, hb⟩ h => ⟨x0.later (h.mono hb.size), x1.later bB (h.mono hb.size), x2.later bB (h.mono hb.size), hb.trans (h.mono hb.size)⟩
    replace S0 : TsAt wr w.heap.size (some bd) ps ∧ TAt wr bd k a b c ∧ TAt wr bd j d e f ∧ Below w.heap.size w wr := ⟨S0.1, pB, pJ, S0.2⟩
    clear pB pJ p0 p1 hg hj
    obtain ⟨_, ⟨_, _, _⟩, ⟨_, _, _⟩, _⟩ := id S0
    clear hl HR hw
    by_cases h1 : a ≤ d
    · have d1 : decide (a ≤ d) = true := decide_eq_true h1
      have E := Lib.hid (HF.out (.inl h1))
      clear HN HF
      go_wp2_with fail
      refine Settle.region (fun W => TsAt W w.heap.size (some bd) ps ∧ TAt W bd k a b c ∧ TAt W bd j d e f ∧ Below w.heap.size w W) (by kernel_rfl) (by kernel_rfl) (by kernel_rfl) (by kernel_rfl) (HO _ _ S0 ((Below.refl _ _).drew)) ?_
      clear S0
      repeat (first
        | (refine Settle.Settles.off (by rfl) ?_; simp only [Act.put, List.setIfInBounds_toArray, List.set_cons_zero, List.set_cons_succ])
        | (refine Settle.Settles.quiet (v := ?_) (by rfl) ?_ ?_
           rotate_left
           · (intro W hS; obtain ⟨_, ⟨_, _, _⟩, ⟨_, _, _⟩, _⟩ := hS; go_simp; with_reducible rfl)
           simp only [Act.put, List.setIfInBounds_toArray, List.set_cons_zero, List.set_cons_succ])
        | (refine Settle.Settles.call (v := ?_) (f := ?_) (args := ?_) (by rfl) ?_ ?_ ?_
           rotate_left 3
           · (intro W; go_simp; refine ⟨?_, ?_⟩ <;> with_reducible rfl)
           · (intro W hS; fail)
           simp only [Act.put, List.setIfInBounds_toArray, List.set_cons_zero, List.set_cons_succ]))
      refine Settle.Settles.nil ?_
      intro wr S0
      obtain ⟨_, ⟨_, _, _⟩, ⟨_, _, _⟩, _⟩ := id S0
      go_wp2_with fail
      go_ret
      exact ⟨ret_bool E.out.symm, S0.2.2.2⟩
    have d1 : decide (a ≤ d) = false := decide_eq_false h1
    by_cases h2 : b ≤ e
    · have d2 : decide (b ≤ e) = true := decide_eq_true h2
      have E := Lib.hid (HF.out (.inr h2))
      clear HN HF
      go_wp2_with fail
      refine Settle.region (fun W => TsAt W w.heap.size (some bd) ps ∧ TAt W bd k a b c ∧ TAt W bd j d e f ∧ Below w.heap.size w W) (by kernel_rfl) (by kernel_rfl) (by kernel_rfl) (by kernel_rfl) (HO _ _ S0 ((Below.refl _ _).drew)) ?_
      clear S0
      repeat (first
        | (refine Settle.Settles.off (by rfl) ?_; simp only [Act.put, List.setIfInBounds_toArray, List.set_cons_zero, List.set_cons_succ])
        | (refine Settle.Settles.quiet (v := ?_) (by rfl) ?_ ?_
           rotate_left
           · (intro W hS; obtain ⟨_, ⟨_, _, _⟩, ⟨_, _, _⟩, _⟩ := hS; go_simp; with_reducible rfl)
           simp only [Act.put, List.setIfInBounds_toArray, List.set_cons_zero, List.set_cons_succ])
        | (refine Settle.Settles.call (v := ?_) (f := ?_) (args := ?_) (by rfl) ?_ ?_ ?_
           rotate_left 3
           · (intro W; go_simp; refine ⟨?_, ?_⟩ <;> with_reducible rfl)
           · (intro W hS; fail)
           simp only [Act.put, List.setIfInBounds_toArray, List.set_cons_zero, List.set_cons_succ]))
      refine Settle.Settles.nil ?_
      intro wr S0
      obtain ⟨_, ⟨_, _, _⟩, ⟨_, _, _⟩, _⟩ := id S0
      go_wp2_with fail
      go_ret
      exact ⟨ret_bool E.out.symm, S0.2.2.2⟩
    have d2 : decide (b ≤ e) = false := decide_eq_false h2
    have HN2 := Lib.hid (HN.out (by simp only; omega) (by simp only; omega))
    clear HN HF
    go_wp2_with fail
    refine Settle.region (fun W => TsAt W w.heap.size (some bd) ps ∧ TAt W bd k a b c ∧ TAt W bd j d e f ∧ Below w.heap.size w W) (by kernel_rfl) (by kernel_rfl) (by kernel_rfl) (by kernel_rfl) (HO _ _ S0 ((Below.refl _ _).drew)) ?_
    clear S0
    repeat (first
      | (refine Settle.Settles.off (by rfl) ?_; simp only [Act.put, List.setIfInBounds_toArray, List.set_cons_zero, List.set_cons_succ])
      | (refine Settle.Settles.quiet (v := ?_) (by rfl) ?_ ?_
         rotate_left
         · (intro W hS; obtain ⟨_, ⟨_, _, _⟩, ⟨_, _, _⟩, _⟩ := hS; go_simp; with_reducible rfl)
         simp only [Act.put, List.setIfInBounds_toArray, List.set_cons_zero, List.set_cons_succ])
      | (refine Settle.Settles.call (v := ?_) (f := ?_) (args := ?_) (by rfl) ?_ ?_ ?_
         rotate_left 3
         · (intro W; go_simp; refine ⟨?_, ?_⟩ <;> with_reducible rfl)
         · (intro W hS; fail)
         simp only [Act.put, List.setIfInBounds_toArray, List.set_cons_zero, List.set_cons_succ]))
    refine Settle.Settles.nil ?_
    intro wr S0
    obtain ⟨_, ⟨_, _, _⟩, ⟨_, _, _⟩, _⟩ := id S0
    go_wp2_with fail
    first
      | exact ⟨⟨k + 1, by omega, by omega, by go_num, HN2, S0.1, S0.2.2.2⟩, by simp [intOf]; omega⟩
      | (go_roundw <;> first | exact ⟨k + 1, by omega, by omega, by go_num, HN2, S0.1, S0.2.2.2⟩ | (simp [intOf]; omega))

set_option maxRecDepth 100000 in
set_option maxHeartbeats 6400000 in
theorem framesOk (A : Option Addr) (n cap : Nat) (w : World) (ps : List Tu) (hl : ps.length = n) (hn : n ≤ 1048576) (hp : TsAt w w.heap.size A ps) :
    Calls Try.prog 66 #[.slice A n cap] w fun e w' => e = .returned (.bool (framesB ps)) ∧ Below w.heap.size w w' := by
  obtain ⟨r, hr⟩ : ∃ r, framesB ps = r := ⟨_, rfl⟩
  have HR := Lib.hid hr
  rw [hr]
  clear hr
  by_cases h60 : 60 < n
  · have h61 : (60 : Int) < (n : Int) := by omega
    have E : Hid (r = false) := Lib.hid (by rw [← HR.out]; unfold framesB; rw [hl, show decide (n ≤ 60) = false from decide_eq_false (by omega)]; rfl)
    clear hl hp HR
    go_enter Try.func66, Try.ntmps66
    go_wp2_with fail
    go_ret
    exact ⟨ret_bool E.out.symm, Below.refl _ _⟩
  have h61 : ¬ (60 : Int) < (n : Int) := by omega
  go_enter Try.func66, Try.ntmps66
  go_wp2_with fail
  have HO : ∀ W W' : World, (TsAt W w.heap.size A ps ∧ Below w.heap.size w W) → Below W.heap.size W W' → (TsAt W' w.heap.size A ps ∧ Below w.heap.size w W') := fun W W' ⟨x0, hb⟩ h => ⟨x0.later (h.mono hb.size), hb.trans (h.mono hb.size)⟩
  have S0 : TsAt w w.heap.size A ps ∧ Below w.heap.size w w := ⟨hp, Below.refl _ _⟩
  clear hp
  go_loopw [10] (fun q wr => ∃ k : Nat, k ≤ n ∧ q = .int .i64 k ∧ Hid (∀ j, j < k → frameT (tt ps j) = true) ∧ (TsAt wr w.heap.size A ps ∧ Below w.heap.size w wr))
    (fun q _ => n - (intOf q).toNat)
  case atStart => exact ⟨0, Nat.zero_le _, rfl, Lib.hid (fun j hj => absurd hj (by omega)), S0⟩
  case round =>
    clear S0
    obtain ⟨k, hkn, rfl, hw, S0⟩ := hrel
    by_cases hlt : k < n
    rotate_left
    · obtain rfl : n = k := by omega
      have E : Hid (r = true) := Lib.hid (by rw [← HR.out, framesB_of (by rw [hl]; exact hw.out), hl]; exact decide_eq_true (by omega))
      clear hl HR hw
      go_wp2_with fail
      go_ret
      exact ⟨ret_bool E.out.symm, S0.2⟩
    have hk1 : (k : Int) < (n : Int) := by omega
    have hk0 : (0 : Int) ≤ (k : Int) := by omega
    have p0 := tt_at (ps := ps) (k := k) (by omega)
    obtain ⟨a, b, c, hg⟩ : ∃ a b c, tt ps k = (a, b, c) := ⟨_, _, _, rfl⟩
    have HF : Hid (frameB a b c = false → r = false) := Lib.hid (fun h => by rw [← HR.out]; exact framesB_not (k := k) (by omega) (by unfold frameT; rw [hg]; exact h))
    have HN : Hid (frameB a b c = true → ∀ j, j < k + 1 → frameT (tt ps j) = true) := Lib.hid (fun h j hj => by
      rcases Nat.lt_or_ge j k with h1 | h1
      · exact hw.out j h1
      · obtain rfl : j = k := by omega
        unfold frameT; rw [hg]; exact h)
    rw [hg] at p0
    obtain ⟨bd, eB, bB, pB⟩ := S0.1.get p0
    subst eB
    have HO : ∀ W W' : World, (TsAt W w.heap.size (some bd) ps ∧ Below w.heap.size w W) → Below W.heap.size W W' → (TsAt W' w.heap.size (some bd) ps ∧ Below w.heap.size w W') := fun W W' ⟨x0, hb⟩ h => ⟨x0.later (h.mono hb.size), hb.trans (h.mono hb.size)⟩
    replace S0 : TsAt wr w.heap.size (some bd) ps ∧ Below w.heap.size w wr := ⟨S0.1, S0.2⟩
    have X3 := Tup3.box1 wr a b c 41 (k := wr.heap.size) rfl
    obtain ⟨_, _, _⟩ := id pB
    have b1_ := below1 wr (Obj.cells #[.int .i64 a, .int .i64 b, .int .i64 c] 41)
    have S0a := HO _ _ S0 b1_
    obtain ⟨_, _, _⟩ := id X3
    replace S0 := S0a
    clear b1_ S0a
    clear pB p0 hg hl HR hw
    obtain ⟨_, _⟩ := id S0
    have Q1 : Hid (∀ w, _) := Lib.hid fun w => TrackImpl.frameOk a b c w
    cases hf : frameB a b c
    · have E := Lib.hid (HF.out hf)
      rw [hf] at Q1
      clear HN HF hf
      go_wp2_with fail
      generalize wr.alloc (Obj.cells #[.int .i64 a, .int .i64 b, .int .i64 c] 41) = v1 at *
      refine (Q1.out _).mono ?_
      rintro e w1 ⟨rfl, hb_⟩
      replace S0 := HO _ _ S0 hb_
      clear hb_
      obtain ⟨_, _⟩ := id S0
      go_wp2_with fail
      go_ret
      exact ⟨ret_bool E.out.symm, S0.2⟩
    · have HN2 := Lib.hid (HN.out hf)
      rw [hf] at Q1
      clear HN HF hf
      go_wp2_with fail
      generalize wr.alloc (Obj.cells #[.int .i64 a, .int .i64 b, .int .i64 c] 41) = v1 at *
      refine (Q1.out _).mono ?_
      rintro e w2 ⟨rfl, hb_⟩
      replace S0 := HO _ _ S0 hb_
      clear hb_
      obtain ⟨_, _⟩ := id S0
      go_wp2_with fail
      first
        | exact ⟨⟨k + 1, by omega, by go_num, HN2, S0.1, S0.2⟩, by simp [intOf]; omega⟩
        | (go_roundw <;> first | exact ⟨k + 1, by omega, by go_num, HN2, S0.1, S0.2⟩ | (simp [intOf]; omega))

set_option maxRecDepth 100000 in
set_option maxHeartbeats 6400000 in
theorem trackOk (A : Option Addr) (n cap : Nat) (s : Int) (w : World) (ps : List Tu) (hl : ps.length = n) (hn : n ≤ 1048576) (hp : TsAt w w.heap.size A ps) :
    Calls Try.prog 50 #[.slice A n cap, .int .i64 s] w fun e w' => e = .returned (.bool (trackB ps s)) ∧ Below w.heap.size w w' := by
  obtain ⟨r, hr⟩ : ∃ r, trackB ps s = r := ⟨_, rfl⟩
  have HR := Lib.hid hr
  rw [hr]
  clear hr
  by_cases h1 : n = 1
  · subst h1
    have E : Hid (r = (sightT (tt ps 0) && speedB s)) := Lib.hid (by
      rw [← HR.out]; unfold trackB
      rw [hl]
      show ((true && sightT (tt ps 0) && (decide (0 = 0) || sameT (tt ps (0 - 1)) (tt ps 0) s)) && (decide (1 = 0) || speedB s)) = _
      simp)
    have p0 := tt_at (ps := ps) (k := 0) (by omega)
    obtain ⟨a, b, c, hg⟩ : ∃ a b c, tt ps 0 = (a, b, c) := ⟨_, _, _, rfl⟩
    rw [hg] at p0 E
    replace E : Hid (r = (sightB a b c && speedB s)) := E
    have Q1 : Hid (∀ w, _) := Lib.hid fun w => TrackImpl.sightingOk a b c w
    have Q2 : Hid (∀ w, _) := Lib.hid fun w => TrackImpl.isSpeed s w
    generalize speedB s = sp at *
    obtain ⟨bd, eB, bB, pB⟩ := hp.get p0
    subst eB
    replace pB := pB.zero
    obtain ⟨_, _, _⟩ := id pB
    cases hs : sightB a b c
    · rw [hs] at Q1 E
      clear hl hp HR p0 hg hs
      go_enter Try.func50, Try.ntmps50
      go_wp2_with fail
      have HO : ∀ W W' : World, (Below w.heap.size w W) → Below W.heap.size W W' → (Below w.heap.size w W') := fun W W' hb h => hb.trans (h.mono hb.size)
      have S0 : Below w.heap.size w w := Below.refl _ _
      refine (Q1.out _).mono ?_
      rintro e w1 ⟨rfl, hb_⟩
      replace S0 := HO _ _ S0 hb_
      clear hb_
      obtain _ := id S0
      go_wp2_with fail
      go_ret
      exact ⟨ret_bool (by rw [E.out]; rfl), S0⟩
    · rw [hs] at Q1 E
      clear hl hp HR p0 hg hs
      go_enter Try.func50, Try.ntmps50
      go_wp2_with fail
      have HO : ∀ W W' : World, (Below w.heap.size w W) → Below W.heap.size W W' → (Below w.heap.size w W') := fun W W' hb h => hb.trans (h.mono hb.size)
      have S0 : Below w.heap.size w w := Below.refl _ _
      refine (Q1.out _).mono ?_
      rintro e w2 ⟨rfl, hb_⟩
      replace S0 := HO _ _ S0 hb_
      clear hb_
      obtain _ := id S0
      go_wp2_with fail
      refine (Q2.out _).mono ?_
      rintro e w_ ⟨rfl, rfl⟩
      go_wp2_with fail
      go_ret
      exact ⟨ret_bool (by rw [E.out]; rfl), S0⟩
  have h2 : ¬ ((n : Int) = 1) := by omega
  have h2b : ((n : Int) == 1) = false := by simpa using h2
  go_enter Try.func50, Try.ntmps50
  go_wp2_with fail
  have HO : ∀ W W' : World, (TsAt W w.heap.size A ps ∧ Below w.heap.size w W) → Below W.heap.size W W' → (TsAt W' w.heap.size A ps ∧ Below w.heap.size w W') := fun W W' ⟨x0, hb⟩ h => ⟨x0.later (h.mono hb.size), hb.trans (h.mono hb.size)⟩
  have S0 : TsAt w w.heap.size A ps ∧ Below w.heap.size w w := ⟨hp, Below.refl _ _⟩
  clear hp
  go_loopw [5] (fun q wr => ∃ k : Nat, 1 ≤ k ∧ (k ≤ n ∨ k = 1) ∧ q = .int .i64 k ∧ Hid (∀ j, 0 < j → j < k → sameT (tt ps (j - 1)) (tt ps j) s = true) ∧ (TsAt wr w.heap.size A ps ∧ Below w.heap.size w wr))
    (fun q _ => n + 1 - (intOf q).toNat)
  case atStart => exact ⟨1, Nat.le_refl _, .inr rfl, rfl, Lib.hid (fun j h0 hj => absurd hj (by omega)), S0⟩
  case round =>
    clear S0
    obtain ⟨k, hk, hkm, rfl, hw, S0⟩ := hrel
    obtain ⟨_, _⟩ := id S0
    by_cases hlt : k < n
    rotate_left
    · have hk1 : ¬ ((k : Int) < (n : Int)) := by omega
      have E : Hid (r = true) := Lib.hid (by rw [← HR.out]; exact trackB_chain (by omega) (fun j h0 hj => hw.out j h0 (by omega)))
      clear hl HR hw
      go_wp2_with fail
      go_ret
      exact ⟨ret_bool E.out.symm, S0.2⟩
    have hk1 : (k : Int) < (n : Int) := by omega
    have hk0 : (0 : Int) ≤ (k : Int) := by omega
    have HF2 : Hid (sameT (tt ps (k - 1)) (tt ps k) s = false → r = false) := Lib.hid (fun h => by rw [← HR.out]; exact trackB_not (by omega) (.inr ⟨by omega, h⟩))
    have HN : Hid (sameT (tt ps (k - 1)) (tt ps k) s = true → ∀ j, 0 < j → j < k + 1 → sameT (tt ps (j - 1)) (tt ps j) s = true) := Lib.hid (fun h j h0 hj => by
      rcases Nat.lt_or_ge j k with h1 | h1
      · exact hw.out j h0 h1
      · obtain rfl : j = k := by omega
        exact h)
    obtain ⟨j, hkj⟩ : ∃ j, k - 1 = j := ⟨_, rfl⟩
    have uj : IntKind.i64.wrap ((k : Int) - 1) = (j : Int) := by rw [IntWalk.i64_in _ (by omega)]; omega
    have hj1 : (j : Int) < (n : Int) := by omega
    have hj0 : (0 : Int) ≤ (j : Int) := by omega
    have p0 := tt_at (ps := ps) (k := k) (by omega)
    have p1 := tt_at (ps := ps) (k := j) (by omega)
    rw [hkj] at HN HF2
    have Q2 : Hid (∀ w, _) := Lib.hid fun w => TrackImpl.canBeSame (tt ps j).1 (tt ps j).2.1 (tt ps j).2.2 (tt ps k).1 (tt ps k).2.1 (tt ps k).2.2 s w
    rw [show sameB (tt ps j).1 (tt ps j).2.1 (tt ps j).2.2 (tt ps k).1 (tt ps k).2.1 (tt ps k).2.2 s = sameT (tt ps j) (tt ps k) s from rfl] at Q2
    obtain ⟨u, hu⟩ : ∃ u, sameT (tt ps j) (tt ps k) s = u := ⟨_, rfl⟩
    rw [hu] at Q2 HF2 HN
    obtain ⟨a, b, c, hg⟩ : ∃ a b c, tt ps k = (a, b, c) := ⟨_, _, _, rfl⟩
    obtain ⟨d, e, f, hj⟩ : ∃ a b c, tt ps j = (a, b, c) := ⟨_, _, _, rfl⟩
    rw [hg] at p0 Q2
    rw [hj] at p1 Q2
    obtain ⟨bd, eB, bB, pB⟩ := S0.1.get p0
    subst eB
    obtain ⟨bd2, eB2, _, pJ⟩ := S0.1.get p1
    injection eB2 with eB2
    subst eB2
    have HO : ∀ W W' : World, (TsAt W w.heap.size (some bd) ps ∧ TAt W bd k a b c ∧ TAt W bd j d e f ∧ Below w.heap.size w W) → Below W.heap.size W W' → (TsAt W' w.heap.size (some bd) ps ∧ TAt W' bd k a b c ∧ TAt W' bd j d e f ∧ Below w.heap.size w W') := fun W W' ⟨x0, x1, x2, hb⟩ h => ⟨x0.later (h.mono hb.size), x1.later bB (h.mono hb.size), x2.later bB (h.mono hb.size), hb.trans (h.mono hb.size)⟩
    replace S0 : TsAt wr w.heap.size (some bd) ps ∧ TAt wr bd k a b c ∧ TAt wr bd j d e f ∧ Below w.heap.size w wr := ⟨S0.1, pB, pJ, S0.2⟩
    clear pB pJ p0 p1 hg hj
    obtain ⟨_, ⟨_, _, _⟩, ⟨_, _, _⟩, _⟩ := id S0
    clear hl HR hw hu
    cases u
    · have E := Lib.hid (HF2.out rfl)
      clear HN HF2
      go_wp2_with fail
      refine Settle.region (fun W => TsAt W w.heap.size (some bd) ps ∧ TAt W bd k a b c ∧ TAt W bd j d e f ∧ Below w.heap.size w W) (by kernel_rfl) (by kernel_rfl) (by kernel_rfl) (by kernel_rfl) (HO _ _ S0 ((Below.refl _ _).drew)) ?_
      clear S0
      repeat (first
        | (refine Settle.Settles.off (by rfl) ?_; simp only [Act.put, List.setIfInBounds_toArray, List.set_cons_zero, List.set_cons_succ])
        | (refine Settle.Settles.quiet (v := ?_) (by rfl) ?_ ?_
           rotate_left
           · (intro W hS; obtain ⟨_, ⟨_, _, _⟩, ⟨_, _, _⟩, _⟩ := hS; go_simp; with_reducible rfl)
           simp only [Act.put, List.setIfInBounds_toArray, List.set_cons_zero, List.set_cons_succ])
        | (refine Settle.Settles.call (v := ?_) (f := ?_) (args := ?_) (by rfl) ?_ ?_ ?_
           rotate_left 3
           · (intro W; go_simp; refine ⟨?_, ?_⟩ <;> with_reducible rfl)
           · (intro W hS; first | (go_at_call 46; (with_reducible refine (Q2.out _).mono ?_); rintro e W1 ⟨rfl, hb⟩; refine ⟨?_, HO _ _ hS hb⟩; with_reducible rfl))
           simp only [Act.put, List.setIfInBounds_toArray, List.set_cons_zero, List.set_cons_succ]))
      refine Settle.Settles.nil ?_
      intro wr S0
      obtain ⟨_, ⟨_, _, _⟩, ⟨_, _, _⟩, _⟩ := id S0
      go_wp2_with fail
      go_ret
      exact ⟨ret_bool E.out.symm, S0.2.2.2⟩
    have HN2 := Lib.hid (HN.out rfl)
    clear HN HF2
    go_wp2_with fail
    refine Settle.region (fun W => TsAt W w.heap.size (some bd) ps ∧ TAt W bd k a b c ∧ TAt W bd j d e f ∧ Below w.heap.size w W) (by kernel_rfl) (by kernel_rfl) (by kernel_rfl) (by kernel_rfl) (HO _ _ S0 ((Below.refl _ _).drew)) ?_
    clear S0
    repeat (first
      | (refine Settle.Settles.off (by rfl) ?_; simp only [Act.put, List.setIfInBounds_toArray, List.set_cons_zero, List.set_cons_succ])
      | (refine Settle.Settles.quiet (v := ?_) (by rfl) ?_ ?_
         rotate_left
         · (intro W hS; obtain ⟨_, ⟨_, _, _⟩, ⟨_, _, _⟩, _⟩ := hS; go_simp; with_reducible rfl)
         simp only [Act.put, List.setIfInBounds_toArray, List.set_cons_zero, List.set_cons_succ])
      | (refine Settle.Settles.call (v := ?_) (f := ?_) (args := ?_) (by rfl) ?_ ?_ ?_
         rotate_left 3
         · (intro W; go_simp; refine ⟨?_, ?_⟩ <;> with_reducible rfl)
         · (intro W hS; first | (go_at_call 46; (with_reducible refine (Q2.out _).mono ?_); rintro e W1 ⟨rfl, hb⟩; refine ⟨?_, HO _ _ hS hb⟩; with_reducible rfl))
         simp only [Act.put, List.setIfInBounds_toArray, List.set_cons_zero, List.set_cons_succ]))
    refine Settle.Settles.nil ?_
    intro wr S0
    obtain ⟨_, ⟨_, _, _⟩, ⟨_, _, _⟩, _⟩ := id S0
    go_wp2_with fail
    first
      | exact ⟨⟨k + 1, by omega, by omega, by go_num, HN2, S0.1, S0.2.2.2⟩, by simp [intOf]; omega⟩
      | (go_roundw <;> first | exact ⟨k + 1, by omega, by omega, by go_num, HN2, S0.1, S0.2.2.2⟩ | (simp [intOf]; omega))

set_option maxRecDepth 100000 in
set_option maxHeartbeats 6400000 in
theorem lateFrames (A : Option Addr) (n cap : Nat) (v g : Int) (w : World) (ps : List Tu) (hl : ps.length = n) (hn : n ≤ 1048576) (hp : TsAt w w.heap.size A ps) :
    Calls Try.prog 39 #[.slice A n cap, .int .i64 v, .int .i64 g] w (GivesI 3 w (lateL ps v g)) := by
  obtain ⟨r, hr⟩ : ∃ r, lateL ps v g = r := ⟨_, rfl⟩
  have HR := Lib.hid hr
  rw [hr]
  clear hr
  obtain ⟨i0, hi, hz0, hz1, hz2⟩ := info_parts infoI
  go_enter Try.func39, Try.ntmps39
  go_wp2_with fail
  have HO : ∀ W W' : World, (TsAt W w.heap.size A ps ∧ Below w.heap.size w W) → Below W.heap.size W W' → (TsAt W' w.heap.size A ps ∧ Below w.heap.size w W') := fun W W' ⟨x0, hb⟩ h => ⟨x0.later (h.mono hb.size), hb.trans (h.mono hb.size)⟩
  have S0 : TsAt w w.heap.size A ps ∧ Below w.heap.size w w := ⟨hp, Below.refl _ _⟩
  clear hp
  refine (framesOk A n cap _ ps hl hn (S0.1.wide S0.2.size)).mono ?_
  rintro e w1 ⟨rfl, hb_⟩
  replace S0 := HO _ _ S0 hb_
  clear hb_
  cases hf_ : framesB ps
  · have E : Hid (r = []) := Lib.hid (by rw [← HR.out]; unfold lateL; rw [hf_]; simp)
    clear hl HR
    go_wp2_with fail
    go_ret
    exact ⟨none, 0, by rw [E.out]; rfl, by rw [E.out]; exact World.ownsRow_nil _ _ _ _, S0.2⟩
  by_cases h1 : 1 ≤ v
  rotate_left
  · have E : Hid (r = []) := Lib.hid (by rw [← HR.out]; unfold lateL; rw [show decide (1 ≤ v ∧ v ≤ 1000) = false from decide_eq_false (by omega)]; simp)
    have h1b : v < 1 := by omega
    clear hl HR
    go_wp2_with fail
    go_ret
    exact ⟨none, 0, by rw [E.out]; rfl, by rw [E.out]; exact World.ownsRow_nil _ _ _ _, S0.2⟩
  have h1b : ¬ v < 1 := by omega
  by_cases h2 : v ≤ 1000
  rotate_left
  · have E : Hid (r = []) := Lib.hid (by rw [← HR.out]; unfold lateL; rw [show decide (1 ≤ v ∧ v ≤ 1000) = false from decide_eq_false (by omega)]; simp)
    have h2b : 1000 < v := by omega
    clear hl HR
    go_wp2_with fail
    go_ret
    exact ⟨none, 0, by rw [E.out]; rfl, by rw [E.out]; exact World.ownsRow_nil _ _ _ _, S0.2⟩
  have h2b : ¬ 1000 < v := by omega
  have hi_ : decide (1 ≤ v ∧ v ≤ 1000) = true := decide_eq_true ⟨h1, h2⟩
  go_wp2_with fail
  refine (TrackImpl.isUpTo g 1000 _).mono ?_
  rintro e w_ ⟨rfl, rfl⟩
  cases hg_ : decide (0 ≤ g ∧ g ≤ 1000)
  · have E : Hid (r = []) := Lib.hid (by rw [← HR.out]; unfold lateL; rw [hg_]; simp)
    clear hl HR
    go_wp2_with fail
    go_ret
    exact ⟨none, 0, by rw [E.out]; rfl, by rw [E.out]; exact World.ownsRow_nil _ _ _ _, S0.2⟩
  have hiv := of_decide_eq_true hi_
  have hg := of_decide_eq_true hg_
  have hfr := Lib.hid (framesB_at hf_)
  have HE : Hid (thatTo (lateB ps v g) n = r) := Lib.hid (by rw [← HR.out]; unfold lateL; rw [hf_, hi_, hg_, hl]; rfl)
  clear HR hf_ hi_ hg_
  go_wp2_with fail
  go_loopw [7, 8] (fun v_ q wr => ∃ k : Nat, k ≤ n ∧ q = .int .i64 k ∧ wr.ownsRow w.heap.size 3 1 v_ (thatTo (lateB ps v g) k).length (icells (thatTo (lateB ps v g) k)) ∧ (TsAt wr w.heap.size A ps ∧ Below w.heap.size w wr))
    (fun _ q _ => n - (intOf q).toNat)
  case atStart => exact ⟨0, Nat.zero_le _, rfl, World.ownsRow_nil _ _ _ _, S0⟩
  case round =>
    clear S0
    obtain ⟨k, hkn, rfl, hown, S0⟩ := hrel
    by_cases hlt : k < n
    rotate_left
    · obtain rfl : n = k := by omega
      rw [HE.out] at hown
      have hown2 := Lib.hid hown
      obtain ⟨A1, c1, rfl⟩ := own_shape hown
      clear hl hown HE hfr
      go_wp2_with fail
      go_ret
      exact ⟨A1, c1, rfl, hown2.out, S0.2⟩
    have hk1 : (k : Int) < (n : Int) := by omega
    have hk0 : (0 : Int) ≤ (k : Int) := by omega
    have g0n : 0 < n := by omega
    have hn0 : (0 : Int) < (n : Int) := by omega
    have hlen := thatTo_len (lateB ps v g) k
    have HL : Hid (thatTo (lateB ps v g) (k + 1) = if lateB ps v g k then thatTo (lateB ps v g) k ++ [(k : Int)] else thatTo (lateB ps v g) k) := Lib.hid rfl
    have p0 := tt_at (ps := ps) (k := k) (by omega)
    have p1 := tt_at (ps := ps) (k := 0) (by omega)
    have f0 := hfr.out.2 k (by omega)
    have f1 := hfr.out.2 0 (by omega)
    obtain ⟨o, ho⟩ : ∃ o, lateB ps v g k = o := ⟨_, rfl⟩
    rw [ho] at HL
    unfold lateB at ho
    obtain ⟨a, b, c, hga⟩ : ∃ a b c, tt ps k = (a, b, c) := ⟨_, _, _, rfl⟩
    obtain ⟨d, e, f, hj⟩ : ∃ a b c, tt ps 0 = (a, b, c) := ⟨_, _, _, rfl⟩
    rw [hga] at p0 f0 ho
    rw [hj] at p1 f1 ho
    have q0 : (0 ≤ a ∧ a ≤ 100000) ∧ (0 ≤ b ∧ b ≤ 1000000) ∧ (0 ≤ c ∧ c ≤ 999999) := frame_parts f0
    have q1 : (0 ≤ d ∧ d ≤ 100000) ∧ (0 ≤ e ∧ e ≤ 1000000) ∧ (0 ≤ f ∧ f ≤ 999999) := frame_parts f1
    have sm := late_small (e := v) (d := a - d) hiv (by omega)
    have u1 : IntKind.i64.wrap (a - d) = a - d := IntWalk.i64_in _ (by omega)
    simp only at ho
    obtain ⟨pr, hpr⟩ : ∃ p, v * (a - d) = p := ⟨_, rfl⟩
    rw [hpr] at sm ho
    have u2 : IntKind.i64.wrap pr = pr := IntWalk.i64_in _ (by omega)
    have u3 : IntKind.i64.wrap (e + pr) = e + pr := IntWalk.i64_in _ (by omega)
    have u4 : IntKind.i64.wrap (e + pr + g) = e + pr + g := IntWalk.i64_in _ (by omega)
    generalize thatTo (lateB ps v g) k = l at *
    obtain ⟨q, hq⟩ : ∃ q, l.length = q := ⟨_, rfl⟩
    rw [hq] at hown hlen
    obtain ⟨Ao, co, rfl⟩ := own_shape hown
    obtain ⟨bd, eB, bB, pB⟩ := S0.1.get p0
    subst eB
    obtain ⟨bd2, eB2, _, pJ⟩ := S0.1.get p1
    injection eB2 with eB2
    subst eB2
    replace pJ := pJ.zero
    have HO : ∀ W W' : World, (TsAt W w.heap.size (some bd) ps ∧ TAt W bd k a b c ∧ THere W bd d e f ∧ W.ownsRow w.heap.size 3 1 (.slice Ao q co) q (icells l) ∧ w.heap.size ≤ W.heap.size ∧ Below w.heap.size w W) → Below W.heap.size W W' → (TsAt W' w.heap.size (some bd) ps ∧ TAt W' bd k a b c ∧ THere W' bd d e f ∧ W'.ownsRow w.heap.size 3 1 (.slice Ao q co) q (icells l) ∧ w.heap.size ≤ W'.heap.size ∧ Below w.heap.size w W') := fun W W' ⟨x0, x1, x2, x3, x4, hb⟩ h => ⟨x0.later (h.mono hb.size), x1.later bB (h.mono hb.size), x2.later bB (h.mono hb.size), own_below x3 h, Nat.le_trans x4 h.size, hb.trans (h.mono hb.size)⟩
    replace S0 : TsAt wr w.heap.size (some bd) ps ∧ TAt wr bd k a b c ∧ THere wr bd d e f ∧ wr.ownsRow w.heap.size 3 1 (.slice Ao q co) q (icells l) ∧ w.heap.size ≤ wr.heap.size ∧ Below w.heap.size w wr := ⟨S0.1, pB, pJ, hown, S0.2.size, S0.2⟩
    clear pB pJ p0 p1 hga hj f0 f1 q0 q1 hown HE
    obtain ⟨_, ⟨_, _, _⟩, ⟨_, _, _⟩, _, _, _⟩ := id S0
    cases o
    · have HL2 : Hid (thatTo (lateB ps v g) (k + 1) = l) := Lib.hid (by rw [HL.out]; rfl)
      clear HL
      go_wp2_with fail
      refine Settle.region (fun W => TsAt W w.heap.size (some bd) ps ∧ TAt W bd k a b c ∧ THere W bd d e f ∧ W.ownsRow w.heap.size 3 1 (.slice Ao q co) q (icells l) ∧ w.heap.size ≤ W.heap.size ∧ Below w.heap.size w W) (by kernel_rfl) (by kernel_rfl) (by kernel_rfl) (by kernel_rfl) (HO _ _ S0 ((Below.refl _ _).drew)) ?_
      clear S0
      repeat (first
        | (refine Settle.Settles.off (by rfl) ?_; simp only [Act.put, List.setIfInBounds_toArray, List.set_cons_zero, List.set_cons_succ])
        | (refine Settle.Settles.quiet (v := ?_) (by rfl) ?_ ?_
           rotate_left
           · (intro W hS; obtain ⟨_, ⟨_, _, _⟩, ⟨_, _, _⟩, _, _, _⟩ := hS; go_simp; with_reducible rfl)
           simp only [Act.put, List.setIfInBounds_toArray, List.set_cons_zero, List.set_cons_succ])
        | (refine Settle.Settles.call (v := ?_) (f := ?_) (args := ?_) (by rfl) ?_ ?_ ?_
           rotate_left 3
           · (intro W; go_simp; refine ⟨?_, ?_⟩ <;> with_reducible rfl)
           · (intro W hS; fail)
           simp only [Act.put, List.setIfInBounds_toArray, List.set_cons_zero, List.set_cons_succ]))
      refine Settle.Settles.nil ?_
      intro wr S0
      obtain ⟨_, ⟨_, _, _⟩, ⟨_, _, _⟩, _, _, _⟩ := id S0
      have hown := Lib.hid S0.2.2.2.1
      go_wp2_with fail
      first
        | exact ⟨⟨k + 1, by omega, by go_num, by rw [HL2.out, hq]; exact hown.out, S0.1, S0.2.2.2.2.2⟩, by simp [intOf]; omega⟩
        | (go_roundw <;> first | exact ⟨k + 1, by omega, by go_num, by rw [HL2.out, hq]; exact hown.out, S0.1, S0.2.2.2.2.2⟩ | (simp [intOf]; omega))
    · have HL2 : Hid (thatTo (lateB ps v g) (k + 1) = l ++ [(k : Int)]) := Lib.hid (by rw [HL.out]; rfl)
      clear HL
      go_wp2_with fail
      refine Settle.region (fun W => TsAt W w.heap.size (some bd) ps ∧ TAt W bd k a b c ∧ THere W bd d e f ∧ W.ownsRow w.heap.size 3 1 (.slice Ao q co) q (icells l) ∧ w.heap.size ≤ W.heap.size ∧ Below w.heap.size w W) (by kernel_rfl) (by kernel_rfl) (by kernel_rfl) (by kernel_rfl) (HO _ _ S0 ((Below.refl _ _).drew)) ?_
      clear S0
      repeat (first
        | (refine Settle.Settles.off (by rfl) ?_; simp only [Act.put, List.setIfInBounds_toArray, List.set_cons_zero, List.set_cons_succ])
        | (refine Settle.Settles.quiet (v := ?_) (by rfl) ?_ ?_
           rotate_left
           · (intro W hS; obtain ⟨_, ⟨_, _, _⟩, ⟨_, _, _⟩, _, _, _⟩ := hS; go_simp; with_reducible rfl)
           simp only [Act.put, List.setIfInBounds_toArray, List.set_cons_zero, List.set_cons_succ])
        | (refine Settle.Settles.call (v := ?_) (f := ?_) (args := ?_) (by rfl) ?_ ?_ ?_
           rotate_left 3
           · (intro W; go_simp; refine ⟨?_, ?_⟩ <;> with_reducible rfl)
           · (intro W hS; fail)
           simp only [Act.put, List.setIfInBounds_toArray, List.set_cons_zero, List.set_cons_succ]))
      refine Settle.Settles.nil ?_
      intro wr S0
      obtain ⟨_, ⟨_, _, _⟩, ⟨_, _, _⟩, _, _, _⟩ := id S0
      have hown := S0.2.2.2.1
      have hsz := S0.2.2.2.2.1
      go_wp2_with (at_builtin; refine wpList_append_own _ rfl _ _ 46 rfl (w.heap.size) 3 i0 (.int .i64 0) 1 8 Try.underlying46 hi hz0 hz1 hz2 rfl (by decide) _ _ _ rfl (hown.alloc _) ⟨wr.heap.size, 0, none⟩ 1 1 [.int .i64 (k : Int)] rfl rfl ?c1 ?c2 ?c3 ?c4 ?c5 ?_)
      case c1 => (intro j u hj; match j, hj with | 0, hj => (simp at hj; subst hj; simp [Addr.add]))
      case c2 => (intro u hu; simp at hu; subst hu; rfl)
      case c3 => (unfold maxLen; omega)
      case c4 => omega
      case c5 => (simp; omega)
      intro v1_ wa_ ho_ hg_ _
      have HN : Hid (wa_.ownsRow w.heap.size 3 1 v1_ (thatTo (lateB ps v g) (k + 1)).length (icells (thatTo (lateB ps v g) (k + 1))) ∧ (TsAt wa_ w.heap.size (some bd) ps ∧ Below w.heap.size w wa_)) := Lib.hid (by
        have hb0 : Below w.heap.size wr (wr.alloc (Obj.cells #[.int .i64 (k : Int)] 3)) := (below1 _ _).mono hsz
        have hb1 := hb0.grown hg_ (by simp; omega) (fun g hg => (hown.lt g hg).1)
        rw [HL2.out, icells_snoc, List.length_append, hq]
        exact ⟨ho_, S0.1.later hb1, S0.2.2.2.2.2.trans hb1⟩)
      clear ho_ hg_ hown HL2 S0
      go_wp2_with fail
      first
        | exact ⟨⟨k + 1, by omega, by go_num, HN.out.1, HN.out.2.1, HN.out.2.2⟩, by simp [intOf]; omega⟩
        | (go_roundw <;> first | exact ⟨k + 1, by omega, by go_num, HN.out.1, HN.out.2.1, HN.out.2.2⟩ | (simp [intOf]; omega))

end Go.Proofs.Ytonbpmabmjhdgaa.ListImpl

