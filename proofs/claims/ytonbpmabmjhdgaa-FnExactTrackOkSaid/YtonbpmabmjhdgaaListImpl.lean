/-
  What the functions on lists of frames and of sightings do, as contracts: what each answers; new memory alone is written.
-/
import Derived.Test.YtonbpmabmjhdgaaTrackImpl
import Derived.Test.YtonbpmabmjhdgaaListMath
import Derived.Test.YtonbpmabmjhdgaaOwn
import Derived.Lib.MinMax
namespace Go.Proofs.Ytonbpmabmjhdgaa.ListImpl
open Go.RowKit Own PointMath TrackMath DiagMath ListMath Tup3 Blk
open PointOk (ret_bool ret_i64 below1 below2 below3)

theorem infoI : (Try.prog.info? 3).map (fun i => (i.zero, i.size, i.bytes)) = some (some (.int .i64 0), 1, 8) := by kernel_rfl

set_option maxRecDepth 100000 in
set_option maxHeartbeats 6400000 in
theorem isOrdered (A : Option Addr) (n cap : Nat) (w : World) (ps : List Tu) (hl : ps.length = n) (hn : n ≤ 1048576) (hp : TsAt w w.heap.size A ps) :
    Calls Try.prog 41 #[.slice A n cap] w fun e w' => e = .returned (.bool (orderedB ps)) ∧ Below w.heap.size w w' := by
  obtain ⟨r, hr⟩ : ∃ r, orderedB ps = r := ⟨_, rfl⟩
  have HR := Lib.hid hr
  rw [hr]
  clear hr
  go_enter Try.func41, Try.ntmps41
  go_wp2_with fail
  have HO : ∀ W W' : World, (TsAt W w.heap.size A ps ∧ Below w.heap.size w W) → Below W.heap.size W W' → (TsAt W' w.heap.size A ps ∧ Below w.heap.size w W') := fun W W' ⟨x0, hb⟩ h => ⟨x0.later (h.mono hb.size), hb.trans (h.mono hb.size)⟩
  have S0 : TsAt w w.heap.size A ps ∧ Below w.heap.size w w := ⟨hp, Below.refl _ _⟩
  clear hp
  go_loopw [3] (fun q wr => ∃ k : Nat, 1 ≤ k ∧ (k ≤ n ∨ k = 1) ∧ q = .int .i64 k ∧ Hid (∀ j, j ≤ k → j ≤ n → ordTo ps j = true) ∧ (TsAt wr w.heap.size A ps ∧ Below w.heap.size w wr))
    (fun q _ => n + 1 - (intOf q).toNat)
  case atStart => exact ⟨1, Nat.le_refl _, .inr rfl, rfl, Lib.hid (fun j hj _ => by match j, hj with | 0, _ => rfl | 1, _ => rfl), S0⟩
  case round =>
    clear S0
    obtain ⟨k, hk, hkm, rfl, hw, S0⟩ := hrel
    obtain ⟨_, _⟩ := id S0
    by_cases hlt : k < n
    rotate_left
    · have hk1 : ¬ ((k : Int) < (n : Int)) := by omega
      have E : Hid (r = true) := Lib.hid (by rw [← HR.out]; unfold orderedB; rw [hl]; exact hw.out n (by omega) (Nat.le_refl _))
      clear hl HR hw
      go_wp2_with fail
      go_ret
      exact ⟨ret_bool E.out.symm, S0.2⟩
    have hk1 : (k : Int) < (n : Int) := by omega
    have hk0 : (0 : Int) ≤ (k : Int) := by omega
    have HN : Hid ((tt ps (k - 1)).1 < (tt ps k).1 → (tt ps (k - 1)).2.1 < (tt ps k).2.1 → ∀ j, j ≤ k + 1 → j ≤ n → ordTo ps j = true) := Lib.hid (by
      intro h1 h2 j hj hjm
      rcases Nat.lt_or_ge k j with h | h
      · obtain rfl : j = k + 1 := by omega
        show (ordTo ps k && (decide (k = 0) || (decide ((tt ps (k - 1)).1 < (tt ps k).1) && decide ((tt ps (k - 1)).2.1 < (tt ps k).2.1)))) = true
        rw [hw.out k (Nat.le_refl _) (by omega), decide_eq_true h1, decide_eq_true h2]; simp
      · exact hw.out j h hjm)
    have HF : Hid ((tt ps k).1 ≤ (tt ps (k - 1)).1 ∨ (tt ps k).2.1 ≤ (tt ps (k - 1)).2.1 → r = false) := Lib.hid (by
      intro h
      rw [← HR.out]; unfold orderedB
      rw [hl]; exact ordTo_not (by omega) h n hlt)
    obtain ⟨j, hkj⟩ : ∃ j, k - 1 = j := ⟨_, rfl⟩
    have uj : IntKind.i64.wrap ((k : Int) - 1) = (j : Int) := by rw [IntWalk.i64_in _ (by omega)]; omega
    have hj1 : (j : Int) < (n : Int) := by omega
    have hj0 : (0 : Int) ≤ (j : Int) := by omega
    have p0 := tt_at (ps := ps) (k := k) (by omega)
    have p1 := tt_at (ps := ps) (k := j) (by omega)
    rw [hkj] at HN HF
    obtain ⟨a, b, c, hg⟩ : ∃ a b c, tt ps k = (a, b, c) := ⟨_, _, _, rfl⟩
    obtain ⟨d, e, f, hj⟩ : ∃ a b c, tt ps j = (a, b, c) := ⟨_, _, _, rfl⟩
    rw [hg] at p0 HN HF
    rw [hj] at p1 HN HF
    obtain ⟨bd, eB, bB, pB⟩ := S0.1.get p0
    subst eB
    obtain ⟨bd2, eB2, _, pJ⟩ := S0.1.get p1
    injection eB2 with eB2
    subst eB2
    have HO : ∀ W W' : World, (TsAt W w.heap.size (some bd) ps ∧ TAt W bd k a b c ∧ TAt W bd j d e f ∧ Below w.heap.size w W) → Below W.heap.size W W' → (TsAt W' w.heap.size (some bd) ps ∧ TAt W' bd k a b c ∧ TAt W' bd j d e f ∧ Below w.heap.size w W') := fun W W' ⟨x0, x1, x2, hb⟩ h => ⟨x0.later (h.mono hb.size), x1.later bB (h.mono hb.size), x2.later bB (h.mono hb.size), hb.trans (h.mono hb.size)⟩
    replace S0 : TsAt wr w.heap.size (some bd) ps ∧ TAt wr bd k a b c ∧ TAt wr bd j d e f ∧ Below w.heap.size w wr := ⟨S0.1, pB, pJ, S0.2⟩
    clear pB pJ p0 p1 hg hj
    obtain ⟨_, ⟨_, _, _⟩, ⟨_, _, _⟩, _⟩ := id S0
    clear hl HR hw
    by_cases h1 : a ≤ d
    · have d1 : decide (a ≤ d) = true := decide_eq_true h1
      have E := Lib.hid (HF.out (.inl h1))
      clear HN HF
      go_wp2_with fail
      refine Settle.region (fun W => TsAt W w.heap.size (some bd) ps ∧ TAt W bd k a b c ∧ TAt W bd j d e f ∧ Below w.heap.size w W) (by kernel_rfl) (by kernel_rfl) (by kernel_rfl) (by kernel_rfl) (HO _ _ S0 ((Below.refl _ _).drew)) ?_
      clear S0
      repeat (first
        | (refine Settle.Settles.off (by rfl) ?_; simp only [Act.put, List.setIfInBounds_toArray, List.set_cons_zero, List.set_cons_succ])
        | (refine Settle.Settles.quiet (v := ?_) (by rfl) ?_ ?_
           rotate_left
           · (intro W hS; obtain ⟨_, ⟨_, _, _⟩, ⟨_, _, _⟩, _⟩ := hS; go_simp; with_reducible rfl)
           simp only [Act.put, List.setIfInBounds_toArray, List.set_cons_zero, List.set_cons_succ])
        | (refine Settle.Settles.call (v := ?_) (f := ?_) (args := ?_) (by rfl) ?_ ?_ ?_
           rotate_left 3
           · (intro W; go_simp; refine ⟨?_, ?_⟩ <;> with_reducible rfl)
           · (intro W hS; fail)
           simp only [Act.put, List.setIfInBounds_toArray, List.set_cons_zero, List.set_cons_succ]))
      refine Settle.Settles.nil ?_
      intro wr S0
      obtain ⟨_, ⟨_, _, _⟩, ⟨_, _, _⟩, _⟩ := id S0
      go_wp2_with fail
      go_ret
      exact ⟨ret_bool E.out.symm, S0.2.2.2⟩
    have d1 : decide (a ≤ d) = false := decide_eq_false h1
    by_cases h2 : b ≤ e
    · have d2 : decide (b ≤ e) = true := decide_eq_true h2
      have E := Lib.hid (HF.out (.inr h2))
      clear HN HF
      go_wp2_with fail
      refine Settle.region (fun W => TsAt W w.heap.size (some bd) ps ∧ TAt W bd k a b c ∧ TAt W bd j d e f ∧ Below w.heap.size w W) (by kernel_rfl) (by kernel_rfl) (by kernel_rfl) (by kernel_rfl) (HO _ _ S0 ((Below.refl _ _).drew)) ?_
      clear S0
      repeat (first
        | (refine Settle.Settles.off (by rfl) ?_; simp only [Act.put, List.setIfInBounds_toArray, List.set_cons_zero, List.set_cons_succ])
        | (refine Settle.Settles.quiet (v := ?_) (by rfl) ?_ ?_
           rotate_left
           · (intro W hS; obtain ⟨_, ⟨_, _, _⟩, ⟨_, _, _⟩, _⟩ := hS; go_simp; with_reducible rfl)
           simp only [Act.put, List.setIfInBounds_toArray, List.set_cons_zero, List.set_cons_succ])
        | (refine Settle.Settles.call (v := ?_) (f := ?_) (args := ?_) (by rfl) ?_ ?_ ?_
           rotate_left 3
           · (intro W; go_simp; refine ⟨?_, ?_⟩ <;> with_reducible rfl)
           · (intro W hS; fail)
           simp only [Act.put, List.setIfInBounds_toArray, List.set_cons_zero, List.set_cons_succ]))
      refine Settle.Settles.nil ?_
      intro wr S0
      obtain ⟨_, ⟨_, _, _⟩, ⟨_, _, _⟩, _⟩ := id S0
      go_wp2_with fail
      go_ret
      exact ⟨ret_bool E.out.symm, S0.2.2.2⟩
    have d2 : decide (b ≤ e) = false := decide_eq_false h2
    have HN2 := Lib.hid (HN.out (by simp only; omega) (by simp only; omega))
    clear HN HF
    go_wp2_with fail
    refine Settle.region (fun W => TsAt W w.heap.size (some bd) ps ∧ TAt W bd k a b c ∧ TAt W bd j d e f ∧ Below w.heap.size w W) (by kernel_rfl) (by kernel_rfl) (by kernel_rfl) (by kernel_rfl) (HO _ _ S0 ((Below.refl _ _).drew)) ?_
    clear S0
    repeat (first
      | (refine Settle.Settles.off (by rfl) ?_; simp only [Act.put, List.setIfInBounds_toArray, List.set_cons_zero, List.set_cons_succ])
      | (refine Settle.Settles.quiet (v := ?_) (by rfl) ?_ ?_
         rotate_left
         · (intro W hS; obtain ⟨_, ⟨_, _, _⟩, ⟨_, _, _⟩, _⟩ := hS; go_simp; with_reducible rfl)
         simp only [Act.put, List.setIfInBounds_toArray, List.set_cons_zero, List.set_cons_succ])
      | (refine Settle.Settles.call (v := ?_) (f := ?_) (args := ?_) (by rfl) ?_ ?_ ?_
         rotate_left 3
         · (intro W; go_simp; refine ⟨?_, ?_⟩ <;> with_reducible rfl)
         · (intro W hS; fail)
         simp only [Act.put, List.setIfInBounds_toArray, List.set_cons_zero, List.set_cons_succ]))
    refine Settle.Settles.nil ?_
    intro wr S0
    obtain ⟨_, ⟨_, _, _⟩, ⟨_, _, _⟩, _⟩ := id S0
    go_wp2_with fail
    first
      | exact ⟨⟨k + 1, by omega, by omega, by go_num, HN2, S0.1, S0.2.2.2⟩, by simp [intOf]; omega⟩
      | (go_roundw <;> first | exact ⟨k + 1, by omega, by omega, by go_num, HN2, S0.1, S0.2.2.2⟩ | (simp [intOf]; omega))

set_option maxRecDepth 100000 in
set_option maxHeartbeats 6400000 in
theorem framesOk (A : Option Addr) (n cap : Nat) (w : World) (ps : List Tu) (hl : ps.length = n) (hn : n ≤ 1048576) (hp : TsAt w w.heap.size A ps) :
    Calls Try.prog 66 #[.slice A n cap] w fun e w' => e = .returned (.bool (framesB ps)) ∧ Below w.heap.size w w' := by
  obtain ⟨r, hr⟩ : ∃ r, framesB ps = r := ⟨_, rfl⟩
  have HR := Lib.hid hr
  rw [hr]
  clear hr
  by_cases h60 : 60 < n
  · have h61 : (60 : Int) < (n : Int) := by omega
    have E : Hid (r = false) := Lib.hid (by rw [← HR.out]; unfold framesB; rw [hl, show decide (n ≤ 60) = false from decide_eq_false (by omega)]; rfl)
    clear hl hp HR
    go_enter Try.func66, Try.ntmps66
    go_wp2_with fail
    go_ret
    exact ⟨ret_bool E.out.symm, Below.refl _ _⟩
  have h61 : ¬ (60 : Int) < (n : Int) := by omega
  go_enter Try.func66, Try.ntmps66
  go_wp2_with fail
  have HO : ∀ W W' : World, (TsAt W w.heap.size A ps ∧ Below w.heap.size w W) → Below W.heap.size W W' → (TsAt W' w.heap.size A ps ∧ Below w.heap.size w W') := fun W W' ⟨x0, hb⟩ h => ⟨x0.later (h.mono hb.size), hb.trans (h.mono hb.size)⟩
  have S0 : TsAt w w.heap.size A ps ∧ Below w.heap.size w w := ⟨hp, Below.refl _ _⟩
  clear hp
  go_loopw [10] (fun q wr => ∃ k : Nat, k ≤ n ∧ q = .int .i64 k ∧ Hid (∀ j, j < k → frameT (tt ps j) = true) ∧ (TsAt wr w.heap.size A ps ∧ Below w.heap.size w wr))
    (fun q _ => n - (intOf q).toNat)
  case atStart => exact ⟨0, Nat.zero_le _, rfl, Lib.hid (fun j hj => absurd hj (by omega)), S0⟩
  case round =>
    clear S0
    obtain ⟨k, hkn, rfl, hw, S0⟩ := hrel
    by_cases hlt : k < n
    rotate_left
    · obtain rfl : n = k := by omega
      have E : Hid (r = true) := Lib.hid (by rw [← HR.out, framesB_of (by rw [hl]; exact hw.out), hl]; exact decide_eq_true (by omega))
      clear hl HR hw
      go_wp2_with fail
      go_ret
      exact ⟨ret_bool E.out.symm, S0.2⟩
    have hk1 : (k : Int) < (n : Int) := by omega
    have hk0 : (0 : Int) ≤ (k : Int) := by omega
    have p0 := tt_at (ps := ps) (k := k) (by omega)
    obtain ⟨a, b, c, hg⟩ : ∃ a b c, tt ps k = (a, b, c) := ⟨_, _, _, rfl⟩
    have HF : Hid (frameB a b c = false → r = false) := Lib.hid (fun h => by rw [← HR.out]; exact framesB_not (k := k) (by omega) (by unfold frameT; rw [hg]; exact h))
    have HN : Hid (frameB a b c = true → ∀ j, j < k + 1 → frameT (tt ps j) = true) := Lib.hid (fun h j hj => by
      rcases Nat.lt_or_ge j k with h1 | h1
      · exact hw.out j h1
      · obtain rfl : j = k := by omega
        unfold frameT; rw [hg]; exact h)
    rw [hg] at p0
    obtain ⟨bd, eB, bB, pB⟩ := S0.1.get p0
    subst eB
    have HO : ∀ W W' : World, (TsAt W w.heap.size (some bd) ps ∧ Below w.heap.size w W) → Below W.heap.size W W' → (TsAt W' w.heap.size (some bd) ps ∧ Below w.heap.size w W') := fun W W' ⟨x0, hb⟩ h => ⟨x0.later (h.mono hb.size), hb.trans (h.mono hb.size)⟩
    replace S0 : TsAt wr w.heap.size (some bd) ps ∧ Below w.heap.size w wr := ⟨S0.1, S0.2⟩
    have X3 := Tup3.box1 wr a b c 41 (k := wr.heap.size) rfl
    obtain ⟨_, _, _⟩ := id pB
    have b1_ := below1 wr (Obj.cells #[.int .i64 a, .int .i64 b, .int .i64 c] 41)
    have S0a := HO _ _ S0 b1_
    obtain ⟨_, _, _⟩ := id X3
    replace S0 := S0a
    clear b1_ S0a
    clear pB p0 hg hl HR hw
    obtain ⟨_, _⟩ := id S0
    have Q1 : Hid (∀ w, _) := Lib.hid fun w => TrackImpl.frameOk a b c w
    cases hf : frameB a b c
    · have E := Lib.hid (HF.out hf)
      rw [hf] at Q1
      clear HN HF hf
      go_wp2_with fail
      generalize wr.alloc (Obj.cells #[.int .i64 a, .int .i64 b, .int .i64 c] 41) = v1 at *
      refine (Q1.out _).mono ?_
      rintro e w1 ⟨rfl, hb_⟩
      replace S0 := HO _ _ S0 hb_
      clear hb_
      obtain ⟨_, _⟩ := id S0
      go_wp2_with fail
      go_ret
      exact ⟨ret_bool E.out.symm, S0.2⟩
    · have HN2 := Lib.hid (HN.out hf)
      rw [hf] at Q1
      clear HN HF hf
      go_wp2_with fail
      generalize wr.alloc (Obj.cells #[.int .i64 a, .int .i64 b, .int .i64 c] 41) = v1 at *
      refine (Q1.out _).mono ?_
      rintro e w2 ⟨rfl, hb_⟩
      replace S0 := HO _ _ S0 hb_
      clear hb_
      obtain ⟨_, _⟩ := id S0
      go_wp2_with fail
      first
        | exact ⟨⟨k + 1, by omega, by go_num, HN2, S0.1, S0.2⟩, by simp [intOf]; omega⟩
        | (go_roundw <;> first | exact ⟨k + 1, by omega, by go_num, HN2, S0.1, S0.2⟩ | (simp [intOf]; omega))

set_option maxRecDepth 100000 in
set_option maxHeartbeats 6400000 in
theorem trackOk (A : Option Addr) (n cap : Nat) (s : Int) (w : World) (ps : List Tu) (hl : ps.length = n) (hn : n ≤ 1048576) (hp : TsAt w w.heap.size A ps) :
    Calls Try.prog 50 #[.slice A n cap, .int .i64 s] w fun e w' => e = .returned (.bool (trackB ps s)) ∧ Below w.heap.size w w' := by
  obtain ⟨r, hr⟩ : ∃ r, trackB ps s = r := ⟨_, rfl⟩
  have HR := Lib.hid hr
  rw [hr]
  clear hr
  by_cases h1 : n = 1
  · subst h1
    have E : Hid (r = (sightT (tt ps 0) && speedB s)) := Lib.hid (by
      rw [← HR.out]; unfold trackB
      rw [hl]
      show ((true && sightT (tt ps 0) && (decide (0 = 0) || sameT (tt ps (0 - 1)) (tt ps 0) s)) && (decide (1 = 0) || speedB s)) = _
      simp)
    have p0 := tt_at (ps := ps) (k := 0) (by omega)
    obtain ⟨a, b, c, hg⟩ : ∃ a b c, tt ps 0 = (a, b, c) := ⟨_, _, _, rfl⟩
    rw [hg] at p0 E
    replace E : Hid (r = (sightB a b c && speedB s)) := E
    have Q1 : Hid (∀ w, _) := Lib.hid fun w => TrackImpl.sightingOk a b c w
    have Q2 : Hid (∀ w, _) := Lib.hid fun w => TrackImpl.isSpeed s w
    generalize speedB s = sp at *
    obtain ⟨bd, eB, bB, pB⟩ := hp.get p0
    subst eB
    replace pB := pB.zero
    obtain ⟨_, _, _⟩ := id pB
    cases hs : sightB a b c
    · rw [hs] at Q1 E
      clear hl hp HR p0 hg hs
      go_enter Try.func50, Try.ntmps50
      go_wp2_with fail
      have HO : ∀ W W' : World, (Below w.heap.size w W) → Below W.heap.size W W' → (Below w.heap.size w W') := fun W W' hb h => hb.trans (h.mono hb.size)
      have S0 : Below w.heap.size w w := Below.refl _ _
      refine (Q1.out _).mono ?_
      rintro e w1 ⟨rfl, hb_⟩
      replace S0 := HO _ _ S0 hb_
      clear hb_
      obtain _ := id S0
      go_wp2_with fail
      go_ret
      exact ⟨ret_bool (by rw [E.out]; rfl), S0⟩
    · rw [hs] at Q1 E
      clear hl hp HR p0 hg hs
      go_enter Try.func50, Try.ntmps50
      go_wp2_with fail
      have HO : ∀ W W' : World, (Below w.heap.size w W) → Below W.heap.size W W' → (Below w.heap.size w W') := fun W W' hb h => hb.trans (h.mono hb.size)
      have S0 : Below w.heap.size w w := Below.refl _ _
      refine (Q1.out _).mono ?_
      rintro e w2 ⟨rfl, hb_⟩
      replace S0 := HO _ _ S0 hb_
      clear hb_
      obtain _ := id S0
      go_wp2_with fail
      refine (Q2.out _).mono ?_
      rintro e w_ ⟨rfl, rfl⟩
      go_wp2_with fail
      go_ret
      exact ⟨ret_bool (by rw [E.out]; rfl), S0⟩
  have h2 : ¬ ((n : Int) = 1) := by omega
  have h2b : ((n : Int) == 1) = false := by simpa using h2
  go_enter Try.func50, Try.ntmps50
  go_wp2_with fail
  have HO : ∀ W W' : World, (TsAt W w.heap.size A ps ∧ Below w.heap.size w W) → Below W.heap.size W W' → (TsAt W' w.heap.size A ps ∧ Below w.heap.size w W') := fun W W' ⟨x0, hb⟩ h => ⟨x0.later (h.mono hb.size), hb.trans (h.mono hb.size)⟩
  have S0 : TsAt w w.heap.size A ps ∧ Below w.heap.size w w := ⟨hp, Below.refl _ _⟩
  clear hp
  go_loopw [5] (fun q wr => ∃ k : Nat, 1 ≤ k ∧ (k ≤ n ∨ k = 1) ∧ q = .int .i64 k ∧ Hid (∀ j, 0 < j → j < k → sameT (tt ps (j - 1)) (tt ps j) s = true) ∧ (TsAt wr w.heap.size A ps ∧ Below w.heap.size w wr))
    (fun q _ => n + 1 - (intOf q).toNat)
  case atStart => exact ⟨1, Nat.le_refl _, .inr rfl, rfl, Lib.hid (fun j h0 hj => absurd hj (by omega)), S0⟩
  case round =>
    clear S0
    obtain ⟨k, hk, hkm, rfl, hw, S0⟩ := hrel
    obtain ⟨_, _⟩ := id S0
    by_cases hlt : k < n
    rotate_left
    · have hk1 : ¬ ((k : Int) < (n : Int)) := by omega
      have E : Hid (r = true) := Lib.hid (by rw [← HR.out]; exact trackB_chain (by omega) (fun j h0 hj => hw.out j h0 (by omega)))
      clear hl HR hw
      go_wp2_with fail
      go_ret
      exact ⟨ret_bool E.out.symm, S0.2⟩
    have hk1 : (k : Int) < (n : Int) := by omega
    have hk0 : (0 : Int) ≤ (k : Int) := by omega
    have HF2 : Hid (sameT (tt ps (k - 1)) (tt ps k) s = false → r = false) := Lib.hid (fun h => by rw [← HR.out]; exact trackB_not (by omega) (.inr ⟨by omega, h⟩))
    have HN : Hid (sameT (tt ps (k - 1)) (tt ps k) s = true → ∀ j, 0 < j → j < k + 1 → sameT (tt ps (j - 1)) (tt ps j) s = true) := Lib.hid (fun h j h0 hj => by
      rcases Nat.lt_or_ge j k with h1 | h1
      · exact hw.out j h0 h1
      · obtain rfl : j = k := by omega
        exact h)
    obtain ⟨j, hkj⟩ : ∃ j, k - 1 = j := ⟨_, rfl⟩
    have uj : IntKind.i64.wrap ((k : Int) - 1) = (j : Int) := by rw [IntWalk.i64_in _ (by omega)]; omega
    have hj1 : (j : Int) < (n : Int) := by omega
    have hj0 : (0 : Int) ≤ (j : Int) := by omega
    have p0 := tt_at (ps := ps) (k := k) (by omega)
    have p1 := tt_at (ps := ps) (k := j) (by omega)
    rw [hkj] at HN HF2
    have Q2 : Hid (∀ w, _) := Lib.hid fun w => TrackImpl.canBeSame (tt ps j).1 (tt ps j).2.1 (tt ps j).2.2 (tt ps k).1 (tt ps k).2.1 (tt ps k).2.2 s w
    rw [show sameB (tt ps j).1 (tt ps j).2.1 (tt ps j).2.2 (tt ps k).1 (tt ps k).2.1 (tt ps k).2.2 s = sameT (tt ps j) (tt ps k) s from rfl] at Q2
    obtain ⟨u, hu⟩ : ∃ u, sameT (tt ps j) (tt ps k) s = u := ⟨_, rfl⟩
    rw [hu] at Q2 HF2 HN
    obtain ⟨a, b, c, hg⟩ : ∃ a b c, tt ps k = (a, b, c) := ⟨_, _, _, rfl⟩
    obtain ⟨d, e, f, hj⟩ : ∃ a b c, tt ps j = (a, b, c) := ⟨_, _, _, rfl⟩
    rw [hg] at p0 Q2
    rw [hj] at p1 Q2
    obtain ⟨bd, eB, bB, pB⟩ := S0.1.get p0
    subst eB
    obtain ⟨bd2, eB2, _, pJ⟩ := S0.1.get p1
    injection eB2 with eB2
    subst eB2
    have HO : ∀ W W' : World, (TsAt W w.heap.size (some bd) ps ∧ TAt W bd k a b c ∧ TAt W bd j d e f ∧ Below w.heap.size w W) → Below W.heap.size W W' → (TsAt W' w.heap.size (some bd) ps ∧ TAt W' bd k a b c ∧ TAt W' bd j d e f ∧ Below w.heap.size w W') := fun W W' ⟨x0, x1, x2, hb⟩ h => ⟨x0.later (h.mono hb.size), x1.later bB (h.mono hb.size), x2.later bB (h.mono hb.size), hb.trans (h.mono hb.size)⟩
    replace S0 : TsAt wr w.heap.size (some bd) ps ∧ TAt wr bd k a b c ∧ TAt wr bd j d e f ∧ Below w.heap.size w wr := ⟨S0.1, pB, pJ, S0.2⟩
    clear pB pJ p0 p1 hg hj
    obtain ⟨_, ⟨_, _, _⟩, ⟨_, _, _⟩, _⟩ := id S0
    clear hl HR hw hu
    cases u
    · have E := Lib.hid (HF2.out rfl)
      clear HN HF2
      go_wp2_with fail
      refine Settle.region (fun W => TsAt W w.heap.size (some bd) ps ∧ TAt W bd k a b c ∧ TAt W bd j d e f ∧ Below w.heap.size w W) (by kernel_rfl) (by kernel_rfl) (by kernel_rfl) (by kernel_rfl) (HO _ _ S0 ((Below.refl _ _).drew)) ?_
      clear S0
      repeat (first
        | (refine Settle.Settles.off (by rfl) ?_; simp only [Act.put, List.setIfInBounds_toArray, List.set_cons_zero, List.set_cons_succ])
        | (refine Settle.Settles.quiet (v := ?_) (by rfl) ?_ ?_
           rotate_left
           · (intro W hS; obtain ⟨_, ⟨_, _, _⟩, ⟨_, _, _⟩, _⟩ := hS; go_simp; with_reducible rfl)
           simp only [Act.put, List.setIfInBounds_toArray, List.set_cons_zero, List.set_cons_succ])
        | (refine Settle.Settles.call (v := ?_) (f := ?_) (args := ?_) (by rfl) ?_ ?_ ?_
           rotate_left 3
           · (intro W; go_simp; refine ⟨?_, ?_⟩ <;> with_reducible rfl)
           · (intro W hS; first | (go_at_call 46; (with_reducible refine (Q2.out _).mono ?_); rintro e W1 ⟨rfl, hb⟩; refine ⟨?_, HO _ _ hS hb⟩; with_reducible rfl))
           simp only [Act.put, List.setIfInBounds_toArray, List.set_cons_zero, List.set_cons_succ]))
      refine Settle.Settles.nil ?_
      intro wr S0
      obtain ⟨_, ⟨_, _, _⟩, ⟨_, _, _⟩, _⟩ := id S0
      go_wp2_with fail
      go_ret
      exact ⟨ret_bool E.out.symm, S0.2.2.2⟩
    have HN2 := Lib.hid (HN.out rfl)
    clear HN HF2
    go_wp2_with fail
    refine Settle.region (fun W => TsAt W w.heap.size (some bd) ps ∧ TAt W bd k a b c ∧ TAt W bd j d e f ∧ Below w.heap.size w W) (by kernel_rfl) (by kernel_rfl) (by kernel_rfl) (by kernel_rfl) (HO _ _ S0 ((Below.refl _ _).drew)) ?_
    clear S0
    repeat (first
      | (refine Settle.Settles.off (by rfl) ?_; simp only [Act.put, List.setIfInBounds_toArray, List.set_cons_zero, List.set_cons_succ])
      | (refine Settle.Settles.quiet (v := ?_) (by rfl) ?_ ?_
         rotate_left
         · (intro W hS; obtain ⟨_, ⟨_, _, _⟩, ⟨_, _, _⟩, _⟩ := hS; go_simp; with_reducible rfl)
         simp only [Act.put, List.setIfInBounds_toArray, List.set_cons_zero, List.set_cons_succ])
      | (refine Settle.Settles.call (v := ?_) (f := ?_) (args := ?_) (by rfl) ?_ ?_ ?_
         rotate_left 3
         · (intro W; go_simp; refine ⟨?_, ?_⟩ <;> with_reducible rfl)
         · (intro W hS; first | (go_at_call 46; (with_reducible refine (Q2.out _).mono ?_); rintro e W1 ⟨rfl, hb⟩; refine ⟨?_, HO _ _ hS hb⟩; with_reducible rfl))
         simp only [Act.put, List.setIfInBounds_toArray, List.set_cons_zero, List.set_cons_succ]))
    refine Settle.Settles.nil ?_
    intro wr S0
    obtain ⟨_, ⟨_, _, _⟩, ⟨_, _, _⟩, _⟩ := id S0
    go_wp2_with fail
    first
      | exact ⟨⟨k + 1, by omega, by omega, by go_num, HN2, S0.1, S0.2.2.2⟩, by simp [intOf]; omega⟩
      | (go_roundw <;> first | exact ⟨k + 1, by omega, by omega, by go_num, HN2, S0.1, S0.2.2.2⟩ | (simp [intOf]; omega))

end Go.Proofs.Ytonbpmabmjhdgaa.ListImpl

