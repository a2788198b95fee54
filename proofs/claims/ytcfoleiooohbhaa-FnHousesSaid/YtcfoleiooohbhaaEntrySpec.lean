/-
  What LastSeal, FirstBroken and IsSealed do, as contracts: what each answers; new memory alone is written.
-/
import Derived.Test.YtcfoleiooohbhaaSealSpec
import Derived.Test.YtcfoleiooohbhaaEntryMath
import Derived.Test.YtcfoleiooohbhaaGround
import Derived.OwnWalk
namespace Go.Proofs.Ytcfoleiooohbhaa.EntrySpec
open Go.RowKit SealMath EntryMath TupISI Blk
open PointOk (ret_bool ret_i64 below1 below2 below3)

set_option maxRecDepth 100000 in
set_option maxHeartbeats 6400000 in
theorem lastSeal (A : Option Addr) (n cap : Nat) (w : World) (ps : List Tu) (hl : ps.length = n) (_hn : n ≤ 1048576) (hp : TsAt w w.heap.size A ps) :
    Calls Try.prog 26 #[.slice A n cap] w fun e w' => e = .returned (.int .i64 (lastI ps)) ∧ Below w.heap.size w w' := by
  obtain ⟨r, hr⟩ : ∃ r, lastI ps = r := ⟨_, rfl⟩
  have HR := Lib.hid hr
  rw [hr]
  clear hr
  by_cases h0 : n = 0
  · subst h0
    have E : Hid (r = 1) := Lib.hid (by rw [← HR.out]; unfold lastI; rw [hl]; rfl)
    clear hl hp HR
    go_enter Try.func26, Try.ntmps26
    go_wp2_with fail
    go_ret
    exact ⟨ret_i64 E.out.symm, Below.refl _ _⟩
  have h1 : ¬ (n : Int) = 0 := by omega
  have h1b : ((n : Int) == 0) = false := by simpa using h1
  obtain ⟨j, hj⟩ : ∃ j, n - 1 = j := ⟨_, rfl⟩
  have uj : IntKind.i64.wrap ((n : Int) - 1) = (j : Int) := by rw [IntWalk.i64_in _ (by omega)]; omega
  have hj1 : (j : Int) < (n : Int) := by omega
  have hj0 : (0 : Int) ≤ (j : Int) := by omega
  have p0 := tt_at (ps := ps) (k := j) (by omega)
  have HE : Hid (r = (tt ps j).2.2) := Lib.hid (by rw [← HR.out]; unfold lastI; rw [hl, if_neg h0, hj])
  obtain ⟨a, s, b, hg⟩ : ∃ a s b, tt ps j = (a, s, b) := ⟨_, _, _, rfl⟩
  rw [hg] at p0 HE
  replace HE : Hid (r = b) := HE
  obtain ⟨bd, eB, bB, pB⟩ := hp.get p0
  subst eB
  obtain ⟨_, _, _⟩ := pB
  clear hp p0 hg HR hl hj
  go_enter Try.func26, Try.ntmps26
  go_wp2_with fail
  go_ret
  exact ⟨ret_i64 HE.out.symm, Below.refl _ _⟩

set_option maxRecDepth 100000 in
set_option maxHeartbeats 6400000 in
theorem firstBroken (A : Option Addr) (n cap : Nat) (w : World) (ps : List Tu) (hl : ps.length = n) (_hn : n ≤ 1048576) (hp : TsAt w w.heap.size A ps) (_hc : n ≤ cap) :
    Calls Try.prog 75 #[.slice A n cap] w fun e w' => e = .returned (.int .i64 (EntryMath.firstI ps)) ∧ Below w.heap.size w w' := by
  obtain ⟨r, hr⟩ : ∃ r, EntryMath.firstI ps = r := ⟨_, rfl⟩
  have HR := Lib.hid hr
  rw [hr]
  clear hr
  go_enter Try.func75, Try.ntmps75
  go_wp2_with fail
  have HO : ∀ W W' : World, (TsAt W w.heap.size A ps ∧ Below w.heap.size w W) → Below W.heap.size W W' → (TsAt W' w.heap.size A ps ∧ Below w.heap.size w W') := fun W W' ⟨x0, hb⟩ h => ⟨x0.later (h.mono hb.size), hb.trans (h.mono hb.size)⟩
  have S0 : TsAt w w.heap.size A ps ∧ Below w.heap.size w w := ⟨hp, Below.refl _ _⟩
  clear hp
  go_loopw [3, 4] (fun v q wr => ∃ k : Nat, k ≤ n ∧ q = .int .i64 k ∧ v = .int .i64 (sealAhead ps k) ∧ Hid (∀ j, j < k → brokenB ps j = false) ∧ (TsAt wr w.heap.size A ps ∧ Below w.heap.size w wr))
    (fun _ q _ => n - (intOf q).toNat)
  case atStart => exact ⟨0, Nat.zero_le _, rfl, rfl, Lib.hid (fun j hj => absurd hj (by omega)), S0⟩
  case round =>
    clear S0
    obtain ⟨k, hkn, rfl, rfl, hw, S0⟩ := hrel
    by_cases hlt : k < n
    rotate_left
    · obtain rfl : n = k := by omega
      have E : Hid (r = -1) := Lib.hid (by rw [← HR.out]; exact first_none hl hw.out)
      obtain ⟨_, _⟩ := id S0
      clear hl HR hw
      go_wp2_with fail
      go_ret
      exact ⟨ret_i64 E.out.symm, S0.2⟩
    have hk1 : (k : Int) < (n : Int) := by omega
    have hk0 : (0 : Int) ≤ (k : Int) := by omega
    have p0 := tt_at (ps := ps) (k := k) (by omega)
    have HF : Hid (brokenB ps k = true → r = (k : Int)) := Lib.hid (fun h => by rw [← HR.out]; exact first_at hl hlt h hw.out)
    have HN : Hid (brokenB ps k = false → ∀ j, j < k + 1 → brokenB ps j = false) := Lib.hid (fun h j hj => by
      rcases Nat.lt_or_ge j k with h1 | h1
      · exact hw.out j h1
      · obtain rfl : j = k := by omega
        exact h)
    have HB : Hid (brokenB ps k = _) := Lib.hid rfl
    rw [show brokenB ps k = (decide (sealI (sealAhead ps k) (tt ps k).1 (tt ps k).2.1 < 0) || decide (sealI (sealAhead ps k) (tt ps k).1 (tt ps k).2.1 ≠ (tt ps k).2.2) || (decide (0 < k) && decide ((tt ps k).1 < (tt ps (k - 1)).1))) from rfl] at HF HN
    clear HB
    have HA : Hid (sealAhead ps (k + 1) = (tt ps k).2.2) := Lib.hid rfl
    obtain ⟨a, s, b, hg⟩ : ∃ a s b, tt ps k = (a, s, b) := ⟨_, _, _, rfl⟩
    rw [hg] at p0 HF HN HA
    dsimp only at HF HN HA
    have QS := Lib.hid fun w => SealSpec.sealAfter (sealAhead ps k) a s w
    generalize sealI (sealAhead ps k) a s = x at *
    generalize sealAhead ps k = q at *
    by_cases hk2 : k = 0
    · subst hk2
      rw [show decide (0 < 0) = false from rfl] at HF HN
      have dz : decide ((0 : Int) < ((0 : Nat) : Int)) = false := decide_eq_false (by omega)
      have hz : ¬ (0 : Int) < ((0 : Nat) : Int) := by omega
      obtain ⟨bd, eB, bB, pB⟩ := S0.1.get p0
      subst eB
      replace pB := pB.zero
      have HO : ∀ W W' : World, (TsAt W w.heap.size (some bd) ps ∧ THere W bd a s b ∧ Below w.heap.size w W) → Below W.heap.size W W' → (TsAt W' w.heap.size (some bd) ps ∧ THere W' bd a s b ∧ Below w.heap.size w W') := fun W W' ⟨x0, x1, hb⟩ h => ⟨x0.later (h.mono hb.size), x1.later bB (h.mono hb.size), hb.trans (h.mono hb.size)⟩
      have S0a : TsAt wr w.heap.size (some bd) ps ∧ THere wr bd a s b ∧ Below w.heap.size w wr := ⟨S0.1, pB, S0.2⟩
      clear pB p0 hg hl HR hw S0
      obtain ⟨_, ⟨_, _, _⟩, _⟩ := id S0a
      have b1_ := below1 wr (Obj.cells #[.int .i64 a, .string s, .int .i64 b] 57)
      have X3 := box1 wr a s b 57 (k := wr.heap.size) rfl
      have S1 := HO _ _ S0a b1_
      obtain ⟨_, ⟨_, _, _⟩, _⟩ := id S1
      obtain ⟨_, _, _⟩ := id X3
      obtain ⟨kb, hkb⟩ : ∃ K, wr.heap.size = K := ⟨_, rfl⟩
      rw [hkb] at X3
      clear S0a b1_
      go_wp2_with fail
      generalize wr.alloc (Obj.cells #[.int .i64 a, .string s, .int .i64 b] 57) = v1 at *
      try rw [hkb]
      clear hkb
      have HO : ∀ W W' : World, (TsAt W w.heap.size (some bd) ps ∧ THere W bd a s b ∧ Box W kb a s b ∧ Below w.heap.size w W) → Below W.heap.size W W' → (TsAt W' w.heap.size (some bd) ps ∧ THere W' bd a s b ∧ Box W' kb a s b ∧ Below w.heap.size w W') := fun W W' ⟨x0, x1, x2, hb⟩ h => ⟨x0.later (h.mono hb.size), x1.later bB (h.mono hb.size), x2.later h, hb.trans (h.mono hb.size)⟩
      have S0 : TsAt v1 w.heap.size (some bd) ps ∧ THere v1 bd a s b ∧ Box v1 kb a s b ∧ Below w.heap.size w v1 := ⟨S1.1, S1.2.1, X3, S1.2.2⟩
      clear S1 X3
      obtain ⟨_, ⟨_, _, _⟩, ⟨_, _, _⟩, _⟩ := id S0
      refine (QS.out _).mono ?_
      rintro e w_ ⟨rfl, rfl⟩
      go_wp2_with fail
      by_cases h1 : x < 0
      · have d1 : decide (x < 0) = true := decide_eq_true h1
        · have E := Lib.hid (HF.out (by rw [d1]; rfl))
          clear HF HN QS
          refine Settle.region (fun W => TsAt W w.heap.size (some bd) ps ∧ THere W bd a s b ∧ Box W kb a s b ∧ Below w.heap.size w W) (by kernel_rfl) (by kernel_rfl) (by kernel_rfl) (by kernel_rfl) (HO _ _ S0 ((Below.refl _ _).drew)) ?_
          clear S0
          repeat (first
            | (refine Settle.Settles.off (by rfl) ?_; simp only [Act.put, List.setIfInBounds_toArray, List.set_cons_zero, List.set_cons_succ])
            | (refine Settle.Settles.quiet (v := ?_) (by rfl) ?_ ?_
               rotate_left
               · (intro W hS; obtain ⟨_, ⟨_, _, _⟩, ⟨_, _, _⟩, _⟩ := hS; go_simp; with_reducible rfl)
               simp only [Act.put, List.setIfInBounds_toArray, List.set_cons_zero, List.set_cons_succ])
            | (refine Settle.Settles.call (v := ?_) (f := ?_) (args := ?_) (by rfl) ?_ ?_ ?_
               rotate_left 3
               · (intro W; go_simp; refine ⟨?_, ?_⟩ <;> with_reducible rfl)
               · (intro W hS; fail)
               simp only [Act.put, List.setIfInBounds_toArray, List.set_cons_zero, List.set_cons_succ]))
          refine Settle.Settles.nil ?_
          intro wr S0
          obtain ⟨_, ⟨_, _, _⟩, ⟨_, _, _⟩, _⟩ := id S0
          go_wp2_with fail
          go_ret
          exact ⟨ret_i64 E.out.symm, S0.2.2.2⟩
      have d1 : decide (x < 0) = false := decide_eq_false h1
      by_cases h2 : x = b
      rotate_left
      · have d2 : (x == b) = false := by simpa using h2
        have d2b : (x != b) = true := by simpa using h2
        · have E := Lib.hid (HF.out (by rw [d1, decide_eq_true h2]; rfl))
          clear HF HN QS
          refine Settle.region (fun W => TsAt W w.heap.size (some bd) ps ∧ THere W bd a s b ∧ Box W kb a s b ∧ Below w.heap.size w W) (by kernel_rfl) (by kernel_rfl) (by kernel_rfl) (by kernel_rfl) (HO _ _ S0 ((Below.refl _ _).drew)) ?_
          clear S0
          repeat (first
            | (refine Settle.Settles.off (by rfl) ?_; simp only [Act.put, List.setIfInBounds_toArray, List.set_cons_zero, List.set_cons_succ])
            | (refine Settle.Settles.quiet (v := ?_) (by rfl) ?_ ?_
               rotate_left
               · (intro W hS; obtain ⟨_, ⟨_, _, _⟩, ⟨_, _, _⟩, _⟩ := hS; go_simp; with_reducible rfl)
               simp only [Act.put, List.setIfInBounds_toArray, List.set_cons_zero, List.set_cons_succ])
            | (refine Settle.Settles.call (v := ?_) (f := ?_) (args := ?_) (by rfl) ?_ ?_ ?_
               rotate_left 3
               · (intro W; go_simp; refine ⟨?_, ?_⟩ <;> with_reducible rfl)
               · (intro W hS; fail)
               simp only [Act.put, List.setIfInBounds_toArray, List.set_cons_zero, List.set_cons_succ]))
          refine Settle.Settles.nil ?_
          intro wr S0
          obtain ⟨_, ⟨_, _, _⟩, ⟨_, _, _⟩, _⟩ := id S0
          go_wp2_with fail
          go_ret
          exact ⟨ret_i64 E.out.symm, S0.2.2.2⟩
      replace h2 := h2.symm
      subst h2
      · have E := Lib.hid (HN.out (by rw [d1]; simp))
        clear HF HN QS
        refine Settle.region (fun W => TsAt W w.heap.size (some bd) ps ∧ THere W bd a s b ∧ Box W kb a s b ∧ Below w.heap.size w W) (by kernel_rfl) (by kernel_rfl) (by kernel_rfl) (by kernel_rfl) (HO _ _ S0 ((Below.refl _ _).drew)) ?_
        clear S0
        repeat (first
          | (refine Settle.Settles.off (by rfl) ?_; simp only [Act.put, List.setIfInBounds_toArray, List.set_cons_zero, List.set_cons_succ])
          | (refine Settle.Settles.quiet (v := ?_) (by rfl) ?_ ?_
             rotate_left
             · (intro W hS; obtain ⟨_, ⟨_, _, _⟩, ⟨_, _, _⟩, _⟩ := hS; go_simp; with_reducible rfl)
             simp only [Act.put, List.setIfInBounds_toArray, List.set_cons_zero, List.set_cons_succ])
          | (refine Settle.Settles.call (v := ?_) (f := ?_) (args := ?_) (by rfl) ?_ ?_ ?_
             rotate_left 3
             · (intro W; go_simp; refine ⟨?_, ?_⟩ <;> with_reducible rfl)
             · (intro W hS; fail)
             simp only [Act.put, List.setIfInBounds_toArray, List.set_cons_zero, List.set_cons_succ]))
        refine Settle.Settles.nil ?_
        intro wr S0
        obtain ⟨_, ⟨_, _, _⟩, ⟨_, _, _⟩, _⟩ := id S0
        go_wp2_with fail
        first
          | exact ⟨⟨0 + 1, by omega, by go_num, by rw [HA.out], E, S0.1, S0.2.2.2⟩, by simp [intOf]; omega⟩
          | (go_roundw <;> first | exact ⟨0 + 1, by omega, by go_num, by rw [HA.out], E, S0.1, S0.2.2.2⟩ | (simp [intOf]; omega))
    · skip
      obtain ⟨j, hkj⟩ : ∃ j, k - 1 = j := ⟨_, rfl⟩
      have uj : IntKind.i64.wrap ((k : Int) - 1) = (j : Int) := by rw [IntWalk.i64_in _ (by omega)]; omega
      have hj1 : (j : Int) < (n : Int) := by omega
      have hj0 : (0 : Int) ≤ (j : Int) := by omega
      have p1 := tt_at (ps := ps) (k := j) (by omega)
      have dn : decide (0 < k) = true := decide_eq_true (by omega)
      have hz : (0 : Int) < (k : Int) := by omega
      rw [hkj, dn] at HF HN
      obtain ⟨c, t, d, hj⟩ : ∃ a s b, tt ps j = (a, s, b) := ⟨_, _, _, rfl⟩
      rw [hj] at p1 HF HN
      dsimp only at HF HN
      obtain ⟨bd, eB, bB, pB⟩ := S0.1.get p0
      obtain ⟨bd2, eB2, _, pJ⟩ := S0.1.get p1
      rw [eB] at eB2
      injection eB2 with eB2
      subst eB2
      subst eB
      have HO : ∀ W W' : World, (TsAt W w.heap.size (some bd) ps ∧ TAt W bd k a s b ∧ TAt W bd j c t d ∧ Below w.heap.size w W) → Below W.heap.size W W' → (TsAt W' w.heap.size (some bd) ps ∧ TAt W' bd k a s b ∧ TAt W' bd j c t d ∧ Below w.heap.size w W') := fun W W' ⟨x0, x1, x2, hb⟩ h => ⟨x0.later (h.mono hb.size), x1.later bB (h.mono hb.size), x2.later bB (h.mono hb.size), hb.trans (h.mono hb.size)⟩
      have S0a : TsAt wr w.heap.size (some bd) ps ∧ TAt wr bd k a s b ∧ TAt wr bd j c t d ∧ Below w.heap.size w wr := ⟨S0.1, pB, pJ, S0.2⟩
      clear pJ p1 hj hkj
      clear pB p0 hg hl HR hw S0
      obtain ⟨_, ⟨_, _, _⟩, ⟨_, _, _⟩, _⟩ := id S0a
      have b1_ := below1 wr (Obj.cells #[.int .i64 a, .string s, .int .i64 b] 57)
      have X3 := box1 wr a s b 57 (k := wr.heap.size) rfl
      have S1 := HO _ _ S0a b1_
      obtain ⟨_, ⟨_, _, _⟩, ⟨_, _, _⟩, _⟩ := id S1
      obtain ⟨_, _, _⟩ := id X3
      obtain ⟨kb, hkb⟩ : ∃ K, wr.heap.size = K := ⟨_, rfl⟩
      rw [hkb] at X3
      clear S0a b1_
      go_wp2_with fail
      generalize wr.alloc (Obj.cells #[.int .i64 a, .string s, .int .i64 b] 57) = v1 at *
      try rw [hkb]
      clear hkb
      have HO : ∀ W W' : World, (TsAt W w.heap.size (some bd) ps ∧ TAt W bd k a s b ∧ TAt W bd j c t d ∧ Box W kb a s b ∧ Below w.heap.size w W) → Below W.heap.size W W' → (TsAt W' w.heap.size (some bd) ps ∧ TAt W' bd k a s b ∧ TAt W' bd j c t d ∧ Box W' kb a s b ∧ Below w.heap.size w W') := fun W W' ⟨x0, x1, x2, x3, hb⟩ h => ⟨x0.later (h.mono hb.size), x1.later bB (h.mono hb.size), x2.later bB (h.mono hb.size), x3.later h, hb.trans (h.mono hb.size)⟩
      have S0 : TsAt v1 w.heap.size (some bd) ps ∧ TAt v1 bd k a s b ∧ TAt v1 bd j c t d ∧ Box v1 kb a s b ∧ Below w.heap.size w v1 := ⟨S1.1, S1.2.1, S1.2.2.1, X3, S1.2.2.2⟩
      clear S1 X3
      obtain ⟨_, ⟨_, _, _⟩, ⟨_, _, _⟩, ⟨_, _, _⟩, _⟩ := id S0
      refine (QS.out _).mono ?_
      rintro e w_ ⟨rfl, rfl⟩
      go_wp2_with fail
      by_cases h1 : x < 0
      · have d1 : decide (x < 0) = true := decide_eq_true h1
        · have E := Lib.hid (HF.out (by rw [d1]; rfl))
          clear HF HN QS
          refine Settle.region (fun W => TsAt W w.heap.size (some bd) ps ∧ TAt W bd k a s b ∧ TAt W bd j c t d ∧ Box W kb a s b ∧ Below w.heap.size w W) (by kernel_rfl) (by kernel_rfl) (by kernel_rfl) (by kernel_rfl) (HO _ _ S0 ((Below.refl _ _).drew)) ?_
          clear S0
          repeat (first
            | (refine Settle.Settles.off (by rfl) ?_; simp only [Act.put, List.setIfInBounds_toArray, List.set_cons_zero, List.set_cons_succ])
            | (refine Settle.Settles.quiet (v := ?_) (by rfl) ?_ ?_
               rotate_left
               · (intro W hS; obtain ⟨_, ⟨_, _, _⟩, ⟨_, _, _⟩, ⟨_, _, _⟩, _⟩ := hS; go_simp; with_reducible rfl)
               simp only [Act.put, List.setIfInBounds_toArray, List.set_cons_zero, List.set_cons_succ])
            | (refine Settle.Settles.call (v := ?_) (f := ?_) (args := ?_) (by rfl) ?_ ?_ ?_
               rotate_left 3
               · (intro W; go_simp; refine ⟨?_, ?_⟩ <;> with_reducible rfl)
               · (intro W hS; fail)
               simp only [Act.put, List.setIfInBounds_toArray, List.set_cons_zero, List.set_cons_succ]))
          refine Settle.Settles.nil ?_
          intro wr S0
          obtain ⟨_, ⟨_, _, _⟩, ⟨_, _, _⟩, ⟨_, _, _⟩, _⟩ := id S0
          go_wp2_with fail
          go_ret
          exact ⟨ret_i64 E.out.symm, S0.2.2.2.2⟩
      have d1 : decide (x < 0) = false := decide_eq_false h1
      by_cases h2 : x = b
      rotate_left
      · have d2 : (x == b) = false := by simpa using h2
        have d2b : (x != b) = true := by simpa using h2
        · have E := Lib.hid (HF.out (by rw [d1, decide_eq_true h2]; rfl))
          clear HF HN QS
          refine Settle.region (fun W => TsAt W w.heap.size (some bd) ps ∧ TAt W bd k a s b ∧ TAt W bd j c t d ∧ Box W kb a s b ∧ Below w.heap.size w W) (by kernel_rfl) (by kernel_rfl) (by kernel_rfl) (by kernel_rfl) (HO _ _ S0 ((Below.refl _ _).drew)) ?_
          clear S0
          repeat (first
            | (refine Settle.Settles.off (by rfl) ?_; simp only [Act.put, List.setIfInBounds_toArray, List.set_cons_zero, List.set_cons_succ])
            | (refine Settle.Settles.quiet (v := ?_) (by rfl) ?_ ?_
               rotate_left
               · (intro W hS; obtain ⟨_, ⟨_, _, _⟩, ⟨_, _, _⟩, ⟨_, _, _⟩, _⟩ := hS; go_simp; with_reducible rfl)
               simp only [Act.put, List.setIfInBounds_toArray, List.set_cons_zero, List.set_cons_succ])
            | (refine Settle.Settles.call (v := ?_) (f := ?_) (args := ?_) (by rfl) ?_ ?_ ?_
               rotate_left 3
               · (intro W; go_simp; refine ⟨?_, ?_⟩ <;> with_reducible rfl)
               · (intro W hS; fail)
               simp only [Act.put, List.setIfInBounds_toArray, List.set_cons_zero, List.set_cons_succ]))
          refine Settle.Settles.nil ?_
          intro wr S0
          obtain ⟨_, ⟨_, _, _⟩, ⟨_, _, _⟩, ⟨_, _, _⟩, _⟩ := id S0
          go_wp2_with fail
          go_ret
          exact ⟨ret_i64 E.out.symm, S0.2.2.2.2⟩
      replace h2 := h2.symm
      subst h2
      by_cases h3 : a < c
      · have d3 : decide (a < c) = true := decide_eq_true h3
        · have E := Lib.hid (HF.out (by rw [d1, d3]; simp))
          clear HF HN QS
          refine Settle.region (fun W => TsAt W w.heap.size (some bd) ps ∧ TAt W bd k a s b ∧ TAt W bd j c t d ∧ Box W kb a s b ∧ Below w.heap.size w W) (by kernel_rfl) (by kernel_rfl) (by kernel_rfl) (by kernel_rfl) (HO _ _ S0 ((Below.refl _ _).drew)) ?_
          clear S0
          repeat (first
            | (refine Settle.Settles.off (by rfl) ?_; simp only [Act.put, List.setIfInBounds_toArray, List.set_cons_zero, List.set_cons_succ])
            | (refine Settle.Settles.quiet (v := ?_) (by rfl) ?_ ?_
               rotate_left
               · (intro W hS; obtain ⟨_, ⟨_, _, _⟩, ⟨_, _, _⟩, ⟨_, _, _⟩, _⟩ := hS; go_simp; with_reducible rfl)
               simp only [Act.put, List.setIfInBounds_toArray, List.set_cons_zero, List.set_cons_succ])
            | (refine Settle.Settles.call (v := ?_) (f := ?_) (args := ?_) (by rfl) ?_ ?_ ?_
               rotate_left 3
               · (intro W; go_simp; refine ⟨?_, ?_⟩ <;> with_reducible rfl)
               · (intro W hS; fail)
               simp only [Act.put, List.setIfInBounds_toArray, List.set_cons_zero, List.set_cons_succ]))
          refine Settle.Settles.nil ?_
          intro wr S0
          obtain ⟨_, ⟨_, _, _⟩, ⟨_, _, _⟩, ⟨_, _, _⟩, _⟩ := id S0
          go_wp2_with fail
          go_ret
          exact ⟨ret_i64 E.out.symm, S0.2.2.2.2⟩
      have d3 : decide (a < c) = false := decide_eq_false h3
      · have E := Lib.hid (HN.out (by rw [d1, d3]; simp))
        clear HF HN QS
        refine Settle.region (fun W => TsAt W w.heap.size (some bd) ps ∧ TAt W bd k a s b ∧ TAt W bd j c t d ∧ Box W kb a s b ∧ Below w.heap.size w W) (by kernel_rfl) (by kernel_rfl) (by kernel_rfl) (by kernel_rfl) (HO _ _ S0 ((Below.refl _ _).drew)) ?_
        clear S0
        repeat (first
          | (refine Settle.Settles.off (by rfl) ?_; simp only [Act.put, List.setIfInBounds_toArray, List.set_cons_zero, List.set_cons_succ])
          | (refine Settle.Settles.quiet (v := ?_) (by rfl) ?_ ?_
             rotate_left
             · (intro W hS; obtain ⟨_, ⟨_, _, _⟩, ⟨_, _, _⟩, ⟨_, _, _⟩, _⟩ := hS; go_simp; with_reducible rfl)
             simp only [Act.put, List.setIfInBounds_toArray, List.set_cons_zero, List.set_cons_succ])
          | (refine Settle.Settles.call (v := ?_) (f := ?_) (args := ?_) (by rfl) ?_ ?_ ?_
             rotate_left 3
             · (intro W; go_simp; refine ⟨?_, ?_⟩ <;> with_reducible rfl)
             · (intro W hS; fail)
             simp only [Act.put, List.setIfInBounds_toArray, List.set_cons_zero, List.set_cons_succ]))
        refine Settle.Settles.nil ?_
        intro wr S0
        obtain ⟨_, ⟨_, _, _⟩, ⟨_, _, _⟩, ⟨_, _, _⟩, _⟩ := id S0
        go_wp2_with fail
        first
          | exact ⟨⟨k + 1, by omega, by go_num, by rw [HA.out], E, S0.1, S0.2.2.2.2⟩, by simp [intOf]; omega⟩
          | (go_roundw <;> first | exact ⟨k + 1, by omega, by go_num, by rw [HA.out], E, S0.1, S0.2.2.2.2⟩ | (simp [intOf]; omega))

set_option maxRecDepth 100000 in
set_option maxHeartbeats 6400000 in
theorem isSealed (A : Option Addr) (n cap : Nat) (w : World) (ps : List Tu) (hl : ps.length = n) (_hn : n ≤ 1048576) (hp : TsAt w w.heap.size A ps) (_hc : n ≤ cap) :
    Calls Try.prog 69 #[.slice A n cap] w fun e w' => e = .returned (.bool (sealedB ps)) ∧ Below w.heap.size w w' := by
  obtain ⟨r, hr⟩ : ∃ r, sealedB ps = r := ⟨_, rfl⟩
  have HR := Lib.hid hr
  rw [hr]
  clear hr
  have HE : Hid (r = (decide (n ≤ 30) && decide (EntryMath.firstI ps = -1))) := Lib.hid (by rw [← HR.out]; unfold sealedB; rw [hl])
  have Q := Lib.hid fun w hp => firstBroken A n cap w ps hl (by omega) hp _hc
  have hf := first_in ps
  generalize EntryMath.firstI ps = f at *
  clear HR
  by_cases h30 : n ≤ 30
  rotate_left
  · have h31 : ¬ (n : Int) ≤ 30 := by omega
    have E : Hid (r = false) := Lib.hid (by rw [HE.out, decide_eq_false h30]; rfl)
    clear HE Q hp hl
    go_enter Try.func69, Try.ntmps69
    go_wp2_with fail
    go_ret
    exact ⟨ret_bool E.out.symm, Below.refl _ _⟩
  have h31 : (n : Int) ≤ 30 := by omega
  by_cases hfm : f = -1
  · subst hfm
    have E : Hid (r = true) := Lib.hid (by rw [HE.out, decide_eq_true h30]; rfl)
    clear HE hl
    go_enter Try.func69, Try.ntmps69
    go_wp2_with fail
    refine (Q.out w hp).mono ?_
    rintro e w1 ⟨rfl, hb_⟩
    go_wp2_with fail
    go_ret
    exact ⟨ret_bool E.out.symm, hb_⟩
  have h0 : ¬ f < 0 := by omega
  have h0b : (f == -1) = false := by simpa using hfm
  have E : Hid (r = false) := Lib.hid (by rw [HE.out, decide_eq_true h30, decide_eq_false hfm]; rfl)
  clear HE hl
  go_enter Try.func69, Try.ntmps69
  go_wp2_with fail
  refine (Q.out w hp).mono ?_
  rintro e w1 ⟨rfl, hb_⟩
  go_wp2_with fail
  go_ret
  exact ⟨ret_bool (by rw [E.out]; exact decide_eq_false (by omega)), hb_⟩

end Go.Proofs.Ytcfoleiooohbhaa.EntrySpec

