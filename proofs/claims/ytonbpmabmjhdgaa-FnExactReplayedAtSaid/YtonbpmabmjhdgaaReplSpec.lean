/-
  What ReplayedAt does, as a contract: what it answers; new memory alone is written.
-/
import Derived.Test.YtonbpmabmjhdgaaListMath
import Derived.Test.YtonbpmabmjhdgaaReplMath
import Derived.Test.YtonbpmabmjhdgaaGround

namespace Go.Proofs.Ytonbpmabmjhdgaa.ReplSpec
open Go.RowKit Own PointMath TrackMath ListMath ReplMath Tup3 Blk 
open PointOk (ret_bool ret_i64 below1 below2 below3)

set_option maxRecDepth 100000 in
set_option maxHeartbeats 6400000 in
theorem replayedAt (A : Option Addr) (n cap : Nat) (w : World) (ps : List Tu) (hl : ps.length = n) (hn : n ≤ 1048576) (hp : TsAt w w.heap.size A ps) :
    Calls Try.prog 36 #[.slice A n cap] w fun e w' => e = .returned (.int .i64 (repI ps)) ∧ Below w.heap.size w w' := by
  obtain ⟨r, hr⟩ : ∃ r, repI ps = r := ⟨_, rfl⟩
  have HR := Lib.hid hr
  rw [hr]
  clear hr
  go_enter Try.func36, Try.ntmps36
  go_wp2_with fail
  have HO : ∀ W W' : World, (TsAt W w.heap.size A ps ∧ Below w.heap.size w W) → Below W.heap.size W W' → (TsAt W' w.heap.size A ps ∧ Below w.heap.size w W') := fun W W' ⟨x0, hb⟩ h => ⟨x0.later (h.mono hb.size), hb.trans (h.mono hb.size)⟩
  have S0 : TsAt w w.heap.size A ps ∧ Below w.heap.size w w := ⟨hp, Below.refl _ _⟩
  clear hp
  go_loopw [3] (fun q wr => ∃ k : Nat, 1 ≤ k ∧ (k ≤ n ∨ k = 1) ∧ q = .int .i64 k ∧ Hid (∀ j, j < k → repB ps j = false) ∧ (TsAt wr w.heap.size A ps ∧ Below w.heap.size w wr))
    (fun q _ => n + 1 - (intOf q).toNat)
  case atStart => exact ⟨1, Nat.le_refl _, .inr rfl, rfl, Lib.hid (fun j hj => rep_few (by omega)), S0⟩
  case round =>
    clear S0
    obtain ⟨k, hk, hkm, rfl, hw, S0⟩ := hrel
    obtain ⟨_, _⟩ := id S0
    by_cases hlt : k < n
    rotate_left
    · have hk1 : ¬ ((k : Int) < (n : Int)) := by omega
      have E : Hid (r = -1) := Lib.hid (by rw [← HR.out]; exact repI_none (fun j hj => hw.out j (by omega)))
      clear hl HR hw
      go_wp2_with fail
      go_ret
      exact ⟨ret_i64 E.out.symm, S0.2⟩
    have hk1 : (k : Int) < (n : Int) := by omega
    obtain ⟨j, hkj⟩ : ∃ j, k - 1 = j := ⟨_, rfl⟩
    have uj : IntKind.i64.wrap ((k : Int) - 1) = (j : Int) := by rw [IntWalk.i64_in _ (by omega)]; omega
    have HT : Hid (repB ps k = true → r = (k : Int)) := Lib.hid (fun h => by rw [← HR.out]; exact repI_at (by omega) h hw.out)
    have HF : Hid (repB ps k = false → ∀ j, j < k + 1 → repB ps j = false) := Lib.hid (fun h j hj => by
      rcases Nat.lt_or_ge j k with h3 | h3
      · exact hw.out j h3
      · obtain rfl : j = k := by omega
        exact h)
    have HB : Hid (repB ps k = pairTo ps (ct ps j, ct ps k) (k - 2)) := Lib.hid (by unfold repB; rw [hkj])
    clear HR hw
    go_wp2_with fail
    go_loopw [4] (fun q wr => ∃ i : Nat, i ≤ k - 2 ∧ q = .int .i64 i ∧ Hid (pairTo ps (ct ps j, ct ps k) i = false) ∧ (TsAt wr w.heap.size A ps ∧ Below w.heap.size w wr))
      (fun q _ => k - (intOf q).toNat)
    case atStart => exact ⟨0, Nat.zero_le _, rfl, Lib.hid rfl, S0⟩
    case round =>
      clear S0
      obtain ⟨i, hik, rfl, hno, S0⟩ := hrel
      obtain ⟨_, _⟩ := id S0
      obtain ⟨m, him⟩ : ∃ m, i + 1 = m := ⟨_, rfl⟩
      have um : IntKind.i64.wrap ((i : Int) + 1) = (m : Int) := by rw [IntWalk.i64_in _ (by omega)]; omega
      by_cases hlt2 : m < j
      rotate_left
      · have d1 : ¬ ((m : Int) < (j : Int)) := by omega
        have HN := Lib.hid (HF.out (by rw [HB.out, show k - 2 = i by omega]; exact hno.out))
        clear HT HF HB hno hl
        go_wp2_with fail
        first
          | exact ⟨⟨k + 1, by omega, by omega, by go_num, HN, S0⟩, by simp [intOf]; omega⟩
          | (go_roundw <;> first | exact ⟨k + 1, by omega, by omega, by go_num, HN, S0⟩ | (simp [intOf]; omega))
      have d1 : (m : Int) < (j : Int) := by omega
      have pi := tt_at (ps := ps) (k := i) (by omega)
      have pm := tt_at (ps := ps) (k := m) (by omega)
      have pj := tt_at (ps := ps) (k := j) (by omega)
      have pk := tt_at (ps := ps) (k := k) (by omega)
      obtain ⟨ai, bi, ci, gi⟩ : ∃ x_ y_ z_, tt ps i = (x_, y_, z_) := ⟨_, _, _, rfl⟩
      obtain ⟨am, bm, cm, gm⟩ : ∃ x_ y_ z_, tt ps m = (x_, y_, z_) := ⟨_, _, _, rfl⟩
      obtain ⟨aj, bj, cj, gj⟩ : ∃ x_ y_ z_, tt ps j = (x_, y_, z_) := ⟨_, _, _, rfl⟩
      obtain ⟨ak, bk, ck, gk⟩ : ∃ x_ y_ z_, tt ps k = (x_, y_, z_) := ⟨_, _, _, rfl⟩
      have hic : Hid (ct ps i = ci) := Lib.hid (by unfold ct; rw [gi])
      have hmc : Hid (ct ps m = cm) := Lib.hid (by unfold ct; rw [gm])
      have hjc : Hid (ct ps j = cj) := Lib.hid (by unfold ct; rw [gj])
      have hkc : Hid (ct ps k = ck) := Lib.hid (by unfold ct; rw [gk])
      rw [gi] at pi
      rw [gm] at pm
      rw [gj] at pj
      rw [gk] at pk
      have k1i : (i : Int) < (n : Int) := by omega
      have k0i : (0 : Int) ≤ (i : Int) := by omega
      have k1m : (m : Int) < (n : Int) := by omega
      have k0m : (0 : Int) ≤ (m : Int) := by omega
      have k1j : (j : Int) < (n : Int) := by omega
      have k0j : (0 : Int) ≤ (j : Int) := by omega
      have k1k : (k : Int) < (n : Int) := by omega
      have k0k : (0 : Int) ≤ (k : Int) := by omega
      obtain ⟨bd, eB, bB, qi⟩ := S0.1.get pi
      subst eB
      obtain ⟨_, eB2, _, qm⟩ := S0.1.get pm
      injection eB2 with eB2
      subst eB2
      obtain ⟨_, eB2, _, qj⟩ := S0.1.get pj
      injection eB2 with eB2
      subst eB2
      obtain ⟨_, eB2, _, qk⟩ := S0.1.get pk
      injection eB2 with eB2
      subst eB2
      have HP : Hid (pairTo ps (ct ps j, ct ps k) m = (decide ((cj, ck) = (ci, cm)) || pairTo ps (ct ps j, ct ps k) i)) := Lib.hid (by
        rw [← him]
        show (decide ((ct ps j, ct ps k) = (ct ps i, ct ps (i + 1))) || _) = _
        rw [him, hic.out, hmc.out, hjc.out, hkc.out])
      have HT2 : Hid (ci = cj → cm = ck → r = (k : Int)) := Lib.hid (fun h1 h2 => HT.out (by
        rw [HB.out]
        refine pairTo_up (i := m) ?_ (by omega)
        rw [HP.out, decide_eq_true (by rw [h1, h2]), Bool.true_or]))
      have HN2 : Hid (¬ (ci = cj ∧ cm = ck) → pairTo ps (ct ps j, ct ps k) m = false) := Lib.hid (fun h => by
        rw [HP.out, hno.out, Bool.or_false]
        apply decide_eq_false
        intro e
        injection e with e1 e2
        exact h ⟨e1.symm, e2.symm⟩)
      have HO : ∀ W W' : World, (TsAt W w.heap.size (some bd) ps ∧ TAt W bd i ai bi ci ∧ TAt W bd m am bm cm ∧ TAt W bd j aj bj cj ∧ TAt W bd k ak bk ck ∧ Below w.heap.size w W) → Below W.heap.size W W' → (TsAt W' w.heap.size (some bd) ps ∧ TAt W' bd i ai bi ci ∧ TAt W' bd m am bm cm ∧ TAt W' bd j aj bj cj ∧ TAt W' bd k ak bk ck ∧ Below w.heap.size w W') := fun W W' ⟨x0, x1, x2, x3, x4, hb⟩ h => ⟨x0.later (h.mono hb.size), x1.later bB (h.mono hb.size), x2.later bB (h.mono hb.size), x3.later bB (h.mono hb.size), x4.later bB (h.mono hb.size), hb.trans (h.mono hb.size)⟩
      replace S0 : TsAt wr w.heap.size (some bd) ps ∧ TAt wr bd i ai bi ci ∧ TAt wr bd m am bm cm ∧ TAt wr bd j aj bj cj ∧ TAt wr bd k ak bk ck ∧ Below w.heap.size w wr := ⟨S0.1, qi, qm, qj, qk, S0.2⟩
      clear qi qm qj qk pi pm pj pk hl gi gm gj gk hno HP hic hmc hjc hkc
      obtain ⟨_, ⟨_, _, _⟩, ⟨_, _, _⟩, ⟨_, _, _⟩, ⟨_, _, _⟩, _⟩ := id S0
      by_cases f1 : ci = cj
      rotate_left
      · have e1 : (ci == cj) = false := by simpa using f1
        have e1d : decide (ci = cj) = false := decide_eq_false f1
        have HN3 := Lib.hid (HN2.out (fun h => f1 h.1))
        clear HT HT2 HN2 HF HB
        go_wp2_with fail
        refine Settle.region (fun W => TsAt W w.heap.size (some bd) ps ∧ TAt W bd i ai bi ci ∧ TAt W bd m am bm cm ∧ TAt W bd j aj bj cj ∧ TAt W bd k ak bk ck ∧ Below w.heap.size w W) (by kernel_rfl) (by kernel_rfl) (by kernel_rfl) (by kernel_rfl) (HO _ _ S0 ((Below.refl _ _).drew)) ?_
        clear S0
        repeat (first
          | (refine Settle.Settles.off (by rfl) ?_; simp only [Act.put, List.setIfInBounds_toArray, List.set_cons_zero, List.set_cons_succ])
          | (refine Settle.Settles.quiet (v := ?_) (by rfl) ?_ ?_
             rotate_left
             · (intro W hS; obtain ⟨_, ⟨_, _, _⟩, ⟨_, _, _⟩, ⟨_, _, _⟩, ⟨_, _, _⟩, _⟩ := hS; go_simp; with_reducible rfl)
             simp only [Act.put, List.setIfInBounds_toArray, List.set_cons_zero, List.set_cons_succ])
          | (refine Settle.Settles.call (v := ?_) (f := ?_) (args := ?_) (by rfl) ?_ ?_ ?_
             rotate_left 3
             · (intro W; go_simp; refine ⟨?_, ?_⟩ <;> with_reducible rfl)
             · (intro W hS; fail)
             simp only [Act.put, List.setIfInBounds_toArray, List.set_cons_zero, List.set_cons_succ]))
        refine Settle.Settles.nil ?_
        intro wr S0
        obtain ⟨_, ⟨_, _, _⟩, ⟨_, _, _⟩, ⟨_, _, _⟩, ⟨_, _, _⟩, _⟩ := id S0
        go_wp2_with fail
        first
          | exact ⟨⟨i + 1, by omega, by go_num, (by rw [him]; exact HN3), S0.1, S0.2.2.2.2.2⟩, by simp [intOf]; omega⟩
          | (go_roundw <;> first | exact ⟨i + 1, by omega, by go_num, (by rw [him]; exact HN3), S0.1, S0.2.2.2.2.2⟩ | (simp [intOf]; omega))
      have e1 : (ci == cj) = true := by simpa using f1
      have e1d : decide (ci = cj) = true := decide_eq_true f1
      by_cases f2 : cm = ck
      rotate_left
      · have e2 : (cm == ck) = false := by simpa using f2
        have e2d : decide (cm = ck) = false := decide_eq_false f2
        have HN3 := Lib.hid (HN2.out (fun h => f2 h.2))
        clear HT HT2 HN2 HF HB
        go_wp2_with fail
        refine Settle.region (fun W => TsAt W w.heap.size (some bd) ps ∧ TAt W bd i ai bi ci ∧ TAt W bd m am bm cm ∧ TAt W bd j aj bj cj ∧ TAt W bd k ak bk ck ∧ Below w.heap.size w W) (by kernel_rfl) (by kernel_rfl) (by kernel_rfl) (by kernel_rfl) (HO _ _ S0 ((Below.refl _ _).drew)) ?_
        clear S0
        repeat (first
          | (refine Settle.Settles.off (by rfl) ?_; simp only [Act.put, List.setIfInBounds_toArray, List.set_cons_zero, List.set_cons_succ])
          | (refine Settle.Settles.quiet (v := ?_) (by rfl) ?_ ?_
             rotate_left
             · (intro W hS; obtain ⟨_, ⟨_, _, _⟩, ⟨_, _, _⟩, ⟨_, _, _⟩, ⟨_, _, _⟩, _⟩ := hS; go_simp; with_reducible rfl)
             simp only [Act.put, List.setIfInBounds_toArray, List.set_cons_zero, List.set_cons_succ])
          | (refine Settle.Settles.call (v := ?_) (f := ?_) (args := ?_) (by rfl) ?_ ?_ ?_
             rotate_left 3
             · (intro W; go_simp; refine ⟨?_, ?_⟩ <;> with_reducible rfl)
             · (intro W hS; fail)
             simp only [Act.put, List.setIfInBounds_toArray, List.set_cons_zero, List.set_cons_succ]))
        refine Settle.Settles.nil ?_
        intro wr S0
        obtain ⟨_, ⟨_, _, _⟩, ⟨_, _, _⟩, ⟨_, _, _⟩, ⟨_, _, _⟩, _⟩ := id S0
        go_wp2_with fail
        first
          | exact ⟨⟨i + 1, by omega, by go_num, (by rw [him]; exact HN3), S0.1, S0.2.2.2.2.2⟩, by simp [intOf]; omega⟩
          | (go_roundw <;> first | exact ⟨i + 1, by omega, by go_num, (by rw [him]; exact HN3), S0.1, S0.2.2.2.2.2⟩ | (simp [intOf]; omega))
      have e2 : (cm == ck) = true := by simpa using f2
      have e2d : decide (cm = ck) = true := decide_eq_true f2
      have E := Lib.hid (HT2.out f1 f2)
      clear HT HT2 HN2 HF HB
      go_wp2_with fail
      refine Settle.region (fun W => TsAt W w.heap.size (some bd) ps ∧ TAt W bd i ai bi ci ∧ TAt W bd m am bm cm ∧ TAt W bd j aj bj cj ∧ TAt W bd k ak bk ck ∧ Below w.heap.size w W) (by kernel_rfl) (by kernel_rfl) (by kernel_rfl) (by kernel_rfl) (HO _ _ S0 ((Below.refl _ _).drew)) ?_
      clear S0
      repeat (first
        | (refine Settle.Settles.off (by rfl) ?_; simp only [Act.put, List.setIfInBounds_toArray, List.set_cons_zero, List.set_cons_succ])
        | (refine Settle.Settles.quiet (v := ?_) (by rfl) ?_ ?_
           rotate_left
           · (intro W hS; obtain ⟨_, ⟨_, _, _⟩, ⟨_, _, _⟩, ⟨_, _, _⟩, ⟨_, _, _⟩, _⟩ := hS; go_simp; with_reducible rfl)
           simp only [Act.put, List.setIfInBounds_toArray, List.set_cons_zero, List.set_cons_succ])
        | (refine Settle.Settles.call (v := ?_) (f := ?_) (args := ?_) (by rfl) ?_ ?_ ?_
           rotate_left 3
           · (intro W; go_simp; refine ⟨?_, ?_⟩ <;> with_reducible rfl)
           · (intro W hS; fail)
           simp only [Act.put, List.setIfInBounds_toArray, List.set_cons_zero, List.set_cons_succ]))
      refine Settle.Settles.nil ?_
      intro wr S0
      obtain ⟨_, ⟨_, _, _⟩, ⟨_, _, _⟩, ⟨_, _, _⟩, ⟨_, _, _⟩, _⟩ := id S0
      go_wp2_with fail
      go_ret
      exact ⟨ret_i64 E.out.symm, S0.2.2.2.2.2⟩

end Go.Proofs.Ytonbpmabmjhdgaa.ReplSpec

