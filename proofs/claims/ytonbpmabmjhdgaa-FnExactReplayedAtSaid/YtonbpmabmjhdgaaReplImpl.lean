/-
  What ReplayedAt does, as a contract: what it answers; new memory alone is written.
-/
import Derived.Test.YtonbpmabmjhdgaaListMath
import Derived.Test.YtonbpmabmjhdgaaReplMath
import Derived.Test.YtonbpmabmjhdgaaGround
import Derived.Test.YtonbpmabmjhdgaaPairSet
namespace Go.Proofs.Ytonbpmabmjhdgaa.ReplImpl
open Go.RowKit Own PointMath TrackMath ListMath ReplMath Tup3 Blk PairSet
open PointOk (ret_bool ret_i64 below1 below2 below3)

set_option maxRecDepth 100000 in
set_option maxHeartbeats 6400000 in
theorem replayedAt (A : Option Addr) (n cap : Nat) (w : World) (ps : List Tu) (hl : ps.length = n) (hn : n ≤ 1048576) (hp : TsAt w w.heap.size A ps) (hW : WfT ps) :
    Calls Try.prog 37 #[.slice A n cap] w fun e w' => e = .returned (.int .i64 (repI ps)) ∧ Below w.heap.size w w' := by
  obtain ⟨r, hr⟩ : ∃ r, repI ps = r := ⟨_, rfl⟩
  have HR := Lib.hid hr
  rw [hr]
  clear hr
  have hmm := @run_makeMap Try.prog
  have HO : ∀ W W' : World, (TsAt W w.heap.size A ps ∧ Below w.heap.size w W) → Below W.heap.size W W' → (TsAt W' w.heap.size A ps ∧ Below w.heap.size w W') := fun W W' ⟨x0, hb⟩ h => ⟨x0.later (h.mono hb.size), hb.trans (h.mono hb.size)⟩
  have HM := made w
  have b1_ : Below w.heap.size w (w.alloc (.map #[] 0)) := (Below.refl _ _).alloc (Nat.le_refl _) _
  have S0 : TsAt w w.heap.size A ps ∧ Below w.heap.size w w := ⟨hp, Below.refl _ _⟩
  replace S0 := HO _ _ S0 b1_
  have hlt0 : w.heap.size < (w.alloc (.map #[] 0)).heap.size := by simp
  clear b1_ hp
  replace HM := Lib.hid HM
  go_enter Try.func37, Try.ntmps37
  go_wp2_with fail
  generalize w.alloc (.map #[] 0) = v0 at *
  replace HM : Hid (SetAt v0 (w.heap.size) 0 (fun p => pairTo ps p 0)) := HM
  go_loopw [4] (fun q wr => ∃ k : Nat, 3 ≤ k ∧ (k ≤ n ∨ k = 3) ∧ q = .int .i64 k ∧ Hid (∀ j, j < k → repB ps j = false) ∧ Hid (SetAt wr (w.heap.size) k (fun p => pairTo ps p (k - 3))) ∧ (w.heap.size) < wr.heap.size ∧ (TsAt wr w.heap.size A ps ∧ Below w.heap.size w wr))
    (fun q _ => n + 3 - (intOf q).toNat)
  case atStart => exact ⟨3, Nat.le_refl _, .inr rfl, rfl, Lib.hid (fun j hj => rep_few (by omega)), Lib.hid (HM.out.mono (by omega)), hlt0, S0⟩
  case round =>
    clear S0 HM hlt0
    obtain ⟨k, hk, hkm, rfl, hw, hset, hbm, S0⟩ := hrel
    obtain ⟨_, _⟩ := id S0
    by_cases hlt : k < n
    rotate_left
    · have hk1 : ¬ ((k : Int) < (n : Int)) := by omega
      have E : Hid (r = -1) := Lib.hid (by rw [← HR.out]; exact repI_none (fun j hj => hw.out j (by omega)))
      clear hl HR hw hset
      go_wp2_with fail
      go_ret
      exact ⟨ret_i64 E.out.symm, S0.2⟩
    obtain ⟨a, hka⟩ : ∃ a, k - 3 = a := ⟨_, rfl⟩
    obtain ⟨b, hkb⟩ : ∃ a, k - 2 = a := ⟨_, rfl⟩
    obtain ⟨c, hkc⟩ : ∃ a, k - 1 = a := ⟨_, rfl⟩
    have ua : IntKind.i64.wrap ((k : Int) - 3) = (a : Int) := by rw [IntWalk.i64_in _ (by omega)]; omega
    have ub : IntKind.i64.wrap ((k : Int) - 2) = (b : Int) := by rw [IntWalk.i64_in _ (by omega)]; omega
    have uc : IntKind.i64.wrap ((k : Int) - 1) = (c : Int) := by rw [IntWalk.i64_in _ (by omega)]; omega
    have wa := hW.at_ (k := a) (by omega)
    have wb := hW.at_ (k := b) (by omega)
    have wc := hW.at_ (k := c) (by omega)
    have wk := hW.at_ (k := k) (by omega)
    rw [hka] at hset
    have pa := tt_at (ps := ps) (k := a) (by omega)
    have pb := tt_at (ps := ps) (k := b) (by omega)
    have pc := tt_at (ps := ps) (k := c) (by omega)
    have pk := tt_at (ps := ps) (k := k) (by omega)
    obtain ⟨aa, ba, ca, ga⟩ : ∃ x_ y_ z_, tt ps a = (x_, y_, z_) := ⟨_, _, _, rfl⟩
    obtain ⟨ab, bb, cb, gb⟩ : ∃ x_ y_ z_, tt ps b = (x_, y_, z_) := ⟨_, _, _, rfl⟩
    obtain ⟨ac, bc, cc, gc⟩ : ∃ x_ y_ z_, tt ps c = (x_, y_, z_) := ⟨_, _, _, rfl⟩
    obtain ⟨ak, bk, ck, gk⟩ : ∃ x_ y_ z_, tt ps k = (x_, y_, z_) := ⟨_, _, _, rfl⟩
    have hac : Hid (ct ps a = ca) := Lib.hid (by unfold ct; rw [ga])
    have hbc : Hid (ct ps b = cb) := Lib.hid (by unfold ct; rw [gb])
    have hcc : Hid (ct ps c = cc) := Lib.hid (by unfold ct; rw [gc])
    have hkc_ : Hid (ct ps k = ck) := Lib.hid (by unfold ct; rw [gk])
    rw [ga] at pa
    rw [gb] at pb
    rw [gc] at pc
    rw [gk] at pk
    have k1a : (a : Int) < (n : Int) := by omega
    have k0a : (0 : Int) ≤ (a : Int) := by omega
    have k1b : (b : Int) < (n : Int) := by omega
    have k0b : (0 : Int) ≤ (b : Int) := by omega
    have k1c : (c : Int) < (n : Int) := by omega
    have k0c : (0 : Int) ≤ (c : Int) := by omega
    have k1k : (k : Int) < (n : Int) := by omega
    have k0k : (0 : Int) ≤ (k : Int) := by omega
    obtain ⟨bd, eB, bB, qa⟩ := S0.1.get pa
    subst eB
    obtain ⟨_, eB2, _, qb⟩ := S0.1.get pb
    injection eB2 with eB2
    subst eB2
    obtain ⟨_, eB2, _, qc⟩ := S0.1.get pc
    injection eB2 with eB2
    subst eB2
    obtain ⟨_, eB2, _, qk⟩ := S0.1.get pk
    injection eB2 with eB2
    subst eB2
    rw [ga] at wa
    rw [gb] at wb
    rw [gc] at wc
    rw [gk] at wk
    simp only at wa wb wc wk
    have HT : Hid (repB ps k = true → r = (k : Int)) := Lib.hid (fun h => by rw [← HR.out]; exact repI_at (by omega) h hw.out)
    have HF : Hid (repB ps k = false → ∀ j, j < k + 1 → repB ps j = false) := Lib.hid (fun h j hj => by
      rcases Nat.lt_or_ge j k with h3 | h3
      · exact hw.out j h3
      · obtain rfl : j = k := by omega
        exact h)
    have HB : Hid (repB ps k = pairTo ps (cc, ck) b) := Lib.hid (by unfold repB; rw [hkc, hkb, hcc.out, hkc_.out])
    have HS : Hid ((fun p => decide (p = (ca, cb)) || pairTo ps p a) = (fun p => pairTo ps p b)) := Lib.hid (by
      funext p
      rw [show b = a + 1 by omega]
      show _ = (decide (p = (ct ps a, ct ps (a + 1))) || pairTo ps p a)
      rw [show a + 1 = b by omega, hac.out, hbc.out])
    have HK : Hid (k + 1 - 3 = b) := Lib.hid (by omega)
    clear HR hw hl ga gb gc gk hac hbc hcc hkc_
    have HO : ∀ W W' : World, (TsAt W w.heap.size (some bd) ps ∧ TAt W bd a aa ba ca ∧ TAt W bd b ab bb cb ∧ TAt W bd c ac bc cc ∧ TAt W bd k ak bk ck ∧ Hid (SetAt W (w.heap.size) k (fun p => pairTo ps p a)) ∧ w.heap.size < W.heap.size ∧ Below w.heap.size w W) → Below W.heap.size W W' → (TsAt W' w.heap.size (some bd) ps ∧ TAt W' bd a aa ba ca ∧ TAt W' bd b ab bb cb ∧ TAt W' bd c ac bc cc ∧ TAt W' bd k ak bk ck ∧ Hid (SetAt W' (w.heap.size) k (fun p => pairTo ps p a)) ∧ w.heap.size < W'.heap.size ∧ Below w.heap.size w W') := fun W W' ⟨x0, x1, x2, x3, x4, x5, x6, hb⟩ h => ⟨x0.later (h.mono hb.size), x1.later bB (h.mono hb.size), x2.later bB (h.mono hb.size), x3.later bB (h.mono hb.size), x4.later bB (h.mono hb.size), Lib.hid (x5.out.later h), Nat.lt_of_lt_of_le x6 h.size, hb.trans (h.mono hb.size)⟩
    replace S0 : TsAt wr w.heap.size (some bd) ps ∧ TAt wr bd a aa ba ca ∧ TAt wr bd b ab bb cb ∧ TAt wr bd c ac bc cc ∧ TAt wr bd k ak bk ck ∧ Hid (SetAt wr (w.heap.size) k (fun p => pairTo ps p a)) ∧ w.heap.size < wr.heap.size ∧ Below w.heap.size w wr := ⟨S0.1, qa, qb, qc, qk, hset, hbm, S0.2⟩
    clear qa qb qc qk pa pb pc pk hset hbm
    obtain ⟨_, ⟨_, _, _⟩, ⟨_, _, _⟩, ⟨_, _, _⟩, ⟨_, _, _⟩, _, _, _⟩ := id S0
    go_wp2_with fail
    refine Settle.regionTails (fun W => TsAt W w.heap.size (some bd) ps ∧ TAt W bd a aa ba ca ∧ TAt W bd b ab bb cb ∧ TAt W bd c ac bc cc ∧ TAt W bd k ak bk ck ∧ Hid (SetAt W (w.heap.size) k (fun p => pairTo ps p a)) ∧ w.heap.size < W.heap.size ∧ Below w.heap.size w W) 14 (by kernel_rfl) (by kernel_rfl) (of_decide_eq_true (by kernel_rfl)) (by kernel_rfl) (by kernel_rfl) (by kernel_rfl) (by kernel_rfl) (HO _ _ S0 ((Below.refl _ _).drew)) ?_
    simp only [List.take_succ_cons, List.take_zero, List.drop_succ_cons, List.drop_zero]
    clear S0
    repeat (first
      | (refine Settle.Settles.off (by rfl) ?_; simp only [Act.put, List.setIfInBounds_toArray, List.set_cons_zero, List.set_cons_succ])
      | (refine Settle.Settles.quiet (v := ?_) (by rfl) ?_ ?_
         rotate_left
         · (intro W hS; obtain ⟨_, ⟨_, _, _⟩, ⟨_, _, _⟩, ⟨_, _, _⟩, ⟨_, _, _⟩, _, _, _⟩ := hS; go_simp; with_reducible rfl)
         simp only [Act.put, List.setIfInBounds_toArray, List.set_cons_zero, List.set_cons_succ])
      | (refine Settle.Settles.call (v := ?_) (f := ?_) (args := ?_) (by rfl) ?_ ?_ ?_
         rotate_left 3
         · (intro W; go_simp; refine ⟨?_, ?_⟩ <;> with_reducible rfl)
         · (intro W hS; fail)
         simp only [Act.put, List.setIfInBounds_toArray, List.set_cons_zero, List.set_cons_succ]))
    refine Settle.Settles.nil ?_
    intro wr S0 K_ hK_
    obtain ⟨_, ⟨_, _, _⟩, ⟨_, _, _⟩, ⟨_, _, _⟩, ⟨_, _, _⟩, _, _, _⟩ := id S0
    have hset := S0.2.2.2.2.2.1
    have hszv : w.heap.size ≤ wr.heap.size := S0.2.2.2.2.2.2.2.size
    go_wp2_with (at_mapUpdate; refine wpList_update_set _ rfl _ _ _ 89 rfl Try.underlying89 (w.heap.size) k _ rfl hset.out (by unfold maxLen; omega) ca cb rfl wa wb rfl ?_)
    intro w5 hset5 hg5
    have hw5 : Below w.heap.size wr w5 := (Below.refl _ _).grown hg5 hszv (fun i hi => by injection hi with hi; omega)
    rw [HS.out] at hset5
    have hbm5 : (w.heap.size) < w5.heap.size := hset5.lt
    replace hset5 := Lib.hid hset5
    have S5 := (⟨S0.1.later hw5, S0.2.1.later bB hw5, S0.2.2.1.later bB hw5, S0.2.2.2.1.later bB hw5, S0.2.2.2.2.1.later bB hw5, hset5, hbm5, S0.2.2.2.2.2.2.2.trans hw5⟩ : TsAt w5 w.heap.size (some bd) ps ∧ TAt w5 bd a aa ba ca ∧ TAt w5 bd b ab bb cb ∧ TAt w5 bd c ac bc cc ∧ TAt w5 bd k ak bk ck ∧ Hid (SetAt w5 (w.heap.size) (k + 1) (fun p => pairTo ps p b)) ∧ w.heap.size < w5.heap.size ∧ Below w.heap.size w w5)
    clear S0 hset HS hw5 hg5 hset5 hbm5 HO
    have HO : ∀ W W' : World, (TsAt W w.heap.size (some bd) ps ∧ TAt W bd a aa ba ca ∧ TAt W bd b ab bb cb ∧ TAt W bd c ac bc cc ∧ TAt W bd k ak bk ck ∧ Hid (SetAt W (w.heap.size) (k + 1) (fun p => pairTo ps p b)) ∧ w.heap.size < W.heap.size ∧ Below w.heap.size w W) → Below W.heap.size W W' → (TsAt W' w.heap.size (some bd) ps ∧ TAt W' bd a aa ba ca ∧ TAt W' bd b ab bb cb ∧ TAt W' bd c ac bc cc ∧ TAt W' bd k ak bk ck ∧ Hid (SetAt W' (w.heap.size) (k + 1) (fun p => pairTo ps p b)) ∧ w.heap.size < W'.heap.size ∧ Below w.heap.size w W') := fun W W' ⟨x0, x1, x2, x3, x4, x5, x6, hb⟩ h => ⟨x0.later (h.mono hb.size), x1.later bB (h.mono hb.size), x2.later bB (h.mono hb.size), x3.later bB (h.mono hb.size), x4.later bB (h.mono hb.size), Lib.hid (x5.out.later h), Nat.lt_of_lt_of_le x6 h.size, hb.trans (h.mono hb.size)⟩
    have S0 : TsAt w5 w.heap.size (some bd) ps ∧ TAt w5 bd a aa ba ca ∧ TAt w5 bd b ab bb cb ∧ TAt w5 bd c ac bc cc ∧ TAt w5 bd k ak bk ck ∧ Hid (SetAt w5 (w.heap.size) (k + 1) (fun p => pairTo ps p b)) ∧ w.heap.size < w5.heap.size ∧ Below w.heap.size w w5 := S5
    clear S5
    obtain ⟨_, ⟨_, _, _⟩, ⟨_, _, _⟩, ⟨_, _, _⟩, ⟨_, _, _⟩, _, _, _⟩ := id S0
    obtain ⟨o, ho⟩ : ∃ o, pairTo ps (cc, ck) b = o := ⟨_, rfl⟩
    have ho2 : (fun p => pairTo ps p b) (cc, ck) = o := ho
    rw [HB.out, ho] at HT HF
    clear ho
    go_wp2_with fail
    refine Settle.regionTails (fun W => TsAt W w.heap.size (some bd) ps ∧ TAt W bd a aa ba ca ∧ TAt W bd b ab bb cb ∧ TAt W bd c ac bc cc ∧ TAt W bd k ak bk ck ∧ Hid (SetAt W (w.heap.size) (k + 1) (fun p => pairTo ps p b)) ∧ w.heap.size < W.heap.size ∧ Below w.heap.size w W) 13 (by kernel_rfl) (by kernel_rfl) (of_decide_eq_true (by kernel_rfl)) (by kernel_rfl) (by kernel_rfl) (by kernel_rfl) (by kernel_rfl) (HO _ _ S0 ((Below.refl _ _).drew)) ?_
    simp only [List.take_succ_cons, List.take_zero, List.drop_succ_cons, List.drop_zero]
    clear S0
    repeat (first
      | (refine Settle.Settles.off (by rfl) ?_; simp only [Act.put, List.setIfInBounds_toArray, List.set_cons_zero, List.set_cons_succ])
      | (refine Settle.Settles.quiet (v := ?_) (by rfl) ?_ ?_
         rotate_left
         · (intro W hS; obtain ⟨_, ⟨_, _, _⟩, ⟨_, _, _⟩, ⟨_, _, _⟩, ⟨_, _, _⟩, _, _, _⟩ := hS; go_simp; with_reducible rfl)
         simp only [Act.put, List.setIfInBounds_toArray, List.set_cons_zero, List.set_cons_succ])
      | (refine Settle.Settles.call (v := ?_) (f := ?_) (args := ?_) (by rfl) ?_ ?_ ?_
         rotate_left 3
         · (intro W; go_simp; refine ⟨?_, ?_⟩ <;> with_reducible rfl)
         · (intro W hS; fail)
         simp only [Act.put, List.setIfInBounds_toArray, List.set_cons_zero, List.set_cons_succ]))
    refine Settle.Settles.nil ?_
    intro wr S0 K_ hK_
    obtain ⟨_, ⟨_, _, _⟩, ⟨_, _, _⟩, ⟨_, _, _⟩, ⟨_, _, _⟩, _, _, _⟩ := id S0
    have hset := S0.2.2.2.2.2.1
    cases o
    · have HN := Lib.hid (HF.out rfl)
      clear HT HF HB
      go_wp2_with (at_lookup; refine wpList_lookup_set _ rfl _ _ 89 rfl Try.underlying89 (w.heap.size) (k + 1) _ rfl hset.out cc ck rfl wc wk false ho2 ?_)
      first
        | exact ⟨⟨k + 1, by omega, by omega, by go_num, HN, (by rw [HK.out]; exact hset), S0.2.2.2.2.2.2.1, S0.1, S0.2.2.2.2.2.2.2⟩, by simp [intOf]; omega⟩
        | (go_roundw <;> first | exact ⟨k + 1, by omega, by omega, by go_num, HN, (by rw [HK.out]; exact hset), S0.2.2.2.2.2.2.1, S0.1, S0.2.2.2.2.2.2.2⟩ | (simp [intOf]; omega))
    · have E := Lib.hid (HT.out rfl)
      clear HT HF HB
      go_wp2_with (at_lookup; refine wpList_lookup_set _ rfl _ _ 89 rfl Try.underlying89 (w.heap.size) (k + 1) _ rfl hset.out cc ck rfl wc wk true ho2 ?_)
      go_ret
      exact ⟨ret_i64 E.out.symm, S0.2.2.2.2.2.2.2⟩

end Go.Proofs.Ytonbpmabmjhdgaa.ReplImpl

