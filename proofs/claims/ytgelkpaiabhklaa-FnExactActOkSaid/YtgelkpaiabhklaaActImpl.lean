/-
  What ActOk does, as a contract: what it answers; new memory alone is written.
-/
import Derived.Test.YtgelkpaiabhklaaActMath
import Derived.Test.YtgelkpaiabhklaaTup5
import Derived.Test.YtgelkpaiabhklaaGround
import Derived.Test.YtgelkpaiabhklaaDutyImpl
namespace Go.Proofs.Ytgelkpaiabhklaa.ActImpl
open Go.RowKit ActMath
open PointOk (ret_bool ret_i64 below1 below2 below3)

theorem isGuard (n : Int) (w : World) : Calls Try.prog 66 #[.int .i64 n] w fun e w' => e = .returned (.bool (decide (0 ≤ n ∧ n ≤ 5))) ∧ w = w' := by
  have Q := Lib.hid fun w => DutyImpl.isUpTo n 5 w
  generalize decide (0 ≤ n ∧ n ≤ 5) = r at *
  go_enter Try.func66, Try.ntmps66
  go_wp2_with fail
  refine (Q.out _).mono ?_
  rintro e w_ ⟨rfl, rfl⟩
  go_wp2_with fail
  go_ret
  exact ⟨rfl, rfl⟩

set_option maxRecDepth 100000 in
set_option maxHeartbeats 12800000 in
theorem actOk (k a b c d : Int) (w : World) :
    Calls Try.prog 14 #[.agg #[.int .i64 k, .int .i64 a, .int .i64 b, .int .i64 c, .int .i64 d]] w fun e w' => e = .returned (.bool (actB k a b c d)) ∧ Below w.heap.size w w' := by
  obtain ⟨r, hr⟩ : ∃ r, actB k a b c d = r := ⟨_, rfl⟩
  have HR := Lib.hid hr
  rw [hr]
  clear hr
  by_cases hk1 : k = 1
  · subst hk1
    have HE : Hid (r = (decide (0 ≤ a ∧ a ≤ 5) && decide (0 ≤ b ∧ b ≤ 6) && decide (c = 0) && decide (d = 0))) := Lib.hid (by rw [← HR.out, act1])
    clear HR
    by_cases zc : c = 0
    rotate_left
    · have zcb : (c == 0) = false := by simpa using zc
      rw [decide_eq_false zc] at HE
      have QO := Lib.hid fun w => DutyImpl.isUpTo a 5 w
      have QH := Lib.hid fun w => DutyImpl.isUpTo b 6 w
      have QG := Lib.hid fun w => isGuard a w
      obtain ⟨vo, ho⟩ : ∃ v, decide ((0 : Int) ≤ a ∧ a ≤ 5) = v := ⟨_, rfl⟩
      obtain ⟨vh, hh⟩ : ∃ v, decide ((0 : Int) ≤ b ∧ b ≤ 6) = v := ⟨_, rfl⟩
      rw [ho] at QO HE QG
      rw [hh] at QH HE
      clear ho hh
      cases vo
      · skip
        cases vh
        · skip
          have E : Hid (r = false) := Lib.hid (by rw [HE.out]; simp)
          clear HE
          go_enter Try.func14, Try.ntmps14
          go_wp2_with fail
          have X0 := Tup5.box1 w 1 a b c d 25 (k := w.heap.size) (by simp)
          have b0 := PointOk.below1 w (Obj.cells #[.int .i64 1, .int .i64 a, .int .i64 b, .int .i64 c, .int .i64 d] 25)
          have HO : ∀ W W' : World, (Tup5.Box W (w.heap.size) 1 a b c d ∧ Below w.heap.size w W) → Below W.heap.size W W' → (Tup5.Box W' (w.heap.size) 1 a b c d ∧ Below w.heap.size w W') := fun W W' ⟨h0, hb⟩ h => ⟨h0.later h, hb.trans (h.mono hb.size)⟩
          have hz0_ : Hid (((w.alloc (Obj.cells #[.int .i64 1, .int .i64 a, .int .i64 b, .int .i64 c, .int .i64 d] 25))).heap.size = w.heap.size + 1) := Lib.hid (by simp)
          generalize (w.alloc (Obj.cells #[.int .i64 1, .int .i64 a, .int .i64 b, .int .i64 c, .int .i64 d] 25)) = w0 at X0 b0 hz0_ ⊢
          have S0 := (⟨X0, b0⟩ : Tup5.Box w0 (w.heap.size) 1 a b c d ∧ Below w.heap.size w w0)
          clear X0 b0
          obtain ⟨⟨_, _, _, _, _⟩, _⟩ := id S0
          refine Settle.region (fun W => Tup5.Box W (w.heap.size) 1 a b c d ∧ Below w.heap.size w W) (by kernel_rfl) (by kernel_rfl) (by kernel_rfl) (by kernel_rfl) (HO _ _ S0 ((Below.refl _ _).drew)) ?_
          clear S0
          repeat (first
            | (refine Settle.Settles.off (by rfl) ?_; simp only [Act.put, List.setIfInBounds_toArray, List.set_cons_zero, List.set_cons_succ])
            | (refine Settle.Settles.quiet (v := ?_) (by rfl) ?_ ?_
               rotate_left
               · (intro W hS; obtain ⟨⟨_, _, _, _, _⟩, _⟩ := hS; go_simp; with_reducible rfl)
               simp only [Act.put, List.setIfInBounds_toArray, List.set_cons_zero, List.set_cons_succ])
            | (refine Settle.Settles.call (v := ?_) (f := ?_) (args := ?_) (by rfl) ?_ ?_ ?_
               rotate_left 3
               · (intro W; go_simp; refine ⟨?_, ?_⟩ <;> with_reducible rfl)
               · (intro W hS; first | (go_at_call 65; (with_reducible refine (QO.out _).mono ?_); rintro e W1 ⟨rfl, rfl⟩; refine ⟨?_, hS⟩; with_reducible rfl) | (go_at_call 65; (with_reducible refine (QH.out _).mono ?_); rintro e W1 ⟨rfl, rfl⟩; refine ⟨?_, hS⟩; with_reducible rfl))
               simp only [Act.put, List.setIfInBounds_toArray, List.set_cons_zero, List.set_cons_succ]))
          refine Settle.Settles.nil ?_
          intro wr S0
          obtain ⟨⟨_, _, _, _, _⟩, _⟩ := id S0
          go_wp2_with fail
          refine (QG.out _).mono ?_
          rintro e w_ ⟨rfl, rfl⟩
          go_wp2_with fail
          go_ret
          exact ⟨ret_bool E.out.symm, S0.2⟩
        · skip
          have E : Hid (r = false) := Lib.hid (by rw [HE.out]; simp)
          clear HE
          go_enter Try.func14, Try.ntmps14
          go_wp2_with fail
          have X0 := Tup5.box1 w 1 a b c d 25 (k := w.heap.size) (by simp)
          have b0 := PointOk.below1 w (Obj.cells #[.int .i64 1, .int .i64 a, .int .i64 b, .int .i64 c, .int .i64 d] 25)
          have HO : ∀ W W' : World, (Tup5.Box W (w.heap.size) 1 a b c d ∧ Below w.heap.size w W) → Below W.heap.size W W' → (Tup5.Box W' (w.heap.size) 1 a b c d ∧ Below w.heap.size w W') := fun W W' ⟨h0, hb⟩ h => ⟨h0.later h, hb.trans (h.mono hb.size)⟩
          have hz0_ : Hid (((w.alloc (Obj.cells #[.int .i64 1, .int .i64 a, .int .i64 b, .int .i64 c, .int .i64 d] 25))).heap.size = w.heap.size + 1) := Lib.hid (by simp)
          generalize (w.alloc (Obj.cells #[.int .i64 1, .int .i64 a, .int .i64 b, .int .i64 c, .int .i64 d] 25)) = w0 at X0 b0 hz0_ ⊢
          have S0 := (⟨X0, b0⟩ : Tup5.Box w0 (w.heap.size) 1 a b c d ∧ Below w.heap.size w w0)
          clear X0 b0
          obtain ⟨⟨_, _, _, _, _⟩, _⟩ := id S0
          refine Settle.region (fun W => Tup5.Box W (w.heap.size) 1 a b c d ∧ Below w.heap.size w W) (by kernel_rfl) (by kernel_rfl) (by kernel_rfl) (by kernel_rfl) (HO _ _ S0 ((Below.refl _ _).drew)) ?_
          clear S0
          repeat (first
            | (refine Settle.Settles.off (by rfl) ?_; simp only [Act.put, List.setIfInBounds_toArray, List.set_cons_zero, List.set_cons_succ])
            | (refine Settle.Settles.quiet (v := ?_) (by rfl) ?_ ?_
               rotate_left
               · (intro W hS; obtain ⟨⟨_, _, _, _, _⟩, _⟩ := hS; go_simp; with_reducible rfl)
               simp only [Act.put, List.setIfInBounds_toArray, List.set_cons_zero, List.set_cons_succ])
            | (refine Settle.Settles.call (v := ?_) (f := ?_) (args := ?_) (by rfl) ?_ ?_ ?_
               rotate_left 3
               · (intro W; go_simp; refine ⟨?_, ?_⟩ <;> with_reducible rfl)
               · (intro W hS; first | (go_at_call 65; (with_reducible refine (QO.out _).mono ?_); rintro e W1 ⟨rfl, rfl⟩; refine ⟨?_, hS⟩; with_reducible rfl) | (go_at_call 65; (with_reducible refine (QH.out _).mono ?_); rintro e W1 ⟨rfl, rfl⟩; refine ⟨?_, hS⟩; with_reducible rfl))
               simp only [Act.put, List.setIfInBounds_toArray, List.set_cons_zero, List.set_cons_succ]))
          refine Settle.Settles.nil ?_
          intro wr S0
          obtain ⟨⟨_, _, _, _, _⟩, _⟩ := id S0
          go_wp2_with fail
          refine (QG.out _).mono ?_
          rintro e w_ ⟨rfl, rfl⟩
          go_wp2_with fail
          go_ret
          exact ⟨ret_bool E.out.symm, S0.2⟩
      · skip
        cases vh
        · skip
          have E : Hid (r = false) := Lib.hid (by rw [HE.out]; simp)
          clear HE
          go_enter Try.func14, Try.ntmps14
          go_wp2_with fail
          have X0 := Tup5.box1 w 1 a b c d 25 (k := w.heap.size) (by simp)
          have b0 := PointOk.below1 w (Obj.cells #[.int .i64 1, .int .i64 a, .int .i64 b, .int .i64 c, .int .i64 d] 25)
          have HO : ∀ W W' : World, (Tup5.Box W (w.heap.size) 1 a b c d ∧ Below w.heap.size w W) → Below W.heap.size W W' → (Tup5.Box W' (w.heap.size) 1 a b c d ∧ Below w.heap.size w W') := fun W W' ⟨h0, hb⟩ h => ⟨h0.later h, hb.trans (h.mono hb.size)⟩
          have hz0_ : Hid (((w.alloc (Obj.cells #[.int .i64 1, .int .i64 a, .int .i64 b, .int .i64 c, .int .i64 d] 25))).heap.size = w.heap.size + 1) := Lib.hid (by simp)
          generalize (w.alloc (Obj.cells #[.int .i64 1, .int .i64 a, .int .i64 b, .int .i64 c, .int .i64 d] 25)) = w0 at X0 b0 hz0_ ⊢
          have S0 := (⟨X0, b0⟩ : Tup5.Box w0 (w.heap.size) 1 a b c d ∧ Below w.heap.size w w0)
          clear X0 b0
          obtain ⟨⟨_, _, _, _, _⟩, _⟩ := id S0
          refine Settle.region (fun W => Tup5.Box W (w.heap.size) 1 a b c d ∧ Below w.heap.size w W) (by kernel_rfl) (by kernel_rfl) (by kernel_rfl) (by kernel_rfl) (HO _ _ S0 ((Below.refl _ _).drew)) ?_
          clear S0
          repeat (first
            | (refine Settle.Settles.off (by rfl) ?_; simp only [Act.put, List.setIfInBounds_toArray, List.set_cons_zero, List.set_cons_succ])
            | (refine Settle.Settles.quiet (v := ?_) (by rfl) ?_ ?_
               rotate_left
               · (intro W hS; obtain ⟨⟨_, _, _, _, _⟩, _⟩ := hS; go_simp; with_reducible rfl)
               simp only [Act.put, List.setIfInBounds_toArray, List.set_cons_zero, List.set_cons_succ])
            | (refine Settle.Settles.call (v := ?_) (f := ?_) (args := ?_) (by rfl) ?_ ?_ ?_
               rotate_left 3
               · (intro W; go_simp; refine ⟨?_, ?_⟩ <;> with_reducible rfl)
               · (intro W hS; first | (go_at_call 65; (with_reducible refine (QO.out _).mono ?_); rintro e W1 ⟨rfl, rfl⟩; refine ⟨?_, hS⟩; with_reducible rfl) | (go_at_call 65; (with_reducible refine (QH.out _).mono ?_); rintro e W1 ⟨rfl, rfl⟩; refine ⟨?_, hS⟩; with_reducible rfl))
               simp only [Act.put, List.setIfInBounds_toArray, List.set_cons_zero, List.set_cons_succ]))
          refine Settle.Settles.nil ?_
          intro wr S0
          obtain ⟨⟨_, _, _, _, _⟩, _⟩ := id S0
          go_wp2_with fail
          refine (QG.out _).mono ?_
          rintro e w_ ⟨rfl, rfl⟩
          go_wp2_with fail
          go_ret
          exact ⟨ret_bool E.out.symm, S0.2⟩
        · skip
          have E : Hid (r = false) := Lib.hid (by rw [HE.out]; simp)
          clear HE
          go_enter Try.func14, Try.ntmps14
          go_wp2_with fail
          have X0 := Tup5.box1 w 1 a b c d 25 (k := w.heap.size) (by simp)
          have b0 := PointOk.below1 w (Obj.cells #[.int .i64 1, .int .i64 a, .int .i64 b, .int .i64 c, .int .i64 d] 25)
          have HO : ∀ W W' : World, (Tup5.Box W (w.heap.size) 1 a b c d ∧ Below w.heap.size w W) → Below W.heap.size W W' → (Tup5.Box W' (w.heap.size) 1 a b c d ∧ Below w.heap.size w W') := fun W W' ⟨h0, hb⟩ h => ⟨h0.later h, hb.trans (h.mono hb.size)⟩
          have hz0_ : Hid (((w.alloc (Obj.cells #[.int .i64 1, .int .i64 a, .int .i64 b, .int .i64 c, .int .i64 d] 25))).heap.size = w.heap.size + 1) := Lib.hid (by simp)
          generalize (w.alloc (Obj.cells #[.int .i64 1, .int .i64 a, .int .i64 b, .int .i64 c, .int .i64 d] 25)) = w0 at X0 b0 hz0_ ⊢
          have S0 := (⟨X0, b0⟩ : Tup5.Box w0 (w.heap.size) 1 a b c d ∧ Below w.heap.size w w0)
          clear X0 b0
          obtain ⟨⟨_, _, _, _, _⟩, _⟩ := id S0
          refine Settle.region (fun W => Tup5.Box W (w.heap.size) 1 a b c d ∧ Below w.heap.size w W) (by kernel_rfl) (by kernel_rfl) (by kernel_rfl) (by kernel_rfl) (HO _ _ S0 ((Below.refl _ _).drew)) ?_
          clear S0
          repeat (first
            | (refine Settle.Settles.off (by rfl) ?_; simp only [Act.put, List.setIfInBounds_toArray, List.set_cons_zero, List.set_cons_succ])
            | (refine Settle.Settles.quiet (v := ?_) (by rfl) ?_ ?_
               rotate_left
               · (intro W hS; obtain ⟨⟨_, _, _, _, _⟩, _⟩ := hS; go_simp; with_reducible rfl)
               simp only [Act.put, List.setIfInBounds_toArray, List.set_cons_zero, List.set_cons_succ])
            | (refine Settle.Settles.call (v := ?_) (f := ?_) (args := ?_) (by rfl) ?_ ?_ ?_
               rotate_left 3
               · (intro W; go_simp; refine ⟨?_, ?_⟩ <;> with_reducible rfl)
               · (intro W hS; first | (go_at_call 65; (with_reducible refine (QO.out _).mono ?_); rintro e W1 ⟨rfl, rfl⟩; refine ⟨?_, hS⟩; with_reducible rfl) | (go_at_call 65; (with_reducible refine (QH.out _).mono ?_); rintro e W1 ⟨rfl, rfl⟩; refine ⟨?_, hS⟩; with_reducible rfl))
               simp only [Act.put, List.setIfInBounds_toArray, List.set_cons_zero, List.set_cons_succ]))
          refine Settle.Settles.nil ?_
          intro wr S0
          obtain ⟨⟨_, _, _, _, _⟩, _⟩ := id S0
          go_wp2_with fail
          refine (QG.out _).mono ?_
          rintro e w_ ⟨rfl, rfl⟩
          go_wp2_with fail
          go_ret
          exact ⟨ret_bool E.out.symm, S0.2⟩
    subst zc
    rw [show decide ((0 : Int) = 0) = true from rfl] at HE
    by_cases zd : d = 0
    rotate_left
    · have zdb : (d == 0) = false := by simpa using zd
      rw [decide_eq_false zd] at HE
      have QO := Lib.hid fun w => DutyImpl.isUpTo a 5 w
      have QH := Lib.hid fun w => DutyImpl.isUpTo b 6 w
      have QG := Lib.hid fun w => isGuard a w
      obtain ⟨vo, ho⟩ : ∃ v, decide ((0 : Int) ≤ a ∧ a ≤ 5) = v := ⟨_, rfl⟩
      obtain ⟨vh, hh⟩ : ∃ v, decide ((0 : Int) ≤ b ∧ b ≤ 6) = v := ⟨_, rfl⟩
      rw [ho] at QO HE QG
      rw [hh] at QH HE
      clear ho hh
      cases vo
      · skip
        cases vh
        · skip
          have E : Hid (r = false) := Lib.hid (by rw [HE.out]; simp)
          clear HE
          go_enter Try.func14, Try.ntmps14
          go_wp2_with fail
          have X0 := Tup5.box1 w 1 a b 0 d 25 (k := w.heap.size) (by simp)
          have b0 := PointOk.below1 w (Obj.cells #[.int .i64 1, .int .i64 a, .int .i64 b, .int .i64 0, .int .i64 d] 25)
          have HO : ∀ W W' : World, (Tup5.Box W (w.heap.size) 1 a b 0 d ∧ Below w.heap.size w W) → Below W.heap.size W W' → (Tup5.Box W' (w.heap.size) 1 a b 0 d ∧ Below w.heap.size w W') := fun W W' ⟨h0, hb⟩ h => ⟨h0.later h, hb.trans (h.mono hb.size)⟩
          have hz0_ : Hid (((w.alloc (Obj.cells #[.int .i64 1, .int .i64 a, .int .i64 b, .int .i64 0, .int .i64 d] 25))).heap.size = w.heap.size + 1) := Lib.hid (by simp)
          generalize (w.alloc (Obj.cells #[.int .i64 1, .int .i64 a, .int .i64 b, .int .i64 0, .int .i64 d] 25)) = w0 at X0 b0 hz0_ ⊢
          have S0 := (⟨X0, b0⟩ : Tup5.Box w0 (w.heap.size) 1 a b 0 d ∧ Below w.heap.size w w0)
          clear X0 b0
          obtain ⟨⟨_, _, _, _, _⟩, _⟩ := id S0
          refine Settle.region (fun W => Tup5.Box W (w.heap.size) 1 a b 0 d ∧ Below w.heap.size w W) (by kernel_rfl) (by kernel_rfl) (by kernel_rfl) (by kernel_rfl) (HO _ _ S0 ((Below.refl _ _).drew)) ?_
          clear S0
          repeat (first
            | (refine Settle.Settles.off (by rfl) ?_; simp only [Act.put, List.setIfInBounds_toArray, List.set_cons_zero, List.set_cons_succ])
            | (refine Settle.Settles.quiet (v := ?_) (by rfl) ?_ ?_
               rotate_left
               · (intro W hS; obtain ⟨⟨_, _, _, _, _⟩, _⟩ := hS; go_simp; with_reducible rfl)
               simp only [Act.put, List.setIfInBounds_toArray, List.set_cons_zero, List.set_cons_succ])
            | (refine Settle.Settles.call (v := ?_) (f := ?_) (args := ?_) (by rfl) ?_ ?_ ?_
               rotate_left 3
               · (intro W; go_simp; refine ⟨?_, ?_⟩ <;> with_reducible rfl)
               · (intro W hS; first | (go_at_call 65; (with_reducible refine (QO.out _).mono ?_); rintro e W1 ⟨rfl, rfl⟩; refine ⟨?_, hS⟩; with_reducible rfl) | (go_at_call 65; (with_reducible refine (QH.out _).mono ?_); rintro e W1 ⟨rfl, rfl⟩; refine ⟨?_, hS⟩; with_reducible rfl))
               simp only [Act.put, List.setIfInBounds_toArray, List.set_cons_zero, List.set_cons_succ]))
          refine Settle.Settles.nil ?_
          intro wr S0
          obtain ⟨⟨_, _, _, _, _⟩, _⟩ := id S0
          go_wp2_with fail
          refine (QG.out _).mono ?_
          rintro e w_ ⟨rfl, rfl⟩
          go_wp2_with fail
          go_ret
          exact ⟨ret_bool E.out.symm, S0.2⟩
        · skip
          have E : Hid (r = false) := Lib.hid (by rw [HE.out]; simp)
          clear HE
          go_enter Try.func14, Try.ntmps14
          go_wp2_with fail
          have X0 := Tup5.box1 w 1 a b 0 d 25 (k := w.heap.size) (by simp)
          have b0 := PointOk.below1 w (Obj.cells #[.int .i64 1, .int .i64 a, .int .i64 b, .int .i64 0, .int .i64 d] 25)
          have HO : ∀ W W' : World, (Tup5.Box W (w.heap.size) 1 a b 0 d ∧ Below w.heap.size w W) → Below W.heap.size W W' → (Tup5.Box W' (w.heap.size) 1 a b 0 d ∧ Below w.heap.size w W') := fun W W' ⟨h0, hb⟩ h => ⟨h0.later h, hb.trans (h.mono hb.size)⟩
          have hz0_ : Hid (((w.alloc (Obj.cells #[.int .i64 1, .int .i64 a, .int .i64 b, .int .i64 0, .int .i64 d] 25))).heap.size = w.heap.size + 1) := Lib.hid (by simp)
          generalize (w.alloc (Obj.cells #[.int .i64 1, .int .i64 a, .int .i64 b, .int .i64 0, .int .i64 d] 25)) = w0 at X0 b0 hz0_ ⊢
          have S0 := (⟨X0, b0⟩ : Tup5.Box w0 (w.heap.size) 1 a b 0 d ∧ Below w.heap.size w w0)
          clear X0 b0
          obtain ⟨⟨_, _, _, _, _⟩, _⟩ := id S0
          refine Settle.region (fun W => Tup5.Box W (w.heap.size) 1 a b 0 d ∧ Below w.heap.size w W) (by kernel_rfl) (by kernel_rfl) (by kernel_rfl) (by kernel_rfl) (HO _ _ S0 ((Below.refl _ _).drew)) ?_
          clear S0
          repeat (first
            | (refine Settle.Settles.off (by rfl) ?_; simp only [Act.put, List.setIfInBounds_toArray, List.set_cons_zero, List.set_cons_succ])
            | (refine Settle.Settles.quiet (v := ?_) (by rfl) ?_ ?_
               rotate_left
               · (intro W hS; obtain ⟨⟨_, _, _, _, _⟩, _⟩ := hS; go_simp; with_reducible rfl)
               simp only [Act.put, List.setIfInBounds_toArray, List.set_cons_zero, List.set_cons_succ])
            | (refine Settle.Settles.call (v := ?_) (f := ?_) (args := ?_) (by rfl) ?_ ?_ ?_
               rotate_left 3
               · (intro W; go_simp; refine ⟨?_, ?_⟩ <;> with_reducible rfl)
               · (intro W hS; first | (go_at_call 65; (with_reducible refine (QO.out _).mono ?_); rintro e W1 ⟨rfl, rfl⟩; refine ⟨?_, hS⟩; with_reducible rfl) | (go_at_call 65; (with_reducible refine (QH.out _).mono ?_); rintro e W1 ⟨rfl, rfl⟩; refine ⟨?_, hS⟩; with_reducible rfl))
               simp only [Act.put, List.setIfInBounds_toArray, List.set_cons_zero, List.set_cons_succ]))
          refine Settle.Settles.nil ?_
          intro wr S0
          obtain ⟨⟨_, _, _, _, _⟩, _⟩ := id S0
          go_wp2_with fail
          refine (QG.out _).mono ?_
          rintro e w_ ⟨rfl, rfl⟩
          go_wp2_with fail
          go_ret
          exact ⟨ret_bool E.out.symm, S0.2⟩
      · skip
        cases vh
        · skip
          have E : Hid (r = false) := Lib.hid (by rw [HE.out]; simp)
          clear HE
          go_enter Try.func14, Try.ntmps14
          go_wp2_with fail
          have X0 := Tup5.box1 w 1 a b 0 d 25 (k := w.heap.size) (by simp)
          have b0 := PointOk.below1 w (Obj.cells #[.int .i64 1, .int .i64 a, .int .i64 b, .int .i64 0, .int .i64 d] 25)
          have HO : ∀ W W' : World, (Tup5.Box W (w.heap.size) 1 a b 0 d ∧ Below w.heap.size w W) → Below W.heap.size W W' → (Tup5.Box W' (w.heap.size) 1 a b 0 d ∧ Below w.heap.size w W') := fun W W' ⟨h0, hb⟩ h => ⟨h0.later h, hb.trans (h.mono hb.size)⟩
          have hz0_ : Hid (((w.alloc (Obj.cells #[.int .i64 1, .int .i64 a, .int .i64 b, .int .i64 0, .int .i64 d] 25))).heap.size = w.heap.size + 1) := Lib.hid (by simp)
          generalize (w.alloc (Obj.cells #[.int .i64 1, .int .i64 a, .int .i64 b, .int .i64 0, .int .i64 d] 25)) = w0 at X0 b0 hz0_ ⊢
          have S0 := (⟨X0, b0⟩ : Tup5.Box w0 (w.heap.size) 1 a b 0 d ∧ Below w.heap.size w w0)
          clear X0 b0
          obtain ⟨⟨_, _, _, _, _⟩, _⟩ := id S0
          refine Settle.region (fun W => Tup5.Box W (w.heap.size) 1 a b 0 d ∧ Below w.heap.size w W) (by kernel_rfl) (by kernel_rfl) (by kernel_rfl) (by kernel_rfl) (HO _ _ S0 ((Below.refl _ _).drew)) ?_
          clear S0
          repeat (first
            | (refine Settle.Settles.off (by rfl) ?_; simp only [Act.put, List.setIfInBounds_toArray, List.set_cons_zero, List.set_cons_succ])
            | (refine Settle.Settles.quiet (v := ?_) (by rfl) ?_ ?_
               rotate_left
               · (intro W hS; obtain ⟨⟨_, _, _, _, _⟩, _⟩ := hS; go_simp; with_reducible rfl)
               simp only [Act.put, List.setIfInBounds_toArray, List.set_cons_zero, List.set_cons_succ])
            | (refine Settle.Settles.call (v := ?_) (f := ?_) (args := ?_) (by rfl) ?_ ?_ ?_
               rotate_left 3
               · (intro W; go_simp; refine ⟨?_, ?_⟩ <;> with_reducible rfl)
               · (intro W hS; first | (go_at_call 65; (with_reducible refine (QO.out _).mono ?_); rintro e W1 ⟨rfl, rfl⟩; refine ⟨?_, hS⟩; with_reducible rfl) | (go_at_call 65; (with_reducible refine (QH.out _).mono ?_); rintro e W1 ⟨rfl, rfl⟩; refine ⟨?_, hS⟩; with_reducible rfl))
               simp only [Act.put, List.setIfInBounds_toArray, List.set_cons_zero, List.set_cons_succ]))
          refine Settle.Settles.nil ?_
          intro wr S0
          obtain ⟨⟨_, _, _, _, _⟩, _⟩ := id S0
          go_wp2_with fail
          refine (QG.out _).mono ?_
          rintro e w_ ⟨rfl, rfl⟩
          go_wp2_with fail
          go_ret
          exact ⟨ret_bool E.out.symm, S0.2⟩
        · skip
          have E : Hid (r = false) := Lib.hid (by rw [HE.out]; simp)
          clear HE
          go_enter Try.func14, Try.ntmps14
          go_wp2_with fail
          have X0 := Tup5.box1 w 1 a b 0 d 25 (k := w.heap.size) (by simp)
          have b0 := PointOk.below1 w (Obj.cells #[.int .i64 1, .int .i64 a, .int .i64 b, .int .i64 0, .int .i64 d] 25)
          have HO : ∀ W W' : World, (Tup5.Box W (w.heap.size) 1 a b 0 d ∧ Below w.heap.size w W) → Below W.heap.size W W' → (Tup5.Box W' (w.heap.size) 1 a b 0 d ∧ Below w.heap.size w W') := fun W W' ⟨h0, hb⟩ h => ⟨h0.later h, hb.trans (h.mono hb.size)⟩
          have hz0_ : Hid (((w.alloc (Obj.cells #[.int .i64 1, .int .i64 a, .int .i64 b, .int .i64 0, .int .i64 d] 25))).heap.size = w.heap.size + 1) := Lib.hid (by simp)
          generalize (w.alloc (Obj.cells #[.int .i64 1, .int .i64 a, .int .i64 b, .int .i64 0, .int .i64 d] 25)) = w0 at X0 b0 hz0_ ⊢
          have S0 := (⟨X0, b0⟩ : Tup5.Box w0 (w.heap.size) 1 a b 0 d ∧ Below w.heap.size w w0)
          clear X0 b0
          obtain ⟨⟨_, _, _, _, _⟩, _⟩ := id S0
          refine Settle.region (fun W => Tup5.Box W (w.heap.size) 1 a b 0 d ∧ Below w.heap.size w W) (by kernel_rfl) (by kernel_rfl) (by kernel_rfl) (by kernel_rfl) (HO _ _ S0 ((Below.refl _ _).drew)) ?_
          clear S0
          repeat (first
            | (refine Settle.Settles.off (by rfl) ?_; simp only [Act.put, List.setIfInBounds_toArray, List.set_cons_zero, List.set_cons_succ])
            | (refine Settle.Settles.quiet (v := ?_) (by rfl) ?_ ?_
               rotate_left
               · (intro W hS; obtain ⟨⟨_, _, _, _, _⟩, _⟩ := hS; go_simp; with_reducible rfl)
               simp only [Act.put, List.setIfInBounds_toArray, List.set_cons_zero, List.set_cons_succ])
            | (refine Settle.Settles.call (v := ?_) (f := ?_) (args := ?_) (by rfl) ?_ ?_ ?_
               rotate_left 3
               · (intro W; go_simp; refine ⟨?_, ?_⟩ <;> with_reducible rfl)
               · (intro W hS; first | (go_at_call 65; (with_reducible refine (QO.out _).mono ?_); rintro e W1 ⟨rfl, rfl⟩; refine ⟨?_, hS⟩; with_reducible rfl) | (go_at_call 65; (with_reducible refine (QH.out _).mono ?_); rintro e W1 ⟨rfl, rfl⟩; refine ⟨?_, hS⟩; with_reducible rfl))
               simp only [Act.put, List.setIfInBounds_toArray, List.set_cons_zero, List.set_cons_succ]))
          refine Settle.Settles.nil ?_
          intro wr S0
          obtain ⟨⟨_, _, _, _, _⟩, _⟩ := id S0
          go_wp2_with fail
          refine (QG.out _).mono ?_
          rintro e w_ ⟨rfl, rfl⟩
          go_wp2_with fail
          go_ret
          exact ⟨ret_bool E.out.symm, S0.2⟩
    subst zd
    rw [show decide ((0 : Int) = 0) = true from rfl] at HE
    have QO := Lib.hid fun w => DutyImpl.isUpTo a 5 w
    have QH := Lib.hid fun w => DutyImpl.isUpTo b 6 w
    have QG := Lib.hid fun w => isGuard a w
    obtain ⟨vo, ho⟩ : ∃ v, decide ((0 : Int) ≤ a ∧ a ≤ 5) = v := ⟨_, rfl⟩
    obtain ⟨vh, hh⟩ : ∃ v, decide ((0 : Int) ≤ b ∧ b ≤ 6) = v := ⟨_, rfl⟩
    rw [ho] at QO HE QG
    rw [hh] at QH HE
    clear ho hh
    cases vo
    · skip
      cases vh
      · skip
        have E : Hid (r = false) := Lib.hid (by rw [HE.out]; simp)
        clear HE
        go_enter Try.func14, Try.ntmps14
        go_wp2_with fail
        have X0 := Tup5.box1 w 1 a b 0 0 25 (k := w.heap.size) (by simp)
        have b0 := PointOk.below1 w (Obj.cells #[.int .i64 1, .int .i64 a, .int .i64 b, .int .i64 0, .int .i64 0] 25)
        have HO : ∀ W W' : World, (Tup5.Box W (w.heap.size) 1 a b 0 0 ∧ Below w.heap.size w W) → Below W.heap.size W W' → (Tup5.Box W' (w.heap.size) 1 a b 0 0 ∧ Below w.heap.size w W') := fun W W' ⟨h0, hb⟩ h => ⟨h0.later h, hb.trans (h.mono hb.size)⟩
        have hz0_ : Hid (((w.alloc (Obj.cells #[.int .i64 1, .int .i64 a, .int .i64 b, .int .i64 0, .int .i64 0] 25))).heap.size = w.heap.size + 1) := Lib.hid (by simp)
        generalize (w.alloc (Obj.cells #[.int .i64 1, .int .i64 a, .int .i64 b, .int .i64 0, .int .i64 0] 25)) = w0 at X0 b0 hz0_ ⊢
        have S0 := (⟨X0, b0⟩ : Tup5.Box w0 (w.heap.size) 1 a b 0 0 ∧ Below w.heap.size w w0)
        clear X0 b0
        obtain ⟨⟨_, _, _, _, _⟩, _⟩ := id S0
        refine Settle.region (fun W => Tup5.Box W (w.heap.size) 1 a b 0 0 ∧ Below w.heap.size w W) (by kernel_rfl) (by kernel_rfl) (by kernel_rfl) (by kernel_rfl) (HO _ _ S0 ((Below.refl _ _).drew)) ?_
        clear S0
        repeat (first
          | (refine Settle.Settles.off (by rfl) ?_; simp only [Act.put, List.setIfInBounds_toArray, List.set_cons_zero, List.set_cons_succ])
          | (refine Settle.Settles.quiet (v := ?_) (by rfl) ?_ ?_
             rotate_left
             · (intro W hS; obtain ⟨⟨_, _, _, _, _⟩, _⟩ := hS; go_simp; with_reducible rfl)
             simp only [Act.put, List.setIfInBounds_toArray, List.set_cons_zero, List.set_cons_succ])
          | (refine Settle.Settles.call (v := ?_) (f := ?_) (args := ?_) (by rfl) ?_ ?_ ?_
             rotate_left 3
             · (intro W; go_simp; refine ⟨?_, ?_⟩ <;> with_reducible rfl)
             · (intro W hS; first | (go_at_call 65; (with_reducible refine (QO.out _).mono ?_); rintro e W1 ⟨rfl, rfl⟩; refine ⟨?_, hS⟩; with_reducible rfl) | (go_at_call 65; (with_reducible refine (QH.out _).mono ?_); rintro e W1 ⟨rfl, rfl⟩; refine ⟨?_, hS⟩; with_reducible rfl))
             simp only [Act.put, List.setIfInBounds_toArray, List.set_cons_zero, List.set_cons_succ]))
        refine Settle.Settles.nil ?_
        intro wr S0
        obtain ⟨⟨_, _, _, _, _⟩, _⟩ := id S0
        go_wp2_with fail
        refine (QG.out _).mono ?_
        rintro e w_ ⟨rfl, rfl⟩
        go_wp2_with fail
        go_ret
        exact ⟨ret_bool E.out.symm, S0.2⟩
      · skip
        have E : Hid (r = false) := Lib.hid (by rw [HE.out]; simp)
        clear HE
        go_enter Try.func14, Try.ntmps14
        go_wp2_with fail
        have X0 := Tup5.box1 w 1 a b 0 0 25 (k := w.heap.size) (by simp)
        have b0 := PointOk.below1 w (Obj.cells #[.int .i64 1, .int .i64 a, .int .i64 b, .int .i64 0, .int .i64 0] 25)
        have HO : ∀ W W' : World, (Tup5.Box W (w.heap.size) 1 a b 0 0 ∧ Below w.heap.size w W) → Below W.heap.size W W' → (Tup5.Box W' (w.heap.size) 1 a b 0 0 ∧ Below w.heap.size w W') := fun W W' ⟨h0, hb⟩ h => ⟨h0.later h, hb.trans (h.mono hb.size)⟩
        have hz0_ : Hid (((w.alloc (Obj.cells #[.int .i64 1, .int .i64 a, .int .i64 b, .int .i64 0, .int .i64 0] 25))).heap.size = w.heap.size + 1) := Lib.hid (by simp)
        generalize (w.alloc (Obj.cells #[.int .i64 1, .int .i64 a, .int .i64 b, .int .i64 0, .int .i64 0] 25)) = w0 at X0 b0 hz0_ ⊢
        have S0 := (⟨X0, b0⟩ : Tup5.Box w0 (w.heap.size) 1 a b 0 0 ∧ Below w.heap.size w w0)
        clear X0 b0
        obtain ⟨⟨_, _, _, _, _⟩, _⟩ := id S0
        refine Settle.region (fun W => Tup5.Box W (w.heap.size) 1 a b 0 0 ∧ Below w.heap.size w W) (by kernel_rfl) (by kernel_rfl) (by kernel_rfl) (by kernel_rfl) (HO _ _ S0 ((Below.refl _ _).drew)) ?_
        clear S0
        repeat (first
          | (refine Settle.Settles.off (by rfl) ?_; simp only [Act.put, List.setIfInBounds_toArray, List.set_cons_zero, List.set_cons_succ])
          | (refine Settle.Settles.quiet (v := ?_) (by rfl) ?_ ?_
             rotate_left
             · (intro W hS; obtain ⟨⟨_, _, _, _, _⟩, _⟩ := hS; go_simp; with_reducible rfl)
             simp only [Act.put, List.setIfInBounds_toArray, List.set_cons_zero, List.set_cons_succ])
          | (refine Settle.Settles.call (v := ?_) (f := ?_) (args := ?_) (by rfl) ?_ ?_ ?_
             rotate_left 3
             · (intro W; go_simp; refine ⟨?_, ?_⟩ <;> with_reducible rfl)
             · (intro W hS; first | (go_at_call 65; (with_reducible refine (QO.out _).mono ?_); rintro e W1 ⟨rfl, rfl⟩; refine ⟨?_, hS⟩; with_reducible rfl) | (go_at_call 65; (with_reducible refine (QH.out _).mono ?_); rintro e W1 ⟨rfl, rfl⟩; refine ⟨?_, hS⟩; with_reducible rfl))
             simp only [Act.put, List.setIfInBounds_toArray, List.set_cons_zero, List.set_cons_succ]))
        refine Settle.Settles.nil ?_
        intro wr S0
        obtain ⟨⟨_, _, _, _, _⟩, _⟩ := id S0
        go_wp2_with fail
        refine (QG.out _).mono ?_
        rintro e w_ ⟨rfl, rfl⟩
        go_wp2_with fail
        go_ret
        exact ⟨ret_bool E.out.symm, S0.2⟩
    · skip
      cases vh
      · skip
        have E : Hid (r = false) := Lib.hid (by rw [HE.out]; simp)
        clear HE
        go_enter Try.func14, Try.ntmps14
        go_wp2_with fail
        have X0 := Tup5.box1 w 1 a b 0 0 25 (k := w.heap.size) (by simp)
        have b0 := PointOk.below1 w (Obj.cells #[.int .i64 1, .int .i64 a, .int .i64 b, .int .i64 0, .int .i64 0] 25)
        have HO : ∀ W W' : World, (Tup5.Box W (w.heap.size) 1 a b 0 0 ∧ Below w.heap.size w W) → Below W.heap.size W W' → (Tup5.Box W' (w.heap.size) 1 a b 0 0 ∧ Below w.heap.size w W') := fun W W' ⟨h0, hb⟩ h => ⟨h0.later h, hb.trans (h.mono hb.size)⟩
        have hz0_ : Hid (((w.alloc (Obj.cells #[.int .i64 1, .int .i64 a, .int .i64 b, .int .i64 0, .int .i64 0] 25))).heap.size = w.heap.size + 1) := Lib.hid (by simp)
        generalize (w.alloc (Obj.cells #[.int .i64 1, .int .i64 a, .int .i64 b, .int .i64 0, .int .i64 0] 25)) = w0 at X0 b0 hz0_ ⊢
        have S0 := (⟨X0, b0⟩ : Tup5.Box w0 (w.heap.size) 1 a b 0 0 ∧ Below w.heap.size w w0)
        clear X0 b0
        obtain ⟨⟨_, _, _, _, _⟩, _⟩ := id S0
        refine Settle.region (fun W => Tup5.Box W (w.heap.size) 1 a b 0 0 ∧ Below w.heap.size w W) (by kernel_rfl) (by kernel_rfl) (by kernel_rfl) (by kernel_rfl) (HO _ _ S0 ((Below.refl _ _).drew)) ?_
        clear S0
        repeat (first
          | (refine Settle.Settles.off (by rfl) ?_; simp only [Act.put, List.setIfInBounds_toArray, List.set_cons_zero, List.set_cons_succ])
          | (refine Settle.Settles.quiet (v := ?_) (by rfl) ?_ ?_
             rotate_left
             · (intro W hS; obtain ⟨⟨_, _, _, _, _⟩, _⟩ := hS; go_simp; with_reducible rfl)
             simp only [Act.put, List.setIfInBounds_toArray, List.set_cons_zero, List.set_cons_succ])
          | (refine Settle.Settles.call (v := ?_) (f := ?_) (args := ?_) (by rfl) ?_ ?_ ?_
             rotate_left 3
             · (intro W; go_simp; refine ⟨?_, ?_⟩ <;> with_reducible rfl)
             · (intro W hS; first | (go_at_call 65; (with_reducible refine (QO.out _).mono ?_); rintro e W1 ⟨rfl, rfl⟩; refine ⟨?_, hS⟩; with_reducible rfl) | (go_at_call 65; (with_reducible refine (QH.out _).mono ?_); rintro e W1 ⟨rfl, rfl⟩; refine ⟨?_, hS⟩; with_reducible rfl))
             simp only [Act.put, List.setIfInBounds_toArray, List.set_cons_zero, List.set_cons_succ]))
        refine Settle.Settles.nil ?_
        intro wr S0
        obtain ⟨⟨_, _, _, _, _⟩, _⟩ := id S0
        go_wp2_with fail
        refine (QG.out _).mono ?_
        rintro e w_ ⟨rfl, rfl⟩
        go_wp2_with fail
        go_ret
        exact ⟨ret_bool E.out.symm, S0.2⟩
      · skip
        have E : Hid (r = true) := Lib.hid (by rw [HE.out]; simp)
        clear HE
        go_enter Try.func14, Try.ntmps14
        go_wp2_with fail
        have X0 := Tup5.box1 w 1 a b 0 0 25 (k := w.heap.size) (by simp)
        have b0 := PointOk.below1 w (Obj.cells #[.int .i64 1, .int .i64 a, .int .i64 b, .int .i64 0, .int .i64 0] 25)
        have HO : ∀ W W' : World, (Tup5.Box W (w.heap.size) 1 a b 0 0 ∧ Below w.heap.size w W) → Below W.heap.size W W' → (Tup5.Box W' (w.heap.size) 1 a b 0 0 ∧ Below w.heap.size w W') := fun W W' ⟨h0, hb⟩ h => ⟨h0.later h, hb.trans (h.mono hb.size)⟩
        have hz0_ : Hid (((w.alloc (Obj.cells #[.int .i64 1, .int .i64 a, .int .i64 b, .int .i64 0, .int .i64 0] 25))).heap.size = w.heap.size + 1) := Lib.hid (by simp)
        generalize (w.alloc (Obj.cells #[.int .i64 1, .int .i64 a, .int .i64 b, .int .i64 0, .int .i64 0] 25)) = w0 at X0 b0 hz0_ ⊢
        have S0 := (⟨X0, b0⟩ : Tup5.Box w0 (w.heap.size) 1 a b 0 0 ∧ Below w.heap.size w w0)
        clear X0 b0
        obtain ⟨⟨_, _, _, _, _⟩, _⟩ := id S0
        refine Settle.region (fun W => Tup5.Box W (w.heap.size) 1 a b 0 0 ∧ Below w.heap.size w W) (by kernel_rfl) (by kernel_rfl) (by kernel_rfl) (by kernel_rfl) (HO _ _ S0 ((Below.refl _ _).drew)) ?_
        clear S0
        repeat (first
          | (refine Settle.Settles.off (by rfl) ?_; simp only [Act.put, List.setIfInBounds_toArray, List.set_cons_zero, List.set_cons_succ])
          | (refine Settle.Settles.quiet (v := ?_) (by rfl) ?_ ?_
             rotate_left
             · (intro W hS; obtain ⟨⟨_, _, _, _, _⟩, _⟩ := hS; go_simp; with_reducible rfl)
             simp only [Act.put, List.setIfInBounds_toArray, List.set_cons_zero, List.set_cons_succ])
          | (refine Settle.Settles.call (v := ?_) (f := ?_) (args := ?_) (by rfl) ?_ ?_ ?_
             rotate_left 3
             · (intro W; go_simp; refine ⟨?_, ?_⟩ <;> with_reducible rfl)
             · (intro W hS; first | (go_at_call 65; (with_reducible refine (QO.out _).mono ?_); rintro e W1 ⟨rfl, rfl⟩; refine ⟨?_, hS⟩; with_reducible rfl) | (go_at_call 65; (with_reducible refine (QH.out _).mono ?_); rintro e W1 ⟨rfl, rfl⟩; refine ⟨?_, hS⟩; with_reducible rfl))
             simp only [Act.put, List.setIfInBounds_toArray, List.set_cons_zero, List.set_cons_succ]))
        refine Settle.Settles.nil ?_
        intro wr S0
        obtain ⟨⟨_, _, _, _, _⟩, _⟩ := id S0
        go_wp2_with fail
        refine (QG.out _).mono ?_
        rintro e w_ ⟨rfl, rfl⟩
        go_wp2_with fail
        go_ret
        exact ⟨ret_bool E.out.symm, S0.2⟩
  by_cases hk2 : k = 2
  · subst hk2
    have HE : Hid (r = (decide (0 ≤ a ∧ a ≤ 5) && decide (0 ≤ b ∧ b ≤ 6) && decide (0 ≤ c ∧ c ≤ 5) && decide (0 ≤ d ∧ d ≤ 5))) := Lib.hid (by rw [← HR.out, act2])
    clear HR
    have QO := Lib.hid fun w => DutyImpl.isUpTo a 5 w
    have QH := Lib.hid fun w => DutyImpl.isUpTo b 6 w
    have QC := Lib.hid fun w => isGuard c w
    have QD := Lib.hid fun w => isGuard d w
    obtain ⟨vo, ho⟩ : ∃ v, decide ((0 : Int) ≤ a ∧ a ≤ 5) = v := ⟨_, rfl⟩
    obtain ⟨vh, hh⟩ : ∃ v, decide ((0 : Int) ≤ b ∧ b ≤ 6) = v := ⟨_, rfl⟩
    rw [ho] at QO HE
    rw [hh] at QH HE
    obtain ⟨vc, hc⟩ : ∃ v, decide ((0 : Int) ≤ c ∧ c ≤ 5) = v := ⟨_, rfl⟩
    obtain ⟨vd, hd⟩ : ∃ v, decide ((0 : Int) ≤ d ∧ d ≤ 5) = v := ⟨_, rfl⟩
    rw [hc] at QC HE
    rw [hd] at QD HE
    clear hc hd
    clear ho hh
    cases vo
    · skip
      cases vh
      · skip
        cases vc
        · skip
          cases vd
          · skip
            have E : Hid (r = false) := Lib.hid (by rw [HE.out]; simp)
            clear HE
            go_enter Try.func14, Try.ntmps14
            go_wp2_with fail
            have X0 := Tup5.box1 w 2 a b c d 25 (k := w.heap.size) (by simp)
            have b0 := PointOk.below1 w (Obj.cells #[.int .i64 2, .int .i64 a, .int .i64 b, .int .i64 c, .int .i64 d] 25)
            have HO : ∀ W W' : World, (Tup5.Box W (w.heap.size) 2 a b c d ∧ Below w.heap.size w W) → Below W.heap.size W W' → (Tup5.Box W' (w.heap.size) 2 a b c d ∧ Below w.heap.size w W') := fun W W' ⟨h0, hb⟩ h => ⟨h0.later h, hb.trans (h.mono hb.size)⟩
            have hz0_ : Hid (((w.alloc (Obj.cells #[.int .i64 2, .int .i64 a, .int .i64 b, .int .i64 c, .int .i64 d] 25))).heap.size = w.heap.size + 1) := Lib.hid (by simp)
            generalize (w.alloc (Obj.cells #[.int .i64 2, .int .i64 a, .int .i64 b, .int .i64 c, .int .i64 d] 25)) = w0 at X0 b0 hz0_ ⊢
            have S0 := (⟨X0, b0⟩ : Tup5.Box w0 (w.heap.size) 2 a b c d ∧ Below w.heap.size w w0)
            clear X0 b0
            obtain ⟨⟨_, _, _, _, _⟩, _⟩ := id S0
            refine Settle.region (fun W => Tup5.Box W (w.heap.size) 2 a b c d ∧ Below w.heap.size w W) (by kernel_rfl) (by kernel_rfl) (by kernel_rfl) (by kernel_rfl) (HO _ _ S0 ((Below.refl _ _).drew)) ?_
            clear S0
            repeat (first
              | (refine Settle.Settles.off (by rfl) ?_; simp only [Act.put, List.setIfInBounds_toArray, List.set_cons_zero, List.set_cons_succ])
              | (refine Settle.Settles.quiet (v := ?_) (by rfl) ?_ ?_
                 rotate_left
                 · (intro W hS; obtain ⟨⟨_, _, _, _, _⟩, _⟩ := hS; go_simp; with_reducible rfl)
                 simp only [Act.put, List.setIfInBounds_toArray, List.set_cons_zero, List.set_cons_succ])
              | (refine Settle.Settles.call (v := ?_) (f := ?_) (args := ?_) (by rfl) ?_ ?_ ?_
                 rotate_left 3
                 · (intro W; go_simp; refine ⟨?_, ?_⟩ <;> with_reducible rfl)
                 · (intro W hS; first | (go_at_call 65; (with_reducible refine (QO.out _).mono ?_); rintro e W1 ⟨rfl, rfl⟩; refine ⟨?_, hS⟩; with_reducible rfl) | (go_at_call 65; (with_reducible refine (QH.out _).mono ?_); rintro e W1 ⟨rfl, rfl⟩; refine ⟨?_, hS⟩; with_reducible rfl))
                 simp only [Act.put, List.setIfInBounds_toArray, List.set_cons_zero, List.set_cons_succ]))
            refine Settle.Settles.nil ?_
            intro wr S0
            obtain ⟨⟨_, _, _, _, _⟩, _⟩ := id S0
            go_wp2_with fail
            go_ret
            exact ⟨ret_bool E.out.symm, S0.2⟩
          · skip
            have E : Hid (r = false) := Lib.hid (by rw [HE.out]; simp)
            clear HE
            go_enter Try.func14, Try.ntmps14
            go_wp2_with fail
            have X0 := Tup5.box1 w 2 a b c d 25 (k := w.heap.size) (by simp)
            have b0 := PointOk.below1 w (Obj.cells #[.int .i64 2, .int .i64 a, .int .i64 b, .int .i64 c, .int .i64 d] 25)
            have HO : ∀ W W' : World, (Tup5.Box W (w.heap.size) 2 a b c d ∧ Below w.heap.size w W) → Below W.heap.size W W' → (Tup5.Box W' (w.heap.size) 2 a b c d ∧ Below w.heap.size w W') := fun W W' ⟨h0, hb⟩ h => ⟨h0.later h, hb.trans (h.mono hb.size)⟩
            have hz0_ : Hid (((w.alloc (Obj.cells #[.int .i64 2, .int .i64 a, .int .i64 b, .int .i64 c, .int .i64 d] 25))).heap.size = w.heap.size + 1) := Lib.hid (by simp)
            generalize (w.alloc (Obj.cells #[.int .i64 2, .int .i64 a, .int .i64 b, .int .i64 c, .int .i64 d] 25)) = w0 at X0 b0 hz0_ ⊢
            have S0 := (⟨X0, b0⟩ : Tup5.Box w0 (w.heap.size) 2 a b c d ∧ Below w.heap.size w w0)
            clear X0 b0
            obtain ⟨⟨_, _, _, _, _⟩, _⟩ := id S0
            refine Settle.region (fun W => Tup5.Box W (w.heap.size) 2 a b c d ∧ Below w.heap.size w W) (by kernel_rfl) (by kernel_rfl) (by kernel_rfl) (by kernel_rfl) (HO _ _ S0 ((Below.refl _ _).drew)) ?_
            clear S0
            repeat (first
              | (refine Settle.Settles.off (by rfl) ?_; simp only [Act.put, List.setIfInBounds_toArray, List.set_cons_zero, List.set_cons_succ])
              | (refine Settle.Settles.quiet (v := ?_) (by rfl) ?_ ?_
                 rotate_left
                 · (intro W hS; obtain ⟨⟨_, _, _, _, _⟩, _⟩ := hS; go_simp; with_reducible rfl)
                 simp only [Act.put, List.setIfInBounds_toArray, List.set_cons_zero, List.set_cons_succ])
              | (refine Settle.Settles.call (v := ?_) (f := ?_) (args := ?_) (by rfl) ?_ ?_ ?_
                 rotate_left 3
                 · (intro W; go_simp; refine ⟨?_, ?_⟩ <;> with_reducible rfl)
                 · (intro W hS; first | (go_at_call 65; (with_reducible refine (QO.out _).mono ?_); rintro e W1 ⟨rfl, rfl⟩; refine ⟨?_, hS⟩; with_reducible rfl) | (go_at_call 65; (with_reducible refine (QH.out _).mono ?_); rintro e W1 ⟨rfl, rfl⟩; refine ⟨?_, hS⟩; with_reducible rfl))
                 simp only [Act.put, List.setIfInBounds_toArray, List.set_cons_zero, List.set_cons_succ]))
            refine Settle.Settles.nil ?_
            intro wr S0
            obtain ⟨⟨_, _, _, _, _⟩, _⟩ := id S0
            go_wp2_with fail
            go_ret
            exact ⟨ret_bool E.out.symm, S0.2⟩
        · skip
          cases vd
          · skip
            have E : Hid (r = false) := Lib.hid (by rw [HE.out]; simp)
            clear HE
            go_enter Try.func14, Try.ntmps14
            go_wp2_with fail
            have X0 := Tup5.box1 w 2 a b c d 25 (k := w.heap.size) (by simp)
            have b0 := PointOk.below1 w (Obj.cells #[.int .i64 2, .int .i64 a, .int .i64 b, .int .i64 c, .int .i64 d] 25)
            have HO : ∀ W W' : World, (Tup5.Box W (w.heap.size) 2 a b c d ∧ Below w.heap.size w W) → Below W.heap.size W W' → (Tup5.Box W' (w.heap.size) 2 a b c d ∧ Below w.heap.size w W') := fun W W' ⟨h0, hb⟩ h => ⟨h0.later h, hb.trans (h.mono hb.size)⟩
            have hz0_ : Hid (((w.alloc (Obj.cells #[.int .i64 2, .int .i64 a, .int .i64 b, .int .i64 c, .int .i64 d] 25))).heap.size = w.heap.size + 1) := Lib.hid (by simp)
            generalize (w.alloc (Obj.cells #[.int .i64 2, .int .i64 a, .int .i64 b, .int .i64 c, .int .i64 d] 25)) = w0 at X0 b0 hz0_ ⊢
            have S0 := (⟨X0, b0⟩ : Tup5.Box w0 (w.heap.size) 2 a b c d ∧ Below w.heap.size w w0)
            clear X0 b0
            obtain ⟨⟨_, _, _, _, _⟩, _⟩ := id S0
            refine Settle.region (fun W => Tup5.Box W (w.heap.size) 2 a b c d ∧ Below w.heap.size w W) (by kernel_rfl) (by kernel_rfl) (by kernel_rfl) (by kernel_rfl) (HO _ _ S0 ((Below.refl _ _).drew)) ?_
            clear S0
            repeat (first
              | (refine Settle.Settles.off (by rfl) ?_; simp only [Act.put, List.setIfInBounds_toArray, List.set_cons_zero, List.set_cons_succ])
              | (refine Settle.Settles.quiet (v := ?_) (by rfl) ?_ ?_
                 rotate_left
                 · (intro W hS; obtain ⟨⟨_, _, _, _, _⟩, _⟩ := hS; go_simp; with_reducible rfl)
                 simp only [Act.put, List.setIfInBounds_toArray, List.set_cons_zero, List.set_cons_succ])
              | (refine Settle.Settles.call (v := ?_) (f := ?_) (args := ?_) (by rfl) ?_ ?_ ?_
                 rotate_left 3
                 · (intro W; go_simp; refine ⟨?_, ?_⟩ <;> with_reducible rfl)
                 · (intro W hS; first | (go_at_call 65; (with_reducible refine (QO.out _).mono ?_); rintro e W1 ⟨rfl, rfl⟩; refine ⟨?_, hS⟩; with_reducible rfl) | (go_at_call 65; (with_reducible refine (QH.out _).mono ?_); rintro e W1 ⟨rfl, rfl⟩; refine ⟨?_, hS⟩; with_reducible rfl))
                 simp only [Act.put, List.setIfInBounds_toArray, List.set_cons_zero, List.set_cons_succ]))
            refine Settle.Settles.nil ?_
            intro wr S0
            obtain ⟨⟨_, _, _, _, _⟩, _⟩ := id S0
            go_wp2_with fail
            go_ret
            exact ⟨ret_bool E.out.symm, S0.2⟩
          · skip
            have E : Hid (r = false) := Lib.hid (by rw [HE.out]; simp)
            clear HE
            go_enter Try.func14, Try.ntmps14
            go_wp2_with fail
            have X0 := Tup5.box1 w 2 a b c d 25 (k := w.heap.size) (by simp)
            have b0 := PointOk.below1 w (Obj.cells #[.int .i64 2, .int .i64 a, .int .i64 b, .int .i64 c, .int .i64 d] 25)
            have HO : ∀ W W' : World, (Tup5.Box W (w.heap.size) 2 a b c d ∧ Below w.heap.size w W) → Below W.heap.size W W' → (Tup5.Box W' (w.heap.size) 2 a b c d ∧ Below w.heap.size w W') := fun W W' ⟨h0, hb⟩ h => ⟨h0.later h, hb.trans (h.mono hb.size)⟩
            have hz0_ : Hid (((w.alloc (Obj.cells #[.int .i64 2, .int .i64 a, .int .i64 b, .int .i64 c, .int .i64 d] 25))).heap.size = w.heap.size + 1) := Lib.hid (by simp)
            generalize (w.alloc (Obj.cells #[.int .i64 2, .int .i64 a, .int .i64 b, .int .i64 c, .int .i64 d] 25)) = w0 at X0 b0 hz0_ ⊢
            have S0 := (⟨X0, b0⟩ : Tup5.Box w0 (w.heap.size) 2 a b c d ∧ Below w.heap.size w w0)
            clear X0 b0
            obtain ⟨⟨_, _, _, _, _⟩, _⟩ := id S0
            refine Settle.region (fun W => Tup5.Box W (w.heap.size) 2 a b c d ∧ Below w.heap.size w W) (by kernel_rfl) (by kernel_rfl) (by kernel_rfl) (by kernel_rfl) (HO _ _ S0 ((Below.refl _ _).drew)) ?_
            clear S0
            repeat (first
              | (refine Settle.Settles.off (by rfl) ?_; simp only [Act.put, List.setIfInBounds_toArray, List.set_cons_zero, List.set_cons_succ])
              | (refine Settle.Settles.quiet (v := ?_) (by rfl) ?_ ?_
                 rotate_left
                 · (intro W hS; obtain ⟨⟨_, _, _, _, _⟩, _⟩ := hS; go_simp; with_reducible rfl)
                 simp only [Act.put, List.setIfInBounds_toArray, List.set_cons_zero, List.set_cons_succ])
              | (refine Settle.Settles.call (v := ?_) (f := ?_) (args := ?_) (by rfl) ?_ ?_ ?_
                 rotate_left 3
                 · (intro W; go_simp; refine ⟨?_, ?_⟩ <;> with_reducible rfl)
                 · (intro W hS; first | (go_at_call 65; (with_reducible refine (QO.out _).mono ?_); rintro e W1 ⟨rfl, rfl⟩; refine ⟨?_, hS⟩; with_reducible rfl) | (go_at_call 65; (with_reducible refine (QH.out _).mono ?_); rintro e W1 ⟨rfl, rfl⟩; refine ⟨?_, hS⟩; with_reducible rfl))
                 simp only [Act.put, List.setIfInBounds_toArray, List.set_cons_zero, List.set_cons_succ]))
            refine Settle.Settles.nil ?_
            intro wr S0
            obtain ⟨⟨_, _, _, _, _⟩, _⟩ := id S0
            go_wp2_with fail
            go_ret
            exact ⟨ret_bool E.out.symm, S0.2⟩
      · skip
        cases vc
        · skip
          cases vd
          · skip
            have E : Hid (r = false) := Lib.hid (by rw [HE.out]; simp)
            clear HE
            go_enter Try.func14, Try.ntmps14
            go_wp2_with fail
            have X0 := Tup5.box1 w 2 a b c d 25 (k := w.heap.size) (by simp)
            have b0 := PointOk.below1 w (Obj.cells #[.int .i64 2, .int .i64 a, .int .i64 b, .int .i64 c, .int .i64 d] 25)
            have HO : ∀ W W' : World, (Tup5.Box W (w.heap.size) 2 a b c d ∧ Below w.heap.size w W) → Below W.heap.size W W' → (Tup5.Box W' (w.heap.size) 2 a b c d ∧ Below w.heap.size w W') := fun W W' ⟨h0, hb⟩ h => ⟨h0.later h, hb.trans (h.mono hb.size)⟩
            have hz0_ : Hid (((w.alloc (Obj.cells #[.int .i64 2, .int .i64 a, .int .i64 b, .int .i64 c, .int .i64 d] 25))).heap.size = w.heap.size + 1) := Lib.hid (by simp)
            generalize (w.alloc (Obj.cells #[.int .i64 2, .int .i64 a, .int .i64 b, .int .i64 c, .int .i64 d] 25)) = w0 at X0 b0 hz0_ ⊢
            have S0 := (⟨X0, b0⟩ : Tup5.Box w0 (w.heap.size) 2 a b c d ∧ Below w.heap.size w w0)
            clear X0 b0
            obtain ⟨⟨_, _, _, _, _⟩, _⟩ := id S0
            refine Settle.region (fun W => Tup5.Box W (w.heap.size) 2 a b c d ∧ Below w.heap.size w W) (by kernel_rfl) (by kernel_rfl) (by kernel_rfl) (by kernel_rfl) (HO _ _ S0 ((Below.refl _ _).drew)) ?_
            clear S0
            repeat (first
              | (refine Settle.Settles.off (by rfl) ?_; simp only [Act.put, List.setIfInBounds_toArray, List.set_cons_zero, List.set_cons_succ])
              | (refine Settle.Settles.quiet (v := ?_) (by rfl) ?_ ?_
                 rotate_left
                 · (intro W hS; obtain ⟨⟨_, _, _, _, _⟩, _⟩ := hS; go_simp; with_reducible rfl)
                 simp only [Act.put, List.setIfInBounds_toArray, List.set_cons_zero, List.set_cons_succ])
              | (refine Settle.Settles.call (v := ?_) (f := ?_) (args := ?_) (by rfl) ?_ ?_ ?_
                 rotate_left 3
                 · (intro W; go_simp; refine ⟨?_, ?_⟩ <;> with_reducible rfl)
                 · (intro W hS; first | (go_at_call 65; (with_reducible refine (QO.out _).mono ?_); rintro e W1 ⟨rfl, rfl⟩; refine ⟨?_, hS⟩; with_reducible rfl) | (go_at_call 65; (with_reducible refine (QH.out _).mono ?_); rintro e W1 ⟨rfl, rfl⟩; refine ⟨?_, hS⟩; with_reducible rfl))
                 simp only [Act.put, List.setIfInBounds_toArray, List.set_cons_zero, List.set_cons_succ]))
            refine Settle.Settles.nil ?_
            intro wr S0
            obtain ⟨⟨_, _, _, _, _⟩, _⟩ := id S0
            go_wp2_with fail
            go_ret
            exact ⟨ret_bool E.out.symm, S0.2⟩
          · skip
            have E : Hid (r = false) := Lib.hid (by rw [HE.out]; simp)
            clear HE
            go_enter Try.func14, Try.ntmps14
            go_wp2_with fail
            have X0 := Tup5.box1 w 2 a b c d 25 (k := w.heap.size) (by simp)
            have b0 := PointOk.below1 w (Obj.cells #[.int .i64 2, .int .i64 a, .int .i64 b, .int .i64 c, .int .i64 d] 25)
            have HO : ∀ W W' : World, (Tup5.Box W (w.heap.size) 2 a b c d ∧ Below w.heap.size w W) → Below W.heap.size W W' → (Tup5.Box W' (w.heap.size) 2 a b c d ∧ Below w.heap.size w W') := fun W W' ⟨h0, hb⟩ h => ⟨h0.later h, hb.trans (h.mono hb.size)⟩
            have hz0_ : Hid (((w.alloc (Obj.cells #[.int .i64 2, .int .i64 a, .int .i64 b, .int .i64 c, .int .i64 d] 25))).heap.size = w.heap.size + 1) := Lib.hid (by simp)
            generalize (w.alloc (Obj.cells #[.int .i64 2, .int .i64 a, .int .i64 b, .int .i64 c, .int .i64 d] 25)) = w0 at X0 b0 hz0_ ⊢
            have S0 := (⟨X0, b0⟩ : Tup5.Box w0 (w.heap.size) 2 a b c d ∧ Below w.heap.size w w0)
            clear X0 b0
            obtain ⟨⟨_, _, _, _, _⟩, _⟩ := id S0
            refine Settle.region (fun W => Tup5.Box W (w.heap.size) 2 a b c d ∧ Below w.heap.size w W) (by kernel_rfl) (by kernel_rfl) (by kernel_rfl) (by kernel_rfl) (HO _ _ S0 ((Below.refl _ _).drew)) ?_
            clear S0
            repeat (first
              | (refine Settle.Settles.off (by rfl) ?_; simp only [Act.put, List.setIfInBounds_toArray, List.set_cons_zero, List.set_cons_succ])
              | (refine Settle.Settles.quiet (v := ?_) (by rfl) ?_ ?_
                 rotate_left
                 · (intro W hS; obtain ⟨⟨_, _, _, _, _⟩, _⟩ := hS; go_simp; with_reducible rfl)
                 simp only [Act.put, List.setIfInBounds_toArray, List.set_cons_zero, List.set_cons_succ])
              | (refine Settle.Settles.call (v := ?_) (f := ?_) (args := ?_) (by rfl) ?_ ?_ ?_
                 rotate_left 3
                 · (intro W; go_simp; refine ⟨?_, ?_⟩ <;> with_reducible rfl)
                 · (intro W hS; first | (go_at_call 65; (with_reducible refine (QO.out _).mono ?_); rintro e W1 ⟨rfl, rfl⟩; refine ⟨?_, hS⟩; with_reducible rfl) | (go_at_call 65; (with_reducible refine (QH.out _).mono ?_); rintro e W1 ⟨rfl, rfl⟩; refine ⟨?_, hS⟩; with_reducible rfl))
                 simp only [Act.put, List.setIfInBounds_toArray, List.set_cons_zero, List.set_cons_succ]))
            refine Settle.Settles.nil ?_
            intro wr S0
            obtain ⟨⟨_, _, _, _, _⟩, _⟩ := id S0
            go_wp2_with fail
            go_ret
            exact ⟨ret_bool E.out.symm, S0.2⟩
        · skip
          cases vd
          · skip
            have E : Hid (r = false) := Lib.hid (by rw [HE.out]; simp)
            clear HE
            go_enter Try.func14, Try.ntmps14
            go_wp2_with fail
            have X0 := Tup5.box1 w 2 a b c d 25 (k := w.heap.size) (by simp)
            have b0 := PointOk.below1 w (Obj.cells #[.int .i64 2, .int .i64 a, .int .i64 b, .int .i64 c, .int .i64 d] 25)
            have HO : ∀ W W' : World, (Tup5.Box W (w.heap.size) 2 a b c d ∧ Below w.heap.size w W) → Below W.heap.size W W' → (Tup5.Box W' (w.heap.size) 2 a b c d ∧ Below w.heap.size w W') := fun W W' ⟨h0, hb⟩ h => ⟨h0.later h, hb.trans (h.mono hb.size)⟩
            have hz0_ : Hid (((w.alloc (Obj.cells #[.int .i64 2, .int .i64 a, .int .i64 b, .int .i64 c, .int .i64 d] 25))).heap.size = w.heap.size + 1) := Lib.hid (by simp)
            generalize (w.alloc (Obj.cells #[.int .i64 2, .int .i64 a, .int .i64 b, .int .i64 c, .int .i64 d] 25)) = w0 at X0 b0 hz0_ ⊢
            have S0 := (⟨X0, b0⟩ : Tup5.Box w0 (w.heap.size) 2 a b c d ∧ Below w.heap.size w w0)
            clear X0 b0
            obtain ⟨⟨_, _, _, _, _⟩, _⟩ := id S0
            refine Settle.region (fun W => Tup5.Box W (w.heap.size) 2 a b c d ∧ Below w.heap.size w W) (by kernel_rfl) (by kernel_rfl) (by kernel_rfl) (by kernel_rfl) (HO _ _ S0 ((Below.refl _ _).drew)) ?_
            clear S0
            repeat (first
              | (refine Settle.Settles.off (by rfl) ?_; simp only [Act.put, List.setIfInBounds_toArray, List.set_cons_zero, List.set_cons_succ])
              | (refine Settle.Settles.quiet (v := ?_) (by rfl) ?_ ?_
                 rotate_left
                 · (intro W hS; obtain ⟨⟨_, _, _, _, _⟩, _⟩ := hS; go_simp; with_reducible rfl)
                 simp only [Act.put, List.setIfInBounds_toArray, List.set_cons_zero, List.set_cons_succ])
              | (refine Settle.Settles.call (v := ?_) (f := ?_) (args := ?_) (by rfl) ?_ ?_ ?_
                 rotate_left 3
                 · (intro W; go_simp; refine ⟨?_, ?_⟩ <;> with_reducible rfl)
                 · (intro W hS; first | (go_at_call 65; (with_reducible refine (QO.out _).mono ?_); rintro e W1 ⟨rfl, rfl⟩; refine ⟨?_, hS⟩; with_reducible rfl) | (go_at_call 65; (with_reducible refine (QH.out _).mono ?_); rintro e W1 ⟨rfl, rfl⟩; refine ⟨?_, hS⟩; with_reducible rfl))
                 simp only [Act.put, List.setIfInBounds_toArray, List.set_cons_zero, List.set_cons_succ]))
            refine Settle.Settles.nil ?_
            intro wr S0
            obtain ⟨⟨_, _, _, _, _⟩, _⟩ := id S0
            go_wp2_with fail
            go_ret
            exact ⟨ret_bool E.out.symm, S0.2⟩
          · skip
            have E : Hid (r = false) := Lib.hid (by rw [HE.out]; simp)
            clear HE
            go_enter Try.func14, Try.ntmps14
            go_wp2_with fail
            have X0 := Tup5.box1 w 2 a b c d 25 (k := w.heap.size) (by simp)
            have b0 := PointOk.below1 w (Obj.cells #[.int .i64 2, .int .i64 a, .int .i64 b, .int .i64 c, .int .i64 d] 25)
            have HO : ∀ W W' : World, (Tup5.Box W (w.heap.size) 2 a b c d ∧ Below w.heap.size w W) → Below W.heap.size W W' → (Tup5.Box W' (w.heap.size) 2 a b c d ∧ Below w.heap.size w W') := fun W W' ⟨h0, hb⟩ h => ⟨h0.later h, hb.trans (h.mono hb.size)⟩
            have hz0_ : Hid (((w.alloc (Obj.cells #[.int .i64 2, .int .i64 a, .int .i64 b, .int .i64 c, .int .i64 d] 25))).heap.size = w.heap.size + 1) := Lib.hid (by simp)
            generalize (w.alloc (Obj.cells #[.int .i64 2, .int .i64 a, .int .i64 b, .int .i64 c, .int .i64 d] 25)) = w0 at X0 b0 hz0_ ⊢
            have S0 := (⟨X0, b0⟩ : Tup5.Box w0 (w.heap.size) 2 a b c d ∧ Below w.heap.size w w0)
            clear X0 b0
            obtain ⟨⟨_, _, _, _, _⟩, _⟩ := id S0
            refine Settle.region (fun W => Tup5.Box W (w.heap.size) 2 a b c d ∧ Below w.heap.size w W) (by kernel_rfl) (by kernel_rfl) (by kernel_rfl) (by kernel_rfl) (HO _ _ S0 ((Below.refl _ _).drew)) ?_
            clear S0
            repeat (first
              | (refine Settle.Settles.off (by rfl) ?_; simp only [Act.put, List.setIfInBounds_toArray, List.set_cons_zero, List.set_cons_succ])
              | (refine Settle.Settles.quiet (v := ?_) (by rfl) ?_ ?_
                 rotate_left
                 · (intro W hS; obtain ⟨⟨_, _, _, _, _⟩, _⟩ := hS; go_simp; with_reducible rfl)
                 simp only [Act.put, List.setIfInBounds_toArray, List.set_cons_zero, List.set_cons_succ])
              | (refine Settle.Settles.call (v := ?_) (f := ?_) (args := ?_) (by rfl) ?_ ?_ ?_
                 rotate_left 3
                 · (intro W; go_simp; refine ⟨?_, ?_⟩ <;> with_reducible rfl)
                 · (intro W hS; first | (go_at_call 65; (with_reducible refine (QO.out _).mono ?_); rintro e W1 ⟨rfl, rfl⟩; refine ⟨?_, hS⟩; with_reducible rfl) | (go_at_call 65; (with_reducible refine (QH.out _).mono ?_); rintro e W1 ⟨rfl, rfl⟩; refine ⟨?_, hS⟩; with_reducible rfl))
                 simp only [Act.put, List.setIfInBounds_toArray, List.set_cons_zero, List.set_cons_succ]))
            refine Settle.Settles.nil ?_
            intro wr S0
            obtain ⟨⟨_, _, _, _, _⟩, _⟩ := id S0
            go_wp2_with fail
            go_ret
            exact ⟨ret_bool E.out.symm, S0.2⟩
    · skip
      cases vh
      · skip
        cases vc
        · skip
          cases vd
          · skip
            have E : Hid (r = false) := Lib.hid (by rw [HE.out]; simp)
            clear HE
            go_enter Try.func14, Try.ntmps14
            go_wp2_with fail
            have X0 := Tup5.box1 w 2 a b c d 25 (k := w.heap.size) (by simp)
            have b0 := PointOk.below1 w (Obj.cells #[.int .i64 2, .int .i64 a, .int .i64 b, .int .i64 c, .int .i64 d] 25)
            have HO : ∀ W W' : World, (Tup5.Box W (w.heap.size) 2 a b c d ∧ Below w.heap.size w W) → Below W.heap.size W W' → (Tup5.Box W' (w.heap.size) 2 a b c d ∧ Below w.heap.size w W') := fun W W' ⟨h0, hb⟩ h => ⟨h0.later h, hb.trans (h.mono hb.size)⟩
            have hz0_ : Hid (((w.alloc (Obj.cells #[.int .i64 2, .int .i64 a, .int .i64 b, .int .i64 c, .int .i64 d] 25))).heap.size = w.heap.size + 1) := Lib.hid (by simp)
            generalize (w.alloc (Obj.cells #[.int .i64 2, .int .i64 a, .int .i64 b, .int .i64 c, .int .i64 d] 25)) = w0 at X0 b0 hz0_ ⊢
            have S0 := (⟨X0, b0⟩ : Tup5.Box w0 (w.heap.size) 2 a b c d ∧ Below w.heap.size w w0)
            clear X0 b0
            obtain ⟨⟨_, _, _, _, _⟩, _⟩ := id S0
            refine Settle.region (fun W => Tup5.Box W (w.heap.size) 2 a b c d ∧ Below w.heap.size w W) (by kernel_rfl) (by kernel_rfl) (by kernel_rfl) (by kernel_rfl) (HO _ _ S0 ((Below.refl _ _).drew)) ?_
            clear S0
            repeat (first
              | (refine Settle.Settles.off (by rfl) ?_; simp only [Act.put, List.setIfInBounds_toArray, List.set_cons_zero, List.set_cons_succ])
              | (refine Settle.Settles.quiet (v := ?_) (by rfl) ?_ ?_
                 rotate_left
                 · (intro W hS; obtain ⟨⟨_, _, _, _, _⟩, _⟩ := hS; go_simp; with_reducible rfl)
                 simp only [Act.put, List.setIfInBounds_toArray, List.set_cons_zero, List.set_cons_succ])
              | (refine Settle.Settles.call (v := ?_) (f := ?_) (args := ?_) (by rfl) ?_ ?_ ?_
                 rotate_left 3
                 · (intro W; go_simp; refine ⟨?_, ?_⟩ <;> with_reducible rfl)
                 · (intro W hS; first | (go_at_call 65; (with_reducible refine (QO.out _).mono ?_); rintro e W1 ⟨rfl, rfl⟩; refine ⟨?_, hS⟩; with_reducible rfl) | (go_at_call 65; (with_reducible refine (QH.out _).mono ?_); rintro e W1 ⟨rfl, rfl⟩; refine ⟨?_, hS⟩; with_reducible rfl))
                 simp only [Act.put, List.setIfInBounds_toArray, List.set_cons_zero, List.set_cons_succ]))
            refine Settle.Settles.nil ?_
            intro wr S0
            obtain ⟨⟨_, _, _, _, _⟩, _⟩ := id S0
            go_wp2_with fail
            go_ret
            exact ⟨ret_bool E.out.symm, S0.2⟩
          · skip
            have E : Hid (r = false) := Lib.hid (by rw [HE.out]; simp)
            clear HE
            go_enter Try.func14, Try.ntmps14
            go_wp2_with fail
            have X0 := Tup5.box1 w 2 a b c d 25 (k := w.heap.size) (by simp)
            have b0 := PointOk.below1 w (Obj.cells #[.int .i64 2, .int .i64 a, .int .i64 b, .int .i64 c, .int .i64 d] 25)
            have HO : ∀ W W' : World, (Tup5.Box W (w.heap.size) 2 a b c d ∧ Below w.heap.size w W) → Below W.heap.size W W' → (Tup5.Box W' (w.heap.size) 2 a b c d ∧ Below w.heap.size w W') := fun W W' ⟨h0, hb⟩ h => ⟨h0.later h, hb.trans (h.mono hb.size)⟩
            have hz0_ : Hid (((w.alloc (Obj.cells #[.int .i64 2, .int .i64 a, .int .i64 b, .int .i64 c, .int .i64 d] 25))).heap.size = w.heap.size + 1) := Lib.hid (by simp)
            generalize (w.alloc (Obj.cells #[.int .i64 2, .int .i64 a, .int .i64 b, .int .i64 c, .int .i64 d] 25)) = w0 at X0 b0 hz0_ ⊢
            have S0 := (⟨X0, b0⟩ : Tup5.Box w0 (w.heap.size) 2 a b c d ∧ Below w.heap.size w w0)
            clear X0 b0
            obtain ⟨⟨_, _, _, _, _⟩, _⟩ := id S0
            refine Settle.region (fun W => Tup5.Box W (w.heap.size) 2 a b c d ∧ Below w.heap.size w W) (by kernel_rfl) (by kernel_rfl) (by kernel_rfl) (by kernel_rfl) (HO _ _ S0 ((Below.refl _ _).drew)) ?_
            clear S0
            repeat (first
              | (refine Settle.Settles.off (by rfl) ?_; simp only [Act.put, List.setIfInBounds_toArray, List.set_cons_zero, List.set_cons_succ])
              | (refine Settle.Settles.quiet (v := ?_) (by rfl) ?_ ?_
                 rotate_left
                 · (intro W hS; obtain ⟨⟨_, _, _, _, _⟩, _⟩ := hS; go_simp; with_reducible rfl)
                 simp only [Act.put, List.setIfInBounds_toArray, List.set_cons_zero, List.set_cons_succ])
              | (refine Settle.Settles.call (v := ?_) (f := ?_) (args := ?_) (by rfl) ?_ ?_ ?_
                 rotate_left 3
                 · (intro W; go_simp; refine ⟨?_, ?_⟩ <;> with_reducible rfl)
                 · (intro W hS; first | (go_at_call 65; (with_reducible refine (QO.out _).mono ?_); rintro e W1 ⟨rfl, rfl⟩; refine ⟨?_, hS⟩; with_reducible rfl) | (go_at_call 65; (with_reducible refine (QH.out _).mono ?_); rintro e W1 ⟨rfl, rfl⟩; refine ⟨?_, hS⟩; with_reducible rfl))
                 simp only [Act.put, List.setIfInBounds_toArray, List.set_cons_zero, List.set_cons_succ]))
            refine Settle.Settles.nil ?_
            intro wr S0
            obtain ⟨⟨_, _, _, _, _⟩, _⟩ := id S0
            go_wp2_with fail
            go_ret
            exact ⟨ret_bool E.out.symm, S0.2⟩
        · skip
          cases vd
          · skip
            have E : Hid (r = false) := Lib.hid (by rw [HE.out]; simp)
            clear HE
            go_enter Try.func14, Try.ntmps14
            go_wp2_with fail
            have X0 := Tup5.box1 w 2 a b c d 25 (k := w.heap.size) (by simp)
            have b0 := PointOk.below1 w (Obj.cells #[.int .i64 2, .int .i64 a, .int .i64 b, .int .i64 c, .int .i64 d] 25)
            have HO : ∀ W W' : World, (Tup5.Box W (w.heap.size) 2 a b c d ∧ Below w.heap.size w W) → Below W.heap.size W W' → (Tup5.Box W' (w.heap.size) 2 a b c d ∧ Below w.heap.size w W') := fun W W' ⟨h0, hb⟩ h => ⟨h0.later h, hb.trans (h.mono hb.size)⟩
            have hz0_ : Hid (((w.alloc (Obj.cells #[.int .i64 2, .int .i64 a, .int .i64 b, .int .i64 c, .int .i64 d] 25))).heap.size = w.heap.size + 1) := Lib.hid (by simp)
            generalize (w.alloc (Obj.cells #[.int .i64 2, .int .i64 a, .int .i64 b, .int .i64 c, .int .i64 d] 25)) = w0 at X0 b0 hz0_ ⊢
            have S0 := (⟨X0, b0⟩ : Tup5.Box w0 (w.heap.size) 2 a b c d ∧ Below w.heap.size w w0)
            clear X0 b0
            obtain ⟨⟨_, _, _, _, _⟩, _⟩ := id S0
            refine Settle.region (fun W => Tup5.Box W (w.heap.size) 2 a b c d ∧ Below w.heap.size w W) (by kernel_rfl) (by kernel_rfl) (by kernel_rfl) (by kernel_rfl) (HO _ _ S0 ((Below.refl _ _).drew)) ?_
            clear S0
            repeat (first
              | (refine Settle.Settles.off (by rfl) ?_; simp only [Act.put, List.setIfInBounds_toArray, List.set_cons_zero, List.set_cons_succ])
              | (refine Settle.Settles.quiet (v := ?_) (by rfl) ?_ ?_
                 rotate_left
                 · (intro W hS; obtain ⟨⟨_, _, _, _, _⟩, _⟩ := hS; go_simp; with_reducible rfl)
                 simp only [Act.put, List.setIfInBounds_toArray, List.set_cons_zero, List.set_cons_succ])
              | (refine Settle.Settles.call (v := ?_) (f := ?_) (args := ?_) (by rfl) ?_ ?_ ?_
                 rotate_left 3
                 · (intro W; go_simp; refine ⟨?_, ?_⟩ <;> with_reducible rfl)
                 · (intro W hS; first | (go_at_call 65; (with_reducible refine (QO.out _).mono ?_); rintro e W1 ⟨rfl, rfl⟩; refine ⟨?_, hS⟩; with_reducible rfl) | (go_at_call 65; (with_reducible refine (QH.out _).mono ?_); rintro e W1 ⟨rfl, rfl⟩; refine ⟨?_, hS⟩; with_reducible rfl))
                 simp only [Act.put, List.setIfInBounds_toArray, List.set_cons_zero, List.set_cons_succ]))
            refine Settle.Settles.nil ?_
            intro wr S0
            obtain ⟨⟨_, _, _, _, _⟩, _⟩ := id S0
            go_wp2_with fail
            go_ret
            exact ⟨ret_bool E.out.symm, S0.2⟩
          · skip
            have E : Hid (r = false) := Lib.hid (by rw [HE.out]; simp)
            clear HE
            go_enter Try.func14, Try.ntmps14
            go_wp2_with fail
            have X0 := Tup5.box1 w 2 a b c d 25 (k := w.heap.size) (by simp)
            have b0 := PointOk.below1 w (Obj.cells #[.int .i64 2, .int .i64 a, .int .i64 b, .int .i64 c, .int .i64 d] 25)
            have HO : ∀ W W' : World, (Tup5.Box W (w.heap.size) 2 a b c d ∧ Below w.heap.size w W) → Below W.heap.size W W' → (Tup5.Box W' (w.heap.size) 2 a b c d ∧ Below w.heap.size w W') := fun W W' ⟨h0, hb⟩ h => ⟨h0.later h, hb.trans (h.mono hb.size)⟩
            have hz0_ : Hid (((w.alloc (Obj.cells #[.int .i64 2, .int .i64 a, .int .i64 b, .int .i64 c, .int .i64 d] 25))).heap.size = w.heap.size + 1) := Lib.hid (by simp)
            generalize (w.alloc (Obj.cells #[.int .i64 2, .int .i64 a, .int .i64 b, .int .i64 c, .int .i64 d] 25)) = w0 at X0 b0 hz0_ ⊢
            have S0 := (⟨X0, b0⟩ : Tup5.Box w0 (w.heap.size) 2 a b c d ∧ Below w.heap.size w w0)
            clear X0 b0
            obtain ⟨⟨_, _, _, _, _⟩, _⟩ := id S0
            refine Settle.region (fun W => Tup5.Box W (w.heap.size) 2 a b c d ∧ Below w.heap.size w W) (by kernel_rfl) (by kernel_rfl) (by kernel_rfl) (by kernel_rfl) (HO _ _ S0 ((Below.refl _ _).drew)) ?_
            clear S0
            repeat (first
              | (refine Settle.Settles.off (by rfl) ?_; simp only [Act.put, List.setIfInBounds_toArray, List.set_cons_zero, List.set_cons_succ])
              | (refine Settle.Settles.quiet (v := ?_) (by rfl) ?_ ?_
                 rotate_left
                 · (intro W hS; obtain ⟨⟨_, _, _, _, _⟩, _⟩ := hS; go_simp; with_reducible rfl)
                 simp only [Act.put, List.setIfInBounds_toArray, List.set_cons_zero, List.set_cons_succ])
              | (refine Settle.Settles.call (v := ?_) (f := ?_) (args := ?_) (by rfl) ?_ ?_ ?_
                 rotate_left 3
                 · (intro W; go_simp; refine ⟨?_, ?_⟩ <;> with_reducible rfl)
                 · (intro W hS; first | (go_at_call 65; (with_reducible refine (QO.out _).mono ?_); rintro e W1 ⟨rfl, rfl⟩; refine ⟨?_, hS⟩; with_reducible rfl) | (go_at_call 65; (with_reducible refine (QH.out _).mono ?_); rintro e W1 ⟨rfl, rfl⟩; refine ⟨?_, hS⟩; with_reducible rfl))
                 simp only [Act.put, List.setIfInBounds_toArray, List.set_cons_zero, List.set_cons_succ]))
            refine Settle.Settles.nil ?_
            intro wr S0
            obtain ⟨⟨_, _, _, _, _⟩, _⟩ := id S0
            go_wp2_with fail
            go_ret
            exact ⟨ret_bool E.out.symm, S0.2⟩
      · skip
        cases vc
        · skip
          cases vd
          · skip
            have E : Hid (r = false) := Lib.hid (by rw [HE.out]; simp)
            clear HE
            go_enter Try.func14, Try.ntmps14
            go_wp2_with fail
            have X0 := Tup5.box1 w 2 a b c d 25 (k := w.heap.size) (by simp)
            have b0 := PointOk.below1 w (Obj.cells #[.int .i64 2, .int .i64 a, .int .i64 b, .int .i64 c, .int .i64 d] 25)
            have HO : ∀ W W' : World, (Tup5.Box W (w.heap.size) 2 a b c d ∧ Below w.heap.size w W) → Below W.heap.size W W' → (Tup5.Box W' (w.heap.size) 2 a b c d ∧ Below w.heap.size w W') := fun W W' ⟨h0, hb⟩ h => ⟨h0.later h, hb.trans (h.mono hb.size)⟩
            have hz0_ : Hid (((w.alloc (Obj.cells #[.int .i64 2, .int .i64 a, .int .i64 b, .int .i64 c, .int .i64 d] 25))).heap.size = w.heap.size + 1) := Lib.hid (by simp)
            generalize (w.alloc (Obj.cells #[.int .i64 2, .int .i64 a, .int .i64 b, .int .i64 c, .int .i64 d] 25)) = w0 at X0 b0 hz0_ ⊢
            have S0 := (⟨X0, b0⟩ : Tup5.Box w0 (w.heap.size) 2 a b c d ∧ Below w.heap.size w w0)
            clear X0 b0
            obtain ⟨⟨_, _, _, _, _⟩, _⟩ := id S0
            refine Settle.region (fun W => Tup5.Box W (w.heap.size) 2 a b c d ∧ Below w.heap.size w W) (by kernel_rfl) (by kernel_rfl) (by kernel_rfl) (by kernel_rfl) (HO _ _ S0 ((Below.refl _ _).drew)) ?_
            clear S0
            repeat (first
              | (refine Settle.Settles.off (by rfl) ?_; simp only [Act.put, List.setIfInBounds_toArray, List.set_cons_zero, List.set_cons_succ])
              | (refine Settle.Settles.quiet (v := ?_) (by rfl) ?_ ?_
                 rotate_left
                 · (intro W hS; obtain ⟨⟨_, _, _, _, _⟩, _⟩ := hS; go_simp; with_reducible rfl)
                 simp only [Act.put, List.setIfInBounds_toArray, List.set_cons_zero, List.set_cons_succ])
              | (refine Settle.Settles.call (v := ?_) (f := ?_) (args := ?_) (by rfl) ?_ ?_ ?_
                 rotate_left 3
                 · (intro W; go_simp; refine ⟨?_, ?_⟩ <;> with_reducible rfl)
                 · (intro W hS; first | (go_at_call 65; (with_reducible refine (QO.out _).mono ?_); rintro e W1 ⟨rfl, rfl⟩; refine ⟨?_, hS⟩; with_reducible rfl) | (go_at_call 65; (with_reducible refine (QH.out _).mono ?_); rintro e W1 ⟨rfl, rfl⟩; refine ⟨?_, hS⟩; with_reducible rfl))
                 simp only [Act.put, List.setIfInBounds_toArray, List.set_cons_zero, List.set_cons_succ]))
            refine Settle.Settles.nil ?_
            intro wr S0
            obtain ⟨⟨_, _, _, _, _⟩, _⟩ := id S0
            go_wp2_with fail
            refine (QC.out _).mono ?_
            rintro e w_ ⟨rfl, rfl⟩
            go_wp2_with fail
            go_ret
            exact ⟨ret_bool E.out.symm, S0.2⟩
          · skip
            have E : Hid (r = false) := Lib.hid (by rw [HE.out]; simp)
            clear HE
            go_enter Try.func14, Try.ntmps14
            go_wp2_with fail
            have X0 := Tup5.box1 w 2 a b c d 25 (k := w.heap.size) (by simp)
            have b0 := PointOk.below1 w (Obj.cells #[.int .i64 2, .int .i64 a, .int .i64 b, .int .i64 c, .int .i64 d] 25)
            have HO : ∀ W W' : World, (Tup5.Box W (w.heap.size) 2 a b c d ∧ Below w.heap.size w W) → Below W.heap.size W W' → (Tup5.Box W' (w.heap.size) 2 a b c d ∧ Below w.heap.size w W') := fun W W' ⟨h0, hb⟩ h => ⟨h0.later h, hb.trans (h.mono hb.size)⟩
            have hz0_ : Hid (((w.alloc (Obj.cells #[.int .i64 2, .int .i64 a, .int .i64 b, .int .i64 c, .int .i64 d] 25))).heap.size = w.heap.size + 1) := Lib.hid (by simp)
            generalize (w.alloc (Obj.cells #[.int .i64 2, .int .i64 a, .int .i64 b, .int .i64 c, .int .i64 d] 25)) = w0 at X0 b0 hz0_ ⊢
            have S0 := (⟨X0, b0⟩ : Tup5.Box w0 (w.heap.size) 2 a b c d ∧ Below w.heap.size w w0)
            clear X0 b0
            obtain ⟨⟨_, _, _, _, _⟩, _⟩ := id S0
            refine Settle.region (fun W => Tup5.Box W (w.heap.size) 2 a b c d ∧ Below w.heap.size w W) (by kernel_rfl) (by kernel_rfl) (by kernel_rfl) (by kernel_rfl) (HO _ _ S0 ((Below.refl _ _).drew)) ?_
            clear S0
            repeat (first
              | (refine Settle.Settles.off (by rfl) ?_; simp only [Act.put, List.setIfInBounds_toArray, List.set_cons_zero, List.set_cons_succ])
              | (refine Settle.Settles.quiet (v := ?_) (by rfl) ?_ ?_
                 rotate_left
                 · (intro W hS; obtain ⟨⟨_, _, _, _, _⟩, _⟩ := hS; go_simp; with_reducible rfl)
                 simp only [Act.put, List.setIfInBounds_toArray, List.set_cons_zero, List.set_cons_succ])
              | (refine Settle.Settles.call (v := ?_) (f := ?_) (args := ?_) (by rfl) ?_ ?_ ?_
                 rotate_left 3
                 · (intro W; go_simp; refine ⟨?_, ?_⟩ <;> with_reducible rfl)
                 · (intro W hS; first | (go_at_call 65; (with_reducible refine (QO.out _).mono ?_); rintro e W1 ⟨rfl, rfl⟩; refine ⟨?_, hS⟩; with_reducible rfl) | (go_at_call 65; (with_reducible refine (QH.out _).mono ?_); rintro e W1 ⟨rfl, rfl⟩; refine ⟨?_, hS⟩; with_reducible rfl))
                 simp only [Act.put, List.setIfInBounds_toArray, List.set_cons_zero, List.set_cons_succ]))
            refine Settle.Settles.nil ?_
            intro wr S0
            obtain ⟨⟨_, _, _, _, _⟩, _⟩ := id S0
            go_wp2_with fail
            refine (QC.out _).mono ?_
            rintro e w_ ⟨rfl, rfl⟩
            go_wp2_with fail
            go_ret
            exact ⟨ret_bool E.out.symm, S0.2⟩
        · skip
          cases vd
          · skip
            have E : Hid (r = false) := Lib.hid (by rw [HE.out]; simp)
            clear HE
            go_enter Try.func14, Try.ntmps14
            go_wp2_with fail
            have X0 := Tup5.box1 w 2 a b c d 25 (k := w.heap.size) (by simp)
            have b0 := PointOk.below1 w (Obj.cells #[.int .i64 2, .int .i64 a, .int .i64 b, .int .i64 c, .int .i64 d] 25)
            have HO : ∀ W W' : World, (Tup5.Box W (w.heap.size) 2 a b c d ∧ Below w.heap.size w W) → Below W.heap.size W W' → (Tup5.Box W' (w.heap.size) 2 a b c d ∧ Below w.heap.size w W') := fun W W' ⟨h0, hb⟩ h => ⟨h0.later h, hb.trans (h.mono hb.size)⟩
            have hz0_ : Hid (((w.alloc (Obj.cells #[.int .i64 2, .int .i64 a, .int .i64 b, .int .i64 c, .int .i64 d] 25))).heap.size = w.heap.size + 1) := Lib.hid (by simp)
            generalize (w.alloc (Obj.cells #[.int .i64 2, .int .i64 a, .int .i64 b, .int .i64 c, .int .i64 d] 25)) = w0 at X0 b0 hz0_ ⊢
            have S0 := (⟨X0, b0⟩ : Tup5.Box w0 (w.heap.size) 2 a b c d ∧ Below w.heap.size w w0)
            clear X0 b0
            obtain ⟨⟨_, _, _, _, _⟩, _⟩ := id S0
            refine Settle.region (fun W => Tup5.Box W (w.heap.size) 2 a b c d ∧ Below w.heap.size w W) (by kernel_rfl) (by kernel_rfl) (by kernel_rfl) (by kernel_rfl) (HO _ _ S0 ((Below.refl _ _).drew)) ?_
            clear S0
            repeat (first
              | (refine Settle.Settles.off (by rfl) ?_; simp only [Act.put, List.setIfInBounds_toArray, List.set_cons_zero, List.set_cons_succ])
              | (refine Settle.Settles.quiet (v := ?_) (by rfl) ?_ ?_
                 rotate_left
                 · (intro W hS; obtain ⟨⟨_, _, _, _, _⟩, _⟩ := hS; go_simp; with_reducible rfl)
                 simp only [Act.put, List.setIfInBounds_toArray, List.set_cons_zero, List.set_cons_succ])
              | (refine Settle.Settles.call (v := ?_) (f := ?_) (args := ?_) (by rfl) ?_ ?_ ?_
                 rotate_left 3
                 · (intro W; go_simp; refine ⟨?_, ?_⟩ <;> with_reducible rfl)
                 · (intro W hS; first | (go_at_call 65; (with_reducible refine (QO.out _).mono ?_); rintro e W1 ⟨rfl, rfl⟩; refine ⟨?_, hS⟩; with_reducible rfl) | (go_at_call 65; (with_reducible refine (QH.out _).mono ?_); rintro e W1 ⟨rfl, rfl⟩; refine ⟨?_, hS⟩; with_reducible rfl))
                 simp only [Act.put, List.setIfInBounds_toArray, List.set_cons_zero, List.set_cons_succ]))
            refine Settle.Settles.nil ?_
            intro wr S0
            obtain ⟨⟨_, _, _, _, _⟩, _⟩ := id S0
            go_wp2_with fail
            refine (QC.out _).mono ?_
            rintro e w_ ⟨rfl, rfl⟩
            go_wp2_with fail
            refine (QD.out _).mono ?_
            rintro e w_ ⟨rfl, rfl⟩
            go_wp2_with fail
            go_ret
            exact ⟨ret_bool E.out.symm, S0.2⟩
          · skip
            have E : Hid (r = true) := Lib.hid (by rw [HE.out]; simp)
            clear HE
            go_enter Try.func14, Try.ntmps14
            go_wp2_with fail
            have X0 := Tup5.box1 w 2 a b c d 25 (k := w.heap.size) (by simp)
            have b0 := PointOk.below1 w (Obj.cells #[.int .i64 2, .int .i64 a, .int .i64 b, .int .i64 c, .int .i64 d] 25)
            have HO : ∀ W W' : World, (Tup5.Box W (w.heap.size) 2 a b c d ∧ Below w.heap.size w W) → Below W.heap.size W W' → (Tup5.Box W' (w.heap.size) 2 a b c d ∧ Below w.heap.size w W') := fun W W' ⟨h0, hb⟩ h => ⟨h0.later h, hb.trans (h.mono hb.size)⟩
            have hz0_ : Hid (((w.alloc (Obj.cells #[.int .i64 2, .int .i64 a, .int .i64 b, .int .i64 c, .int .i64 d] 25))).heap.size = w.heap.size + 1) := Lib.hid (by simp)
            generalize (w.alloc (Obj.cells #[.int .i64 2, .int .i64 a, .int .i64 b, .int .i64 c, .int .i64 d] 25)) = w0 at X0 b0 hz0_ ⊢
            have S0 := (⟨X0, b0⟩ : Tup5.Box w0 (w.heap.size) 2 a b c d ∧ Below w.heap.size w w0)
            clear X0 b0
            obtain ⟨⟨_, _, _, _, _⟩, _⟩ := id S0
            refine Settle.region (fun W => Tup5.Box W (w.heap.size) 2 a b c d ∧ Below w.heap.size w W) (by kernel_rfl) (by kernel_rfl) (by kernel_rfl) (by kernel_rfl) (HO _ _ S0 ((Below.refl _ _).drew)) ?_
            clear S0
            repeat (first
              | (refine Settle.Settles.off (by rfl) ?_; simp only [Act.put, List.setIfInBounds_toArray, List.set_cons_zero, List.set_cons_succ])
              | (refine Settle.Settles.quiet (v := ?_) (by rfl) ?_ ?_
                 rotate_left
                 · (intro W hS; obtain ⟨⟨_, _, _, _, _⟩, _⟩ := hS; go_simp; with_reducible rfl)
                 simp only [Act.put, List.setIfInBounds_toArray, List.set_cons_zero, List.set_cons_succ])
              | (refine Settle.Settles.call (v := ?_) (f := ?_) (args := ?_) (by rfl) ?_ ?_ ?_
                 rotate_left 3
                 · (intro W; go_simp; refine ⟨?_, ?_⟩ <;> with_reducible rfl)
                 · (intro W hS; first | (go_at_call 65; (with_reducible refine (QO.out _).mono ?_); rintro e W1 ⟨rfl, rfl⟩; refine ⟨?_, hS⟩; with_reducible rfl) | (go_at_call 65; (with_reducible refine (QH.out _).mono ?_); rintro e W1 ⟨rfl, rfl⟩; refine ⟨?_, hS⟩; with_reducible rfl))
                 simp only [Act.put, List.setIfInBounds_toArray, List.set_cons_zero, List.set_cons_succ]))
            refine Settle.Settles.nil ?_
            intro wr S0
            obtain ⟨⟨_, _, _, _, _⟩, _⟩ := id S0
            go_wp2_with fail
            refine (QC.out _).mono ?_
            rintro e w_ ⟨rfl, rfl⟩
            go_wp2_with fail
            refine (QD.out _).mono ?_
            rintro e w_ ⟨rfl, rfl⟩
            go_wp2_with fail
            go_ret
            exact ⟨ret_bool E.out.symm, S0.2⟩
  by_cases hk3 : k = 3
  · subst hk3
    have HE : Hid (r = (decide (1 ≤ a ∧ a ≤ 1000) && decide (b = 0) && decide (c = 0) && decide (d = 0))) := Lib.hid (by rw [← HR.out, act3])
    clear HR
    by_cases zb : b = 0
    rotate_left
    · have zbb : (b == 0) = false := by simpa using zb
      rw [decide_eq_false zb] at HE
      have QO := Lib.hid fun w => DutyImpl.isUpTo a 5 w
      have QH := Lib.hid fun w => DutyImpl.isUpTo b 6 w
      obtain ⟨vo, ho⟩ : ∃ v, decide ((0 : Int) ≤ a ∧ a ≤ 5) = v := ⟨_, rfl⟩
      obtain ⟨vh, hh⟩ : ∃ v, decide ((0 : Int) ≤ b ∧ b ≤ 6) = v := ⟨_, rfl⟩
      rw [ho] at QO
      rw [hh] at QH
      clear ho hh
      by_cases q1 : 1 ≤ a
      rotate_left
      · have q1b : a < 1 := by omega
        rw [show decide (1 ≤ a ∧ a ≤ 1000) = false from decide_eq_false (by omega)] at HE
        have E : Hid (r = false) := Lib.hid (by rw [HE.out]; simp)
        clear HE
        go_enter Try.func14, Try.ntmps14
        go_wp2_with fail
        have X0 := Tup5.box1 w 3 a b c d 25 (k := w.heap.size) (by simp)
        have b0 := PointOk.below1 w (Obj.cells #[.int .i64 3, .int .i64 a, .int .i64 b, .int .i64 c, .int .i64 d] 25)
        have HO : ∀ W W' : World, (Tup5.Box W (w.heap.size) 3 a b c d ∧ Below w.heap.size w W) → Below W.heap.size W W' → (Tup5.Box W' (w.heap.size) 3 a b c d ∧ Below w.heap.size w W') := fun W W' ⟨h0, hb⟩ h => ⟨h0.later h, hb.trans (h.mono hb.size)⟩
        have hz0_ : Hid (((w.alloc (Obj.cells #[.int .i64 3, .int .i64 a, .int .i64 b, .int .i64 c, .int .i64 d] 25))).heap.size = w.heap.size + 1) := Lib.hid (by simp)
        generalize (w.alloc (Obj.cells #[.int .i64 3, .int .i64 a, .int .i64 b, .int .i64 c, .int .i64 d] 25)) = w0 at X0 b0 hz0_ ⊢
        have S0 := (⟨X0, b0⟩ : Tup5.Box w0 (w.heap.size) 3 a b c d ∧ Below w.heap.size w w0)
        clear X0 b0
        obtain ⟨⟨_, _, _, _, _⟩, _⟩ := id S0
        refine Settle.region (fun W => Tup5.Box W (w.heap.size) 3 a b c d ∧ Below w.heap.size w W) (by kernel_rfl) (by kernel_rfl) (by kernel_rfl) (by kernel_rfl) (HO _ _ S0 ((Below.refl _ _).drew)) ?_
        clear S0
        repeat (first
          | (refine Settle.Settles.off (by rfl) ?_; simp only [Act.put, List.setIfInBounds_toArray, List.set_cons_zero, List.set_cons_succ])
          | (refine Settle.Settles.quiet (v := ?_) (by rfl) ?_ ?_
             rotate_left
             · (intro W hS; obtain ⟨⟨_, _, _, _, _⟩, _⟩ := hS; go_simp; with_reducible rfl)
             simp only [Act.put, List.setIfInBounds_toArray, List.set_cons_zero, List.set_cons_succ])
          | (refine Settle.Settles.call (v := ?_) (f := ?_) (args := ?_) (by rfl) ?_ ?_ ?_
             rotate_left 3
             · (intro W; go_simp; refine ⟨?_, ?_⟩ <;> with_reducible rfl)
             · (intro W hS; first | (go_at_call 65; (with_reducible refine (QO.out _).mono ?_); rintro e W1 ⟨rfl, rfl⟩; refine ⟨?_, hS⟩; with_reducible rfl) | (go_at_call 65; (with_reducible refine (QH.out _).mono ?_); rintro e W1 ⟨rfl, rfl⟩; refine ⟨?_, hS⟩; with_reducible rfl))
             simp only [Act.put, List.setIfInBounds_toArray, List.set_cons_zero, List.set_cons_succ]))
        refine Settle.Settles.nil ?_
        intro wr S0
        obtain ⟨⟨_, _, _, _, _⟩, _⟩ := id S0
        go_wp2_with fail
        go_ret
        exact ⟨ret_bool E.out.symm, S0.2⟩
      by_cases q2 : a ≤ 1000
      rotate_left
      · have q2b : 1000 < a := by omega
        rw [show decide (1 ≤ a ∧ a ≤ 1000) = false from decide_eq_false (by omega)] at HE
        have E : Hid (r = false) := Lib.hid (by rw [HE.out]; simp)
        clear HE
        go_enter Try.func14, Try.ntmps14
        go_wp2_with fail
        have X0 := Tup5.box1 w 3 a b c d 25 (k := w.heap.size) (by simp)
        have b0 := PointOk.below1 w (Obj.cells #[.int .i64 3, .int .i64 a, .int .i64 b, .int .i64 c, .int .i64 d] 25)
        have HO : ∀ W W' : World, (Tup5.Box W (w.heap.size) 3 a b c d ∧ Below w.heap.size w W) → Below W.heap.size W W' → (Tup5.Box W' (w.heap.size) 3 a b c d ∧ Below w.heap.size w W') := fun W W' ⟨h0, hb⟩ h => ⟨h0.later h, hb.trans (h.mono hb.size)⟩
        have hz0_ : Hid (((w.alloc (Obj.cells #[.int .i64 3, .int .i64 a, .int .i64 b, .int .i64 c, .int .i64 d] 25))).heap.size = w.heap.size + 1) := Lib.hid (by simp)
        generalize (w.alloc (Obj.cells #[.int .i64 3, .int .i64 a, .int .i64 b, .int .i64 c, .int .i64 d] 25)) = w0 at X0 b0 hz0_ ⊢
        have S0 := (⟨X0, b0⟩ : Tup5.Box w0 (w.heap.size) 3 a b c d ∧ Below w.heap.size w w0)
        clear X0 b0
        obtain ⟨⟨_, _, _, _, _⟩, _⟩ := id S0
        refine Settle.region (fun W => Tup5.Box W (w.heap.size) 3 a b c d ∧ Below w.heap.size w W) (by kernel_rfl) (by kernel_rfl) (by kernel_rfl) (by kernel_rfl) (HO _ _ S0 ((Below.refl _ _).drew)) ?_
        clear S0
        repeat (first
          | (refine Settle.Settles.off (by rfl) ?_; simp only [Act.put, List.setIfInBounds_toArray, List.set_cons_zero, List.set_cons_succ])
          | (refine Settle.Settles.quiet (v := ?_) (by rfl) ?_ ?_
             rotate_left
             · (intro W hS; obtain ⟨⟨_, _, _, _, _⟩, _⟩ := hS; go_simp; with_reducible rfl)
             simp only [Act.put, List.setIfInBounds_toArray, List.set_cons_zero, List.set_cons_succ])
          | (refine Settle.Settles.call (v := ?_) (f := ?_) (args := ?_) (by rfl) ?_ ?_ ?_
             rotate_left 3
             · (intro W; go_simp; refine ⟨?_, ?_⟩ <;> with_reducible rfl)
             · (intro W hS; first | (go_at_call 65; (with_reducible refine (QO.out _).mono ?_); rintro e W1 ⟨rfl, rfl⟩; refine ⟨?_, hS⟩; with_reducible rfl) | (go_at_call 65; (with_reducible refine (QH.out _).mono ?_); rintro e W1 ⟨rfl, rfl⟩; refine ⟨?_, hS⟩; with_reducible rfl))
             simp only [Act.put, List.setIfInBounds_toArray, List.set_cons_zero, List.set_cons_succ]))
        refine Settle.Settles.nil ?_
        intro wr S0
        obtain ⟨⟨_, _, _, _, _⟩, _⟩ := id S0
        go_wp2_with fail
        go_ret
        exact ⟨ret_bool E.out.symm, S0.2⟩
      rw [show decide (1 ≤ a ∧ a ≤ 1000) = true from decide_eq_true ⟨q1, q2⟩] at HE
      have E : Hid (r = false) := Lib.hid (by rw [HE.out]; simp)
      clear HE
      go_enter Try.func14, Try.ntmps14
      go_wp2_with fail
      have X0 := Tup5.box1 w 3 a b c d 25 (k := w.heap.size) (by simp)
      have b0 := PointOk.below1 w (Obj.cells #[.int .i64 3, .int .i64 a, .int .i64 b, .int .i64 c, .int .i64 d] 25)
      have HO : ∀ W W' : World, (Tup5.Box W (w.heap.size) 3 a b c d ∧ Below w.heap.size w W) → Below W.heap.size W W' → (Tup5.Box W' (w.heap.size) 3 a b c d ∧ Below w.heap.size w W') := fun W W' ⟨h0, hb⟩ h => ⟨h0.later h, hb.trans (h.mono hb.size)⟩
      have hz0_ : Hid (((w.alloc (Obj.cells #[.int .i64 3, .int .i64 a, .int .i64 b, .int .i64 c, .int .i64 d] 25))).heap.size = w.heap.size + 1) := Lib.hid (by simp)
      generalize (w.alloc (Obj.cells #[.int .i64 3, .int .i64 a, .int .i64 b, .int .i64 c, .int .i64 d] 25)) = w0 at X0 b0 hz0_ ⊢
      have S0 := (⟨X0, b0⟩ : Tup5.Box w0 (w.heap.size) 3 a b c d ∧ Below w.heap.size w w0)
      clear X0 b0
      obtain ⟨⟨_, _, _, _, _⟩, _⟩ := id S0
      refine Settle.region (fun W => Tup5.Box W (w.heap.size) 3 a b c d ∧ Below w.heap.size w W) (by kernel_rfl) (by kernel_rfl) (by kernel_rfl) (by kernel_rfl) (HO _ _ S0 ((Below.refl _ _).drew)) ?_
      clear S0
      repeat (first
        | (refine Settle.Settles.off (by rfl) ?_; simp only [Act.put, List.setIfInBounds_toArray, List.set_cons_zero, List.set_cons_succ])
        | (refine Settle.Settles.quiet (v := ?_) (by rfl) ?_ ?_
           rotate_left
           · (intro W hS; obtain ⟨⟨_, _, _, _, _⟩, _⟩ := hS; go_simp; with_reducible rfl)
           simp only [Act.put, List.setIfInBounds_toArray, List.set_cons_zero, List.set_cons_succ])
        | (refine Settle.Settles.call (v := ?_) (f := ?_) (args := ?_) (by rfl) ?_ ?_ ?_
           rotate_left 3
           · (intro W; go_simp; refine ⟨?_, ?_⟩ <;> with_reducible rfl)
           · (intro W hS; first | (go_at_call 65; (with_reducible refine (QO.out _).mono ?_); rintro e W1 ⟨rfl, rfl⟩; refine ⟨?_, hS⟩; with_reducible rfl) | (go_at_call 65; (with_reducible refine (QH.out _).mono ?_); rintro e W1 ⟨rfl, rfl⟩; refine ⟨?_, hS⟩; with_reducible rfl))
           simp only [Act.put, List.setIfInBounds_toArray, List.set_cons_zero, List.set_cons_succ]))
      refine Settle.Settles.nil ?_
      intro wr S0
      obtain ⟨⟨_, _, _, _, _⟩, _⟩ := id S0
      go_wp2_with fail
      go_ret
      exact ⟨ret_bool E.out.symm, S0.2⟩
    subst zb
    rw [show decide ((0 : Int) = 0) = true from rfl] at HE
    by_cases zc : c = 0
    rotate_left
    · have zcb : (c == 0) = false := by simpa using zc
      rw [decide_eq_false zc] at HE
      have QO := Lib.hid fun w => DutyImpl.isUpTo a 5 w
      have QH := Lib.hid fun w => DutyImpl.isUpTo 0 6 w
      obtain ⟨vo, ho⟩ : ∃ v, decide ((0 : Int) ≤ a ∧ a ≤ 5) = v := ⟨_, rfl⟩
      obtain ⟨vh, hh⟩ : ∃ v, decide ((0 : Int) ≤ (0 : Int) ∧ (0 : Int) ≤ 6) = v := ⟨_, rfl⟩
      rw [ho] at QO
      rw [hh] at QH
      clear ho hh
      by_cases q1 : 1 ≤ a
      rotate_left
      · have q1b : a < 1 := by omega
        rw [show decide (1 ≤ a ∧ a ≤ 1000) = false from decide_eq_false (by omega)] at HE
        have E : Hid (r = false) := Lib.hid (by rw [HE.out]; simp)
        clear HE
        go_enter Try.func14, Try.ntmps14
        go_wp2_with fail
        have X0 := Tup5.box1 w 3 a 0 c d 25 (k := w.heap.size) (by simp)
        have b0 := PointOk.below1 w (Obj.cells #[.int .i64 3, .int .i64 a, .int .i64 0, .int .i64 c, .int .i64 d] 25)
        have HO : ∀ W W' : World, (Tup5.Box W (w.heap.size) 3 a 0 c d ∧ Below w.heap.size w W) → Below W.heap.size W W' → (Tup5.Box W' (w.heap.size) 3 a 0 c d ∧ Below w.heap.size w W') := fun W W' ⟨h0, hb⟩ h => ⟨h0.later h, hb.trans (h.mono hb.size)⟩
        have hz0_ : Hid (((w.alloc (Obj.cells #[.int .i64 3, .int .i64 a, .int .i64 0, .int .i64 c, .int .i64 d] 25))).heap.size = w.heap.size + 1) := Lib.hid (by simp)
        generalize (w.alloc (Obj.cells #[.int .i64 3, .int .i64 a, .int .i64 0, .int .i64 c, .int .i64 d] 25)) = w0 at X0 b0 hz0_ ⊢
        have S0 := (⟨X0, b0⟩ : Tup5.Box w0 (w.heap.size) 3 a 0 c d ∧ Below w.heap.size w w0)
        clear X0 b0
        obtain ⟨⟨_, _, _, _, _⟩, _⟩ := id S0
        refine Settle.region (fun W => Tup5.Box W (w.heap.size) 3 a 0 c d ∧ Below w.heap.size w W) (by kernel_rfl) (by kernel_rfl) (by kernel_rfl) (by kernel_rfl) (HO _ _ S0 ((Below.refl _ _).drew)) ?_
        clear S0
        repeat (first
          | (refine Settle.Settles.off (by rfl) ?_; simp only [Act.put, List.setIfInBounds_toArray, List.set_cons_zero, List.set_cons_succ])
          | (refine Settle.Settles.quiet (v := ?_) (by rfl) ?_ ?_
             rotate_left
             · (intro W hS; obtain ⟨⟨_, _, _, _, _⟩, _⟩ := hS; go_simp; with_reducible rfl)
             simp only [Act.put, List.setIfInBounds_toArray, List.set_cons_zero, List.set_cons_succ])
          | (refine Settle.Settles.call (v := ?_) (f := ?_) (args := ?_) (by rfl) ?_ ?_ ?_
             rotate_left 3
             · (intro W; go_simp; refine ⟨?_, ?_⟩ <;> with_reducible rfl)
             · (intro W hS; first | (go_at_call 65; (with_reducible refine (QO.out _).mono ?_); rintro e W1 ⟨rfl, rfl⟩; refine ⟨?_, hS⟩; with_reducible rfl) | (go_at_call 65; (with_reducible refine (QH.out _).mono ?_); rintro e W1 ⟨rfl, rfl⟩; refine ⟨?_, hS⟩; with_reducible rfl))
             simp only [Act.put, List.setIfInBounds_toArray, List.set_cons_zero, List.set_cons_succ]))
        refine Settle.Settles.nil ?_
        intro wr S0
        obtain ⟨⟨_, _, _, _, _⟩, _⟩ := id S0
        go_wp2_with fail
        go_ret
        exact ⟨ret_bool E.out.symm, S0.2⟩
      by_cases q2 : a ≤ 1000
      rotate_left
      · have q2b : 1000 < a := by omega
        rw [show decide (1 ≤ a ∧ a ≤ 1000) = false from decide_eq_false (by omega)] at HE
        have E : Hid (r = false) := Lib.hid (by rw [HE.out]; simp)
        clear HE
        go_enter Try.func14, Try.ntmps14
        go_wp2_with fail
        have X0 := Tup5.box1 w 3 a 0 c d 25 (k := w.heap.size) (by simp)
        have b0 := PointOk.below1 w (Obj.cells #[.int .i64 3, .int .i64 a, .int .i64 0, .int .i64 c, .int .i64 d] 25)
        have HO : ∀ W W' : World, (Tup5.Box W (w.heap.size) 3 a 0 c d ∧ Below w.heap.size w W) → Below W.heap.size W W' → (Tup5.Box W' (w.heap.size) 3 a 0 c d ∧ Below w.heap.size w W') := fun W W' ⟨h0, hb⟩ h => ⟨h0.later h, hb.trans (h.mono hb.size)⟩
        have hz0_ : Hid (((w.alloc (Obj.cells #[.int .i64 3, .int .i64 a, .int .i64 0, .int .i64 c, .int .i64 d] 25))).heap.size = w.heap.size + 1) := Lib.hid (by simp)
        generalize (w.alloc (Obj.cells #[.int .i64 3, .int .i64 a, .int .i64 0, .int .i64 c, .int .i64 d] 25)) = w0 at X0 b0 hz0_ ⊢
        have S0 := (⟨X0, b0⟩ : Tup5.Box w0 (w.heap.size) 3 a 0 c d ∧ Below w.heap.size w w0)
        clear X0 b0
        obtain ⟨⟨_, _, _, _, _⟩, _⟩ := id S0
        refine Settle.region (fun W => Tup5.Box W (w.heap.size) 3 a 0 c d ∧ Below w.heap.size w W) (by kernel_rfl) (by kernel_rfl) (by kernel_rfl) (by kernel_rfl) (HO _ _ S0 ((Below.refl _ _).drew)) ?_
        clear S0
        repeat (first
          | (refine Settle.Settles.off (by rfl) ?_; simp only [Act.put, List.setIfInBounds_toArray, List.set_cons_zero, List.set_cons_succ])
          | (refine Settle.Settles.quiet (v := ?_) (by rfl) ?_ ?_
             rotate_left
             · (intro W hS; obtain ⟨⟨_, _, _, _, _⟩, _⟩ := hS; go_simp; with_reducible rfl)
             simp only [Act.put, List.setIfInBounds_toArray, List.set_cons_zero, List.set_cons_succ])
          | (refine Settle.Settles.call (v := ?_) (f := ?_) (args := ?_) (by rfl) ?_ ?_ ?_
             rotate_left 3
             · (intro W; go_simp; refine ⟨?_, ?_⟩ <;> with_reducible rfl)
             · (intro W hS; first | (go_at_call 65; (with_reducible refine (QO.out _).mono ?_); rintro e W1 ⟨rfl, rfl⟩; refine ⟨?_, hS⟩; with_reducible rfl) | (go_at_call 65; (with_reducible refine (QH.out _).mono ?_); rintro e W1 ⟨rfl, rfl⟩; refine ⟨?_, hS⟩; with_reducible rfl))
             simp only [Act.put, List.setIfInBounds_toArray, List.set_cons_zero, List.set_cons_succ]))
        refine Settle.Settles.nil ?_
        intro wr S0
        obtain ⟨⟨_, _, _, _, _⟩, _⟩ := id S0
        go_wp2_with fail
        go_ret
        exact ⟨ret_bool E.out.symm, S0.2⟩
      rw [show decide (1 ≤ a ∧ a ≤ 1000) = true from decide_eq_true ⟨q1, q2⟩] at HE
      have E : Hid (r = false) := Lib.hid (by rw [HE.out]; simp)
      clear HE
      go_enter Try.func14, Try.ntmps14
      go_wp2_with fail
      have X0 := Tup5.box1 w 3 a 0 c d 25 (k := w.heap.size) (by simp)
      have b0 := PointOk.below1 w (Obj.cells #[.int .i64 3, .int .i64 a, .int .i64 0, .int .i64 c, .int .i64 d] 25)
      have HO : ∀ W W' : World, (Tup5.Box W (w.heap.size) 3 a 0 c d ∧ Below w.heap.size w W) → Below W.heap.size W W' → (Tup5.Box W' (w.heap.size) 3 a 0 c d ∧ Below w.heap.size w W') := fun W W' ⟨h0, hb⟩ h => ⟨h0.later h, hb.trans (h.mono hb.size)⟩
      have hz0_ : Hid (((w.alloc (Obj.cells #[.int .i64 3, .int .i64 a, .int .i64 0, .int .i64 c, .int .i64 d] 25))).heap.size = w.heap.size + 1) := Lib.hid (by simp)
      generalize (w.alloc (Obj.cells #[.int .i64 3, .int .i64 a, .int .i64 0, .int .i64 c, .int .i64 d] 25)) = w0 at X0 b0 hz0_ ⊢
      have S0 := (⟨X0, b0⟩ : Tup5.Box w0 (w.heap.size) 3 a 0 c d ∧ Below w.heap.size w w0)
      clear X0 b0
      obtain ⟨⟨_, _, _, _, _⟩, _⟩ := id S0
      refine Settle.region (fun W => Tup5.Box W (w.heap.size) 3 a 0 c d ∧ Below w.heap.size w W) (by kernel_rfl) (by kernel_rfl) (by kernel_rfl) (by kernel_rfl) (HO _ _ S0 ((Below.refl _ _).drew)) ?_
      clear S0
      repeat (first
        | (refine Settle.Settles.off (by rfl) ?_; simp only [Act.put, List.setIfInBounds_toArray, List.set_cons_zero, List.set_cons_succ])
        | (refine Settle.Settles.quiet (v := ?_) (by rfl) ?_ ?_
           rotate_left
           · (intro W hS; obtain ⟨⟨_, _, _, _, _⟩, _⟩ := hS; go_simp; with_reducible rfl)
           simp only [Act.put, List.setIfInBounds_toArray, List.set_cons_zero, List.set_cons_succ])
        | (refine Settle.Settles.call (v := ?_) (f := ?_) (args := ?_) (by rfl) ?_ ?_ ?_
           rotate_left 3
           · (intro W; go_simp; refine ⟨?_, ?_⟩ <;> with_reducible rfl)
           · (intro W hS; first | (go_at_call 65; (with_reducible refine (QO.out _).mono ?_); rintro e W1 ⟨rfl, rfl⟩; refine ⟨?_, hS⟩; with_reducible rfl) | (go_at_call 65; (with_reducible refine (QH.out _).mono ?_); rintro e W1 ⟨rfl, rfl⟩; refine ⟨?_, hS⟩; with_reducible rfl))
           simp only [Act.put, List.setIfInBounds_toArray, List.set_cons_zero, List.set_cons_succ]))
      refine Settle.Settles.nil ?_
      intro wr S0
      obtain ⟨⟨_, _, _, _, _⟩, _⟩ := id S0
      go_wp2_with fail
      go_ret
      exact ⟨ret_bool E.out.symm, S0.2⟩
    subst zc
    rw [show decide ((0 : Int) = 0) = true from rfl] at HE
    by_cases zd : d = 0
    rotate_left
    · have zdb : (d == 0) = false := by simpa using zd
      rw [decide_eq_false zd] at HE
      have QO := Lib.hid fun w => DutyImpl.isUpTo a 5 w
      have QH := Lib.hid fun w => DutyImpl.isUpTo 0 6 w
      obtain ⟨vo, ho⟩ : ∃ v, decide ((0 : Int) ≤ a ∧ a ≤ 5) = v := ⟨_, rfl⟩
      obtain ⟨vh, hh⟩ : ∃ v, decide ((0 : Int) ≤ (0 : Int) ∧ (0 : Int) ≤ 6) = v := ⟨_, rfl⟩
      rw [ho] at QO
      rw [hh] at QH
      clear ho hh
      by_cases q1 : 1 ≤ a
      rotate_left
      · have q1b : a < 1 := by omega
        rw [show decide (1 ≤ a ∧ a ≤ 1000) = false from decide_eq_false (by omega)] at HE
        have E : Hid (r = false) := Lib.hid (by rw [HE.out]; simp)
        clear HE
        go_enter Try.func14, Try.ntmps14
        go_wp2_with fail
        have X0 := Tup5.box1 w 3 a 0 0 d 25 (k := w.heap.size) (by simp)
        have b0 := PointOk.below1 w (Obj.cells #[.int .i64 3, .int .i64 a, .int .i64 0, .int .i64 0, .int .i64 d] 25)
        have HO : ∀ W W' : World, (Tup5.Box W (w.heap.size) 3 a 0 0 d ∧ Below w.heap.size w W) → Below W.heap.size W W' → (Tup5.Box W' (w.heap.size) 3 a 0 0 d ∧ Below w.heap.size w W') := fun W W' ⟨h0, hb⟩ h => ⟨h0.later h, hb.trans (h.mono hb.size)⟩
        have hz0_ : Hid (((w.alloc (Obj.cells #[.int .i64 3, .int .i64 a, .int .i64 0, .int .i64 0, .int .i64 d] 25))).heap.size = w.heap.size + 1) := Lib.hid (by simp)
        generalize (w.alloc (Obj.cells #[.int .i64 3, .int .i64 a, .int .i64 0, .int .i64 0, .int .i64 d] 25)) = w0 at X0 b0 hz0_ ⊢
        have S0 := (⟨X0, b0⟩ : Tup5.Box w0 (w.heap.size) 3 a 0 0 d ∧ Below w.heap.size w w0)
        clear X0 b0
        obtain ⟨⟨_, _, _, _, _⟩, _⟩ := id S0
        refine Settle.region (fun W => Tup5.Box W (w.heap.size) 3 a 0 0 d ∧ Below w.heap.size w W) (by kernel_rfl) (by kernel_rfl) (by kernel_rfl) (by kernel_rfl) (HO _ _ S0 ((Below.refl _ _).drew)) ?_
        clear S0
        repeat (first
          | (refine Settle.Settles.off (by rfl) ?_; simp only [Act.put, List.setIfInBounds_toArray, List.set_cons_zero, List.set_cons_succ])
          | (refine Settle.Settles.quiet (v := ?_) (by rfl) ?_ ?_
             rotate_left
             · (intro W hS; obtain ⟨⟨_, _, _, _, _⟩, _⟩ := hS; go_simp; with_reducible rfl)
             simp only [Act.put, List.setIfInBounds_toArray, List.set_cons_zero, List.set_cons_succ])
          | (refine Settle.Settles.call (v := ?_) (f := ?_) (args := ?_) (by rfl) ?_ ?_ ?_
             rotate_left 3
             · (intro W; go_simp; refine ⟨?_, ?_⟩ <;> with_reducible rfl)
             · (intro W hS; first | (go_at_call 65; (with_reducible refine (QO.out _).mono ?_); rintro e W1 ⟨rfl, rfl⟩; refine ⟨?_, hS⟩; with_reducible rfl) | (go_at_call 65; (with_reducible refine (QH.out _).mono ?_); rintro e W1 ⟨rfl, rfl⟩; refine ⟨?_, hS⟩; with_reducible rfl))
             simp only [Act.put, List.setIfInBounds_toArray, List.set_cons_zero, List.set_cons_succ]))
        refine Settle.Settles.nil ?_
        intro wr S0
        obtain ⟨⟨_, _, _, _, _⟩, _⟩ := id S0
        go_wp2_with fail
        go_ret
        exact ⟨ret_bool E.out.symm, S0.2⟩
      by_cases q2 : a ≤ 1000
      rotate_left
      · have q2b : 1000 < a := by omega
        rw [show decide (1 ≤ a ∧ a ≤ 1000) = false from decide_eq_false (by omega)] at HE
        have E : Hid (r = false) := Lib.hid (by rw [HE.out]; simp)
        clear HE
        go_enter Try.func14, Try.ntmps14
        go_wp2_with fail
        have X0 := Tup5.box1 w 3 a 0 0 d 25 (k := w.heap.size) (by simp)
        have b0 := PointOk.below1 w (Obj.cells #[.int .i64 3, .int .i64 a, .int .i64 0, .int .i64 0, .int .i64 d] 25)
        have HO : ∀ W W' : World, (Tup5.Box W (w.heap.size) 3 a 0 0 d ∧ Below w.heap.size w W) → Below W.heap.size W W' → (Tup5.Box W' (w.heap.size) 3 a 0 0 d ∧ Below w.heap.size w W') := fun W W' ⟨h0, hb⟩ h => ⟨h0.later h, hb.trans (h.mono hb.size)⟩
        have hz0_ : Hid (((w.alloc (Obj.cells #[.int .i64 3, .int .i64 a, .int .i64 0, .int .i64 0, .int .i64 d] 25))).heap.size = w.heap.size + 1) := Lib.hid (by simp)
        generalize (w.alloc (Obj.cells #[.int .i64 3, .int .i64 a, .int .i64 0, .int .i64 0, .int .i64 d] 25)) = w0 at X0 b0 hz0_ ⊢
        have S0 := (⟨X0, b0⟩ : Tup5.Box w0 (w.heap.size) 3 a 0 0 d ∧ Below w.heap.size w w0)
        clear X0 b0
        obtain ⟨⟨_, _, _, _, _⟩, _⟩ := id S0
        refine Settle.region (fun W => Tup5.Box W (w.heap.size) 3 a 0 0 d ∧ Below w.heap.size w W) (by kernel_rfl) (by kernel_rfl) (by kernel_rfl) (by kernel_rfl) (HO _ _ S0 ((Below.refl _ _).drew)) ?_
        clear S0
        repeat (first
          | (refine Settle.Settles.off (by rfl) ?_; simp only [Act.put, List.setIfInBounds_toArray, List.set_cons_zero, List.set_cons_succ])
          | (refine Settle.Settles.quiet (v := ?_) (by rfl) ?_ ?_
             rotate_left
             · (intro W hS; obtain ⟨⟨_, _, _, _, _⟩, _⟩ := hS; go_simp; with_reducible rfl)
             simp only [Act.put, List.setIfInBounds_toArray, List.set_cons_zero, List.set_cons_succ])
          | (refine Settle.Settles.call (v := ?_) (f := ?_) (args := ?_) (by rfl) ?_ ?_ ?_
             rotate_left 3
             · (intro W; go_simp; refine ⟨?_, ?_⟩ <;> with_reducible rfl)
             · (intro W hS; first | (go_at_call 65; (with_reducible refine (QO.out _).mono ?_); rintro e W1 ⟨rfl, rfl⟩; refine ⟨?_, hS⟩; with_reducible rfl) | (go_at_call 65; (with_reducible refine (QH.out _).mono ?_); rintro e W1 ⟨rfl, rfl⟩; refine ⟨?_, hS⟩; with_reducible rfl))
             simp only [Act.put, List.setIfInBounds_toArray, List.set_cons_zero, List.set_cons_succ]))
        refine Settle.Settles.nil ?_
        intro wr S0
        obtain ⟨⟨_, _, _, _, _⟩, _⟩ := id S0
        go_wp2_with fail
        go_ret
        exact ⟨ret_bool E.out.symm, S0.2⟩
      rw [show decide (1 ≤ a ∧ a ≤ 1000) = true from decide_eq_true ⟨q1, q2⟩] at HE
      have E : Hid (r = false) := Lib.hid (by rw [HE.out]; simp)
      clear HE
      go_enter Try.func14, Try.ntmps14
      go_wp2_with fail
      have X0 := Tup5.box1 w 3 a 0 0 d 25 (k := w.heap.size) (by simp)
      have b0 := PointOk.below1 w (Obj.cells #[.int .i64 3, .int .i64 a, .int .i64 0, .int .i64 0, .int .i64 d] 25)
      have HO : ∀ W W' : World, (Tup5.Box W (w.heap.size) 3 a 0 0 d ∧ Below w.heap.size w W) → Below W.heap.size W W' → (Tup5.Box W' (w.heap.size) 3 a 0 0 d ∧ Below w.heap.size w W') := fun W W' ⟨h0, hb⟩ h => ⟨h0.later h, hb.trans (h.mono hb.size)⟩
      have hz0_ : Hid (((w.alloc (Obj.cells #[.int .i64 3, .int .i64 a, .int .i64 0, .int .i64 0, .int .i64 d] 25))).heap.size = w.heap.size + 1) := Lib.hid (by simp)
      generalize (w.alloc (Obj.cells #[.int .i64 3, .int .i64 a, .int .i64 0, .int .i64 0, .int .i64 d] 25)) = w0 at X0 b0 hz0_ ⊢
      have S0 := (⟨X0, b0⟩ : Tup5.Box w0 (w.heap.size) 3 a 0 0 d ∧ Below w.heap.size w w0)
      clear X0 b0
      obtain ⟨⟨_, _, _, _, _⟩, _⟩ := id S0
      refine Settle.region (fun W => Tup5.Box W (w.heap.size) 3 a 0 0 d ∧ Below w.heap.size w W) (by kernel_rfl) (by kernel_rfl) (by kernel_rfl) (by kernel_rfl) (HO _ _ S0 ((Below.refl _ _).drew)) ?_
      clear S0
      repeat (first
        | (refine Settle.Settles.off (by rfl) ?_; simp only [Act.put, List.setIfInBounds_toArray, List.set_cons_zero, List.set_cons_succ])
        | (refine Settle.Settles.quiet (v := ?_) (by rfl) ?_ ?_
           rotate_left
           · (intro W hS; obtain ⟨⟨_, _, _, _, _⟩, _⟩ := hS; go_simp; with_reducible rfl)
           simp only [Act.put, List.setIfInBounds_toArray, List.set_cons_zero, List.set_cons_succ])
        | (refine Settle.Settles.call (v := ?_) (f := ?_) (args := ?_) (by rfl) ?_ ?_ ?_
           rotate_left 3
           · (intro W; go_simp; refine ⟨?_, ?_⟩ <;> with_reducible rfl)
           · (intro W hS; first | (go_at_call 65; (with_reducible refine (QO.out _).mono ?_); rintro e W1 ⟨rfl, rfl⟩; refine ⟨?_, hS⟩; with_reducible rfl) | (go_at_call 65; (with_reducible refine (QH.out _).mono ?_); rintro e W1 ⟨rfl, rfl⟩; refine ⟨?_, hS⟩; with_reducible rfl))
           simp only [Act.put, List.setIfInBounds_toArray, List.set_cons_zero, List.set_cons_succ]))
      refine Settle.Settles.nil ?_
      intro wr S0
      obtain ⟨⟨_, _, _, _, _⟩, _⟩ := id S0
      go_wp2_with fail
      go_ret
      exact ⟨ret_bool E.out.symm, S0.2⟩
    subst zd
    rw [show decide ((0 : Int) = 0) = true from rfl] at HE
    have QO := Lib.hid fun w => DutyImpl.isUpTo a 5 w
    have QH := Lib.hid fun w => DutyImpl.isUpTo 0 6 w
    obtain ⟨vo, ho⟩ : ∃ v, decide ((0 : Int) ≤ a ∧ a ≤ 5) = v := ⟨_, rfl⟩
    obtain ⟨vh, hh⟩ : ∃ v, decide ((0 : Int) ≤ (0 : Int) ∧ (0 : Int) ≤ 6) = v := ⟨_, rfl⟩
    rw [ho] at QO
    rw [hh] at QH
    clear ho hh
    by_cases q1 : 1 ≤ a
    rotate_left
    · have q1b : a < 1 := by omega
      rw [show decide (1 ≤ a ∧ a ≤ 1000) = false from decide_eq_false (by omega)] at HE
      have E : Hid (r = false) := Lib.hid (by rw [HE.out]; simp)
      clear HE
      go_enter Try.func14, Try.ntmps14
      go_wp2_with fail
      have X0 := Tup5.box1 w 3 a 0 0 0 25 (k := w.heap.size) (by simp)
      have b0 := PointOk.below1 w (Obj.cells #[.int .i64 3, .int .i64 a, .int .i64 0, .int .i64 0, .int .i64 0] 25)
      have HO : ∀ W W' : World, (Tup5.Box W (w.heap.size) 3 a 0 0 0 ∧ Below w.heap.size w W) → Below W.heap.size W W' → (Tup5.Box W' (w.heap.size) 3 a 0 0 0 ∧ Below w.heap.size w W') := fun W W' ⟨h0, hb⟩ h => ⟨h0.later h, hb.trans (h.mono hb.size)⟩
      have hz0_ : Hid (((w.alloc (Obj.cells #[.int .i64 3, .int .i64 a, .int .i64 0, .int .i64 0, .int .i64 0] 25))).heap.size = w.heap.size + 1) := Lib.hid (by simp)
      generalize (w.alloc (Obj.cells #[.int .i64 3, .int .i64 a, .int .i64 0, .int .i64 0, .int .i64 0] 25)) = w0 at X0 b0 hz0_ ⊢
      have S0 := (⟨X0, b0⟩ : Tup5.Box w0 (w.heap.size) 3 a 0 0 0 ∧ Below w.heap.size w w0)
      clear X0 b0
      obtain ⟨⟨_, _, _, _, _⟩, _⟩ := id S0
      refine Settle.region (fun W => Tup5.Box W (w.heap.size) 3 a 0 0 0 ∧ Below w.heap.size w W) (by kernel_rfl) (by kernel_rfl) (by kernel_rfl) (by kernel_rfl) (HO _ _ S0 ((Below.refl _ _).drew)) ?_
      clear S0
      repeat (first
        | (refine Settle.Settles.off (by rfl) ?_; simp only [Act.put, List.setIfInBounds_toArray, List.set_cons_zero, List.set_cons_succ])
        | (refine Settle.Settles.quiet (v := ?_) (by rfl) ?_ ?_
           rotate_left
           · (intro W hS; obtain ⟨⟨_, _, _, _, _⟩, _⟩ := hS; go_simp; with_reducible rfl)
           simp only [Act.put, List.setIfInBounds_toArray, List.set_cons_zero, List.set_cons_succ])
        | (refine Settle.Settles.call (v := ?_) (f := ?_) (args := ?_) (by rfl) ?_ ?_ ?_
           rotate_left 3
           · (intro W; go_simp; refine ⟨?_, ?_⟩ <;> with_reducible rfl)
           · (intro W hS; first | (go_at_call 65; (with_reducible refine (QO.out _).mono ?_); rintro e W1 ⟨rfl, rfl⟩; refine ⟨?_, hS⟩; with_reducible rfl) | (go_at_call 65; (with_reducible refine (QH.out _).mono ?_); rintro e W1 ⟨rfl, rfl⟩; refine ⟨?_, hS⟩; with_reducible rfl))
           simp only [Act.put, List.setIfInBounds_toArray, List.set_cons_zero, List.set_cons_succ]))
      refine Settle.Settles.nil ?_
      intro wr S0
      obtain ⟨⟨_, _, _, _, _⟩, _⟩ := id S0
      go_wp2_with fail
      go_ret
      exact ⟨ret_bool E.out.symm, S0.2⟩
    by_cases q2 : a ≤ 1000
    rotate_left
    · have q2b : 1000 < a := by omega
      rw [show decide (1 ≤ a ∧ a ≤ 1000) = false from decide_eq_false (by omega)] at HE
      have E : Hid (r = false) := Lib.hid (by rw [HE.out]; simp)
      clear HE
      go_enter Try.func14, Try.ntmps14
      go_wp2_with fail
      have X0 := Tup5.box1 w 3 a 0 0 0 25 (k := w.heap.size) (by simp)
      have b0 := PointOk.below1 w (Obj.cells #[.int .i64 3, .int .i64 a, .int .i64 0, .int .i64 0, .int .i64 0] 25)
      have HO : ∀ W W' : World, (Tup5.Box W (w.heap.size) 3 a 0 0 0 ∧ Below w.heap.size w W) → Below W.heap.size W W' → (Tup5.Box W' (w.heap.size) 3 a 0 0 0 ∧ Below w.heap.size w W') := fun W W' ⟨h0, hb⟩ h => ⟨h0.later h, hb.trans (h.mono hb.size)⟩
      have hz0_ : Hid (((w.alloc (Obj.cells #[.int .i64 3, .int .i64 a, .int .i64 0, .int .i64 0, .int .i64 0] 25))).heap.size = w.heap.size + 1) := Lib.hid (by simp)
      generalize (w.alloc (Obj.cells #[.int .i64 3, .int .i64 a, .int .i64 0, .int .i64 0, .int .i64 0] 25)) = w0 at X0 b0 hz0_ ⊢
      have S0 := (⟨X0, b0⟩ : Tup5.Box w0 (w.heap.size) 3 a 0 0 0 ∧ Below w.heap.size w w0)
      clear X0 b0
      obtain ⟨⟨_, _, _, _, _⟩, _⟩ := id S0
      refine Settle.region (fun W => Tup5.Box W (w.heap.size) 3 a 0 0 0 ∧ Below w.heap.size w W) (by kernel_rfl) (by kernel_rfl) (by kernel_rfl) (by kernel_rfl) (HO _ _ S0 ((Below.refl _ _).drew)) ?_
      clear S0
      repeat (first
        | (refine Settle.Settles.off (by rfl) ?_; simp only [Act.put, List.setIfInBounds_toArray, List.set_cons_zero, List.set_cons_succ])
        | (refine Settle.Settles.quiet (v := ?_) (by rfl) ?_ ?_
           rotate_left
           · (intro W hS; obtain ⟨⟨_, _, _, _, _⟩, _⟩ := hS; go_simp; with_reducible rfl)
           simp only [Act.put, List.setIfInBounds_toArray, List.set_cons_zero, List.set_cons_succ])
        | (refine Settle.Settles.call (v := ?_) (f := ?_) (args := ?_) (by rfl) ?_ ?_ ?_
           rotate_left 3
           · (intro W; go_simp; refine ⟨?_, ?_⟩ <;> with_reducible rfl)
           · (intro W hS; first | (go_at_call 65; (with_reducible refine (QO.out _).mono ?_); rintro e W1 ⟨rfl, rfl⟩; refine ⟨?_, hS⟩; with_reducible rfl) | (go_at_call 65; (with_reducible refine (QH.out _).mono ?_); rintro e W1 ⟨rfl, rfl⟩; refine ⟨?_, hS⟩; with_reducible rfl))
           simp only [Act.put, List.setIfInBounds_toArray, List.set_cons_zero, List.set_cons_succ]))
      refine Settle.Settles.nil ?_
      intro wr S0
      obtain ⟨⟨_, _, _, _, _⟩, _⟩ := id S0
      go_wp2_with fail
      go_ret
      exact ⟨ret_bool E.out.symm, S0.2⟩
    rw [show decide (1 ≤ a ∧ a ≤ 1000) = true from decide_eq_true ⟨q1, q2⟩] at HE
    have E : Hid (r = true) := Lib.hid (by rw [HE.out]; simp)
    clear HE
    go_enter Try.func14, Try.ntmps14
    go_wp2_with fail
    have X0 := Tup5.box1 w 3 a 0 0 0 25 (k := w.heap.size) (by simp)
    have b0 := PointOk.below1 w (Obj.cells #[.int .i64 3, .int .i64 a, .int .i64 0, .int .i64 0, .int .i64 0] 25)
    have HO : ∀ W W' : World, (Tup5.Box W (w.heap.size) 3 a 0 0 0 ∧ Below w.heap.size w W) → Below W.heap.size W W' → (Tup5.Box W' (w.heap.size) 3 a 0 0 0 ∧ Below w.heap.size w W') := fun W W' ⟨h0, hb⟩ h => ⟨h0.later h, hb.trans (h.mono hb.size)⟩
    have hz0_ : Hid (((w.alloc (Obj.cells #[.int .i64 3, .int .i64 a, .int .i64 0, .int .i64 0, .int .i64 0] 25))).heap.size = w.heap.size + 1) := Lib.hid (by simp)
    generalize (w.alloc (Obj.cells #[.int .i64 3, .int .i64 a, .int .i64 0, .int .i64 0, .int .i64 0] 25)) = w0 at X0 b0 hz0_ ⊢
    have S0 := (⟨X0, b0⟩ : Tup5.Box w0 (w.heap.size) 3 a 0 0 0 ∧ Below w.heap.size w w0)
    clear X0 b0
    obtain ⟨⟨_, _, _, _, _⟩, _⟩ := id S0
    refine Settle.region (fun W => Tup5.Box W (w.heap.size) 3 a 0 0 0 ∧ Below w.heap.size w W) (by kernel_rfl) (by kernel_rfl) (by kernel_rfl) (by kernel_rfl) (HO _ _ S0 ((Below.refl _ _).drew)) ?_
    clear S0
    repeat (first
      | (refine Settle.Settles.off (by rfl) ?_; simp only [Act.put, List.setIfInBounds_toArray, List.set_cons_zero, List.set_cons_succ])
      | (refine Settle.Settles.quiet (v := ?_) (by rfl) ?_ ?_
         rotate_left
         · (intro W hS; obtain ⟨⟨_, _, _, _, _⟩, _⟩ := hS; go_simp; with_reducible rfl)
         simp only [Act.put, List.setIfInBounds_toArray, List.set_cons_zero, List.set_cons_succ])
      | (refine Settle.Settles.call (v := ?_) (f := ?_) (args := ?_) (by rfl) ?_ ?_ ?_
         rotate_left 3
         · (intro W; go_simp; refine ⟨?_, ?_⟩ <;> with_reducible rfl)
         · (intro W hS; first | (go_at_call 65; (with_reducible refine (QO.out _).mono ?_); rintro e W1 ⟨rfl, rfl⟩; refine ⟨?_, hS⟩; with_reducible rfl) | (go_at_call 65; (with_reducible refine (QH.out _).mono ?_); rintro e W1 ⟨rfl, rfl⟩; refine ⟨?_, hS⟩; with_reducible rfl))
         simp only [Act.put, List.setIfInBounds_toArray, List.set_cons_zero, List.set_cons_succ]))
    refine Settle.Settles.nil ?_
    intro wr S0
    obtain ⟨⟨_, _, _, _, _⟩, _⟩ := id S0
    go_wp2_with fail
    go_ret
    exact ⟨ret_bool E.out.symm, S0.2⟩
  by_cases hk4 : k = 4
  · subst hk4
    have HE : Hid (r = (decide (a = 0) && decide (b = 0) && decide (c = 0) && decide (d = 0))) := Lib.hid (by rw [← HR.out, act4])
    clear HR
    by_cases za : a = 0
    rotate_left
    · have zab : (a == 0) = false := by simpa using za
      rw [decide_eq_false za] at HE
      have QO := Lib.hid fun w => DutyImpl.isUpTo a 5 w
      have QH := Lib.hid fun w => DutyImpl.isUpTo b 6 w
      obtain ⟨vo, ho⟩ : ∃ v, decide ((0 : Int) ≤ a ∧ a ≤ 5) = v := ⟨_, rfl⟩
      obtain ⟨vh, hh⟩ : ∃ v, decide ((0 : Int) ≤ b ∧ b ≤ 6) = v := ⟨_, rfl⟩
      rw [ho] at QO
      rw [hh] at QH
      clear ho hh
      have E : Hid (r = false) := Lib.hid (by rw [HE.out]; simp)
      clear HE
      go_enter Try.func14, Try.ntmps14
      go_wp2_with fail
      have X0 := Tup5.box1 w 4 a b c d 25 (k := w.heap.size) (by simp)
      have b0 := PointOk.below1 w (Obj.cells #[.int .i64 4, .int .i64 a, .int .i64 b, .int .i64 c, .int .i64 d] 25)
      have HO : ∀ W W' : World, (Tup5.Box W (w.heap.size) 4 a b c d ∧ Below w.heap.size w W) → Below W.heap.size W W' → (Tup5.Box W' (w.heap.size) 4 a b c d ∧ Below w.heap.size w W') := fun W W' ⟨h0, hb⟩ h => ⟨h0.later h, hb.trans (h.mono hb.size)⟩
      have hz0_ : Hid (((w.alloc (Obj.cells #[.int .i64 4, .int .i64 a, .int .i64 b, .int .i64 c, .int .i64 d] 25))).heap.size = w.heap.size + 1) := Lib.hid (by simp)
      generalize (w.alloc (Obj.cells #[.int .i64 4, .int .i64 a, .int .i64 b, .int .i64 c, .int .i64 d] 25)) = w0 at X0 b0 hz0_ ⊢
      have S0 := (⟨X0, b0⟩ : Tup5.Box w0 (w.heap.size) 4 a b c d ∧ Below w.heap.size w w0)
      clear X0 b0
      obtain ⟨⟨_, _, _, _, _⟩, _⟩ := id S0
      refine Settle.region (fun W => Tup5.Box W (w.heap.size) 4 a b c d ∧ Below w.heap.size w W) (by kernel_rfl) (by kernel_rfl) (by kernel_rfl) (by kernel_rfl) (HO _ _ S0 ((Below.refl _ _).drew)) ?_
      clear S0
      repeat (first
        | (refine Settle.Settles.off (by rfl) ?_; simp only [Act.put, List.setIfInBounds_toArray, List.set_cons_zero, List.set_cons_succ])
        | (refine Settle.Settles.quiet (v := ?_) (by rfl) ?_ ?_
           rotate_left
           · (intro W hS; obtain ⟨⟨_, _, _, _, _⟩, _⟩ := hS; go_simp; with_reducible rfl)
           simp only [Act.put, List.setIfInBounds_toArray, List.set_cons_zero, List.set_cons_succ])
        | (refine Settle.Settles.call (v := ?_) (f := ?_) (args := ?_) (by rfl) ?_ ?_ ?_
           rotate_left 3
           · (intro W; go_simp; refine ⟨?_, ?_⟩ <;> with_reducible rfl)
           · (intro W hS; first | (go_at_call 65; (with_reducible refine (QO.out _).mono ?_); rintro e W1 ⟨rfl, rfl⟩; refine ⟨?_, hS⟩; with_reducible rfl) | (go_at_call 65; (with_reducible refine (QH.out _).mono ?_); rintro e W1 ⟨rfl, rfl⟩; refine ⟨?_, hS⟩; with_reducible rfl))
           simp only [Act.put, List.setIfInBounds_toArray, List.set_cons_zero, List.set_cons_succ]))
      refine Settle.Settles.nil ?_
      intro wr S0
      obtain ⟨⟨_, _, _, _, _⟩, _⟩ := id S0
      go_wp2_with fail
      go_ret
      exact ⟨ret_bool E.out.symm, S0.2⟩
    subst za
    rw [show decide ((0 : Int) = 0) = true from rfl] at HE
    by_cases zb : b = 0
    rotate_left
    · have zbb : (b == 0) = false := by simpa using zb
      rw [decide_eq_false zb] at HE
      have QO := Lib.hid fun w => DutyImpl.isUpTo 0 5 w
      have QH := Lib.hid fun w => DutyImpl.isUpTo b 6 w
      obtain ⟨vo, ho⟩ : ∃ v, decide ((0 : Int) ≤ (0 : Int) ∧ (0 : Int) ≤ 5) = v := ⟨_, rfl⟩
      obtain ⟨vh, hh⟩ : ∃ v, decide ((0 : Int) ≤ b ∧ b ≤ 6) = v := ⟨_, rfl⟩
      rw [ho] at QO
      rw [hh] at QH
      clear ho hh
      have E : Hid (r = false) := Lib.hid (by rw [HE.out]; simp)
      clear HE
      go_enter Try.func14, Try.ntmps14
      go_wp2_with fail
      have X0 := Tup5.box1 w 4 0 b c d 25 (k := w.heap.size) (by simp)
      have b0 := PointOk.below1 w (Obj.cells #[.int .i64 4, .int .i64 0, .int .i64 b, .int .i64 c, .int .i64 d] 25)
      have HO : ∀ W W' : World, (Tup5.Box W (w.heap.size) 4 0 b c d ∧ Below w.heap.size w W) → Below W.heap.size W W' → (Tup5.Box W' (w.heap.size) 4 0 b c d ∧ Below w.heap.size w W') := fun W W' ⟨h0, hb⟩ h => ⟨h0.later h, hb.trans (h.mono hb.size)⟩
      have hz0_ : Hid (((w.alloc (Obj.cells #[.int .i64 4, .int .i64 0, .int .i64 b, .int .i64 c, .int .i64 d] 25))).heap.size = w.heap.size + 1) := Lib.hid (by simp)
      generalize (w.alloc (Obj.cells #[.int .i64 4, .int .i64 0, .int .i64 b, .int .i64 c, .int .i64 d] 25)) = w0 at X0 b0 hz0_ ⊢
      have S0 := (⟨X0, b0⟩ : Tup5.Box w0 (w.heap.size) 4 0 b c d ∧ Below w.heap.size w w0)
      clear X0 b0
      obtain ⟨⟨_, _, _, _, _⟩, _⟩ := id S0
      refine Settle.region (fun W => Tup5.Box W (w.heap.size) 4 0 b c d ∧ Below w.heap.size w W) (by kernel_rfl) (by kernel_rfl) (by kernel_rfl) (by kernel_rfl) (HO _ _ S0 ((Below.refl _ _).drew)) ?_
      clear S0
      repeat (first
        | (refine Settle.Settles.off (by rfl) ?_; simp only [Act.put, List.setIfInBounds_toArray, List.set_cons_zero, List.set_cons_succ])
        | (refine Settle.Settles.quiet (v := ?_) (by rfl) ?_ ?_
           rotate_left
           · (intro W hS; obtain ⟨⟨_, _, _, _, _⟩, _⟩ := hS; go_simp; with_reducible rfl)
           simp only [Act.put, List.setIfInBounds_toArray, List.set_cons_zero, List.set_cons_succ])
        | (refine Settle.Settles.call (v := ?_) (f := ?_) (args := ?_) (by rfl) ?_ ?_ ?_
           rotate_left 3
           · (intro W; go_simp; refine ⟨?_, ?_⟩ <;> with_reducible rfl)
           · (intro W hS; first | (go_at_call 65; (with_reducible refine (QO.out _).mono ?_); rintro e W1 ⟨rfl, rfl⟩; refine ⟨?_, hS⟩; with_reducible rfl) | (go_at_call 65; (with_reducible refine (QH.out _).mono ?_); rintro e W1 ⟨rfl, rfl⟩; refine ⟨?_, hS⟩; with_reducible rfl))
           simp only [Act.put, List.setIfInBounds_toArray, List.set_cons_zero, List.set_cons_succ]))
      refine Settle.Settles.nil ?_
      intro wr S0
      obtain ⟨⟨_, _, _, _, _⟩, _⟩ := id S0
      go_wp2_with fail
      go_ret
      exact ⟨ret_bool E.out.symm, S0.2⟩
    subst zb
    rw [show decide ((0 : Int) = 0) = true from rfl] at HE
    by_cases zc : c = 0
    rotate_left
    · have zcb : (c == 0) = false := by simpa using zc
      rw [decide_eq_false zc] at HE
      have QO := Lib.hid fun w => DutyImpl.isUpTo 0 5 w
      have QH := Lib.hid fun w => DutyImpl.isUpTo 0 6 w
      obtain ⟨vo, ho⟩ : ∃ v, decide ((0 : Int) ≤ (0 : Int) ∧ (0 : Int) ≤ 5) = v := ⟨_, rfl⟩
      obtain ⟨vh, hh⟩ : ∃ v, decide ((0 : Int) ≤ (0 : Int) ∧ (0 : Int) ≤ 6) = v := ⟨_, rfl⟩
      rw [ho] at QO
      rw [hh] at QH
      clear ho hh
      have E : Hid (r = false) := Lib.hid (by rw [HE.out]; simp)
      clear HE
      go_enter Try.func14, Try.ntmps14
      go_wp2_with fail
      have X0 := Tup5.box1 w 4 0 0 c d 25 (k := w.heap.size) (by simp)
      have b0 := PointOk.below1 w (Obj.cells #[.int .i64 4, .int .i64 0, .int .i64 0, .int .i64 c, .int .i64 d] 25)
      have HO : ∀ W W' : World, (Tup5.Box W (w.heap.size) 4 0 0 c d ∧ Below w.heap.size w W) → Below W.heap.size W W' → (Tup5.Box W' (w.heap.size) 4 0 0 c d ∧ Below w.heap.size w W') := fun W W' ⟨h0, hb⟩ h => ⟨h0.later h, hb.trans (h.mono hb.size)⟩
      have hz0_ : Hid (((w.alloc (Obj.cells #[.int .i64 4, .int .i64 0, .int .i64 0, .int .i64 c, .int .i64 d] 25))).heap.size = w.heap.size + 1) := Lib.hid (by simp)
      generalize (w.alloc (Obj.cells #[.int .i64 4, .int .i64 0, .int .i64 0, .int .i64 c, .int .i64 d] 25)) = w0 at X0 b0 hz0_ ⊢
      have S0 := (⟨X0, b0⟩ : Tup5.Box w0 (w.heap.size) 4 0 0 c d ∧ Below w.heap.size w w0)
      clear X0 b0
      obtain ⟨⟨_, _, _, _, _⟩, _⟩ := id S0
      refine Settle.region (fun W => Tup5.Box W (w.heap.size) 4 0 0 c d ∧ Below w.heap.size w W) (by kernel_rfl) (by kernel_rfl) (by kernel_rfl) (by kernel_rfl) (HO _ _ S0 ((Below.refl _ _).drew)) ?_
      clear S0
      repeat (first
        | (refine Settle.Settles.off (by rfl) ?_; simp only [Act.put, List.setIfInBounds_toArray, List.set_cons_zero, List.set_cons_succ])
        | (refine Settle.Settles.quiet (v := ?_) (by rfl) ?_ ?_
           rotate_left
           · (intro W hS; obtain ⟨⟨_, _, _, _, _⟩, _⟩ := hS; go_simp; with_reducible rfl)
           simp only [Act.put, List.setIfInBounds_toArray, List.set_cons_zero, List.set_cons_succ])
        | (refine Settle.Settles.call (v := ?_) (f := ?_) (args := ?_) (by rfl) ?_ ?_ ?_
           rotate_left 3
           · (intro W; go_simp; refine ⟨?_, ?_⟩ <;> with_reducible rfl)
           · (intro W hS; first | (go_at_call 65; (with_reducible refine (QO.out _).mono ?_); rintro e W1 ⟨rfl, rfl⟩; refine ⟨?_, hS⟩; with_reducible rfl) | (go_at_call 65; (with_reducible refine (QH.out _).mono ?_); rintro e W1 ⟨rfl, rfl⟩; refine ⟨?_, hS⟩; with_reducible rfl))
           simp only [Act.put, List.setIfInBounds_toArray, List.set_cons_zero, List.set_cons_succ]))
      refine Settle.Settles.nil ?_
      intro wr S0
      obtain ⟨⟨_, _, _, _, _⟩, _⟩ := id S0
      go_wp2_with fail
      go_ret
      exact ⟨ret_bool E.out.symm, S0.2⟩
    subst zc
    rw [show decide ((0 : Int) = 0) = true from rfl] at HE
    by_cases zd : d = 0
    rotate_left
    · have zdb : (d == 0) = false := by simpa using zd
      rw [decide_eq_false zd] at HE
      have QO := Lib.hid fun w => DutyImpl.isUpTo 0 5 w
      have QH := Lib.hid fun w => DutyImpl.isUpTo 0 6 w
      obtain ⟨vo, ho⟩ : ∃ v, decide ((0 : Int) ≤ (0 : Int) ∧ (0 : Int) ≤ 5) = v := ⟨_, rfl⟩
      obtain ⟨vh, hh⟩ : ∃ v, decide ((0 : Int) ≤ (0 : Int) ∧ (0 : Int) ≤ 6) = v := ⟨_, rfl⟩
      rw [ho] at QO
      rw [hh] at QH
      clear ho hh
      have E : Hid (r = false) := Lib.hid (by rw [HE.out]; simp)
      clear HE
      go_enter Try.func14, Try.ntmps14
      go_wp2_with fail
      have X0 := Tup5.box1 w 4 0 0 0 d 25 (k := w.heap.size) (by simp)
      have b0 := PointOk.below1 w (Obj.cells #[.int .i64 4, .int .i64 0, .int .i64 0, .int .i64 0, .int .i64 d] 25)
      have HO : ∀ W W' : World, (Tup5.Box W (w.heap.size) 4 0 0 0 d ∧ Below w.heap.size w W) → Below W.heap.size W W' → (Tup5.Box W' (w.heap.size) 4 0 0 0 d ∧ Below w.heap.size w W') := fun W W' ⟨h0, hb⟩ h => ⟨h0.later h, hb.trans (h.mono hb.size)⟩
      have hz0_ : Hid (((w.alloc (Obj.cells #[.int .i64 4, .int .i64 0, .int .i64 0, .int .i64 0, .int .i64 d] 25))).heap.size = w.heap.size + 1) := Lib.hid (by simp)
      generalize (w.alloc (Obj.cells #[.int .i64 4, .int .i64 0, .int .i64 0, .int .i64 0, .int .i64 d] 25)) = w0 at X0 b0 hz0_ ⊢
      have S0 := (⟨X0, b0⟩ : Tup5.Box w0 (w.heap.size) 4 0 0 0 d ∧ Below w.heap.size w w0)
      clear X0 b0
      obtain ⟨⟨_, _, _, _, _⟩, _⟩ := id S0
      refine Settle.region (fun W => Tup5.Box W (w.heap.size) 4 0 0 0 d ∧ Below w.heap.size w W) (by kernel_rfl) (by kernel_rfl) (by kernel_rfl) (by kernel_rfl) (HO _ _ S0 ((Below.refl _ _).drew)) ?_
      clear S0
      repeat (first
        | (refine Settle.Settles.off (by rfl) ?_; simp only [Act.put, List.setIfInBounds_toArray, List.set_cons_zero, List.set_cons_succ])
        | (refine Settle.Settles.quiet (v := ?_) (by rfl) ?_ ?_
           rotate_left
           · (intro W hS; obtain ⟨⟨_, _, _, _, _⟩, _⟩ := hS; go_simp; with_reducible rfl)
           simp only [Act.put, List.setIfInBounds_toArray, List.set_cons_zero, List.set_cons_succ])
        | (refine Settle.Settles.call (v := ?_) (f := ?_) (args := ?_) (by rfl) ?_ ?_ ?_
           rotate_left 3
           · (intro W; go_simp; refine ⟨?_, ?_⟩ <;> with_reducible rfl)
           · (intro W hS; first | (go_at_call 65; (with_reducible refine (QO.out _).mono ?_); rintro e W1 ⟨rfl, rfl⟩; refine ⟨?_, hS⟩; with_reducible rfl) | (go_at_call 65; (with_reducible refine (QH.out _).mono ?_); rintro e W1 ⟨rfl, rfl⟩; refine ⟨?_, hS⟩; with_reducible rfl))
           simp only [Act.put, List.setIfInBounds_toArray, List.set_cons_zero, List.set_cons_succ]))
      refine Settle.Settles.nil ?_
      intro wr S0
      obtain ⟨⟨_, _, _, _, _⟩, _⟩ := id S0
      go_wp2_with fail
      go_ret
      exact ⟨ret_bool E.out.symm, S0.2⟩
    subst zd
    rw [show decide ((0 : Int) = 0) = true from rfl] at HE
    have QO := Lib.hid fun w => DutyImpl.isUpTo 0 5 w
    have QH := Lib.hid fun w => DutyImpl.isUpTo 0 6 w
    obtain ⟨vo, ho⟩ : ∃ v, decide ((0 : Int) ≤ (0 : Int) ∧ (0 : Int) ≤ 5) = v := ⟨_, rfl⟩
    obtain ⟨vh, hh⟩ : ∃ v, decide ((0 : Int) ≤ (0 : Int) ∧ (0 : Int) ≤ 6) = v := ⟨_, rfl⟩
    rw [ho] at QO
    rw [hh] at QH
    clear ho hh
    have E : Hid (r = true) := Lib.hid (by rw [HE.out]; simp)
    clear HE
    go_enter Try.func14, Try.ntmps14
    go_wp2_with fail
    have X0 := Tup5.box1 w 4 0 0 0 0 25 (k := w.heap.size) (by simp)
    have b0 := PointOk.below1 w (Obj.cells #[.int .i64 4, .int .i64 0, .int .i64 0, .int .i64 0, .int .i64 0] 25)
    have HO : ∀ W W' : World, (Tup5.Box W (w.heap.size) 4 0 0 0 0 ∧ Below w.heap.size w W) → Below W.heap.size W W' → (Tup5.Box W' (w.heap.size) 4 0 0 0 0 ∧ Below w.heap.size w W') := fun W W' ⟨h0, hb⟩ h => ⟨h0.later h, hb.trans (h.mono hb.size)⟩
    have hz0_ : Hid (((w.alloc (Obj.cells #[.int .i64 4, .int .i64 0, .int .i64 0, .int .i64 0, .int .i64 0] 25))).heap.size = w.heap.size + 1) := Lib.hid (by simp)
    generalize (w.alloc (Obj.cells #[.int .i64 4, .int .i64 0, .int .i64 0, .int .i64 0, .int .i64 0] 25)) = w0 at X0 b0 hz0_ ⊢
    have S0 := (⟨X0, b0⟩ : Tup5.Box w0 (w.heap.size) 4 0 0 0 0 ∧ Below w.heap.size w w0)
    clear X0 b0
    obtain ⟨⟨_, _, _, _, _⟩, _⟩ := id S0
    refine Settle.region (fun W => Tup5.Box W (w.heap.size) 4 0 0 0 0 ∧ Below w.heap.size w W) (by kernel_rfl) (by kernel_rfl) (by kernel_rfl) (by kernel_rfl) (HO _ _ S0 ((Below.refl _ _).drew)) ?_
    clear S0
    repeat (first
      | (refine Settle.Settles.off (by rfl) ?_; simp only [Act.put, List.setIfInBounds_toArray, List.set_cons_zero, List.set_cons_succ])
      | (refine Settle.Settles.quiet (v := ?_) (by rfl) ?_ ?_
         rotate_left
         · (intro W hS; obtain ⟨⟨_, _, _, _, _⟩, _⟩ := hS; go_simp; with_reducible rfl)
         simp only [Act.put, List.setIfInBounds_toArray, List.set_cons_zero, List.set_cons_succ])
      | (refine Settle.Settles.call (v := ?_) (f := ?_) (args := ?_) (by rfl) ?_ ?_ ?_
         rotate_left 3
         · (intro W; go_simp; refine ⟨?_, ?_⟩ <;> with_reducible rfl)
         · (intro W hS; first | (go_at_call 65; (with_reducible refine (QO.out _).mono ?_); rintro e W1 ⟨rfl, rfl⟩; refine ⟨?_, hS⟩; with_reducible rfl) | (go_at_call 65; (with_reducible refine (QH.out _).mono ?_); rintro e W1 ⟨rfl, rfl⟩; refine ⟨?_, hS⟩; with_reducible rfl))
         simp only [Act.put, List.setIfInBounds_toArray, List.set_cons_zero, List.set_cons_succ]))
    refine Settle.Settles.nil ?_
    intro wr S0
    obtain ⟨⟨_, _, _, _, _⟩, _⟩ := id S0
    go_wp2_with fail
    go_ret
    exact ⟨ret_bool E.out.symm, S0.2⟩
  by_cases hk5 : k = 5
  · subst hk5
    have HE : Hid (r = (decide (0 ≤ a ∧ a ≤ 5) && decide (b = 0) && decide (c = 0) && decide (d = 0))) := Lib.hid (by rw [← HR.out, act5])
    clear HR
    by_cases zb : b = 0
    rotate_left
    · have zbb : (b == 0) = false := by simpa using zb
      rw [decide_eq_false zb] at HE
      have QO := Lib.hid fun w => DutyImpl.isUpTo a 5 w
      have QH := Lib.hid fun w => DutyImpl.isUpTo b 6 w
      obtain ⟨vo, ho⟩ : ∃ v, decide ((0 : Int) ≤ a ∧ a ≤ 5) = v := ⟨_, rfl⟩
      obtain ⟨vh, hh⟩ : ∃ v, decide ((0 : Int) ≤ b ∧ b ≤ 6) = v := ⟨_, rfl⟩
      rw [ho] at QO HE
      rw [hh] at QH
      clear ho hh
      cases vo
      · skip
        have E : Hid (r = false) := Lib.hid (by rw [HE.out]; simp)
        clear HE
        go_enter Try.func14, Try.ntmps14
        go_wp2_with fail
        have X0 := Tup5.box1 w 5 a b c d 25 (k := w.heap.size) (by simp)
        have b0 := PointOk.below1 w (Obj.cells #[.int .i64 5, .int .i64 a, .int .i64 b, .int .i64 c, .int .i64 d] 25)
        have HO : ∀ W W' : World, (Tup5.Box W (w.heap.size) 5 a b c d ∧ Below w.heap.size w W) → Below W.heap.size W W' → (Tup5.Box W' (w.heap.size) 5 a b c d ∧ Below w.heap.size w W') := fun W W' ⟨h0, hb⟩ h => ⟨h0.later h, hb.trans (h.mono hb.size)⟩
        have hz0_ : Hid (((w.alloc (Obj.cells #[.int .i64 5, .int .i64 a, .int .i64 b, .int .i64 c, .int .i64 d] 25))).heap.size = w.heap.size + 1) := Lib.hid (by simp)
        generalize (w.alloc (Obj.cells #[.int .i64 5, .int .i64 a, .int .i64 b, .int .i64 c, .int .i64 d] 25)) = w0 at X0 b0 hz0_ ⊢
        have S0 := (⟨X0, b0⟩ : Tup5.Box w0 (w.heap.size) 5 a b c d ∧ Below w.heap.size w w0)
        clear X0 b0
        obtain ⟨⟨_, _, _, _, _⟩, _⟩ := id S0
        refine Settle.region (fun W => Tup5.Box W (w.heap.size) 5 a b c d ∧ Below w.heap.size w W) (by kernel_rfl) (by kernel_rfl) (by kernel_rfl) (by kernel_rfl) (HO _ _ S0 ((Below.refl _ _).drew)) ?_
        clear S0
        repeat (first
          | (refine Settle.Settles.off (by rfl) ?_; simp only [Act.put, List.setIfInBounds_toArray, List.set_cons_zero, List.set_cons_succ])
          | (refine Settle.Settles.quiet (v := ?_) (by rfl) ?_ ?_
             rotate_left
             · (intro W hS; obtain ⟨⟨_, _, _, _, _⟩, _⟩ := hS; go_simp; with_reducible rfl)
             simp only [Act.put, List.setIfInBounds_toArray, List.set_cons_zero, List.set_cons_succ])
          | (refine Settle.Settles.call (v := ?_) (f := ?_) (args := ?_) (by rfl) ?_ ?_ ?_
             rotate_left 3
             · (intro W; go_simp; refine ⟨?_, ?_⟩ <;> with_reducible rfl)
             · (intro W hS; first | (go_at_call 65; (with_reducible refine (QO.out _).mono ?_); rintro e W1 ⟨rfl, rfl⟩; refine ⟨?_, hS⟩; with_reducible rfl) | (go_at_call 65; (with_reducible refine (QH.out _).mono ?_); rintro e W1 ⟨rfl, rfl⟩; refine ⟨?_, hS⟩; with_reducible rfl))
             simp only [Act.put, List.setIfInBounds_toArray, List.set_cons_zero, List.set_cons_succ]))
        refine Settle.Settles.nil ?_
        intro wr S0
        obtain ⟨⟨_, _, _, _, _⟩, _⟩ := id S0
        go_wp2_with fail
        go_ret
        exact ⟨ret_bool E.out.symm, S0.2⟩
      · skip
        have E : Hid (r = false) := Lib.hid (by rw [HE.out]; simp)
        clear HE
        go_enter Try.func14, Try.ntmps14
        go_wp2_with fail
        have X0 := Tup5.box1 w 5 a b c d 25 (k := w.heap.size) (by simp)
        have b0 := PointOk.below1 w (Obj.cells #[.int .i64 5, .int .i64 a, .int .i64 b, .int .i64 c, .int .i64 d] 25)
        have HO : ∀ W W' : World, (Tup5.Box W (w.heap.size) 5 a b c d ∧ Below w.heap.size w W) → Below W.heap.size W W' → (Tup5.Box W' (w.heap.size) 5 a b c d ∧ Below w.heap.size w W') := fun W W' ⟨h0, hb⟩ h => ⟨h0.later h, hb.trans (h.mono hb.size)⟩
        have hz0_ : Hid (((w.alloc (Obj.cells #[.int .i64 5, .int .i64 a, .int .i64 b, .int .i64 c, .int .i64 d] 25))).heap.size = w.heap.size + 1) := Lib.hid (by simp)
        generalize (w.alloc (Obj.cells #[.int .i64 5, .int .i64 a, .int .i64 b, .int .i64 c, .int .i64 d] 25)) = w0 at X0 b0 hz0_ ⊢
        have S0 := (⟨X0, b0⟩ : Tup5.Box w0 (w.heap.size) 5 a b c d ∧ Below w.heap.size w w0)
        clear X0 b0
        obtain ⟨⟨_, _, _, _, _⟩, _⟩ := id S0
        refine Settle.region (fun W => Tup5.Box W (w.heap.size) 5 a b c d ∧ Below w.heap.size w W) (by kernel_rfl) (by kernel_rfl) (by kernel_rfl) (by kernel_rfl) (HO _ _ S0 ((Below.refl _ _).drew)) ?_
        clear S0
        repeat (first
          | (refine Settle.Settles.off (by rfl) ?_; simp only [Act.put, List.setIfInBounds_toArray, List.set_cons_zero, List.set_cons_succ])
          | (refine Settle.Settles.quiet (v := ?_) (by rfl) ?_ ?_
             rotate_left
             · (intro W hS; obtain ⟨⟨_, _, _, _, _⟩, _⟩ := hS; go_simp; with_reducible rfl)
             simp only [Act.put, List.setIfInBounds_toArray, List.set_cons_zero, List.set_cons_succ])
          | (refine Settle.Settles.call (v := ?_) (f := ?_) (args := ?_) (by rfl) ?_ ?_ ?_
             rotate_left 3
             · (intro W; go_simp; refine ⟨?_, ?_⟩ <;> with_reducible rfl)
             · (intro W hS; first | (go_at_call 65; (with_reducible refine (QO.out _).mono ?_); rintro e W1 ⟨rfl, rfl⟩; refine ⟨?_, hS⟩; with_reducible rfl) | (go_at_call 65; (with_reducible refine (QH.out _).mono ?_); rintro e W1 ⟨rfl, rfl⟩; refine ⟨?_, hS⟩; with_reducible rfl))
             simp only [Act.put, List.setIfInBounds_toArray, List.set_cons_zero, List.set_cons_succ]))
        refine Settle.Settles.nil ?_
        intro wr S0
        obtain ⟨⟨_, _, _, _, _⟩, _⟩ := id S0
        go_wp2_with fail
        go_ret
        exact ⟨ret_bool E.out.symm, S0.2⟩
    subst zb
    rw [show decide ((0 : Int) = 0) = true from rfl] at HE
    by_cases zc : c = 0
    rotate_left
    · have zcb : (c == 0) = false := by simpa using zc
      rw [decide_eq_false zc] at HE
      have QO := Lib.hid fun w => DutyImpl.isUpTo a 5 w
      have QH := Lib.hid fun w => DutyImpl.isUpTo 0 6 w
      obtain ⟨vo, ho⟩ : ∃ v, decide ((0 : Int) ≤ a ∧ a ≤ 5) = v := ⟨_, rfl⟩
      obtain ⟨vh, hh⟩ : ∃ v, decide ((0 : Int) ≤ (0 : Int) ∧ (0 : Int) ≤ 6) = v := ⟨_, rfl⟩
      rw [ho] at QO HE
      rw [hh] at QH
      clear ho hh
      cases vo
      · skip
        have E : Hid (r = false) := Lib.hid (by rw [HE.out]; simp)
        clear HE
        go_enter Try.func14, Try.ntmps14
        go_wp2_with fail
        have X0 := Tup5.box1 w 5 a 0 c d 25 (k := w.heap.size) (by simp)
        have b0 := PointOk.below1 w (Obj.cells #[.int .i64 5, .int .i64 a, .int .i64 0, .int .i64 c, .int .i64 d] 25)
        have HO : ∀ W W' : World, (Tup5.Box W (w.heap.size) 5 a 0 c d ∧ Below w.heap.size w W) → Below W.heap.size W W' → (Tup5.Box W' (w.heap.size) 5 a 0 c d ∧ Below w.heap.size w W') := fun W W' ⟨h0, hb⟩ h => ⟨h0.later h, hb.trans (h.mono hb.size)⟩
        have hz0_ : Hid (((w.alloc (Obj.cells #[.int .i64 5, .int .i64 a, .int .i64 0, .int .i64 c, .int .i64 d] 25))).heap.size = w.heap.size + 1) := Lib.hid (by simp)
        generalize (w.alloc (Obj.cells #[.int .i64 5, .int .i64 a, .int .i64 0, .int .i64 c, .int .i64 d] 25)) = w0 at X0 b0 hz0_ ⊢
        have S0 := (⟨X0, b0⟩ : Tup5.Box w0 (w.heap.size) 5 a 0 c d ∧ Below w.heap.size w w0)
        clear X0 b0
        obtain ⟨⟨_, _, _, _, _⟩, _⟩ := id S0
        refine Settle.region (fun W => Tup5.Box W (w.heap.size) 5 a 0 c d ∧ Below w.heap.size w W) (by kernel_rfl) (by kernel_rfl) (by kernel_rfl) (by kernel_rfl) (HO _ _ S0 ((Below.refl _ _).drew)) ?_
        clear S0
        repeat (first
          | (refine Settle.Settles.off (by rfl) ?_; simp only [Act.put, List.setIfInBounds_toArray, List.set_cons_zero, List.set_cons_succ])
          | (refine Settle.Settles.quiet (v := ?_) (by rfl) ?_ ?_
             rotate_left
             · (intro W hS; obtain ⟨⟨_, _, _, _, _⟩, _⟩ := hS; go_simp; with_reducible rfl)
             simp only [Act.put, List.setIfInBounds_toArray, List.set_cons_zero, List.set_cons_succ])
          | (refine Settle.Settles.call (v := ?_) (f := ?_) (args := ?_) (by rfl) ?_ ?_ ?_
             rotate_left 3
             · (intro W; go_simp; refine ⟨?_, ?_⟩ <;> with_reducible rfl)
             · (intro W hS; first | (go_at_call 65; (with_reducible refine (QO.out _).mono ?_); rintro e W1 ⟨rfl, rfl⟩; refine ⟨?_, hS⟩; with_reducible rfl) | (go_at_call 65; (with_reducible refine (QH.out _).mono ?_); rintro e W1 ⟨rfl, rfl⟩; refine ⟨?_, hS⟩; with_reducible rfl))
             simp only [Act.put, List.setIfInBounds_toArray, List.set_cons_zero, List.set_cons_succ]))
        refine Settle.Settles.nil ?_
        intro wr S0
        obtain ⟨⟨_, _, _, _, _⟩, _⟩ := id S0
        go_wp2_with fail
        go_ret
        exact ⟨ret_bool E.out.symm, S0.2⟩
      · skip
        have E : Hid (r = false) := Lib.hid (by rw [HE.out]; simp)
        clear HE
        go_enter Try.func14, Try.ntmps14
        go_wp2_with fail
        have X0 := Tup5.box1 w 5 a 0 c d 25 (k := w.heap.size) (by simp)
        have b0 := PointOk.below1 w (Obj.cells #[.int .i64 5, .int .i64 a, .int .i64 0, .int .i64 c, .int .i64 d] 25)
        have HO : ∀ W W' : World, (Tup5.Box W (w.heap.size) 5 a 0 c d ∧ Below w.heap.size w W) → Below W.heap.size W W' → (Tup5.Box W' (w.heap.size) 5 a 0 c d ∧ Below w.heap.size w W') := fun W W' ⟨h0, hb⟩ h => ⟨h0.later h, hb.trans (h.mono hb.size)⟩
        have hz0_ : Hid (((w.alloc (Obj.cells #[.int .i64 5, .int .i64 a, .int .i64 0, .int .i64 c, .int .i64 d] 25))).heap.size = w.heap.size + 1) := Lib.hid (by simp)
        generalize (w.alloc (Obj.cells #[.int .i64 5, .int .i64 a, .int .i64 0, .int .i64 c, .int .i64 d] 25)) = w0 at X0 b0 hz0_ ⊢
        have S0 := (⟨X0, b0⟩ : Tup5.Box w0 (w.heap.size) 5 a 0 c d ∧ Below w.heap.size w w0)
        clear X0 b0
        obtain ⟨⟨_, _, _, _, _⟩, _⟩ := id S0
        refine Settle.region (fun W => Tup5.Box W (w.heap.size) 5 a 0 c d ∧ Below w.heap.size w W) (by kernel_rfl) (by kernel_rfl) (by kernel_rfl) (by kernel_rfl) (HO _ _ S0 ((Below.refl _ _).drew)) ?_
        clear S0
        repeat (first
          | (refine Settle.Settles.off (by rfl) ?_; simp only [Act.put, List.setIfInBounds_toArray, List.set_cons_zero, List.set_cons_succ])
          | (refine Settle.Settles.quiet (v := ?_) (by rfl) ?_ ?_
             rotate_left
             · (intro W hS; obtain ⟨⟨_, _, _, _, _⟩, _⟩ := hS; go_simp; with_reducible rfl)
             simp only [Act.put, List.setIfInBounds_toArray, List.set_cons_zero, List.set_cons_succ])
          | (refine Settle.Settles.call (v := ?_) (f := ?_) (args := ?_) (by rfl) ?_ ?_ ?_
             rotate_left 3
             · (intro W; go_simp; refine ⟨?_, ?_⟩ <;> with_reducible rfl)
             · (intro W hS; first | (go_at_call 65; (with_reducible refine (QO.out _).mono ?_); rintro e W1 ⟨rfl, rfl⟩; refine ⟨?_, hS⟩; with_reducible rfl) | (go_at_call 65; (with_reducible refine (QH.out _).mono ?_); rintro e W1 ⟨rfl, rfl⟩; refine ⟨?_, hS⟩; with_reducible rfl))
             simp only [Act.put, List.setIfInBounds_toArray, List.set_cons_zero, List.set_cons_succ]))
        refine Settle.Settles.nil ?_
        intro wr S0
        obtain ⟨⟨_, _, _, _, _⟩, _⟩ := id S0
        go_wp2_with fail
        go_ret
        exact ⟨ret_bool E.out.symm, S0.2⟩
    subst zc
    rw [show decide ((0 : Int) = 0) = true from rfl] at HE
    by_cases zd : d = 0
    rotate_left
    · have zdb : (d == 0) = false := by simpa using zd
      rw [decide_eq_false zd] at HE
      have QO := Lib.hid fun w => DutyImpl.isUpTo a 5 w
      have QH := Lib.hid fun w => DutyImpl.isUpTo 0 6 w
      obtain ⟨vo, ho⟩ : ∃ v, decide ((0 : Int) ≤ a ∧ a ≤ 5) = v := ⟨_, rfl⟩
      obtain ⟨vh, hh⟩ : ∃ v, decide ((0 : Int) ≤ (0 : Int) ∧ (0 : Int) ≤ 6) = v := ⟨_, rfl⟩
      rw [ho] at QO HE
      rw [hh] at QH
      clear ho hh
      cases vo
      · skip
        have E : Hid (r = false) := Lib.hid (by rw [HE.out]; simp)
        clear HE
        go_enter Try.func14, Try.ntmps14
        go_wp2_with fail
        have X0 := Tup5.box1 w 5 a 0 0 d 25 (k := w.heap.size) (by simp)
        have b0 := PointOk.below1 w (Obj.cells #[.int .i64 5, .int .i64 a, .int .i64 0, .int .i64 0, .int .i64 d] 25)
        have HO : ∀ W W' : World, (Tup5.Box W (w.heap.size) 5 a 0 0 d ∧ Below w.heap.size w W) → Below W.heap.size W W' → (Tup5.Box W' (w.heap.size) 5 a 0 0 d ∧ Below w.heap.size w W') := fun W W' ⟨h0, hb⟩ h => ⟨h0.later h, hb.trans (h.mono hb.size)⟩
        have hz0_ : Hid (((w.alloc (Obj.cells #[.int .i64 5, .int .i64 a, .int .i64 0, .int .i64 0, .int .i64 d] 25))).heap.size = w.heap.size + 1) := Lib.hid (by simp)
        generalize (w.alloc (Obj.cells #[.int .i64 5, .int .i64 a, .int .i64 0, .int .i64 0, .int .i64 d] 25)) = w0 at X0 b0 hz0_ ⊢
        have S0 := (⟨X0, b0⟩ : Tup5.Box w0 (w.heap.size) 5 a 0 0 d ∧ Below w.heap.size w w0)
        clear X0 b0
        obtain ⟨⟨_, _, _, _, _⟩, _⟩ := id S0
        refine Settle.region (fun W => Tup5.Box W (w.heap.size) 5 a 0 0 d ∧ Below w.heap.size w W) (by kernel_rfl) (by kernel_rfl) (by kernel_rfl) (by kernel_rfl) (HO _ _ S0 ((Below.refl _ _).drew)) ?_
        clear S0
        repeat (first
          | (refine Settle.Settles.off (by rfl) ?_; simp only [Act.put, List.setIfInBounds_toArray, List.set_cons_zero, List.set_cons_succ])
          | (refine Settle.Settles.quiet (v := ?_) (by rfl) ?_ ?_
             rotate_left
             · (intro W hS; obtain ⟨⟨_, _, _, _, _⟩, _⟩ := hS; go_simp; with_reducible rfl)
             simp only [Act.put, List.setIfInBounds_toArray, List.set_cons_zero, List.set_cons_succ])
          | (refine Settle.Settles.call (v := ?_) (f := ?_) (args := ?_) (by rfl) ?_ ?_ ?_
             rotate_left 3
             · (intro W; go_simp; refine ⟨?_, ?_⟩ <;> with_reducible rfl)
             · (intro W hS; first | (go_at_call 65; (with_reducible refine (QO.out _).mono ?_); rintro e W1 ⟨rfl, rfl⟩; refine ⟨?_, hS⟩; with_reducible rfl) | (go_at_call 65; (with_reducible refine (QH.out _).mono ?_); rintro e W1 ⟨rfl, rfl⟩; refine ⟨?_, hS⟩; with_reducible rfl))
             simp only [Act.put, List.setIfInBounds_toArray, List.set_cons_zero, List.set_cons_succ]))
        refine Settle.Settles.nil ?_
        intro wr S0
        obtain ⟨⟨_, _, _, _, _⟩, _⟩ := id S0
        go_wp2_with fail
        go_ret
        exact ⟨ret_bool E.out.symm, S0.2⟩
      · skip
        have E : Hid (r = false) := Lib.hid (by rw [HE.out]; simp)
        clear HE
        go_enter Try.func14, Try.ntmps14
        go_wp2_with fail
        have X0 := Tup5.box1 w 5 a 0 0 d 25 (k := w.heap.size) (by simp)
        have b0 := PointOk.below1 w (Obj.cells #[.int .i64 5, .int .i64 a, .int .i64 0, .int .i64 0, .int .i64 d] 25)
        have HO : ∀ W W' : World, (Tup5.Box W (w.heap.size) 5 a 0 0 d ∧ Below w.heap.size w W) → Below W.heap.size W W' → (Tup5.Box W' (w.heap.size) 5 a 0 0 d ∧ Below w.heap.size w W') := fun W W' ⟨h0, hb⟩ h => ⟨h0.later h, hb.trans (h.mono hb.size)⟩
        have hz0_ : Hid (((w.alloc (Obj.cells #[.int .i64 5, .int .i64 a, .int .i64 0, .int .i64 0, .int .i64 d] 25))).heap.size = w.heap.size + 1) := Lib.hid (by simp)
        generalize (w.alloc (Obj.cells #[.int .i64 5, .int .i64 a, .int .i64 0, .int .i64 0, .int .i64 d] 25)) = w0 at X0 b0 hz0_ ⊢
        have S0 := (⟨X0, b0⟩ : Tup5.Box w0 (w.heap.size) 5 a 0 0 d ∧ Below w.heap.size w w0)
        clear X0 b0
        obtain ⟨⟨_, _, _, _, _⟩, _⟩ := id S0
        refine Settle.region (fun W => Tup5.Box W (w.heap.size) 5 a 0 0 d ∧ Below w.heap.size w W) (by kernel_rfl) (by kernel_rfl) (by kernel_rfl) (by kernel_rfl) (HO _ _ S0 ((Below.refl _ _).drew)) ?_
        clear S0
        repeat (first
          | (refine Settle.Settles.off (by rfl) ?_; simp only [Act.put, List.setIfInBounds_toArray, List.set_cons_zero, List.set_cons_succ])
          | (refine Settle.Settles.quiet (v := ?_) (by rfl) ?_ ?_
             rotate_left
             · (intro W hS; obtain ⟨⟨_, _, _, _, _⟩, _⟩ := hS; go_simp; with_reducible rfl)
             simp only [Act.put, List.setIfInBounds_toArray, List.set_cons_zero, List.set_cons_succ])
          | (refine Settle.Settles.call (v := ?_) (f := ?_) (args := ?_) (by rfl) ?_ ?_ ?_
             rotate_left 3
             · (intro W; go_simp; refine ⟨?_, ?_⟩ <;> with_reducible rfl)
             · (intro W hS; first | (go_at_call 65; (with_reducible refine (QO.out _).mono ?_); rintro e W1 ⟨rfl, rfl⟩; refine ⟨?_, hS⟩; with_reducible rfl) | (go_at_call 65; (with_reducible refine (QH.out _).mono ?_); rintro e W1 ⟨rfl, rfl⟩; refine ⟨?_, hS⟩; with_reducible rfl))
             simp only [Act.put, List.setIfInBounds_toArray, List.set_cons_zero, List.set_cons_succ]))
        refine Settle.Settles.nil ?_
        intro wr S0
        obtain ⟨⟨_, _, _, _, _⟩, _⟩ := id S0
        go_wp2_with fail
        go_ret
        exact ⟨ret_bool E.out.symm, S0.2⟩
    subst zd
    rw [show decide ((0 : Int) = 0) = true from rfl] at HE
    have QO := Lib.hid fun w => DutyImpl.isUpTo a 5 w
    have QH := Lib.hid fun w => DutyImpl.isUpTo 0 6 w
    obtain ⟨vo, ho⟩ : ∃ v, decide ((0 : Int) ≤ a ∧ a ≤ 5) = v := ⟨_, rfl⟩
    obtain ⟨vh, hh⟩ : ∃ v, decide ((0 : Int) ≤ (0 : Int) ∧ (0 : Int) ≤ 6) = v := ⟨_, rfl⟩
    rw [ho] at QO HE
    rw [hh] at QH
    clear ho hh
    cases vo
    · skip
      have E : Hid (r = false) := Lib.hid (by rw [HE.out]; simp)
      clear HE
      go_enter Try.func14, Try.ntmps14
      go_wp2_with fail
      have X0 := Tup5.box1 w 5 a 0 0 0 25 (k := w.heap.size) (by simp)
      have b0 := PointOk.below1 w (Obj.cells #[.int .i64 5, .int .i64 a, .int .i64 0, .int .i64 0, .int .i64 0] 25)
      have HO : ∀ W W' : World, (Tup5.Box W (w.heap.size) 5 a 0 0 0 ∧ Below w.heap.size w W) → Below W.heap.size W W' → (Tup5.Box W' (w.heap.size) 5 a 0 0 0 ∧ Below w.heap.size w W') := fun W W' ⟨h0, hb⟩ h => ⟨h0.later h, hb.trans (h.mono hb.size)⟩
      have hz0_ : Hid (((w.alloc (Obj.cells #[.int .i64 5, .int .i64 a, .int .i64 0, .int .i64 0, .int .i64 0] 25))).heap.size = w.heap.size + 1) := Lib.hid (by simp)
      generalize (w.alloc (Obj.cells #[.int .i64 5, .int .i64 a, .int .i64 0, .int .i64 0, .int .i64 0] 25)) = w0 at X0 b0 hz0_ ⊢
      have S0 := (⟨X0, b0⟩ : Tup5.Box w0 (w.heap.size) 5 a 0 0 0 ∧ Below w.heap.size w w0)
      clear X0 b0
      obtain ⟨⟨_, _, _, _, _⟩, _⟩ := id S0
      refine Settle.region (fun W => Tup5.Box W (w.heap.size) 5 a 0 0 0 ∧ Below w.heap.size w W) (by kernel_rfl) (by kernel_rfl) (by kernel_rfl) (by kernel_rfl) (HO _ _ S0 ((Below.refl _ _).drew)) ?_
      clear S0
      repeat (first
        | (refine Settle.Settles.off (by rfl) ?_; simp only [Act.put, List.setIfInBounds_toArray, List.set_cons_zero, List.set_cons_succ])
        | (refine Settle.Settles.quiet (v := ?_) (by rfl) ?_ ?_
           rotate_left
           · (intro W hS; obtain ⟨⟨_, _, _, _, _⟩, _⟩ := hS; go_simp; with_reducible rfl)
           simp only [Act.put, List.setIfInBounds_toArray, List.set_cons_zero, List.set_cons_succ])
        | (refine Settle.Settles.call (v := ?_) (f := ?_) (args := ?_) (by rfl) ?_ ?_ ?_
           rotate_left 3
           · (intro W; go_simp; refine ⟨?_, ?_⟩ <;> with_reducible rfl)
           · (intro W hS; first | (go_at_call 65; (with_reducible refine (QO.out _).mono ?_); rintro e W1 ⟨rfl, rfl⟩; refine ⟨?_, hS⟩; with_reducible rfl) | (go_at_call 65; (with_reducible refine (QH.out _).mono ?_); rintro e W1 ⟨rfl, rfl⟩; refine ⟨?_, hS⟩; with_reducible rfl))
           simp only [Act.put, List.setIfInBounds_toArray, List.set_cons_zero, List.set_cons_succ]))
      refine Settle.Settles.nil ?_
      intro wr S0
      obtain ⟨⟨_, _, _, _, _⟩, _⟩ := id S0
      go_wp2_with fail
      go_ret
      exact ⟨ret_bool E.out.symm, S0.2⟩
    · skip
      have E : Hid (r = true) := Lib.hid (by rw [HE.out]; simp)
      clear HE
      go_enter Try.func14, Try.ntmps14
      go_wp2_with fail
      have X0 := Tup5.box1 w 5 a 0 0 0 25 (k := w.heap.size) (by simp)
      have b0 := PointOk.below1 w (Obj.cells #[.int .i64 5, .int .i64 a, .int .i64 0, .int .i64 0, .int .i64 0] 25)
      have HO : ∀ W W' : World, (Tup5.Box W (w.heap.size) 5 a 0 0 0 ∧ Below w.heap.size w W) → Below W.heap.size W W' → (Tup5.Box W' (w.heap.size) 5 a 0 0 0 ∧ Below w.heap.size w W') := fun W W' ⟨h0, hb⟩ h => ⟨h0.later h, hb.trans (h.mono hb.size)⟩
      have hz0_ : Hid (((w.alloc (Obj.cells #[.int .i64 5, .int .i64 a, .int .i64 0, .int .i64 0, .int .i64 0] 25))).heap.size = w.heap.size + 1) := Lib.hid (by simp)
      generalize (w.alloc (Obj.cells #[.int .i64 5, .int .i64 a, .int .i64 0, .int .i64 0, .int .i64 0] 25)) = w0 at X0 b0 hz0_ ⊢
      have S0 := (⟨X0, b0⟩ : Tup5.Box w0 (w.heap.size) 5 a 0 0 0 ∧ Below w.heap.size w w0)
      clear X0 b0
      obtain ⟨⟨_, _, _, _, _⟩, _⟩ := id S0
      refine Settle.region (fun W => Tup5.Box W (w.heap.size) 5 a 0 0 0 ∧ Below w.heap.size w W) (by kernel_rfl) (by kernel_rfl) (by kernel_rfl) (by kernel_rfl) (HO _ _ S0 ((Below.refl _ _).drew)) ?_
      clear S0
      repeat (first
        | (refine Settle.Settles.off (by rfl) ?_; simp only [Act.put, List.setIfInBounds_toArray, List.set_cons_zero, List.set_cons_succ])
        | (refine Settle.Settles.quiet (v := ?_) (by rfl) ?_ ?_
           rotate_left
           · (intro W hS; obtain ⟨⟨_, _, _, _, _⟩, _⟩ := hS; go_simp; with_reducible rfl)
           simp only [Act.put, List.setIfInBounds_toArray, List.set_cons_zero, List.set_cons_succ])
        | (refine Settle.Settles.call (v := ?_) (f := ?_) (args := ?_) (by rfl) ?_ ?_ ?_
           rotate_left 3
           · (intro W; go_simp; refine ⟨?_, ?_⟩ <;> with_reducible rfl)
           · (intro W hS; first | (go_at_call 65; (with_reducible refine (QO.out _).mono ?_); rintro e W1 ⟨rfl, rfl⟩; refine ⟨?_, hS⟩; with_reducible rfl) | (go_at_call 65; (with_reducible refine (QH.out _).mono ?_); rintro e W1 ⟨rfl, rfl⟩; refine ⟨?_, hS⟩; with_reducible rfl))
           simp only [Act.put, List.setIfInBounds_toArray, List.set_cons_zero, List.set_cons_succ]))
      refine Settle.Settles.nil ?_
      intro wr S0
      obtain ⟨⟨_, _, _, _, _⟩, _⟩ := id S0
      go_wp2_with fail
      go_ret
      exact ⟨ret_bool E.out.symm, S0.2⟩
  have E : Hid (r = false) := Lib.hid (by rw [← HR.out]; exact act0 hk1 hk2 hk3 hk4 hk5)
  have b1 : (k == 1) = false := by simpa using hk1
  have b2 : (k == 2) = false := by simpa using hk2
  have b3 : (k == 3) = false := by simpa using hk3
  have b4 : (k == 4) = false := by simpa using hk4
  have b5 : (k == 5) = false := by simpa using hk5
  clear HR
  have QO := Lib.hid fun w => DutyImpl.isUpTo a 5 w
  have QH := Lib.hid fun w => DutyImpl.isUpTo b 6 w
  go_enter Try.func14, Try.ntmps14
  go_wp2_with fail
  have X0 := Tup5.box1 w k a b c d 25 (k := w.heap.size) (by simp)
  have b0 := PointOk.below1 w (Obj.cells #[.int .i64 k, .int .i64 a, .int .i64 b, .int .i64 c, .int .i64 d] 25)
  have HO : ∀ W W' : World, (Tup5.Box W (w.heap.size) k a b c d ∧ Below w.heap.size w W) → Below W.heap.size W W' → (Tup5.Box W' (w.heap.size) k a b c d ∧ Below w.heap.size w W') := fun W W' ⟨h0, hb⟩ h => ⟨h0.later h, hb.trans (h.mono hb.size)⟩
  have hz0_ : Hid (((w.alloc (Obj.cells #[.int .i64 k, .int .i64 a, .int .i64 b, .int .i64 c, .int .i64 d] 25))).heap.size = w.heap.size + 1) := Lib.hid (by simp)
  generalize (w.alloc (Obj.cells #[.int .i64 k, .int .i64 a, .int .i64 b, .int .i64 c, .int .i64 d] 25)) = w0 at X0 b0 hz0_ ⊢
  have S0 := (⟨X0, b0⟩ : Tup5.Box w0 (w.heap.size) k a b c d ∧ Below w.heap.size w w0)
  clear X0 b0
  obtain ⟨⟨_, _, _, _, _⟩, _⟩ := id S0
  refine Settle.region (fun W => Tup5.Box W (w.heap.size) k a b c d ∧ Below w.heap.size w W) (by kernel_rfl) (by kernel_rfl) (by kernel_rfl) (by kernel_rfl) (HO _ _ S0 ((Below.refl _ _).drew)) ?_
  clear S0
  repeat (first
    | (refine Settle.Settles.off (by rfl) ?_; simp only [Act.put, List.setIfInBounds_toArray, List.set_cons_zero, List.set_cons_succ])
    | (refine Settle.Settles.quiet (v := ?_) (by rfl) ?_ ?_
       rotate_left
       · (intro W hS; obtain ⟨⟨_, _, _, _, _⟩, _⟩ := hS; go_simp; with_reducible rfl)
       simp only [Act.put, List.setIfInBounds_toArray, List.set_cons_zero, List.set_cons_succ])
    | (refine Settle.Settles.call (v := ?_) (f := ?_) (args := ?_) (by rfl) ?_ ?_ ?_
       rotate_left 3
       · (intro W; go_simp; refine ⟨?_, ?_⟩ <;> with_reducible rfl)
       · (intro W hS; first | (go_at_call 65; (with_reducible refine (QO.out _).mono ?_); rintro e W1 ⟨rfl, rfl⟩; refine ⟨?_, hS⟩; with_reducible rfl) | (go_at_call 65; (with_reducible refine (QH.out _).mono ?_); rintro e W1 ⟨rfl, rfl⟩; refine ⟨?_, hS⟩; with_reducible rfl))
       simp only [Act.put, List.setIfInBounds_toArray, List.set_cons_zero, List.set_cons_succ]))
  refine Settle.Settles.nil ?_
  intro wr S0
  obtain ⟨⟨_, _, _, _, _⟩, _⟩ := id S0
  go_wp2_with fail
  go_ret
  exact ⟨ret_bool E.out.symm, S0.2⟩

end Go.Proofs.Ytgelkpaiabhklaa.ActImpl

