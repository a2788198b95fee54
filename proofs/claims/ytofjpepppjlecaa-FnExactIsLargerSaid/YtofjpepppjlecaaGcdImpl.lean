/-
  What the landed count of a wall's parts does, as a contract: the greatest common divisor of its steps; new memory alone is written.
-/
import Derived.Test.YtofjpepppjlecaaWallImpl
import Derived.Test.YtofjpepppjlecaaFacts
namespace Go.Proofs.Ytofjpepppjlecaa.GcdImpl
open Go.RowKit PointMath WallMath GcdMath
open PointOk (ret_bool ret_i64 below1 below2 below3)

theorem commonDivisor (a b : Int) (ha : -1000 ≤ a ∧ a ≤ 1000) (hb : -1000 ≤ b ∧ b ≤ 1000) (w : World) :
    Calls Try.prog 83 #[.int .i64 a, .int .i64 b] w fun e w' => e = .returned (.int .i64 (gcdI a b)) ∧ Below w.heap.size w w' := by
  obtain ⟨G, hG⟩ : ∃ G : Nat, Hid (Int.gcd a b = G) := ⟨_, Lib.hid rfl⟩
  have E : Hid (gcdI a b = G) := Lib.hid (by rw [← hG.out]; rfl)
  rw [E.out]
  clear E
  go_enter Try.func83, Try.ntmps83
  go_wp2_with fail
  have HO : ∀ W W' : World, Below w.heap.size w W → Below W.heap.size W W' → Below w.heap.size w W' := fun W W' hb h => hb.trans (h.mono hb.size)
  go_loopw [0, 1] (fun p q wr => ∃ x y : Int, p = .int .i64 x ∧ q = .int .i64 y ∧ (-1000 ≤ x ∧ x ≤ 1000) ∧ (-1000 ≤ y ∧ y ≤ 1000) ∧ Hid (Int.gcd x y = G) ∧ Below w.heap.size w wr) (fun _ q _ => (intOf q).natAbs)
  case atStart => exact ⟨a, b, rfl, rfl, ha, hb, hG, Below.refl _ _⟩
  case round =>
    clear hG ha hb
    obtain ⟨p, q, rfl, rfl, hp2, hq2, hG, S0⟩ := hrel
    by_cases h0 : q = 0
    · subst h0
      have E : Hid (max p (-p) = G) := Lib.hid (by rw [← hG.out, Int.gcd_zero_right]; omega)
      clear hG
      go_wp2_with fail
      go_ret
      exact ⟨ret_i64 (by rw [E.out]), S0⟩
    · have hlt : (p.tmod q).natAbs < q.natAbs := tmod_lt p q h0
      obtain ⟨r, hr⟩ : ∃ r, p.tmod q = r := ⟨_, rfl⟩
      have hG2 : Hid (Int.gcd q r = G) := Lib.hid (by rw [← hr, gcd_tmod]; exact hG.out)
      rw [hr] at hlt
      clear hG
      go_wp2_with fail
      refine Settle.region (fun W => Below w.heap.size w W) (by kernel_rfl) (by kernel_rfl) (by kernel_rfl) (by kernel_rfl) (HO _ _ S0 ((Below.refl _ _).drew)) ?_
      clear S0
      repeat (first
        | (refine Settle.Settles.off (by rfl) ?_; simp only [Act.put, List.setIfInBounds_toArray, List.set_cons_zero, List.set_cons_succ])
        | (refine Settle.Settles.quiet (v := ?_) (by rfl) ?_ ?_
           rotate_left
           · (intro W hS; obtain _ := hS; go_simp; with_reducible rfl)
           simp only [Act.put, List.setIfInBounds_toArray, List.set_cons_zero, List.set_cons_succ])
        | (refine Settle.Settles.call (v := ?_) (f := ?_) (args := ?_) (by rfl) ?_ ?_ ?_
           rotate_left 3
           · (intro W; go_simp; refine ⟨?_, ?_⟩ <;> with_reducible rfl)
           · (intro W hS; fail)
           simp only [Act.put, List.setIfInBounds_toArray, List.set_cons_zero, List.set_cons_succ]))
      refine Settle.Settles.nil ?_
      intro wr S0
      obtain _ := id S0
      go_wp2_with fail
      exact ⟨⟨q, r, rfl, rfl, hq2, by omega, hG2, S0⟩, by simp [intOf]; omega⟩

theorem latticeSteps (ax ay bx bY : Int) (w : World) :
    Calls Try.prog 66 #[.agg #[.int .i64 ax, .int .i64 ay, .int .i64 bx, .int .i64 bY]] w fun e w' => e = .returned (.int .i64 (stepsI ax ay bx bY)) ∧ Below w.heap.size w w' := by
  go_enter Try.func66, Try.ntmps66
  go_wp2_with fail
  have X0 := PointOk.box4 w ax ay bx bY 61 (k := w.heap.size) (by simp)
  have b0 := PointOk.below1 w (Obj.cells #[.int .i64 ax, .int .i64 ay, .int .i64 bx, .int .i64 bY] 61)
  have HO : ∀ W W' : World, (PointOk.Box4 W (w.heap.size) ax ay bx bY ∧ Below w.heap.size w W) → Below W.heap.size W W' → (PointOk.Box4 W' (w.heap.size) ax ay bx bY ∧ Below w.heap.size w W') := fun W W' ⟨h0, hb⟩ h => ⟨h0.later h, hb.trans (h.mono hb.size)⟩
  have hz0_ : Hid (((w.alloc (Obj.cells #[.int .i64 ax, .int .i64 ay, .int .i64 bx, .int .i64 bY] 61))).heap.size = w.heap.size + 1) := Lib.hid (by simp)
  generalize (w.alloc (Obj.cells #[.int .i64 ax, .int .i64 ay, .int .i64 bx, .int .i64 bY] 61)) = w0 at X0 b0 hz0_ ⊢
  have S0 := (⟨X0, b0⟩ : PointOk.Box4 w0 (w.heap.size) ax ay bx bY ∧ Below w.heap.size w w0)
  clear X0 b0
  obtain ⟨⟨_, _, _, _⟩, _⟩ := id S0
  refine (WallImpl.wallOk ax ay bx bY _).mono ?_
  rintro e w1 ⟨rfl, hb_⟩
  replace S0 := HO _ _ S0 hb_
  clear hb_
  obtain ⟨⟨_, _, _, _⟩, _⟩ := id S0
  cases hw : okW ax ay bx bY
  · go_wp2_with fail
    go_ret
    exact ⟨ret_i64 (by simp [stepsI, hw]), S0.2⟩
  replace hw := Lib.hid hw
  go_wp2_with fail
  have q1 := okP_yes (okW_parts hw.out).1
  have q2 := okP_yes (okW_parts hw.out).2.1
  refine (PointOkImpl.minus bx bY ax ay (okP_sm (okW_parts hw.out).2.1) (okP_sm (okW_parts hw.out).1) _).mono ?_
  rintro e w2 ⟨rfl, hb_⟩
  replace S0 := HO _ _ S0 hb_
  clear hb_
  obtain ⟨⟨_, _, _, _⟩, _⟩ := id S0
  go_wp2_with fail
  refine (commonDivisor (bx - ax) (bY - ay) (by omega) (by omega) _).mono ?_
  rintro e w3 ⟨rfl, hb3⟩
  have hb4 := (S0.2.alloc S0.2.size _).trans (hb3.mono (S0.2.alloc S0.2.size _).size)
  go_wp2_with fail
  go_ret
  exact ⟨ret_i64 (by simp [stepsI, hw.out]), hb4⟩

end Go.Proofs.Ytofjpepppjlecaa.GcdImpl

