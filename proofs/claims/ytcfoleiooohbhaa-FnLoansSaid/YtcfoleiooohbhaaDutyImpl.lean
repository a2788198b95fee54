/-
  What the functions on zones, shifts and loans do, as contracts: what each answers; new memory alone is written.
-/
import Derived.Test.YtcfoleiooohbhaaPointImpl
import Derived.Test.YtcfoleiooohbhaaDutyMath
import Derived.Test.YtcfoleiooohbhaaTup3
import Derived.Test.YtcfoleiooohbhaaTup4
import Derived.Test.YtcfoleiooohbhaaGround
import Derived.Lib.MinMax
import Derived.Laws.EntriesVeiled
namespace Go.Proofs.Ytcfoleiooohbhaa.DutyImpl
open Go.RowKit PointMath DutyMath
open PointOk (ret_bool ret_i64 below1 below2 below3)

theorem isUpTo (n L : Int) (w : World) : Calls Try.prog 35 #[.int .i64 n, .int .i64 L] w fun e w' => e = .returned (.bool (decide (0 ≤ n ∧ n ≤ L))) ∧ w = w' := by
  obtain ⟨r, hr⟩ : ∃ r, decide (0 ≤ n ∧ n ≤ L) = r := ⟨_, rfl⟩
  rw [hr]
  replace hr := Lib.hid hr
  by_cases h1 : 0 ≤ n
  · by_cases h2 : n ≤ L
    · go_enter Try.func35, Try.ntmps35
      go_wp2_with fail
      go_ret
      exact ⟨ret_bool (by rw [← hr.out]; exact (decide_eq_true (by omega)).symm), rfl⟩
    · go_enter Try.func35, Try.ntmps35
      go_wp2_with fail
      go_ret
      exact ⟨ret_bool (by rw [← hr.out]; exact (decide_eq_false (by omega)).symm), rfl⟩
  · go_enter Try.func35, Try.ntmps35
    go_wp2_with fail
    go_ret
    exact ⟨ret_bool (by rw [← hr.out]; exact (decide_eq_false (by omega)).symm), rfl⟩

theorem loanOk (l a b g : Int) (w : World) :
    Calls Try.prog 13 #[.agg #[.int .i64 l, .int .i64 a, .int .i64 b, .int .i64 g]] w fun e w' => e = .returned (.bool (loanB l a b g)) ∧ Below w.heap.size w w' := by
  obtain ⟨r, hr⟩ : ∃ r, loanB l a b g = r := ⟨_, rfl⟩
  have HR := Lib.hid hr
  rw [hr]
  clear hr
  rw [loan_up] at HR
  go_enter Try.func13, Try.ntmps13
  go_wp2_with fail
  have X0 := Tup4.box1 w l a b g 25 (k := w.heap.size) (by simp)
  have b0 := PointOk.below1 w (Obj.cells #[.int .i64 l, .int .i64 a, .int .i64 b, .int .i64 g] 25)
  have HO : ∀ W W' : World, (Tup4.Box W (w.heap.size) l a b g ∧ Below w.heap.size w W) → Below W.heap.size W W' → (Tup4.Box W' (w.heap.size) l a b g ∧ Below w.heap.size w W') := fun W W' ⟨h0, hb⟩ h => ⟨h0.later h, hb.trans (h.mono hb.size)⟩
  have hz0_ : Hid (((w.alloc (Obj.cells #[.int .i64 l, .int .i64 a, .int .i64 b, .int .i64 g] 25))).heap.size = w.heap.size + 1) := Lib.hid (by simp)
  generalize (w.alloc (Obj.cells #[.int .i64 l, .int .i64 a, .int .i64 b, .int .i64 g] 25)) = w0 at X0 b0 hz0_ ⊢
  have S0 := (⟨X0, b0⟩ : Tup4.Box w0 (w.heap.size) l a b g ∧ Below w.heap.size w w0)
  clear X0 b0
  obtain ⟨⟨_, _, _, _⟩, _⟩ := id S0
  refine (isUpTo l 1000 _).mono ?_
  rintro e w_ ⟨rfl, rfl⟩
  cases h0 : decide (0 ≤ l ∧ l ≤ 1000)
  · go_wp2_with fail
    go_ret
    exact ⟨ret_bool (by rw [← HR.out, h0]; rfl), S0.2⟩
  replace h0 := Lib.hid h0
  go_wp2_with fail
  refine (isUpTo g 1000 _).mono ?_
  rintro e w_ ⟨rfl, rfl⟩
  cases h1 : decide (0 ≤ g ∧ g ≤ 1000)
  · go_wp2_with fail
    go_ret
    exact ⟨ret_bool (by rw [← HR.out, h0.out, h1]; rfl), S0.2⟩
  replace h1 := Lib.hid h1
  go_wp2_with fail
  refine (isUpTo a 100 _).mono ?_
  rintro e w_ ⟨rfl, rfl⟩
  cases h2 : decide (0 ≤ a ∧ a ≤ 100)
  · go_wp2_with fail
    go_ret
    exact ⟨ret_bool (by rw [← HR.out, h0.out, h1.out, h2]; rfl), S0.2⟩
  replace h2 := Lib.hid h2
  go_wp2_with fail
  refine (isUpTo b 100 _).mono ?_
  rintro e w_ ⟨rfl, rfl⟩
  cases h3 : decide (0 ≤ b ∧ b ≤ 100)
  · go_wp2_with fail
    go_ret
    exact ⟨ret_bool (by rw [← HR.out, h0.out, h1.out, h2.out, h3]; rfl), S0.2⟩
  replace h3 := Lib.hid h3
  go_wp2_with fail
  go_ret
  exact ⟨ret_bool (by rw [← HR.out, h0.out, h1.out, h2.out, h3.out]; rfl), S0.2⟩

set_option maxHeartbeats 1600000 in
theorem stricter (l a b g l2 a2 b2 g2 : Int) (w : World) :
    Calls Try.prog 12 #[.agg #[.int .i64 l, .int .i64 a, .int .i64 b, .int .i64 g], .agg #[.int .i64 l2, .int .i64 a2, .int .i64 b2, .int .i64 g2]] w fun e w' => e = .returned (.bool (strictB l a b g l2 a2 b2 g2)) ∧ Below w.heap.size w w' := by
  obtain ⟨r, hr⟩ : ∃ r, strictB l a b g l2 a2 b2 g2 = r := ⟨_, rfl⟩
  have HR := Lib.hid hr
  rw [hr]
  clear hr
  have Q1 := Lib.hid fun w => loanOk l a b g w
  have Q2 := Lib.hid fun w => loanOk l2 a2 b2 g2 w
  cases o1 : loanB l a b g
  · have E : Hid (r = false) := Lib.hid (by rw [← HR.out]; unfold strictB; rw [o1]; rfl)
    rw [o1] at Q1
    clear HR o1 Q2
    go_enter Try.func12, Try.ntmps12
    go_wp2_with fail
    have X0 := (Tup4.box1 w l a b g 25 (k := w.heap.size) (by simp)).alloc (Obj.cells #[.int .i64 l2, .int .i64 a2, .int .i64 b2, .int .i64 g2] 25)
    have X1 := Tup4.box1 (w.alloc (Obj.cells #[.int .i64 l, .int .i64 a, .int .i64 b, .int .i64 g] 25)) l2 a2 b2 g2 25 (k := w.heap.size + 1) (by simp)
    have b0 := PointOk.below2 w (Obj.cells #[.int .i64 l, .int .i64 a, .int .i64 b, .int .i64 g] 25) (Obj.cells #[.int .i64 l2, .int .i64 a2, .int .i64 b2, .int .i64 g2] 25)
    have HO : ∀ W W' : World, (Tup4.Box W (w.heap.size) l a b g ∧ Tup4.Box W (w.heap.size + 1) l2 a2 b2 g2 ∧ Below w.heap.size w W) → Below W.heap.size W W' → (Tup4.Box W' (w.heap.size) l a b g ∧ Tup4.Box W' (w.heap.size + 1) l2 a2 b2 g2 ∧ Below w.heap.size w W') := fun W W' ⟨h0, h1, hb⟩ h => ⟨h0.later h, h1.later h, hb.trans (h.mono hb.size)⟩
    have hz0_ : Hid ((((w.alloc (Obj.cells #[.int .i64 l, .int .i64 a, .int .i64 b, .int .i64 g] 25)).alloc (Obj.cells #[.int .i64 l2, .int .i64 a2, .int .i64 b2, .int .i64 g2] 25))).heap.size = w.heap.size + 1 + 1) := Lib.hid (by simp)
    generalize ((w.alloc (Obj.cells #[.int .i64 l, .int .i64 a, .int .i64 b, .int .i64 g] 25)).alloc (Obj.cells #[.int .i64 l2, .int .i64 a2, .int .i64 b2, .int .i64 g2] 25)) = w0 at X0 X1 b0 hz0_ ⊢
    have S0 := (⟨X0, X1, b0⟩ : Tup4.Box w0 (w.heap.size) l a b g ∧ Tup4.Box w0 (w.heap.size + 1) l2 a2 b2 g2 ∧ Below w.heap.size w w0)
    clear X0 X1 b0
    obtain ⟨⟨_, _, _, _⟩, ⟨_, _, _, _⟩, _⟩ := id S0
    refine (Q1.out _).mono ?_
    rintro e w1 ⟨rfl, hb_⟩
    replace S0 := HO _ _ S0 hb_
    clear hb_
    obtain ⟨⟨_, _, _, _⟩, ⟨_, _, _, _⟩, _⟩ := id S0
    go_wp2_with fail
    go_ret
    exact ⟨ret_bool E.out.symm, S0.2.2⟩
  cases o2 : loanB l2 a2 b2 g2
  · have E : Hid (r = false) := Lib.hid (by rw [← HR.out]; unfold strictB; rw [o2]; simp)
    rw [o1] at Q1
    rw [o2] at Q2
    clear HR o1 o2
    go_enter Try.func12, Try.ntmps12
    go_wp2_with fail
    have X0 := (Tup4.box1 w l a b g 25 (k := w.heap.size) (by simp)).alloc (Obj.cells #[.int .i64 l2, .int .i64 a2, .int .i64 b2, .int .i64 g2] 25)
    have X1 := Tup4.box1 (w.alloc (Obj.cells #[.int .i64 l, .int .i64 a, .int .i64 b, .int .i64 g] 25)) l2 a2 b2 g2 25 (k := w.heap.size + 1) (by simp)
    have b0 := PointOk.below2 w (Obj.cells #[.int .i64 l, .int .i64 a, .int .i64 b, .int .i64 g] 25) (Obj.cells #[.int .i64 l2, .int .i64 a2, .int .i64 b2, .int .i64 g2] 25)
    have HO : ∀ W W' : World, (Tup4.Box W (w.heap.size) l a b g ∧ Tup4.Box W (w.heap.size + 1) l2 a2 b2 g2 ∧ Below w.heap.size w W) → Below W.heap.size W W' → (Tup4.Box W' (w.heap.size) l a b g ∧ Tup4.Box W' (w.heap.size + 1) l2 a2 b2 g2 ∧ Below w.heap.size w W') := fun W W' ⟨h0, h1, hb⟩ h => ⟨h0.later h, h1.later h, hb.trans (h.mono hb.size)⟩
    have hz0_ : Hid ((((w.alloc (Obj.cells #[.int .i64 l, .int .i64 a, .int .i64 b, .int .i64 g] 25)).alloc (Obj.cells #[.int .i64 l2, .int .i64 a2, .int .i64 b2, .int .i64 g2] 25))).heap.size = w.heap.size + 1 + 1) := Lib.hid (by simp)
    generalize ((w.alloc (Obj.cells #[.int .i64 l, .int .i64 a, .int .i64 b, .int .i64 g] 25)).alloc (Obj.cells #[.int .i64 l2, .int .i64 a2, .int .i64 b2, .int .i64 g2] 25)) = w0 at X0 X1 b0 hz0_ ⊢
    have S0 := (⟨X0, X1, b0⟩ : Tup4.Box w0 (w.heap.size) l a b g ∧ Tup4.Box w0 (w.heap.size + 1) l2 a2 b2 g2 ∧ Below w.heap.size w w0)
    clear X0 X1 b0
    obtain ⟨⟨_, _, _, _⟩, ⟨_, _, _, _⟩, _⟩ := id S0
    refine (Q1.out _).mono ?_
    rintro e w2 ⟨rfl, hb_⟩
    replace S0 := HO _ _ S0 hb_
    clear hb_
    obtain ⟨⟨_, _, _, _⟩, ⟨_, _, _, _⟩, _⟩ := id S0
    go_wp2_with fail
    refine (Q2.out _).mono ?_
    rintro e w3 ⟨rfl, hb_⟩
    replace S0 := HO _ _ S0 hb_
    clear hb_
    obtain ⟨⟨_, _, _, _⟩, ⟨_, _, _, _⟩, _⟩ := id S0
    go_wp2_with fail
    go_ret
    exact ⟨ret_bool E.out.symm, S0.2.2⟩
  have HE : Hid (r = (decide (l ≤ l2) && decide (a2 ≤ a) && decide (b ≤ b2) && decide (g2 ≤ g))) := Lib.hid (by rw [← HR.out]; unfold strictB; rw [o1, o2]; simp)
  rw [o1] at Q1
  rw [o2] at Q2
  clear HR o1 o2
  by_cases h0 : l ≤ l2
  rotate_left
  · have E : Hid (r = false) := Lib.hid (by rw [HE.out, decide_eq_false h0]; simp)
    have n0 : l2 < l := by omega
    clear HE
    go_enter Try.func12, Try.ntmps12
    go_wp2_with fail
    have X0 := (Tup4.box1 w l a b g 25 (k := w.heap.size) (by simp)).alloc (Obj.cells #[.int .i64 l2, .int .i64 a2, .int .i64 b2, .int .i64 g2] 25)
    have X1 := Tup4.box1 (w.alloc (Obj.cells #[.int .i64 l, .int .i64 a, .int .i64 b, .int .i64 g] 25)) l2 a2 b2 g2 25 (k := w.heap.size + 1) (by simp)
    have b0 := PointOk.below2 w (Obj.cells #[.int .i64 l, .int .i64 a, .int .i64 b, .int .i64 g] 25) (Obj.cells #[.int .i64 l2, .int .i64 a2, .int .i64 b2, .int .i64 g2] 25)
    have HO : ∀ W W' : World, (Tup4.Box W (w.heap.size) l a b g ∧ Tup4.Box W (w.heap.size + 1) l2 a2 b2 g2 ∧ Below w.heap.size w W) → Below W.heap.size W W' → (Tup4.Box W' (w.heap.size) l a b g ∧ Tup4.Box W' (w.heap.size + 1) l2 a2 b2 g2 ∧ Below w.heap.size w W') := fun W W' ⟨h0, h1, hb⟩ h => ⟨h0.later h, h1.later h, hb.trans (h.mono hb.size)⟩
    have hz0_ : Hid ((((w.alloc (Obj.cells #[.int .i64 l, .int .i64 a, .int .i64 b, .int .i64 g] 25)).alloc (Obj.cells #[.int .i64 l2, .int .i64 a2, .int .i64 b2, .int .i64 g2] 25))).heap.size = w.heap.size + 1 + 1) := Lib.hid (by simp)
    generalize ((w.alloc (Obj.cells #[.int .i64 l, .int .i64 a, .int .i64 b, .int .i64 g] 25)).alloc (Obj.cells #[.int .i64 l2, .int .i64 a2, .int .i64 b2, .int .i64 g2] 25)) = w0 at X0 X1 b0 hz0_ ⊢
    have S0 := (⟨X0, X1, b0⟩ : Tup4.Box w0 (w.heap.size) l a b g ∧ Tup4.Box w0 (w.heap.size + 1) l2 a2 b2 g2 ∧ Below w.heap.size w w0)
    clear X0 X1 b0
    obtain ⟨⟨_, _, _, _⟩, ⟨_, _, _, _⟩, _⟩ := id S0
    refine (Q1.out _).mono ?_
    rintro e w4 ⟨rfl, hb_⟩
    replace S0 := HO _ _ S0 hb_
    clear hb_
    obtain ⟨⟨_, _, _, _⟩, ⟨_, _, _, _⟩, _⟩ := id S0
    go_wp2_with fail
    refine (Q2.out _).mono ?_
    rintro e w5 ⟨rfl, hb_⟩
    replace S0 := HO _ _ S0 hb_
    clear hb_
    obtain ⟨⟨_, _, _, _⟩, ⟨_, _, _, _⟩, _⟩ := id S0
    go_wp2_with fail
    go_ret
    exact ⟨ret_bool E.out.symm, S0.2.2⟩
  by_cases h1 : a2 ≤ a
  rotate_left
  · have E : Hid (r = false) := Lib.hid (by rw [HE.out, decide_eq_false h1]; simp)
    have n1 : a < a2 := by omega
    clear HE
    go_enter Try.func12, Try.ntmps12
    go_wp2_with fail
    have X0 := (Tup4.box1 w l a b g 25 (k := w.heap.size) (by simp)).alloc (Obj.cells #[.int .i64 l2, .int .i64 a2, .int .i64 b2, .int .i64 g2] 25)
    have X1 := Tup4.box1 (w.alloc (Obj.cells #[.int .i64 l, .int .i64 a, .int .i64 b, .int .i64 g] 25)) l2 a2 b2 g2 25 (k := w.heap.size + 1) (by simp)
    have b0 := PointOk.below2 w (Obj.cells #[.int .i64 l, .int .i64 a, .int .i64 b, .int .i64 g] 25) (Obj.cells #[.int .i64 l2, .int .i64 a2, .int .i64 b2, .int .i64 g2] 25)
    have HO : ∀ W W' : World, (Tup4.Box W (w.heap.size) l a b g ∧ Tup4.Box W (w.heap.size + 1) l2 a2 b2 g2 ∧ Below w.heap.size w W) → Below W.heap.size W W' → (Tup4.Box W' (w.heap.size) l a b g ∧ Tup4.Box W' (w.heap.size + 1) l2 a2 b2 g2 ∧ Below w.heap.size w W') := fun W W' ⟨h0, h1, hb⟩ h => ⟨h0.later h, h1.later h, hb.trans (h.mono hb.size)⟩
    have hz0_ : Hid ((((w.alloc (Obj.cells #[.int .i64 l, .int .i64 a, .int .i64 b, .int .i64 g] 25)).alloc (Obj.cells #[.int .i64 l2, .int .i64 a2, .int .i64 b2, .int .i64 g2] 25))).heap.size = w.heap.size + 1 + 1) := Lib.hid (by simp)
    generalize ((w.alloc (Obj.cells #[.int .i64 l, .int .i64 a, .int .i64 b, .int .i64 g] 25)).alloc (Obj.cells #[.int .i64 l2, .int .i64 a2, .int .i64 b2, .int .i64 g2] 25)) = w0 at X0 X1 b0 hz0_ ⊢
    have S0 := (⟨X0, X1, b0⟩ : Tup4.Box w0 (w.heap.size) l a b g ∧ Tup4.Box w0 (w.heap.size + 1) l2 a2 b2 g2 ∧ Below w.heap.size w w0)
    clear X0 X1 b0
    obtain ⟨⟨_, _, _, _⟩, ⟨_, _, _, _⟩, _⟩ := id S0
    refine (Q1.out _).mono ?_
    rintro e w6 ⟨rfl, hb_⟩
    replace S0 := HO _ _ S0 hb_
    clear hb_
    obtain ⟨⟨_, _, _, _⟩, ⟨_, _, _, _⟩, _⟩ := id S0
    go_wp2_with fail
    refine (Q2.out _).mono ?_
    rintro e w7 ⟨rfl, hb_⟩
    replace S0 := HO _ _ S0 hb_
    clear hb_
    obtain ⟨⟨_, _, _, _⟩, ⟨_, _, _, _⟩, _⟩ := id S0
    go_wp2_with fail
    go_ret
    exact ⟨ret_bool E.out.symm, S0.2.2⟩
  by_cases h2 : b ≤ b2
  rotate_left
  · have E : Hid (r = false) := Lib.hid (by rw [HE.out, decide_eq_false h2]; simp)
    have n2 : b2 < b := by omega
    clear HE
    go_enter Try.func12, Try.ntmps12
    go_wp2_with fail
    have X0 := (Tup4.box1 w l a b g 25 (k := w.heap.size) (by simp)).alloc (Obj.cells #[.int .i64 l2, .int .i64 a2, .int .i64 b2, .int .i64 g2] 25)
    have X1 := Tup4.box1 (w.alloc (Obj.cells #[.int .i64 l, .int .i64 a, .int .i64 b, .int .i64 g] 25)) l2 a2 b2 g2 25 (k := w.heap.size + 1) (by simp)
    have b0 := PointOk.below2 w (Obj.cells #[.int .i64 l, .int .i64 a, .int .i64 b, .int .i64 g] 25) (Obj.cells #[.int .i64 l2, .int .i64 a2, .int .i64 b2, .int .i64 g2] 25)
    have HO : ∀ W W' : World, (Tup4.Box W (w.heap.size) l a b g ∧ Tup4.Box W (w.heap.size + 1) l2 a2 b2 g2 ∧ Below w.heap.size w W) → Below W.heap.size W W' → (Tup4.Box W' (w.heap.size) l a b g ∧ Tup4.Box W' (w.heap.size + 1) l2 a2 b2 g2 ∧ Below w.heap.size w W') := fun W W' ⟨h0, h1, hb⟩ h => ⟨h0.later h, h1.later h, hb.trans (h.mono hb.size)⟩
    have hz0_ : Hid ((((w.alloc (Obj.cells #[.int .i64 l, .int .i64 a, .int .i64 b, .int .i64 g] 25)).alloc (Obj.cells #[.int .i64 l2, .int .i64 a2, .int .i64 b2, .int .i64 g2] 25))).heap.size = w.heap.size + 1 + 1) := Lib.hid (by simp)
    generalize ((w.alloc (Obj.cells #[.int .i64 l, .int .i64 a, .int .i64 b, .int .i64 g] 25)).alloc (Obj.cells #[.int .i64 l2, .int .i64 a2, .int .i64 b2, .int .i64 g2] 25)) = w0 at X0 X1 b0 hz0_ ⊢
    have S0 := (⟨X0, X1, b0⟩ : Tup4.Box w0 (w.heap.size) l a b g ∧ Tup4.Box w0 (w.heap.size + 1) l2 a2 b2 g2 ∧ Below w.heap.size w w0)
    clear X0 X1 b0
    obtain ⟨⟨_, _, _, _⟩, ⟨_, _, _, _⟩, _⟩ := id S0
    refine (Q1.out _).mono ?_
    rintro e w8 ⟨rfl, hb_⟩
    replace S0 := HO _ _ S0 hb_
    clear hb_
    obtain ⟨⟨_, _, _, _⟩, ⟨_, _, _, _⟩, _⟩ := id S0
    go_wp2_with fail
    refine (Q2.out _).mono ?_
    rintro e w9 ⟨rfl, hb_⟩
    replace S0 := HO _ _ S0 hb_
    clear hb_
    obtain ⟨⟨_, _, _, _⟩, ⟨_, _, _, _⟩, _⟩ := id S0
    go_wp2_with fail
    go_ret
    exact ⟨ret_bool E.out.symm, S0.2.2⟩
  have E : Hid (r = decide (g2 ≤ g)) := Lib.hid (by rw [HE.out, decide_eq_true h0, decide_eq_true h1, decide_eq_true h2]; rfl)
  clear HE
  go_enter Try.func12, Try.ntmps12
  go_wp2_with fail
  have X0 := (Tup4.box1 w l a b g 25 (k := w.heap.size) (by simp)).alloc (Obj.cells #[.int .i64 l2, .int .i64 a2, .int .i64 b2, .int .i64 g2] 25)
  have X1 := Tup4.box1 (w.alloc (Obj.cells #[.int .i64 l, .int .i64 a, .int .i64 b, .int .i64 g] 25)) l2 a2 b2 g2 25 (k := w.heap.size + 1) (by simp)
  have b0 := PointOk.below2 w (Obj.cells #[.int .i64 l, .int .i64 a, .int .i64 b, .int .i64 g] 25) (Obj.cells #[.int .i64 l2, .int .i64 a2, .int .i64 b2, .int .i64 g2] 25)
  have HO : ∀ W W' : World, (Tup4.Box W (w.heap.size) l a b g ∧ Tup4.Box W (w.heap.size + 1) l2 a2 b2 g2 ∧ Below w.heap.size w W) → Below W.heap.size W W' → (Tup4.Box W' (w.heap.size) l a b g ∧ Tup4.Box W' (w.heap.size + 1) l2 a2 b2 g2 ∧ Below w.heap.size w W') := fun W W' ⟨h0, h1, hb⟩ h => ⟨h0.later h, h1.later h, hb.trans (h.mono hb.size)⟩
  have hz0_ : Hid ((((w.alloc (Obj.cells #[.int .i64 l, .int .i64 a, .int .i64 b, .int .i64 g] 25)).alloc (Obj.cells #[.int .i64 l2, .int .i64 a2, .int .i64 b2, .int .i64 g2] 25))).heap.size = w.heap.size + 1 + 1) := Lib.hid (by simp)
  generalize ((w.alloc (Obj.cells #[.int .i64 l, .int .i64 a, .int .i64 b, .int .i64 g] 25)).alloc (Obj.cells #[.int .i64 l2, .int .i64 a2, .int .i64 b2, .int .i64 g2] 25)) = w0 at X0 X1 b0 hz0_ ⊢
  have S0 := (⟨X0, X1, b0⟩ : Tup4.Box w0 (w.heap.size) l a b g ∧ Tup4.Box w0 (w.heap.size + 1) l2 a2 b2 g2 ∧ Below w.heap.size w w0)
  clear X0 X1 b0
  obtain ⟨⟨_, _, _, _⟩, ⟨_, _, _, _⟩, _⟩ := id S0
  refine (Q1.out _).mono ?_
  rintro e w10 ⟨rfl, hb_⟩
  replace S0 := HO _ _ S0 hb_
  clear hb_
  obtain ⟨⟨_, _, _, _⟩, ⟨_, _, _, _⟩, _⟩ := id S0
  go_wp2_with fail
  refine (Q2.out _).mono ?_
  rintro e w11 ⟨rfl, hb_⟩
  replace S0 := HO _ _ S0 hb_
  clear hb_
  obtain ⟨⟨_, _, _, _⟩, ⟨_, _, _, _⟩, _⟩ := id S0
  go_wp2_with fail
  go_ret
  exact ⟨ret_bool E.out.symm, S0.2.2⟩

theorem tooBright (l x h y : Int) (w : World) : Calls Try.prog 32 #[.agg #[.int .i64 l], .agg #[.int .i64 x, .int .i64 h, .int .i64 y]] w fun e w' => e = .returned (.bool (decide (l < x))) ∧ Below w.heap.size w w' := by
  obtain ⟨r, hr⟩ : ∃ r, decide (l < x) = r := ⟨_, rfl⟩
  have HR := Lib.hid hr
  rw [hr]
  clear hr
  go_enter Try.func32, Try.ntmps32
  go_wp2_with fail
  have X0 := cell_later (PointOk.below1 _ (Obj.cells #[.int .i64 x, .int .i64 h, .int .i64 y] 36)) (Blk.boxI w l 64 (k := w.heap.size) (by simp))
  have X1 := Tup3.box1 (w.alloc (Obj.cells #[.int .i64 l] 64)) x h y 36 (k := w.heap.size + 1) (by simp)
  have b0 := PointOk.below2 w (Obj.cells #[.int .i64 l] 64) (Obj.cells #[.int .i64 x, .int .i64 h, .int .i64 y] 36)
  have HO : ∀ W W' : World, (W.cell? ⟨w.heap.size, 0, none⟩ = some (.int .i64 l) ∧ Tup3.Box W (w.heap.size + 1) x h y ∧ Below w.heap.size w W) → Below W.heap.size W W' → (W'.cell? ⟨w.heap.size, 0, none⟩ = some (.int .i64 l) ∧ Tup3.Box W' (w.heap.size + 1) x h y ∧ Below w.heap.size w W') := fun W W' ⟨h0, h1, hb⟩ h => ⟨cell_later h h0, h1.later h, hb.trans (h.mono hb.size)⟩
  have hz0_ : Hid ((((w.alloc (Obj.cells #[.int .i64 l] 64)).alloc (Obj.cells #[.int .i64 x, .int .i64 h, .int .i64 y] 36))).heap.size = w.heap.size + 1 + 1) := Lib.hid (by simp)
  generalize ((w.alloc (Obj.cells #[.int .i64 l] 64)).alloc (Obj.cells #[.int .i64 x, .int .i64 h, .int .i64 y] 36)) = w0 at X0 X1 b0 hz0_ ⊢
  have S0 := (⟨X0, X1, b0⟩ : w0.cell? ⟨w.heap.size, 0, none⟩ = some (.int .i64 l) ∧ Tup3.Box w0 (w.heap.size + 1) x h y ∧ Below w.heap.size w w0)
  clear X0 X1 b0
  obtain ⟨_, ⟨_, _, _⟩, _⟩ := id S0
  go_ret
  exact ⟨ret_bool (by rw [← HR.out]), S0.2.2⟩

theorem tooDry (a b x h y : Int) (w : World) : Calls Try.prog 33 #[.agg #[.int .i64 a, .int .i64 b], .agg #[.int .i64 x, .int .i64 h, .int .i64 y]] w fun e w' => e = .returned (.bool (!decide (a ≤ h ∧ h ≤ b))) ∧ Below w.heap.size w w' := by
  obtain ⟨r, hr⟩ : ∃ r, (!decide (a ≤ h ∧ h ≤ b)) = r := ⟨_, rfl⟩
  have HR := Lib.hid hr
  rw [hr]
  clear hr
  by_cases h1 : h < a
  · have E : Hid (r = true) := Lib.hid (by rw [← HR.out, decide_eq_false (by omega)]; rfl)
    clear HR
    go_enter Try.func33, Try.ntmps33
    go_wp2_with fail
    have X0 := (PointOk.box1 w a b 66 (k := w.heap.size) (by simp)).alloc (Obj.cells #[.int .i64 x, .int .i64 h, .int .i64 y] 36)
    have X1 := Tup3.box1 (w.alloc (Obj.cells #[.int .i64 a, .int .i64 b] 66)) x h y 36 (k := w.heap.size + 1) (by simp)
    have b0 := PointOk.below2 w (Obj.cells #[.int .i64 a, .int .i64 b] 66) (Obj.cells #[.int .i64 x, .int .i64 h, .int .i64 y] 36)
    have HO : ∀ W W' : World, (PointOk.Box W (w.heap.size) a b ∧ Tup3.Box W (w.heap.size + 1) x h y ∧ Below w.heap.size w W) → Below W.heap.size W W' → (PointOk.Box W' (w.heap.size) a b ∧ Tup3.Box W' (w.heap.size + 1) x h y ∧ Below w.heap.size w W') := fun W W' ⟨h0, h1, hb⟩ h => ⟨h0.later h, h1.later h, hb.trans (h.mono hb.size)⟩
    have hz0_ : Hid ((((w.alloc (Obj.cells #[.int .i64 a, .int .i64 b] 66)).alloc (Obj.cells #[.int .i64 x, .int .i64 h, .int .i64 y] 36))).heap.size = w.heap.size + 1 + 1) := Lib.hid (by simp)
    generalize ((w.alloc (Obj.cells #[.int .i64 a, .int .i64 b] 66)).alloc (Obj.cells #[.int .i64 x, .int .i64 h, .int .i64 y] 36)) = w0 at X0 X1 b0 hz0_ ⊢
    have S0 := (⟨X0, X1, b0⟩ : PointOk.Box w0 (w.heap.size) a b ∧ Tup3.Box w0 (w.heap.size + 1) x h y ∧ Below w.heap.size w w0)
    clear X0 X1 b0
    obtain ⟨⟨_, _⟩, ⟨_, _, _⟩, _⟩ := id S0
    go_ret
    exact ⟨ret_bool E.out.symm, S0.2.2⟩
  have E : Hid (r = decide (b < h)) := Lib.hid (by rw [← HR.out, Bool.eq_iff_iff]; simp; omega)
  clear HR
  go_enter Try.func33, Try.ntmps33
  go_wp2_with fail
  have X0 := (PointOk.box1 w a b 66 (k := w.heap.size) (by simp)).alloc (Obj.cells #[.int .i64 x, .int .i64 h, .int .i64 y] 36)
  have X1 := Tup3.box1 (w.alloc (Obj.cells #[.int .i64 a, .int .i64 b] 66)) x h y 36 (k := w.heap.size + 1) (by simp)
  have b0 := PointOk.below2 w (Obj.cells #[.int .i64 a, .int .i64 b] 66) (Obj.cells #[.int .i64 x, .int .i64 h, .int .i64 y] 36)
  have HO : ∀ W W' : World, (PointOk.Box W (w.heap.size) a b ∧ Tup3.Box W (w.heap.size + 1) x h y ∧ Below w.heap.size w W) → Below W.heap.size W W' → (PointOk.Box W' (w.heap.size) a b ∧ Tup3.Box W' (w.heap.size + 1) x h y ∧ Below w.heap.size w W') := fun W W' ⟨h0, h1, hb⟩ h => ⟨h0.later h, h1.later h, hb.trans (h.mono hb.size)⟩
  have hz0_ : Hid ((((w.alloc (Obj.cells #[.int .i64 a, .int .i64 b] 66)).alloc (Obj.cells #[.int .i64 x, .int .i64 h, .int .i64 y] 36))).heap.size = w.heap.size + 1 + 1) := Lib.hid (by simp)
  generalize ((w.alloc (Obj.cells #[.int .i64 a, .int .i64 b] 66)).alloc (Obj.cells #[.int .i64 x, .int .i64 h, .int .i64 y] 36)) = w0 at X0 X1 b0 hz0_ ⊢
  have S0 := (⟨X0, X1, b0⟩ : PointOk.Box w0 (w.heap.size) a b ∧ Tup3.Box w0 (w.heap.size + 1) x h y ∧ Below w.heap.size w w0)
  clear X0 X1 b0
  obtain ⟨⟨_, _⟩, ⟨_, _, _⟩, _⟩ := id S0
  go_ret
  exact ⟨ret_bool (by rw [E.out]), S0.2.2⟩

theorem badlyGuarded (g x h y : Int) (w : World) : Calls Try.prog 34 #[.agg #[.int .i64 g], .agg #[.int .i64 x, .int .i64 h, .int .i64 y]] w fun e w' => e = .returned (.bool (decide (y < g))) ∧ Below w.heap.size w w' := by
  obtain ⟨r, hr⟩ : ∃ r, decide (y < g) = r := ⟨_, rfl⟩
  have HR := Lib.hid hr
  rw [hr]
  clear hr
  go_enter Try.func34, Try.ntmps34
  go_wp2_with fail
  have X0 := cell_later (PointOk.below1 _ (Obj.cells #[.int .i64 x, .int .i64 h, .int .i64 y] 36)) (Blk.boxI w g 68 (k := w.heap.size) (by simp))
  have X1 := Tup3.box1 (w.alloc (Obj.cells #[.int .i64 g] 68)) x h y 36 (k := w.heap.size + 1) (by simp)
  have b0 := PointOk.below2 w (Obj.cells #[.int .i64 g] 68) (Obj.cells #[.int .i64 x, .int .i64 h, .int .i64 y] 36)
  have HO : ∀ W W' : World, (W.cell? ⟨w.heap.size, 0, none⟩ = some (.int .i64 g) ∧ Tup3.Box W (w.heap.size + 1) x h y ∧ Below w.heap.size w W) → Below W.heap.size W W' → (W'.cell? ⟨w.heap.size, 0, none⟩ = some (.int .i64 g) ∧ Tup3.Box W' (w.heap.size + 1) x h y ∧ Below w.heap.size w W') := fun W W' ⟨h0, h1, hb⟩ h => ⟨cell_later h h0, h1.later h, hb.trans (h.mono hb.size)⟩
  have hz0_ : Hid ((((w.alloc (Obj.cells #[.int .i64 g] 68)).alloc (Obj.cells #[.int .i64 x, .int .i64 h, .int .i64 y] 36))).heap.size = w.heap.size + 1 + 1) := Lib.hid (by simp)
  generalize ((w.alloc (Obj.cells #[.int .i64 g] 68)).alloc (Obj.cells #[.int .i64 x, .int .i64 h, .int .i64 y] 36)) = w0 at X0 X1 b0 hz0_ ⊢
  have S0 := (⟨X0, X1, b0⟩ : w0.cell? ⟨w.heap.size, 0, none⟩ = some (.int .i64 g) ∧ Tup3.Box w0 (w.heap.size + 1) x h y ∧ Below w.heap.size w w0)
  clear X0 X1 b0
  obtain ⟨_, ⟨_, _, _⟩, _⟩ := id S0
  go_ret
  exact ⟨ret_bool (by rw [← HR.out]), S0.2.2⟩

theorem contractOf (l a b g : Int) (w : World) : Calls Try.prog 31 #[.agg #[.int .i64 l, .int .i64 a, .int .i64 b, .int .i64 g]] w fun e w' => e = .returned (.agg #[.int .i64 l, .int .i64 a, .int .i64 b, .int .i64 g]) ∧ Below w.heap.size w w' := by
  go_enter Try.func31, Try.ntmps31
  go_wp2_with fail
  refine bodyPost_ret (v := .agg #[.int .i64 l, .int .i64 a, .int .i64 b, .int .i64 g]) (by simp [results, Try.results31, go_sem]) rfl ⟨rfl, ?_⟩
  exact below2 _ _ _

set_option maxRecDepth 100000 in
set_option maxHeartbeats 3200000 in
theorem breaches (l a b g x h y : Int) (w : World) :
    Calls Try.prog 11 #[.agg #[.int .i64 l, .int .i64 a, .int .i64 b, .int .i64 g], .agg #[.int .i64 x, .int .i64 h, .int .i64 y]] w fun e w' => e = .returned (.int .i64 (breachI l a b g x h y)) ∧ Below w.heap.size w w' := by
  obtain ⟨r, hr⟩ : ∃ r, breachI l a b g x h y = r := ⟨_, rfl⟩
  have HR := Lib.hid hr
  rw [hr]
  clear hr
  have Q1 := Lib.hid fun w => loanOk l a b g w
  cases o1 : loanB l a b g
  · have E : Hid (r = 7) := Lib.hid (by rw [← HR.out]; unfold breachI; rw [o1]; rfl)
    rw [o1] at Q1
    clear HR o1
    go_enter Try.func11, Try.ntmps11
    go_wp2_with fail
    have X0 := (Tup4.box1 w l a b g 25 (k := w.heap.size) (by simp)).alloc (Obj.cells #[.int .i64 x, .int .i64 h, .int .i64 y] 36)
    have X1 := Tup3.box1 (w.alloc (Obj.cells #[.int .i64 l, .int .i64 a, .int .i64 b, .int .i64 g] 25)) x h y 36 (k := w.heap.size + 1) (by simp)
    have b0 := PointOk.below2 w (Obj.cells #[.int .i64 l, .int .i64 a, .int .i64 b, .int .i64 g] 25) (Obj.cells #[.int .i64 x, .int .i64 h, .int .i64 y] 36)
    have HO : ∀ W W' : World, (Tup4.Box W (w.heap.size) l a b g ∧ Tup3.Box W (w.heap.size + 1) x h y ∧ Below w.heap.size w W) → Below W.heap.size W W' → (Tup4.Box W' (w.heap.size) l a b g ∧ Tup3.Box W' (w.heap.size + 1) x h y ∧ Below w.heap.size w W') := fun W W' ⟨h0, h1, hb⟩ h => ⟨h0.later h, h1.later h, hb.trans (h.mono hb.size)⟩
    have hz0_ : Hid ((((w.alloc (Obj.cells #[.int .i64 l, .int .i64 a, .int .i64 b, .int .i64 g] 25)).alloc (Obj.cells #[.int .i64 x, .int .i64 h, .int .i64 y] 36))).heap.size = w.heap.size + 1 + 1) := Lib.hid (by simp)
    generalize ((w.alloc (Obj.cells #[.int .i64 l, .int .i64 a, .int .i64 b, .int .i64 g] 25)).alloc (Obj.cells #[.int .i64 x, .int .i64 h, .int .i64 y] 36)) = w0 at X0 X1 b0 hz0_ ⊢
    have S0 := (⟨X0, X1, b0⟩ : Tup4.Box w0 (w.heap.size) l a b g ∧ Tup3.Box w0 (w.heap.size + 1) x h y ∧ Below w.heap.size w w0)
    clear X0 X1 b0
    obtain ⟨⟨_, _, _, _⟩, ⟨_, _, _⟩, _⟩ := id S0
    refine (Q1.out _).mono ?_
    rintro e w1 ⟨rfl, hb_⟩
    replace S0 := HO _ _ S0 hb_
    clear hb_
    obtain ⟨⟨_, _, _, _⟩, ⟨_, _, _⟩, _⟩ := id S0
    go_wp2_with fail
    go_ret
    exact ⟨ret_i64 E.out.symm, S0.2.2⟩
  have HE : Hid (r = (if l < x then 1 else 0) + (if a ≤ h ∧ h ≤ b then 0 else 2) + (if y < g then 4 else 0)) := Lib.hid (by rw [← HR.out]; unfold breachI; rw [o1]; rfl)
  rw [o1] at Q1
  clear HR o1
  have QK := Lib.hid fun w => contractOf l a b g w
  have QA := Lib.hid fun w => tooBright l x h y w
  have QB := Lib.hid fun w => tooDry a b x h y w
  have QC := Lib.hid fun w => badlyGuarded g x h y w
  by_cases k1 : l < x <;> by_cases k2 : a ≤ h ∧ h ≤ b <;> by_cases k3 : y < g
  · skip
    have E : Hid (r = 5) := Lib.hid (by rw [HE.out, if_pos k1, if_pos k2, if_pos k3]; rfl)
    have d1 : decide (l < x) = true := decide_eq_true k1
    have d2 : (!decide (a ≤ h ∧ h ≤ b)) = false := by rw [decide_eq_true k2]; rfl
    have d3 : decide (y < g) = true := decide_eq_true k3
    rw [d1] at QA
    rw [d2] at QB
    rw [d3] at QC
    clear HE d1 d2 d3 k1 k2 k3
    go_enter Try.func11, Try.ntmps11
    go_wp2_with fail
    have X0 := (Tup4.box1 w l a b g 25 (k := w.heap.size) (by simp)).alloc (Obj.cells #[.int .i64 x, .int .i64 h, .int .i64 y] 36)
    have X1 := Tup3.box1 (w.alloc (Obj.cells #[.int .i64 l, .int .i64 a, .int .i64 b, .int .i64 g] 25)) x h y 36 (k := w.heap.size + 1) (by simp)
    have b0 := PointOk.below2 w (Obj.cells #[.int .i64 l, .int .i64 a, .int .i64 b, .int .i64 g] 25) (Obj.cells #[.int .i64 x, .int .i64 h, .int .i64 y] 36)
    have HO : ∀ W W' : World, (Tup4.Box W (w.heap.size) l a b g ∧ Tup3.Box W (w.heap.size + 1) x h y ∧ Below w.heap.size w W) → Below W.heap.size W W' → (Tup4.Box W' (w.heap.size) l a b g ∧ Tup3.Box W' (w.heap.size + 1) x h y ∧ Below w.heap.size w W') := fun W W' ⟨h0, h1, hb⟩ h => ⟨h0.later h, h1.later h, hb.trans (h.mono hb.size)⟩
    have hz0_ : Hid ((((w.alloc (Obj.cells #[.int .i64 l, .int .i64 a, .int .i64 b, .int .i64 g] 25)).alloc (Obj.cells #[.int .i64 x, .int .i64 h, .int .i64 y] 36))).heap.size = w.heap.size + 1 + 1) := Lib.hid (by simp)
    generalize ((w.alloc (Obj.cells #[.int .i64 l, .int .i64 a, .int .i64 b, .int .i64 g] 25)).alloc (Obj.cells #[.int .i64 x, .int .i64 h, .int .i64 y] 36)) = w0 at X0 X1 b0 hz0_ ⊢
    have S0 := (⟨X0, X1, b0⟩ : Tup4.Box w0 (w.heap.size) l a b g ∧ Tup3.Box w0 (w.heap.size + 1) x h y ∧ Below w.heap.size w w0)
    clear X0 X1 b0
    obtain ⟨⟨_, _, _, _⟩, ⟨_, _, _⟩, _⟩ := id S0
    refine (Q1.out _).mono ?_
    rintro e w2 ⟨rfl, hb_⟩
    replace S0 := HO _ _ S0 hb_
    clear hb_
    obtain ⟨⟨_, _, _, _⟩, ⟨_, _, _⟩, _⟩ := id S0
    go_wp2_with fail
    refine (QK.out _).mono ?_
    rintro e w3 ⟨rfl, hb_⟩
    replace S0 := HO _ _ S0 hb_
    clear hb_
    obtain ⟨⟨_, _, _, _⟩, ⟨_, _, _⟩, _⟩ := id S0
    have lt_0 := World.block_lt_of_cell? _ _ S0.1.1
    have lt_1 := World.block_lt_of_cell? _ _ S0.2.1.1
    have hb_ := PointOk.below1 w3 (Obj.cells #[.int .i64 l, .int .i64 a, .int .i64 b, .int .i64 g] 70)
    have KD := Blk.Holds.box w3 #[.int .i64 l, .int .i64 a, .int .i64 b, .int .i64 g] 70 rfl
    replace S0 := HO _ _ S0 hb_
    clear hb_
    obtain ⟨⟨_, _, _, _⟩, ⟨_, _, _⟩, _⟩ := id S0
    obtain ⟨⟨_, _, _, _⟩, _⟩ := KD.four
    go_wp2_with fail
    generalize w3.alloc (Obj.cells #[.int .i64 l, .int .i64 a, .int .i64 b, .int .i64 g] 70) = v3_KD at *
    clear lt_0 lt_1
    refine (QA.out _).mono ?_
    rintro e w4 ⟨rfl, hb_⟩
    replace S0 := HO _ _ S0 hb_
    replace KD := KD.later hb_
    clear hb_
    obtain ⟨⟨_, _, _, _⟩, ⟨_, _, _⟩, _⟩ := id S0
    obtain ⟨⟨_, _, _, _⟩, _⟩ := KD.four
    go_wp2_with fail
    refine (QB.out _).mono ?_
    rintro e w5 ⟨rfl, hb_⟩
    replace S0 := HO _ _ S0 hb_
    replace KD := KD.later hb_
    clear hb_
    obtain ⟨⟨_, _, _, _⟩, ⟨_, _, _⟩, _⟩ := id S0
    obtain ⟨⟨_, _, _, _⟩, _⟩ := KD.four
    go_wp2_with fail
    refine (QC.out _).mono ?_
    rintro e w6 ⟨rfl, hb_⟩
    replace S0 := HO _ _ S0 hb_
    replace KD := KD.later hb_
    clear hb_
    obtain ⟨⟨_, _, _, _⟩, ⟨_, _, _⟩, _⟩ := id S0
    obtain ⟨⟨_, _, _, _⟩, _⟩ := KD.four
    go_wp2_with fail
    go_ret
    exact ⟨ret_i64 E.out.symm, S0.2.2⟩
  · skip
    have E : Hid (r = 1) := Lib.hid (by rw [HE.out, if_pos k1, if_pos k2, if_neg k3]; rfl)
    have d1 : decide (l < x) = true := decide_eq_true k1
    have d2 : (!decide (a ≤ h ∧ h ≤ b)) = false := by rw [decide_eq_true k2]; rfl
    have d3 : decide (y < g) = false := decide_eq_false k3
    rw [d1] at QA
    rw [d2] at QB
    rw [d3] at QC
    clear HE d1 d2 d3 k1 k2 k3
    go_enter Try.func11, Try.ntmps11
    go_wp2_with fail
    have X0 := (Tup4.box1 w l a b g 25 (k := w.heap.size) (by simp)).alloc (Obj.cells #[.int .i64 x, .int .i64 h, .int .i64 y] 36)
    have X1 := Tup3.box1 (w.alloc (Obj.cells #[.int .i64 l, .int .i64 a, .int .i64 b, .int .i64 g] 25)) x h y 36 (k := w.heap.size + 1) (by simp)
    have b0 := PointOk.below2 w (Obj.cells #[.int .i64 l, .int .i64 a, .int .i64 b, .int .i64 g] 25) (Obj.cells #[.int .i64 x, .int .i64 h, .int .i64 y] 36)
    have HO : ∀ W W' : World, (Tup4.Box W (w.heap.size) l a b g ∧ Tup3.Box W (w.heap.size + 1) x h y ∧ Below w.heap.size w W) → Below W.heap.size W W' → (Tup4.Box W' (w.heap.size) l a b g ∧ Tup3.Box W' (w.heap.size + 1) x h y ∧ Below w.heap.size w W') := fun W W' ⟨h0, h1, hb⟩ h => ⟨h0.later h, h1.later h, hb.trans (h.mono hb.size)⟩
    have hz0_ : Hid ((((w.alloc (Obj.cells #[.int .i64 l, .int .i64 a, .int .i64 b, .int .i64 g] 25)).alloc (Obj.cells #[.int .i64 x, .int .i64 h, .int .i64 y] 36))).heap.size = w.heap.size + 1 + 1) := Lib.hid (by simp)
    generalize ((w.alloc (Obj.cells #[.int .i64 l, .int .i64 a, .int .i64 b, .int .i64 g] 25)).alloc (Obj.cells #[.int .i64 x, .int .i64 h, .int .i64 y] 36)) = w0 at X0 X1 b0 hz0_ ⊢
    have S0 := (⟨X0, X1, b0⟩ : Tup4.Box w0 (w.heap.size) l a b g ∧ Tup3.Box w0 (w.heap.size + 1) x h y ∧ Below w.heap.size w w0)
    clear X0 X1 b0
    obtain ⟨⟨_, _, _, _⟩, ⟨_, _, _⟩, _⟩ := id S0
    refine (Q1.out _).mono ?_
    rintro e w7 ⟨rfl, hb_⟩
    replace S0 := HO _ _ S0 hb_
    clear hb_
    obtain ⟨⟨_, _, _, _⟩, ⟨_, _, _⟩, _⟩ := id S0
    go_wp2_with fail
    refine (QK.out _).mono ?_
    rintro e w8 ⟨rfl, hb_⟩
    replace S0 := HO _ _ S0 hb_
    clear hb_
    obtain ⟨⟨_, _, _, _⟩, ⟨_, _, _⟩, _⟩ := id S0
    have lt_0 := World.block_lt_of_cell? _ _ S0.1.1
    have lt_1 := World.block_lt_of_cell? _ _ S0.2.1.1
    have hb_ := PointOk.below1 w8 (Obj.cells #[.int .i64 l, .int .i64 a, .int .i64 b, .int .i64 g] 70)
    have KD := Blk.Holds.box w8 #[.int .i64 l, .int .i64 a, .int .i64 b, .int .i64 g] 70 rfl
    replace S0 := HO _ _ S0 hb_
    clear hb_
    obtain ⟨⟨_, _, _, _⟩, ⟨_, _, _⟩, _⟩ := id S0
    obtain ⟨⟨_, _, _, _⟩, _⟩ := KD.four
    go_wp2_with fail
    generalize w8.alloc (Obj.cells #[.int .i64 l, .int .i64 a, .int .i64 b, .int .i64 g] 70) = v8_KD at *
    clear lt_0 lt_1
    refine (QA.out _).mono ?_
    rintro e w9 ⟨rfl, hb_⟩
    replace S0 := HO _ _ S0 hb_
    replace KD := KD.later hb_
    clear hb_
    obtain ⟨⟨_, _, _, _⟩, ⟨_, _, _⟩, _⟩ := id S0
    obtain ⟨⟨_, _, _, _⟩, _⟩ := KD.four
    go_wp2_with fail
    refine (QB.out _).mono ?_
    rintro e w10 ⟨rfl, hb_⟩
    replace S0 := HO _ _ S0 hb_
    replace KD := KD.later hb_
    clear hb_
    obtain ⟨⟨_, _, _, _⟩, ⟨_, _, _⟩, _⟩ := id S0
    obtain ⟨⟨_, _, _, _⟩, _⟩ := KD.four
    go_wp2_with fail
    refine (QC.out _).mono ?_
    rintro e w11 ⟨rfl, hb_⟩
    replace S0 := HO _ _ S0 hb_
    replace KD := KD.later hb_
    clear hb_
    obtain ⟨⟨_, _, _, _⟩, ⟨_, _, _⟩, _⟩ := id S0
    obtain ⟨⟨_, _, _, _⟩, _⟩ := KD.four
    go_wp2_with fail
    go_ret
    exact ⟨ret_i64 E.out.symm, S0.2.2⟩
  · skip
    have E : Hid (r = 7) := Lib.hid (by rw [HE.out, if_pos k1, if_neg k2, if_pos k3]; rfl)
    have d1 : decide (l < x) = true := decide_eq_true k1
    have d2 : (!decide (a ≤ h ∧ h ≤ b)) = true := by rw [decide_eq_false k2]; rfl
    have d3 : decide (y < g) = true := decide_eq_true k3
    rw [d1] at QA
    rw [d2] at QB
    rw [d3] at QC
    clear HE d1 d2 d3 k1 k2 k3
    go_enter Try.func11, Try.ntmps11
    go_wp2_with fail
    have X0 := (Tup4.box1 w l a b g 25 (k := w.heap.size) (by simp)).alloc (Obj.cells #[.int .i64 x, .int .i64 h, .int .i64 y] 36)
    have X1 := Tup3.box1 (w.alloc (Obj.cells #[.int .i64 l, .int .i64 a, .int .i64 b, .int .i64 g] 25)) x h y 36 (k := w.heap.size + 1) (by simp)
    have b0 := PointOk.below2 w (Obj.cells #[.int .i64 l, .int .i64 a, .int .i64 b, .int .i64 g] 25) (Obj.cells #[.int .i64 x, .int .i64 h, .int .i64 y] 36)
    have HO : ∀ W W' : World, (Tup4.Box W (w.heap.size) l a b g ∧ Tup3.Box W (w.heap.size + 1) x h y ∧ Below w.heap.size w W) → Below W.heap.size W W' → (Tup4.Box W' (w.heap.size) l a b g ∧ Tup3.Box W' (w.heap.size + 1) x h y ∧ Below w.heap.size w W') := fun W W' ⟨h0, h1, hb⟩ h => ⟨h0.later h, h1.later h, hb.trans (h.mono hb.size)⟩
    have hz0_ : Hid ((((w.alloc (Obj.cells #[.int .i64 l, .int .i64 a, .int .i64 b, .int .i64 g] 25)).alloc (Obj.cells #[.int .i64 x, .int .i64 h, .int .i64 y] 36))).heap.size = w.heap.size + 1 + 1) := Lib.hid (by simp)
    generalize ((w.alloc (Obj.cells #[.int .i64 l, .int .i64 a, .int .i64 b, .int .i64 g] 25)).alloc (Obj.cells #[.int .i64 x, .int .i64 h, .int .i64 y] 36)) = w0 at X0 X1 b0 hz0_ ⊢
    have S0 := (⟨X0, X1, b0⟩ : Tup4.Box w0 (w.heap.size) l a b g ∧ Tup3.Box w0 (w.heap.size + 1) x h y ∧ Below w.heap.size w w0)
    clear X0 X1 b0
    obtain ⟨⟨_, _, _, _⟩, ⟨_, _, _⟩, _⟩ := id S0
    refine (Q1.out _).mono ?_
    rintro e w12 ⟨rfl, hb_⟩
    replace S0 := HO _ _ S0 hb_
    clear hb_
    obtain ⟨⟨_, _, _, _⟩, ⟨_, _, _⟩, _⟩ := id S0
    go_wp2_with fail
    refine (QK.out _).mono ?_
    rintro e w13 ⟨rfl, hb_⟩
    replace S0 := HO _ _ S0 hb_
    clear hb_
    obtain ⟨⟨_, _, _, _⟩, ⟨_, _, _⟩, _⟩ := id S0
    have lt_0 := World.block_lt_of_cell? _ _ S0.1.1
    have lt_1 := World.block_lt_of_cell? _ _ S0.2.1.1
    have hb_ := PointOk.below1 w13 (Obj.cells #[.int .i64 l, .int .i64 a, .int .i64 b, .int .i64 g] 70)
    have KD := Blk.Holds.box w13 #[.int .i64 l, .int .i64 a, .int .i64 b, .int .i64 g] 70 rfl
    replace S0 := HO _ _ S0 hb_
    clear hb_
    obtain ⟨⟨_, _, _, _⟩, ⟨_, _, _⟩, _⟩ := id S0
    obtain ⟨⟨_, _, _, _⟩, _⟩ := KD.four
    go_wp2_with fail
    generalize w13.alloc (Obj.cells #[.int .i64 l, .int .i64 a, .int .i64 b, .int .i64 g] 70) = v13_KD at *
    clear lt_0 lt_1
    refine (QA.out _).mono ?_
    rintro e w14 ⟨rfl, hb_⟩
    replace S0 := HO _ _ S0 hb_
    replace KD := KD.later hb_
    clear hb_
    obtain ⟨⟨_, _, _, _⟩, ⟨_, _, _⟩, _⟩ := id S0
    obtain ⟨⟨_, _, _, _⟩, _⟩ := KD.four
    go_wp2_with fail
    refine (QB.out _).mono ?_
    rintro e w15 ⟨rfl, hb_⟩
    replace S0 := HO _ _ S0 hb_
    replace KD := KD.later hb_
    clear hb_
    obtain ⟨⟨_, _, _, _⟩, ⟨_, _, _⟩, _⟩ := id S0
    obtain ⟨⟨_, _, _, _⟩, _⟩ := KD.four
    go_wp2_with fail
    refine (QC.out _).mono ?_
    rintro e w16 ⟨rfl, hb_⟩
    replace S0 := HO _ _ S0 hb_
    replace KD := KD.later hb_
    clear hb_
    obtain ⟨⟨_, _, _, _⟩, ⟨_, _, _⟩, _⟩ := id S0
    obtain ⟨⟨_, _, _, _⟩, _⟩ := KD.four
    go_wp2_with fail
    go_ret
    exact ⟨ret_i64 E.out.symm, S0.2.2⟩
  · skip
    have E : Hid (r = 3) := Lib.hid (by rw [HE.out, if_pos k1, if_neg k2, if_neg k3]; rfl)
    have d1 : decide (l < x) = true := decide_eq_true k1
    have d2 : (!decide (a ≤ h ∧ h ≤ b)) = true := by rw [decide_eq_false k2]; rfl
    have d3 : decide (y < g) = false := decide_eq_false k3
    rw [d1] at QA
    rw [d2] at QB
    rw [d3] at QC
    clear HE d1 d2 d3 k1 k2 k3
    go_enter Try.func11, Try.ntmps11
    go_wp2_with fail
    have X0 := (Tup4.box1 w l a b g 25 (k := w.heap.size) (by simp)).alloc (Obj.cells #[.int .i64 x, .int .i64 h, .int .i64 y] 36)
    have X1 := Tup3.box1 (w.alloc (Obj.cells #[.int .i64 l, .int .i64 a, .int .i64 b, .int .i64 g] 25)) x h y 36 (k := w.heap.size + 1) (by simp)
    have b0 := PointOk.below2 w (Obj.cells #[.int .i64 l, .int .i64 a, .int .i64 b, .int .i64 g] 25) (Obj.cells #[.int .i64 x, .int .i64 h, .int .i64 y] 36)
    have HO : ∀ W W' : World, (Tup4.Box W (w.heap.size) l a b g ∧ Tup3.Box W (w.heap.size + 1) x h y ∧ Below w.heap.size w W) → Below W.heap.size W W' → (Tup4.Box W' (w.heap.size) l a b g ∧ Tup3.Box W' (w.heap.size + 1) x h y ∧ Below w.heap.size w W') := fun W W' ⟨h0, h1, hb⟩ h => ⟨h0.later h, h1.later h, hb.trans (h.mono hb.size)⟩
    have hz0_ : Hid ((((w.alloc (Obj.cells #[.int .i64 l, .int .i64 a, .int .i64 b, .int .i64 g] 25)).alloc (Obj.cells #[.int .i64 x, .int .i64 h, .int .i64 y] 36))).heap.size = w.heap.size + 1 + 1) := Lib.hid (by simp)
    generalize ((w.alloc (Obj.cells #[.int .i64 l, .int .i64 a, .int .i64 b, .int .i64 g] 25)).alloc (Obj.cells #[.int .i64 x, .int .i64 h, .int .i64 y] 36)) = w0 at X0 X1 b0 hz0_ ⊢
    have S0 := (⟨X0, X1, b0⟩ : Tup4.Box w0 (w.heap.size) l a b g ∧ Tup3.Box w0 (w.heap.size + 1) x h y ∧ Below w.heap.size w w0)
    clear X0 X1 b0
    obtain ⟨⟨_, _, _, _⟩, ⟨_, _, _⟩, _⟩ := id S0
    refine (Q1.out _).mono ?_
    rintro e w17 ⟨rfl, hb_⟩
    replace S0 := HO _ _ S0 hb_
    clear hb_
    obtain ⟨⟨_, _, _, _⟩, ⟨_, _, _⟩, _⟩ := id S0
    go_wp2_with fail
    refine (QK.out _).mono ?_
    rintro e w18 ⟨rfl, hb_⟩
    replace S0 := HO _ _ S0 hb_
    clear hb_
    obtain ⟨⟨_, _, _, _⟩, ⟨_, _, _⟩, _⟩ := id S0
    have lt_0 := World.block_lt_of_cell? _ _ S0.1.1
    have lt_1 := World.block_lt_of_cell? _ _ S0.2.1.1
    have hb_ := PointOk.below1 w18 (Obj.cells #[.int .i64 l, .int .i64 a, .int .i64 b, .int .i64 g] 70)
    have KD := Blk.Holds.box w18 #[.int .i64 l, .int .i64 a, .int .i64 b, .int .i64 g] 70 rfl
    replace S0 := HO _ _ S0 hb_
    clear hb_
    obtain ⟨⟨_, _, _, _⟩, ⟨_, _, _⟩, _⟩ := id S0
    obtain ⟨⟨_, _, _, _⟩, _⟩ := KD.four
    go_wp2_with fail
    generalize w18.alloc (Obj.cells #[.int .i64 l, .int .i64 a, .int .i64 b, .int .i64 g] 70) = v18_KD at *
    clear lt_0 lt_1
    refine (QA.out _).mono ?_
    rintro e w19 ⟨rfl, hb_⟩
    replace S0 := HO _ _ S0 hb_
    replace KD := KD.later hb_
    clear hb_
    obtain ⟨⟨_, _, _, _⟩, ⟨_, _, _⟩, _⟩ := id S0
    obtain ⟨⟨_, _, _, _⟩, _⟩ := KD.four
    go_wp2_with fail
    refine (QB.out _).mono ?_
    rintro e w20 ⟨rfl, hb_⟩
    replace S0 := HO _ _ S0 hb_
    replace KD := KD.later hb_
    clear hb_
    obtain ⟨⟨_, _, _, _⟩, ⟨_, _, _⟩, _⟩ := id S0
    obtain ⟨⟨_, _, _, _⟩, _⟩ := KD.four
    go_wp2_with fail
    refine (QC.out _).mono ?_
    rintro e w21 ⟨rfl, hb_⟩
    replace S0 := HO _ _ S0 hb_
    replace KD := KD.later hb_
    clear hb_
    obtain ⟨⟨_, _, _, _⟩, ⟨_, _, _⟩, _⟩ := id S0
    obtain ⟨⟨_, _, _, _⟩, _⟩ := KD.four
    go_wp2_with fail
    go_ret
    exact ⟨ret_i64 E.out.symm, S0.2.2⟩
  · skip
    have E : Hid (r = 4) := Lib.hid (by rw [HE.out, if_neg k1, if_pos k2, if_pos k3]; rfl)
    have d1 : decide (l < x) = false := decide_eq_false k1
    have d2 : (!decide (a ≤ h ∧ h ≤ b)) = false := by rw [decide_eq_true k2]; rfl
    have d3 : decide (y < g) = true := decide_eq_true k3
    rw [d1] at QA
    rw [d2] at QB
    rw [d3] at QC
    clear HE d1 d2 d3 k1 k2 k3
    go_enter Try.func11, Try.ntmps11
    go_wp2_with fail
    have X0 := (Tup4.box1 w l a b g 25 (k := w.heap.size) (by simp)).alloc (Obj.cells #[.int .i64 x, .int .i64 h, .int .i64 y] 36)
    have X1 := Tup3.box1 (w.alloc (Obj.cells #[.int .i64 l, .int .i64 a, .int .i64 b, .int .i64 g] 25)) x h y 36 (k := w.heap.size + 1) (by simp)
    have b0 := PointOk.below2 w (Obj.cells #[.int .i64 l, .int .i64 a, .int .i64 b, .int .i64 g] 25) (Obj.cells #[.int .i64 x, .int .i64 h, .int .i64 y] 36)
    have HO : ∀ W W' : World, (Tup4.Box W (w.heap.size) l a b g ∧ Tup3.Box W (w.heap.size + 1) x h y ∧ Below w.heap.size w W) → Below W.heap.size W W' → (Tup4.Box W' (w.heap.size) l a b g ∧ Tup3.Box W' (w.heap.size + 1) x h y ∧ Below w.heap.size w W') := fun W W' ⟨h0, h1, hb⟩ h => ⟨h0.later h, h1.later h, hb.trans (h.mono hb.size)⟩
    have hz0_ : Hid ((((w.alloc (Obj.cells #[.int .i64 l, .int .i64 a, .int .i64 b, .int .i64 g] 25)).alloc (Obj.cells #[.int .i64 x, .int .i64 h, .int .i64 y] 36))).heap.size = w.heap.size + 1 + 1) := Lib.hid (by simp)
    generalize ((w.alloc (Obj.cells #[.int .i64 l, .int .i64 a, .int .i64 b, .int .i64 g] 25)).alloc (Obj.cells #[.int .i64 x, .int .i64 h, .int .i64 y] 36)) = w0 at X0 X1 b0 hz0_ ⊢
    have S0 := (⟨X0, X1, b0⟩ : Tup4.Box w0 (w.heap.size) l a b g ∧ Tup3.Box w0 (w.heap.size + 1) x h y ∧ Below w.heap.size w w0)
    clear X0 X1 b0
    obtain ⟨⟨_, _, _, _⟩, ⟨_, _, _⟩, _⟩ := id S0
    refine (Q1.out _).mono ?_
    rintro e w22 ⟨rfl, hb_⟩
    replace S0 := HO _ _ S0 hb_
    clear hb_
    obtain ⟨⟨_, _, _, _⟩, ⟨_, _, _⟩, _⟩ := id S0
    go_wp2_with fail
    refine (QK.out _).mono ?_
    rintro e w23 ⟨rfl, hb_⟩
    replace S0 := HO _ _ S0 hb_
    clear hb_
    obtain ⟨⟨_, _, _, _⟩, ⟨_, _, _⟩, _⟩ := id S0
    have lt_0 := World.block_lt_of_cell? _ _ S0.1.1
    have lt_1 := World.block_lt_of_cell? _ _ S0.2.1.1
    have hb_ := PointOk.below1 w23 (Obj.cells #[.int .i64 l, .int .i64 a, .int .i64 b, .int .i64 g] 70)
    have KD := Blk.Holds.box w23 #[.int .i64 l, .int .i64 a, .int .i64 b, .int .i64 g] 70 rfl
    replace S0 := HO _ _ S0 hb_
    clear hb_
    obtain ⟨⟨_, _, _, _⟩, ⟨_, _, _⟩, _⟩ := id S0
    obtain ⟨⟨_, _, _, _⟩, _⟩ := KD.four
    go_wp2_with fail
    generalize w23.alloc (Obj.cells #[.int .i64 l, .int .i64 a, .int .i64 b, .int .i64 g] 70) = v23_KD at *
    clear lt_0 lt_1
    refine (QA.out _).mono ?_
    rintro e w24 ⟨rfl, hb_⟩
    replace S0 := HO _ _ S0 hb_
    replace KD := KD.later hb_
    clear hb_
    obtain ⟨⟨_, _, _, _⟩, ⟨_, _, _⟩, _⟩ := id S0
    obtain ⟨⟨_, _, _, _⟩, _⟩ := KD.four
    go_wp2_with fail
    refine (QB.out _).mono ?_
    rintro e w25 ⟨rfl, hb_⟩
    replace S0 := HO _ _ S0 hb_
    replace KD := KD.later hb_
    clear hb_
    obtain ⟨⟨_, _, _, _⟩, ⟨_, _, _⟩, _⟩ := id S0
    obtain ⟨⟨_, _, _, _⟩, _⟩ := KD.four
    go_wp2_with fail
    refine (QC.out _).mono ?_
    rintro e w26 ⟨rfl, hb_⟩
    replace S0 := HO _ _ S0 hb_
    replace KD := KD.later hb_
    clear hb_
    obtain ⟨⟨_, _, _, _⟩, ⟨_, _, _⟩, _⟩ := id S0
    obtain ⟨⟨_, _, _, _⟩, _⟩ := KD.four
    go_wp2_with fail
    go_ret
    exact ⟨ret_i64 E.out.symm, S0.2.2⟩
  · skip
    have E : Hid (r = 0) := Lib.hid (by rw [HE.out, if_neg k1, if_pos k2, if_neg k3]; rfl)
    have d1 : decide (l < x) = false := decide_eq_false k1
    have d2 : (!decide (a ≤ h ∧ h ≤ b)) = false := by rw [decide_eq_true k2]; rfl
    have d3 : decide (y < g) = false := decide_eq_false k3
    rw [d1] at QA
    rw [d2] at QB
    rw [d3] at QC
    clear HE d1 d2 d3 k1 k2 k3
    go_enter Try.func11, Try.ntmps11
    go_wp2_with fail
    have X0 := (Tup4.box1 w l a b g 25 (k := w.heap.size) (by simp)).alloc (Obj.cells #[.int .i64 x, .int .i64 h, .int .i64 y] 36)
    have X1 := Tup3.box1 (w.alloc (Obj.cells #[.int .i64 l, .int .i64 a, .int .i64 b, .int .i64 g] 25)) x h y 36 (k := w.heap.size + 1) (by simp)
    have b0 := PointOk.below2 w (Obj.cells #[.int .i64 l, .int .i64 a, .int .i64 b, .int .i64 g] 25) (Obj.cells #[.int .i64 x, .int .i64 h, .int .i64 y] 36)
    have HO : ∀ W W' : World, (Tup4.Box W (w.heap.size) l a b g ∧ Tup3.Box W (w.heap.size + 1) x h y ∧ Below w.heap.size w W) → Below W.heap.size W W' → (Tup4.Box W' (w.heap.size) l a b g ∧ Tup3.Box W' (w.heap.size + 1) x h y ∧ Below w.heap.size w W') := fun W W' ⟨h0, h1, hb⟩ h => ⟨h0.later h, h1.later h, hb.trans (h.mono hb.size)⟩
    have hz0_ : Hid ((((w.alloc (Obj.cells #[.int .i64 l, .int .i64 a, .int .i64 b, .int .i64 g] 25)).alloc (Obj.cells #[.int .i64 x, .int .i64 h, .int .i64 y] 36))).heap.size = w.heap.size + 1 + 1) := Lib.hid (by simp)
    generalize ((w.alloc (Obj.cells #[.int .i64 l, .int .i64 a, .int .i64 b, .int .i64 g] 25)).alloc (Obj.cells #[.int .i64 x, .int .i64 h, .int .i64 y] 36)) = w0 at X0 X1 b0 hz0_ ⊢
    have S0 := (⟨X0, X1, b0⟩ : Tup4.Box w0 (w.heap.size) l a b g ∧ Tup3.Box w0 (w.heap.size + 1) x h y ∧ Below w.heap.size w w0)
    clear X0 X1 b0
    obtain ⟨⟨_, _, _, _⟩, ⟨_, _, _⟩, _⟩ := id S0
    refine (Q1.out _).mono ?_
    rintro e w27 ⟨rfl, hb_⟩
    replace S0 := HO _ _ S0 hb_
    clear hb_
    obtain ⟨⟨_, _, _, _⟩, ⟨_, _, _⟩, _⟩ := id S0
    go_wp2_with fail
    refine (QK.out _).mono ?_
    rintro e w28 ⟨rfl, hb_⟩
    replace S0 := HO _ _ S0 hb_
    clear hb_
    obtain ⟨⟨_, _, _, _⟩, ⟨_, _, _⟩, _⟩ := id S0
    have lt_0 := World.block_lt_of_cell? _ _ S0.1.1
    have lt_1 := World.block_lt_of_cell? _ _ S0.2.1.1
    have hb_ := PointOk.below1 w28 (Obj.cells #[.int .i64 l, .int .i64 a, .int .i64 b, .int .i64 g] 70)
    have KD := Blk.Holds.box w28 #[.int .i64 l, .int .i64 a, .int .i64 b, .int .i64 g] 70 rfl
    replace S0 := HO _ _ S0 hb_
    clear hb_
    obtain ⟨⟨_, _, _, _⟩, ⟨_, _, _⟩, _⟩ := id S0
    obtain ⟨⟨_, _, _, _⟩, _⟩ := KD.four
    go_wp2_with fail
    generalize w28.alloc (Obj.cells #[.int .i64 l, .int .i64 a, .int .i64 b, .int .i64 g] 70) = v28_KD at *
    clear lt_0 lt_1
    refine (QA.out _).mono ?_
    rintro e w29 ⟨rfl, hb_⟩
    replace S0 := HO _ _ S0 hb_
    replace KD := KD.later hb_
    clear hb_
    obtain ⟨⟨_, _, _, _⟩, ⟨_, _, _⟩, _⟩ := id S0
    obtain ⟨⟨_, _, _, _⟩, _⟩ := KD.four
    go_wp2_with fail
    refine (QB.out _).mono ?_
    rintro e w30 ⟨rfl, hb_⟩
    replace S0 := HO _ _ S0 hb_
    replace KD := KD.later hb_
    clear hb_
    obtain ⟨⟨_, _, _, _⟩, ⟨_, _, _⟩, _⟩ := id S0
    obtain ⟨⟨_, _, _, _⟩, _⟩ := KD.four
    go_wp2_with fail
    refine (QC.out _).mono ?_
    rintro e w31 ⟨rfl, hb_⟩
    replace S0 := HO _ _ S0 hb_
    replace KD := KD.later hb_
    clear hb_
    obtain ⟨⟨_, _, _, _⟩, ⟨_, _, _⟩, _⟩ := id S0
    obtain ⟨⟨_, _, _, _⟩, _⟩ := KD.four
    go_wp2_with fail
    go_ret
    exact ⟨ret_i64 E.out.symm, S0.2.2⟩
  · skip
    have E : Hid (r = 6) := Lib.hid (by rw [HE.out, if_neg k1, if_neg k2, if_pos k3]; rfl)
    have d1 : decide (l < x) = false := decide_eq_false k1
    have d2 : (!decide (a ≤ h ∧ h ≤ b)) = true := by rw [decide_eq_false k2]; rfl
    have d3 : decide (y < g) = true := decide_eq_true k3
    rw [d1] at QA
    rw [d2] at QB
    rw [d3] at QC
    clear HE d1 d2 d3 k1 k2 k3
    go_enter Try.func11, Try.ntmps11
    go_wp2_with fail
    have X0 := (Tup4.box1 w l a b g 25 (k := w.heap.size) (by simp)).alloc (Obj.cells #[.int .i64 x, .int .i64 h, .int .i64 y] 36)
    have X1 := Tup3.box1 (w.alloc (Obj.cells #[.int .i64 l, .int .i64 a, .int .i64 b, .int .i64 g] 25)) x h y 36 (k := w.heap.size + 1) (by simp)
    have b0 := PointOk.below2 w (Obj.cells #[.int .i64 l, .int .i64 a, .int .i64 b, .int .i64 g] 25) (Obj.cells #[.int .i64 x, .int .i64 h, .int .i64 y] 36)
    have HO : ∀ W W' : World, (Tup4.Box W (w.heap.size) l a b g ∧ Tup3.Box W (w.heap.size + 1) x h y ∧ Below w.heap.size w W) → Below W.heap.size W W' → (Tup4.Box W' (w.heap.size) l a b g ∧ Tup3.Box W' (w.heap.size + 1) x h y ∧ Below w.heap.size w W') := fun W W' ⟨h0, h1, hb⟩ h => ⟨h0.later h, h1.later h, hb.trans (h.mono hb.size)⟩
    have hz0_ : Hid ((((w.alloc (Obj.cells #[.int .i64 l, .int .i64 a, .int .i64 b, .int .i64 g] 25)).alloc (Obj.cells #[.int .i64 x, .int .i64 h, .int .i64 y] 36))).heap.size = w.heap.size + 1 + 1) := Lib.hid (by simp)
    generalize ((w.alloc (Obj.cells #[.int .i64 l, .int .i64 a, .int .i64 b, .int .i64 g] 25)).alloc (Obj.cells #[.int .i64 x, .int .i64 h, .int .i64 y] 36)) = w0 at X0 X1 b0 hz0_ ⊢
    have S0 := (⟨X0, X1, b0⟩ : Tup4.Box w0 (w.heap.size) l a b g ∧ Tup3.Box w0 (w.heap.size + 1) x h y ∧ Below w.heap.size w w0)
    clear X0 X1 b0
    obtain ⟨⟨_, _, _, _⟩, ⟨_, _, _⟩, _⟩ := id S0
    refine (Q1.out _).mono ?_
    rintro e w32 ⟨rfl, hb_⟩
    replace S0 := HO _ _ S0 hb_
    clear hb_
    obtain ⟨⟨_, _, _, _⟩, ⟨_, _, _⟩, _⟩ := id S0
    go_wp2_with fail
    refine (QK.out _).mono ?_
    rintro e w33 ⟨rfl, hb_⟩
    replace S0 := HO _ _ S0 hb_
    clear hb_
    obtain ⟨⟨_, _, _, _⟩, ⟨_, _, _⟩, _⟩ := id S0
    have lt_0 := World.block_lt_of_cell? _ _ S0.1.1
    have lt_1 := World.block_lt_of_cell? _ _ S0.2.1.1
    have hb_ := PointOk.below1 w33 (Obj.cells #[.int .i64 l, .int .i64 a, .int .i64 b, .int .i64 g] 70)
    have KD := Blk.Holds.box w33 #[.int .i64 l, .int .i64 a, .int .i64 b, .int .i64 g] 70 rfl
    replace S0 := HO _ _ S0 hb_
    clear hb_
    obtain ⟨⟨_, _, _, _⟩, ⟨_, _, _⟩, _⟩ := id S0
    obtain ⟨⟨_, _, _, _⟩, _⟩ := KD.four
    go_wp2_with fail
    generalize w33.alloc (Obj.cells #[.int .i64 l, .int .i64 a, .int .i64 b, .int .i64 g] 70) = v33_KD at *
    clear lt_0 lt_1
    refine (QA.out _).mono ?_
    rintro e w34 ⟨rfl, hb_⟩
    replace S0 := HO _ _ S0 hb_
    replace KD := KD.later hb_
    clear hb_
    obtain ⟨⟨_, _, _, _⟩, ⟨_, _, _⟩, _⟩ := id S0
    obtain ⟨⟨_, _, _, _⟩, _⟩ := KD.four
    go_wp2_with fail
    refine (QB.out _).mono ?_
    rintro e w35 ⟨rfl, hb_⟩
    replace S0 := HO _ _ S0 hb_
    replace KD := KD.later hb_
    clear hb_
    obtain ⟨⟨_, _, _, _⟩, ⟨_, _, _⟩, _⟩ := id S0
    obtain ⟨⟨_, _, _, _⟩, _⟩ := KD.four
    go_wp2_with fail
    refine (QC.out _).mono ?_
    rintro e w36 ⟨rfl, hb_⟩
    replace S0 := HO _ _ S0 hb_
    replace KD := KD.later hb_
    clear hb_
    obtain ⟨⟨_, _, _, _⟩, ⟨_, _, _⟩, _⟩ := id S0
    obtain ⟨⟨_, _, _, _⟩, _⟩ := KD.four
    go_wp2_with fail
    go_ret
    exact ⟨ret_i64 E.out.symm, S0.2.2⟩
  · skip
    have E : Hid (r = 2) := Lib.hid (by rw [HE.out, if_neg k1, if_neg k2, if_neg k3]; rfl)
    have d1 : decide (l < x) = false := decide_eq_false k1
    have d2 : (!decide (a ≤ h ∧ h ≤ b)) = true := by rw [decide_eq_false k2]; rfl
    have d3 : decide (y < g) = false := decide_eq_false k3
    rw [d1] at QA
    rw [d2] at QB
    rw [d3] at QC
    clear HE d1 d2 d3 k1 k2 k3
    go_enter Try.func11, Try.ntmps11
    go_wp2_with fail
    have X0 := (Tup4.box1 w l a b g 25 (k := w.heap.size) (by simp)).alloc (Obj.cells #[.int .i64 x, .int .i64 h, .int .i64 y] 36)
    have X1 := Tup3.box1 (w.alloc (Obj.cells #[.int .i64 l, .int .i64 a, .int .i64 b, .int .i64 g] 25)) x h y 36 (k := w.heap.size + 1) (by simp)
    have b0 := PointOk.below2 w (Obj.cells #[.int .i64 l, .int .i64 a, .int .i64 b, .int .i64 g] 25) (Obj.cells #[.int .i64 x, .int .i64 h, .int .i64 y] 36)
    have HO : ∀ W W' : World, (Tup4.Box W (w.heap.size) l a b g ∧ Tup3.Box W (w.heap.size + 1) x h y ∧ Below w.heap.size w W) → Below W.heap.size W W' → (Tup4.Box W' (w.heap.size) l a b g ∧ Tup3.Box W' (w.heap.size + 1) x h y ∧ Below w.heap.size w W') := fun W W' ⟨h0, h1, hb⟩ h => ⟨h0.later h, h1.later h, hb.trans (h.mono hb.size)⟩
    have hz0_ : Hid ((((w.alloc (Obj.cells #[.int .i64 l, .int .i64 a, .int .i64 b, .int .i64 g] 25)).alloc (Obj.cells #[.int .i64 x, .int .i64 h, .int .i64 y] 36))).heap.size = w.heap.size + 1 + 1) := Lib.hid (by simp)
    generalize ((w.alloc (Obj.cells #[.int .i64 l, .int .i64 a, .int .i64 b, .int .i64 g] 25)).alloc (Obj.cells #[.int .i64 x, .int .i64 h, .int .i64 y] 36)) = w0 at X0 X1 b0 hz0_ ⊢
    have S0 := (⟨X0, X1, b0⟩ : Tup4.Box w0 (w.heap.size) l a b g ∧ Tup3.Box w0 (w.heap.size + 1) x h y ∧ Below w.heap.size w w0)
    clear X0 X1 b0
    obtain ⟨⟨_, _, _, _⟩, ⟨_, _, _⟩, _⟩ := id S0
    refine (Q1.out _).mono ?_
    rintro e w37 ⟨rfl, hb_⟩
    replace S0 := HO _ _ S0 hb_
    clear hb_
    obtain ⟨⟨_, _, _, _⟩, ⟨_, _, _⟩, _⟩ := id S0
    go_wp2_with fail
    refine (QK.out _).mono ?_
    rintro e w38 ⟨rfl, hb_⟩
    replace S0 := HO _ _ S0 hb_
    clear hb_
    obtain ⟨⟨_, _, _, _⟩, ⟨_, _, _⟩, _⟩ := id S0
    have lt_0 := World.block_lt_of_cell? _ _ S0.1.1
    have lt_1 := World.block_lt_of_cell? _ _ S0.2.1.1
    have hb_ := PointOk.below1 w38 (Obj.cells #[.int .i64 l, .int .i64 a, .int .i64 b, .int .i64 g] 70)
    have KD := Blk.Holds.box w38 #[.int .i64 l, .int .i64 a, .int .i64 b, .int .i64 g] 70 rfl
    replace S0 := HO _ _ S0 hb_
    clear hb_
    obtain ⟨⟨_, _, _, _⟩, ⟨_, _, _⟩, _⟩ := id S0
    obtain ⟨⟨_, _, _, _⟩, _⟩ := KD.four
    go_wp2_with fail
    generalize w38.alloc (Obj.cells #[.int .i64 l, .int .i64 a, .int .i64 b, .int .i64 g] 70) = v38_KD at *
    clear lt_0 lt_1
    refine (QA.out _).mono ?_
    rintro e w39 ⟨rfl, hb_⟩
    replace S0 := HO _ _ S0 hb_
    replace KD := KD.later hb_
    clear hb_
    obtain ⟨⟨_, _, _, _⟩, ⟨_, _, _⟩, _⟩ := id S0
    obtain ⟨⟨_, _, _, _⟩, _⟩ := KD.four
    go_wp2_with fail
    refine (QB.out _).mono ?_
    rintro e w40 ⟨rfl, hb_⟩
    replace S0 := HO _ _ S0 hb_
    replace KD := KD.later hb_
    clear hb_
    obtain ⟨⟨_, _, _, _⟩, ⟨_, _, _⟩, _⟩ := id S0
    obtain ⟨⟨_, _, _, _⟩, _⟩ := KD.four
    go_wp2_with fail
    refine (QC.out _).mono ?_
    rintro e w41 ⟨rfl, hb_⟩
    replace S0 := HO _ _ S0 hb_
    replace KD := KD.later hb_
    clear hb_
    obtain ⟨⟨_, _, _, _⟩, ⟨_, _, _⟩, _⟩ := id S0
    obtain ⟨⟨_, _, _, _⟩, _⟩ := KD.four
    go_wp2_with fail
    go_ret
    exact ⟨ret_i64 E.out.symm, S0.2.2⟩

set_option maxRecDepth 100000 in
set_option maxHeartbeats 3200000 in
theorem joinLoans (l a b g l2 a2 b2 g2 : Int) (w : World) :
    Calls Try.prog 8 #[.agg #[.int .i64 l, .int .i64 a, .int .i64 b, .int .i64 g], .agg #[.int .i64 l2, .int .i64 a2, .int .i64 b2, .int .i64 g2]] w fun e w' => e = .returned (joinV l a b g l2 a2 b2 g2) ∧ Below w.heap.size w w' := by
  obtain ⟨r, hr⟩ : ∃ r, joinV l a b g l2 a2 b2 g2 = r := ⟨_, rfl⟩
  have HR := Lib.hid hr
  rw [hr]
  clear hr
  have Q1 := Lib.hid fun w => loanOk l a b g w
  have Q2 := Lib.hid fun w => loanOk l2 a2 b2 g2 w
  have Q3 := Lib.hid fun w => loanOk (min l l2) (max a a2) (min b b2) (max g g2) w
  have EN : Hid ((loanB l a b g && loanB l2 a2 b2 g2 && loanB (min l l2) (max a a2) (min b b2) (max g g2)) = false → r = .tuple #[.agg #[.int .i64 0, .int .i64 0, .int .i64 0, .int .i64 0], .bool false]) := Lib.hid (fun h => by rw [← HR.out]; unfold joinV; rw [h]; rfl)
  have EY : Hid ((loanB l a b g && loanB l2 a2 b2 g2 && loanB (min l l2) (max a a2) (min b b2) (max g g2)) = true → r = .tuple #[.agg #[.int .i64 (min l l2), .int .i64 (max a a2), .int .i64 (min b b2), .int .i64 (max g g2)], .bool true]) := Lib.hid (fun h => by rw [← HR.out]; unfold joinV; rw [h]; rfl)
  clear HR
  go_enter Try.func8, Try.ntmps8
  go_wp2_with fail
  have X0 := (((Tup4.box1 w l a b g 25 (k := w.heap.size) (by simp)).alloc (Obj.cells #[.int .i64 l2, .int .i64 a2, .int .i64 b2, .int .i64 g2] 25)).alloc (Obj.cells #[.int .i64 0, .int .i64 0, .int .i64 0, .int .i64 0] 25)).alloc (Obj.cells #[.int .i64 (min l l2), .int .i64 (max a a2), .int .i64 (min b b2), .int .i64 (max g g2)] 25)
  have X1 := ((Tup4.box1 (w.alloc (Obj.cells #[.int .i64 l, .int .i64 a, .int .i64 b, .int .i64 g] 25)) l2 a2 b2 g2 25 (k := w.heap.size + 1) (by simp)).alloc (Obj.cells #[.int .i64 0, .int .i64 0, .int .i64 0, .int .i64 0] 25)).alloc (Obj.cells #[.int .i64 (min l l2), .int .i64 (max a a2), .int .i64 (min b b2), .int .i64 (max g g2)] 25)
  have X2 := (Blk.Holds.box ((w.alloc (Obj.cells #[.int .i64 l, .int .i64 a, .int .i64 b, .int .i64 g] 25)).alloc (Obj.cells #[.int .i64 l2, .int .i64 a2, .int .i64 b2, .int .i64 g2] 25)) #[.int .i64 0, .int .i64 0, .int .i64 0, .int .i64 0] 25 (k := w.heap.size + 1 + 1) (by simp)).alloc (Obj.cells #[.int .i64 (min l l2), .int .i64 (max a a2), .int .i64 (min b b2), .int .i64 (max g g2)] 25)
  have X3 := Blk.Holds.box (((w.alloc (Obj.cells #[.int .i64 l, .int .i64 a, .int .i64 b, .int .i64 g] 25)).alloc (Obj.cells #[.int .i64 l2, .int .i64 a2, .int .i64 b2, .int .i64 g2] 25)).alloc (Obj.cells #[.int .i64 0, .int .i64 0, .int .i64 0, .int .i64 0] 25)) #[.int .i64 (min l l2), .int .i64 (max a a2), .int .i64 (min b b2), .int .i64 (max g g2)] 25 (k := w.heap.size + 1 + 1 + 1) (by simp)
  have b0 := PointOk.below4 w (Obj.cells #[.int .i64 l, .int .i64 a, .int .i64 b, .int .i64 g] 25) (Obj.cells #[.int .i64 l2, .int .i64 a2, .int .i64 b2, .int .i64 g2] 25) (Obj.cells #[.int .i64 0, .int .i64 0, .int .i64 0, .int .i64 0] 25) (Obj.cells #[.int .i64 (min l l2), .int .i64 (max a a2), .int .i64 (min b b2), .int .i64 (max g g2)] 25)
  have HO : ∀ W W' : World, (Tup4.Box W (w.heap.size) l a b g ∧ Tup4.Box W (w.heap.size + 1) l2 a2 b2 g2 ∧ Blk.Holds W (w.heap.size + 1 + 1) #[.int .i64 0, .int .i64 0, .int .i64 0, .int .i64 0] 25 ∧ Blk.Holds W (w.heap.size + 1 + 1 + 1) #[.int .i64 (min l l2), .int .i64 (max a a2), .int .i64 (min b b2), .int .i64 (max g g2)] 25 ∧ Below w.heap.size w W) → Below W.heap.size W W' → (Tup4.Box W' (w.heap.size) l a b g ∧ Tup4.Box W' (w.heap.size + 1) l2 a2 b2 g2 ∧ Blk.Holds W' (w.heap.size + 1 + 1) #[.int .i64 0, .int .i64 0, .int .i64 0, .int .i64 0] 25 ∧ Blk.Holds W' (w.heap.size + 1 + 1 + 1) #[.int .i64 (min l l2), .int .i64 (max a a2), .int .i64 (min b b2), .int .i64 (max g g2)] 25 ∧ Below w.heap.size w W') := fun W W' ⟨h0, h1, h2, h3, hb⟩ h => ⟨h0.later h, h1.later h, h2.later h, h3.later h, hb.trans (h.mono hb.size)⟩
  have hz0_ : Hid ((((((w.alloc (Obj.cells #[.int .i64 l, .int .i64 a, .int .i64 b, .int .i64 g] 25)).alloc (Obj.cells #[.int .i64 l2, .int .i64 a2, .int .i64 b2, .int .i64 g2] 25)).alloc (Obj.cells #[.int .i64 0, .int .i64 0, .int .i64 0, .int .i64 0] 25)).alloc (Obj.cells #[.int .i64 (min l l2), .int .i64 (max a a2), .int .i64 (min b b2), .int .i64 (max g g2)] 25))).heap.size = w.heap.size + 1 + 1 + 1 + 1) := Lib.hid (by simp)
  generalize ((((w.alloc (Obj.cells #[.int .i64 l, .int .i64 a, .int .i64 b, .int .i64 g] 25)).alloc (Obj.cells #[.int .i64 l2, .int .i64 a2, .int .i64 b2, .int .i64 g2] 25)).alloc (Obj.cells #[.int .i64 0, .int .i64 0, .int .i64 0, .int .i64 0] 25)).alloc (Obj.cells #[.int .i64 (min l l2), .int .i64 (max a a2), .int .i64 (min b b2), .int .i64 (max g g2)] 25)) = w0 at X0 X1 X2 X3 b0 hz0_ ⊢
  have S0 := (⟨X0, X1, X2, X3, b0⟩ : Tup4.Box w0 (w.heap.size) l a b g ∧ Tup4.Box w0 (w.heap.size + 1) l2 a2 b2 g2 ∧ Blk.Holds w0 (w.heap.size + 1 + 1) #[.int .i64 0, .int .i64 0, .int .i64 0, .int .i64 0] 25 ∧ Blk.Holds w0 (w.heap.size + 1 + 1 + 1) #[.int .i64 (min l l2), .int .i64 (max a a2), .int .i64 (min b b2), .int .i64 (max g g2)] 25 ∧ Below w.heap.size w w0)
  clear X0 X1 X2 X3 b0
  obtain ⟨⟨_, _, _, _⟩, ⟨_, _, _, _⟩, _, _, _⟩ := id S0
  obtain ⟨⟨_, _, _, _⟩, _⟩ := Blk.Holds.four S0.2.2.2.1
  refine (Q1.out _).mono ?_
  rintro e w1 ⟨rfl, hb_⟩
  replace S0 := HO _ _ S0 hb_
  clear hb_
  obtain ⟨⟨_, _, _, _⟩, ⟨_, _, _, _⟩, _, _, _⟩ := id S0
  cases o1 : loanB l a b g
  · have E : Hid (r = _) := Lib.hid (EN.out (by rw [o1]; rfl))
    clear EN EY o1
    obtain ⟨⟨_, _, _, _⟩, g0_, g1_, g2_, g3_⟩ := Blk.Holds.four S0.2.2.1
    obtain ⟨⟨_, _, _, _⟩, _, _, _, _⟩ := Blk.Holds.four S0.2.2.2.1
    go_wp2_with fail
    have E1 := (Blk.set_own (Blk.set_own (Blk.set_own (Blk.set_own S0.2.2.1 0 (.int .i64 0)) 1 (.int .i64 0)) 2 (.int .i64 0)) 3 (.int .i64 0))
    obtain ⟨⟨c0_, c1_, c2_, c3_⟩, _⟩ := Blk.Holds.four E1
    refine bodyPost_ret (v := .tuple #[.agg #[.int .i64 0, .int .i64 0, .int .i64 0, .int .i64 0], .bool false]) (by simp [results, Try.results8, go_sem, c0_, c1_, c2_, c3_]) rfl ⟨(by rw [E.out]), ?_⟩
    exact ((((S0.2.2.2.2.setCell (p := ⟨w.heap.size + 2, 0, none⟩) (show w.heap.size ≤ w.heap.size + 2 by omega) (.int .i64 0)).setCell (p := ⟨w.heap.size + 2, 1, none⟩) (show w.heap.size ≤ w.heap.size + 2 by omega) (.int .i64 0)).setCell (p := ⟨w.heap.size + 2, 2, none⟩) (show w.heap.size ≤ w.heap.size + 2 by omega) (.int .i64 0)).setCell (p := ⟨w.heap.size + 2, 3, none⟩) (show w.heap.size ≤ w.heap.size + 2 by omega) (.int .i64 0))
  go_wp2_with fail
  refine (Q2.out _).mono ?_
  rintro e w2 ⟨rfl, hb_⟩
  replace S0 := HO _ _ S0 hb_
  clear hb_
  obtain ⟨⟨_, _, _, _⟩, ⟨_, _, _, _⟩, _, _, _⟩ := id S0
  cases o2 : loanB l2 a2 b2 g2
  · have E : Hid (r = _) := Lib.hid (EN.out (by rw [o2]; simp))
    clear EN EY o1 o2
    obtain ⟨⟨_, _, _, _⟩, g0_, g1_, g2_, g3_⟩ := Blk.Holds.four S0.2.2.1
    obtain ⟨⟨_, _, _, _⟩, _, _, _, _⟩ := Blk.Holds.four S0.2.2.2.1
    go_wp2_with fail
    have E1 := (Blk.set_own (Blk.set_own (Blk.set_own (Blk.set_own S0.2.2.1 0 (.int .i64 0)) 1 (.int .i64 0)) 2 (.int .i64 0)) 3 (.int .i64 0))
    obtain ⟨⟨c0_, c1_, c2_, c3_⟩, _⟩ := Blk.Holds.four E1
    refine bodyPost_ret (v := .tuple #[.agg #[.int .i64 0, .int .i64 0, .int .i64 0, .int .i64 0], .bool false]) (by simp [results, Try.results8, go_sem, c0_, c1_, c2_, c3_]) rfl ⟨(by rw [E.out]), ?_⟩
    exact ((((S0.2.2.2.2.setCell (p := ⟨w.heap.size + 2, 0, none⟩) (show w.heap.size ≤ w.heap.size + 2 by omega) (.int .i64 0)).setCell (p := ⟨w.heap.size + 2, 1, none⟩) (show w.heap.size ≤ w.heap.size + 2 by omega) (.int .i64 0)).setCell (p := ⟨w.heap.size + 2, 2, none⟩) (show w.heap.size ≤ w.heap.size + 2 by omega) (.int .i64 0)).setCell (p := ⟨w.heap.size + 2, 3, none⟩) (show w.heap.size ≤ w.heap.size + 2 by omega) (.int .i64 0))
  obtain ⟨⟨_, _, _, _⟩, _⟩ := Blk.Holds.four S0.2.2.2.1
  go_wp2_with fail
  refine (Q3.out _).mono ?_
  rintro e w3 ⟨rfl, hb_⟩
  replace S0 := HO _ _ S0 hb_
  clear hb_
  obtain ⟨⟨_, _, _, _⟩, ⟨_, _, _, _⟩, _, _, _⟩ := id S0
  cases o3 : loanB (min l l2) (max a a2) (min b b2) (max g g2)
  · have E : Hid (r = _) := Lib.hid (EN.out (by rw [o3]; simp))
    clear EN EY o1 o2 o3
    obtain ⟨⟨_, _, _, _⟩, g0_, g1_, g2_, g3_⟩ := Blk.Holds.four S0.2.2.1
    obtain ⟨⟨_, _, _, _⟩, _, _, _, _⟩ := Blk.Holds.four S0.2.2.2.1
    go_wp2_with fail
    have E1 := (Blk.set_own (Blk.set_own (Blk.set_own (Blk.set_own S0.2.2.1 0 (.int .i64 0)) 1 (.int .i64 0)) 2 (.int .i64 0)) 3 (.int .i64 0))
    obtain ⟨⟨c0_, c1_, c2_, c3_⟩, _⟩ := Blk.Holds.four E1
    refine bodyPost_ret (v := .tuple #[.agg #[.int .i64 0, .int .i64 0, .int .i64 0, .int .i64 0], .bool false]) (by simp [results, Try.results8, go_sem, c0_, c1_, c2_, c3_]) rfl ⟨(by rw [E.out]), ?_⟩
    exact ((((S0.2.2.2.2.setCell (p := ⟨w.heap.size + 2, 0, none⟩) (show w.heap.size ≤ w.heap.size + 2 by omega) (.int .i64 0)).setCell (p := ⟨w.heap.size + 2, 1, none⟩) (show w.heap.size ≤ w.heap.size + 2 by omega) (.int .i64 0)).setCell (p := ⟨w.heap.size + 2, 2, none⟩) (show w.heap.size ≤ w.heap.size + 2 by omega) (.int .i64 0)).setCell (p := ⟨w.heap.size + 2, 3, none⟩) (show w.heap.size ≤ w.heap.size + 2 by omega) (.int .i64 0))
  have E : Hid (r = _) := Lib.hid (EY.out (by rw [o1, o2, o3]; rfl))
  clear EN EY o1 o2 o3
  obtain ⟨⟨_, _, _, _⟩, g0_, g1_, g2_, g3_⟩ := Blk.Holds.four S0.2.2.1
  obtain ⟨⟨_, _, _, _⟩, _, _, _, _⟩ := Blk.Holds.four S0.2.2.2.1
  go_wp2_with fail
  have E1 := (Blk.set_own (Blk.set_own (Blk.set_own (Blk.set_own S0.2.2.1 0 (.int .i64 (min l l2))) 1 (.int .i64 (max a a2))) 2 (.int .i64 (min b b2))) 3 (.int .i64 (max g g2)))
  obtain ⟨⟨c0_, c1_, c2_, c3_⟩, _⟩ := Blk.Holds.four E1
  refine bodyPost_ret (v := .tuple #[.agg #[.int .i64 (min l l2), .int .i64 (max a a2), .int .i64 (min b b2), .int .i64 (max g g2)], .bool true]) (by simp [results, Try.results8, go_sem, c0_, c1_, c2_, c3_]) rfl ⟨(by rw [E.out]), ?_⟩
  exact ((((S0.2.2.2.2.setCell (p := ⟨w.heap.size + 2, 0, none⟩) (show w.heap.size ≤ w.heap.size + 2 by omega) (.int .i64 (min l l2))).setCell (p := ⟨w.heap.size + 2, 1, none⟩) (show w.heap.size ≤ w.heap.size + 2 by omega) (.int .i64 (max a a2))).setCell (p := ⟨w.heap.size + 2, 2, none⟩) (show w.heap.size ≤ w.heap.size + 2 by omega) (.int .i64 (min b b2))).setCell (p := ⟨w.heap.size + 2, 3, none⟩) (show w.heap.size ≤ w.heap.size + 2 by omega) (.int .i64 (max g g2)))

end Go.Proofs.Ytcfoleiooohbhaa.DutyImpl

