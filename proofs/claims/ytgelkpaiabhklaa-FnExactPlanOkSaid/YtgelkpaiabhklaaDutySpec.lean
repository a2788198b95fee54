/-
  What the functions on zones, shifts and loans do, as contracts: what each answers; new memory alone is written.
-/
import Derived.Test.YtgelkpaiabhklaaPointSpec
import Derived.Test.YtgelkpaiabhklaaDutyMath
import Derived.Test.YtgelkpaiabhklaaTup3
import Derived.Test.YtgelkpaiabhklaaTup4
import Derived.Test.YtgelkpaiabhklaaGround
import Derived.Lib.MinMax
namespace Go.Proofs.Ytgelkpaiabhklaa.DutySpec
open Go.RowKit PointMath DutyMath
open PointOk (ret_bool ret_i64 below1 below2 below3)

theorem loanOk (l a b g : Int) (w : World) :
    Calls Try.prog 121 #[.agg #[.int .i64 l, .int .i64 a, .int .i64 b, .int .i64 g]] w fun e w' => e = .returned (.bool (loanB l a b g)) ∧ Below w.heap.size w w' := by
  go_enter Try.func121, Try.ntmps121
  go_wp2_with fail
  have X0 := Tup4.box1 w l a b g 62 (k := w.heap.size) (by simp)
  have b0 := PointOk.below1 w (Obj.cells #[.int .i64 l, .int .i64 a, .int .i64 b, .int .i64 g] 62)
  have HO : ∀ W W' : World, (Tup4.Box W (w.heap.size) l a b g ∧ Below w.heap.size w W) → Below W.heap.size W W' → (Tup4.Box W' (w.heap.size) l a b g ∧ Below w.heap.size w W') := fun W W' ⟨h0, hb⟩ h => ⟨h0.later h, hb.trans (h.mono hb.size)⟩
  have hz0_ : Hid (((w.alloc (Obj.cells #[.int .i64 l, .int .i64 a, .int .i64 b, .int .i64 g] 62))).heap.size = w.heap.size + 1) := Lib.hid (by simp)
  generalize (w.alloc (Obj.cells #[.int .i64 l, .int .i64 a, .int .i64 b, .int .i64 g] 62)) = w0 at X0 b0 hz0_ ⊢
  have S0 := (⟨X0, b0⟩ : Tup4.Box w0 (w.heap.size) l a b g ∧ Below w.heap.size w w0)
  clear X0 b0
  obtain ⟨⟨_, _, _, _⟩, _⟩ := id S0
  refine (PointOk.l01In l 0 1000 _).mono ?_
  rintro e w_ ⟨rfl, rfl⟩
  cases h0 : decide (0 ≤ l ∧ l ≤ 1000)
  · go_wp2_with fail
    go_ret
    exact ⟨ret_bool (by unfold loanB; rw [h0]; rfl), S0.2⟩
  replace h0 := Lib.hid h0
  go_wp2_with fail
  refine (PointOk.l01In g 0 1000 _).mono ?_
  rintro e w_ ⟨rfl, rfl⟩
  cases h1 : decide (0 ≤ g ∧ g ≤ 1000)
  · go_wp2_with fail
    go_ret
    exact ⟨ret_bool (by unfold loanB; rw [h0.out, h1]; rfl), S0.2⟩
  replace h1 := Lib.hid h1
  go_wp2_with fail
  refine (PointOk.l01In a 0 100 _).mono ?_
  rintro e w_ ⟨rfl, rfl⟩
  cases h2 : decide (0 ≤ a ∧ a ≤ 100)
  · go_wp2_with fail
    go_ret
    exact ⟨ret_bool (by unfold loanB; rw [h0.out, h1.out, h2]; rfl), S0.2⟩
  replace h2 := Lib.hid h2
  go_wp2_with fail
  refine (PointOk.l01In b a 100 _).mono ?_
  rintro e w_ ⟨rfl, rfl⟩
  cases h3 : decide (a ≤ b ∧ b ≤ 100)
  · go_wp2_with fail
    go_ret
    exact ⟨ret_bool (by unfold loanB; rw [h0.out, h1.out, h2.out, h3]; rfl), S0.2⟩
  replace h3 := Lib.hid h3
  go_wp2_with fail
  go_ret
  exact ⟨ret_bool (by unfold loanB; rw [h0.out, h1.out, h2.out, h3.out]; rfl), S0.2⟩

set_option maxRecDepth 100000 in
set_option maxHeartbeats 3200000 in
theorem breaches (l a b g x h y : Int) (w : World) :
    Calls Try.prog 68 #[.agg #[.int .i64 l, .int .i64 a, .int .i64 b, .int .i64 g], .agg #[.int .i64 x, .int .i64 h, .int .i64 y]] w fun e w' => e = .returned (.int .i64 (breachI l a b g x h y)) ∧ Below w.heap.size w w' := by
  obtain ⟨r, hr⟩ : ∃ r, breachI l a b g x h y = r := ⟨_, rfl⟩
  have HR := Lib.hid hr
  rw [hr]
  clear hr
  have Q1 := Lib.hid fun w => loanOk l a b g w
  cases o1 : loanB l a b g
  · have E : Hid (r = 7) := Lib.hid (by rw [← HR.out]; unfold breachI; rw [o1]; rfl)
    rw [o1] at Q1
    clear HR o1
    go_enter Try.func68, Try.ntmps68
    go_wp2_with fail
    have X0 := (Tup4.box1 w l a b g 62 (k := w.heap.size) (by simp)).alloc (Obj.cells #[.int .i64 x, .int .i64 h, .int .i64 y] 71)
    have X1 := Tup3.box1 (w.alloc (Obj.cells #[.int .i64 l, .int .i64 a, .int .i64 b, .int .i64 g] 62)) x h y 71 (k := w.heap.size + 1) (by simp)
    have b0 := PointOk.below2 w (Obj.cells #[.int .i64 l, .int .i64 a, .int .i64 b, .int .i64 g] 62) (Obj.cells #[.int .i64 x, .int .i64 h, .int .i64 y] 71)
    have HO : ∀ W W' : World, (Tup4.Box W (w.heap.size) l a b g ∧ Tup3.Box W (w.heap.size + 1) x h y ∧ Below w.heap.size w W) → Below W.heap.size W W' → (Tup4.Box W' (w.heap.size) l a b g ∧ Tup3.Box W' (w.heap.size + 1) x h y ∧ Below w.heap.size w W') := fun W W' ⟨h0, h1, hb⟩ h => ⟨h0.later h, h1.later h, hb.trans (h.mono hb.size)⟩
    have hz0_ : Hid ((((w.alloc (Obj.cells #[.int .i64 l, .int .i64 a, .int .i64 b, .int .i64 g] 62)).alloc (Obj.cells #[.int .i64 x, .int .i64 h, .int .i64 y] 71))).heap.size = w.heap.size + 1 + 1) := Lib.hid (by simp)
    generalize ((w.alloc (Obj.cells #[.int .i64 l, .int .i64 a, .int .i64 b, .int .i64 g] 62)).alloc (Obj.cells #[.int .i64 x, .int .i64 h, .int .i64 y] 71)) = w0 at X0 X1 b0 hz0_ ⊢
    have S0 := (⟨X0, X1, b0⟩ : Tup4.Box w0 (w.heap.size) l a b g ∧ Tup3.Box w0 (w.heap.size + 1) x h y ∧ Below w.heap.size w w0)
    clear X0 X1 b0
    obtain ⟨⟨_, _, _, _⟩, ⟨_, _, _⟩, _⟩ := id S0
    refine (Q1.out _).mono ?_
    rintro e w1 ⟨rfl, hb_⟩
    replace S0 := HO _ _ S0 hb_
    clear hb_
    obtain ⟨⟨_, _, _, _⟩, ⟨_, _, _⟩, _⟩ := id S0
    go_wp2_with fail
    go_ret
    exact ⟨ret_i64 E.out.symm, S0.2.2⟩
  have HE : Hid (r = (if l < x then 1 else 0) + (if a ≤ h ∧ h ≤ b then 0 else 2) + (if y < g then 4 else 0)) := Lib.hid (by rw [← HR.out]; unfold breachI; rw [o1]; rfl)
  rw [o1] at Q1
  clear HR o1
  by_cases k1 : l < x <;> by_cases k2 : a ≤ h ∧ h ≤ b <;> by_cases k3 : y < g
  · skip
    have E : Hid (r = 5) := Lib.hid (by rw [HE.out, if_pos k1, if_pos k2, if_pos k3]; rfl)
    have d2 : decide (a ≤ h ∧ h ≤ b) = true := decide_eq_true k2
    have QR := Lib.hid fun w => PointOk.l01In h a b w
    rw [d2] at QR
    clear HE d2 k2
    go_enter Try.func68, Try.ntmps68
    go_wp2_with fail
    have X0 := (Tup4.box1 w l a b g 62 (k := w.heap.size) (by simp)).alloc (Obj.cells #[.int .i64 x, .int .i64 h, .int .i64 y] 71)
    have X1 := Tup3.box1 (w.alloc (Obj.cells #[.int .i64 l, .int .i64 a, .int .i64 b, .int .i64 g] 62)) x h y 71 (k := w.heap.size + 1) (by simp)
    have b0 := PointOk.below2 w (Obj.cells #[.int .i64 l, .int .i64 a, .int .i64 b, .int .i64 g] 62) (Obj.cells #[.int .i64 x, .int .i64 h, .int .i64 y] 71)
    have HO : ∀ W W' : World, (Tup4.Box W (w.heap.size) l a b g ∧ Tup3.Box W (w.heap.size + 1) x h y ∧ Below w.heap.size w W) → Below W.heap.size W W' → (Tup4.Box W' (w.heap.size) l a b g ∧ Tup3.Box W' (w.heap.size + 1) x h y ∧ Below w.heap.size w W') := fun W W' ⟨h0, h1, hb⟩ h => ⟨h0.later h, h1.later h, hb.trans (h.mono hb.size)⟩
    have hz0_ : Hid ((((w.alloc (Obj.cells #[.int .i64 l, .int .i64 a, .int .i64 b, .int .i64 g] 62)).alloc (Obj.cells #[.int .i64 x, .int .i64 h, .int .i64 y] 71))).heap.size = w.heap.size + 1 + 1) := Lib.hid (by simp)
    generalize ((w.alloc (Obj.cells #[.int .i64 l, .int .i64 a, .int .i64 b, .int .i64 g] 62)).alloc (Obj.cells #[.int .i64 x, .int .i64 h, .int .i64 y] 71)) = w0 at X0 X1 b0 hz0_ ⊢
    have S0 := (⟨X0, X1, b0⟩ : Tup4.Box w0 (w.heap.size) l a b g ∧ Tup3.Box w0 (w.heap.size + 1) x h y ∧ Below w.heap.size w w0)
    clear X0 X1 b0
    obtain ⟨⟨_, _, _, _⟩, ⟨_, _, _⟩, _⟩ := id S0
    refine (Q1.out _).mono ?_
    rintro e w2 ⟨rfl, hb_⟩
    replace S0 := HO _ _ S0 hb_
    clear hb_
    obtain ⟨⟨_, _, _, _⟩, ⟨_, _, _⟩, _⟩ := id S0
    go_wp2_with fail
    refine (QR.out _).mono ?_
    rintro e w_ ⟨rfl, rfl⟩
    go_wp2_with fail
    go_ret
    exact ⟨ret_i64 E.out.symm, S0.2.2⟩
  · skip
    have E : Hid (r = 1) := Lib.hid (by rw [HE.out, if_pos k1, if_pos k2, if_neg k3]; rfl)
    have d2 : decide (a ≤ h ∧ h ≤ b) = true := decide_eq_true k2
    have QR := Lib.hid fun w => PointOk.l01In h a b w
    rw [d2] at QR
    clear HE d2 k2
    go_enter Try.func68, Try.ntmps68
    go_wp2_with fail
    have X0 := (Tup4.box1 w l a b g 62 (k := w.heap.size) (by simp)).alloc (Obj.cells #[.int .i64 x, .int .i64 h, .int .i64 y] 71)
    have X1 := Tup3.box1 (w.alloc (Obj.cells #[.int .i64 l, .int .i64 a, .int .i64 b, .int .i64 g] 62)) x h y 71 (k := w.heap.size + 1) (by simp)
    have b0 := PointOk.below2 w (Obj.cells #[.int .i64 l, .int .i64 a, .int .i64 b, .int .i64 g] 62) (Obj.cells #[.int .i64 x, .int .i64 h, .int .i64 y] 71)
    have HO : ∀ W W' : World, (Tup4.Box W (w.heap.size) l a b g ∧ Tup3.Box W (w.heap.size + 1) x h y ∧ Below w.heap.size w W) → Below W.heap.size W W' → (Tup4.Box W' (w.heap.size) l a b g ∧ Tup3.Box W' (w.heap.size + 1) x h y ∧ Below w.heap.size w W') := fun W W' ⟨h0, h1, hb⟩ h => ⟨h0.later h, h1.later h, hb.trans (h.mono hb.size)⟩
    have hz0_ : Hid ((((w.alloc (Obj.cells #[.int .i64 l, .int .i64 a, .int .i64 b, .int .i64 g] 62)).alloc (Obj.cells #[.int .i64 x, .int .i64 h, .int .i64 y] 71))).heap.size = w.heap.size + 1 + 1) := Lib.hid (by simp)
    generalize ((w.alloc (Obj.cells #[.int .i64 l, .int .i64 a, .int .i64 b, .int .i64 g] 62)).alloc (Obj.cells #[.int .i64 x, .int .i64 h, .int .i64 y] 71)) = w0 at X0 X1 b0 hz0_ ⊢
    have S0 := (⟨X0, X1, b0⟩ : Tup4.Box w0 (w.heap.size) l a b g ∧ Tup3.Box w0 (w.heap.size + 1) x h y ∧ Below w.heap.size w w0)
    clear X0 X1 b0
    obtain ⟨⟨_, _, _, _⟩, ⟨_, _, _⟩, _⟩ := id S0
    refine (Q1.out _).mono ?_
    rintro e w4 ⟨rfl, hb_⟩
    replace S0 := HO _ _ S0 hb_
    clear hb_
    obtain ⟨⟨_, _, _, _⟩, ⟨_, _, _⟩, _⟩ := id S0
    go_wp2_with fail
    refine (QR.out _).mono ?_
    rintro e w_ ⟨rfl, rfl⟩
    go_wp2_with fail
    go_ret
    exact ⟨ret_i64 E.out.symm, S0.2.2⟩
  · skip
    have E : Hid (r = 7) := Lib.hid (by rw [HE.out, if_pos k1, if_neg k2, if_pos k3]; rfl)
    have d2 : decide (a ≤ h ∧ h ≤ b) = false := decide_eq_false k2
    have QR := Lib.hid fun w => PointOk.l01In h a b w
    rw [d2] at QR
    clear HE d2 k2
    go_enter Try.func68, Try.ntmps68
    go_wp2_with fail
    have X0 := (Tup4.box1 w l a b g 62 (k := w.heap.size) (by simp)).alloc (Obj.cells #[.int .i64 x, .int .i64 h, .int .i64 y] 71)
    have X1 := Tup3.box1 (w.alloc (Obj.cells #[.int .i64 l, .int .i64 a, .int .i64 b, .int .i64 g] 62)) x h y 71 (k := w.heap.size + 1) (by simp)
    have b0 := PointOk.below2 w (Obj.cells #[.int .i64 l, .int .i64 a, .int .i64 b, .int .i64 g] 62) (Obj.cells #[.int .i64 x, .int .i64 h, .int .i64 y] 71)
    have HO : ∀ W W' : World, (Tup4.Box W (w.heap.size) l a b g ∧ Tup3.Box W (w.heap.size + 1) x h y ∧ Below w.heap.size w W) → Below W.heap.size W W' → (Tup4.Box W' (w.heap.size) l a b g ∧ Tup3.Box W' (w.heap.size + 1) x h y ∧ Below w.heap.size w W') := fun W W' ⟨h0, h1, hb⟩ h => ⟨h0.later h, h1.later h, hb.trans (h.mono hb.size)⟩
    have hz0_ : Hid ((((w.alloc (Obj.cells #[.int .i64 l, .int .i64 a, .int .i64 b, .int .i64 g] 62)).alloc (Obj.cells #[.int .i64 x, .int .i64 h, .int .i64 y] 71))).heap.size = w.heap.size + 1 + 1) := Lib.hid (by simp)
    generalize ((w.alloc (Obj.cells #[.int .i64 l, .int .i64 a, .int .i64 b, .int .i64 g] 62)).alloc (Obj.cells #[.int .i64 x, .int .i64 h, .int .i64 y] 71)) = w0 at X0 X1 b0 hz0_ ⊢
    have S0 := (⟨X0, X1, b0⟩ : Tup4.Box w0 (w.heap.size) l a b g ∧ Tup3.Box w0 (w.heap.size + 1) x h y ∧ Below w.heap.size w w0)
    clear X0 X1 b0
    obtain ⟨⟨_, _, _, _⟩, ⟨_, _, _⟩, _⟩ := id S0
    refine (Q1.out _).mono ?_
    rintro e w6 ⟨rfl, hb_⟩
    replace S0 := HO _ _ S0 hb_
    clear hb_
    obtain ⟨⟨_, _, _, _⟩, ⟨_, _, _⟩, _⟩ := id S0
    go_wp2_with fail
    refine (QR.out _).mono ?_
    rintro e w_ ⟨rfl, rfl⟩
    go_wp2_with fail
    go_ret
    exact ⟨ret_i64 E.out.symm, S0.2.2⟩
  · skip
    have E : Hid (r = 3) := Lib.hid (by rw [HE.out, if_pos k1, if_neg k2, if_neg k3]; rfl)
    have d2 : decide (a ≤ h ∧ h ≤ b) = false := decide_eq_false k2
    have QR := Lib.hid fun w => PointOk.l01In h a b w
    rw [d2] at QR
    clear HE d2 k2
    go_enter Try.func68, Try.ntmps68
    go_wp2_with fail
    have X0 := (Tup4.box1 w l a b g 62 (k := w.heap.size) (by simp)).alloc (Obj.cells #[.int .i64 x, .int .i64 h, .int .i64 y] 71)
    have X1 := Tup3.box1 (w.alloc (Obj.cells #[.int .i64 l, .int .i64 a, .int .i64 b, .int .i64 g] 62)) x h y 71 (k := w.heap.size + 1) (by simp)
    have b0 := PointOk.below2 w (Obj.cells #[.int .i64 l, .int .i64 a, .int .i64 b, .int .i64 g] 62) (Obj.cells #[.int .i64 x, .int .i64 h, .int .i64 y] 71)
    have HO : ∀ W W' : World, (Tup4.Box W (w.heap.size) l a b g ∧ Tup3.Box W (w.heap.size + 1) x h y ∧ Below w.heap.size w W) → Below W.heap.size W W' → (Tup4.Box W' (w.heap.size) l a b g ∧ Tup3.Box W' (w.heap.size + 1) x h y ∧ Below w.heap.size w W') := fun W W' ⟨h0, h1, hb⟩ h => ⟨h0.later h, h1.later h, hb.trans (h.mono hb.size)⟩
    have hz0_ : Hid ((((w.alloc (Obj.cells #[.int .i64 l, .int .i64 a, .int .i64 b, .int .i64 g] 62)).alloc (Obj.cells #[.int .i64 x, .int .i64 h, .int .i64 y] 71))).heap.size = w.heap.size + 1 + 1) := Lib.hid (by simp)
    generalize ((w.alloc (Obj.cells #[.int .i64 l, .int .i64 a, .int .i64 b, .int .i64 g] 62)).alloc (Obj.cells #[.int .i64 x, .int .i64 h, .int .i64 y] 71)) = w0 at X0 X1 b0 hz0_ ⊢
    have S0 := (⟨X0, X1, b0⟩ : Tup4.Box w0 (w.heap.size) l a b g ∧ Tup3.Box w0 (w.heap.size + 1) x h y ∧ Below w.heap.size w w0)
    clear X0 X1 b0
    obtain ⟨⟨_, _, _, _⟩, ⟨_, _, _⟩, _⟩ := id S0
    refine (Q1.out _).mono ?_
    rintro e w8 ⟨rfl, hb_⟩
    replace S0 := HO _ _ S0 hb_
    clear hb_
    obtain ⟨⟨_, _, _, _⟩, ⟨_, _, _⟩, _⟩ := id S0
    go_wp2_with fail
    refine (QR.out _).mono ?_
    rintro e w_ ⟨rfl, rfl⟩
    go_wp2_with fail
    go_ret
    exact ⟨ret_i64 E.out.symm, S0.2.2⟩
  · skip
    have E : Hid (r = 4) := Lib.hid (by rw [HE.out, if_neg k1, if_pos k2, if_pos k3]; rfl)
    have d2 : decide (a ≤ h ∧ h ≤ b) = true := decide_eq_true k2
    have QR := Lib.hid fun w => PointOk.l01In h a b w
    rw [d2] at QR
    clear HE d2 k2
    go_enter Try.func68, Try.ntmps68
    go_wp2_with fail
    have X0 := (Tup4.box1 w l a b g 62 (k := w.heap.size) (by simp)).alloc (Obj.cells #[.int .i64 x, .int .i64 h, .int .i64 y] 71)
    have X1 := Tup3.box1 (w.alloc (Obj.cells #[.int .i64 l, .int .i64 a, .int .i64 b, .int .i64 g] 62)) x h y 71 (k := w.heap.size + 1) (by simp)
    have b0 := PointOk.below2 w (Obj.cells #[.int .i64 l, .int .i64 a, .int .i64 b, .int .i64 g] 62) (Obj.cells #[.int .i64 x, .int .i64 h, .int .i64 y] 71)
    have HO : ∀ W W' : World, (Tup4.Box W (w.heap.size) l a b g ∧ Tup3.Box W (w.heap.size + 1) x h y ∧ Below w.heap.size w W) → Below W.heap.size W W' → (Tup4.Box W' (w.heap.size) l a b g ∧ Tup3.Box W' (w.heap.size + 1) x h y ∧ Below w.heap.size w W') := fun W W' ⟨h0, h1, hb⟩ h => ⟨h0.later h, h1.later h, hb.trans (h.mono hb.size)⟩
    have hz0_ : Hid ((((w.alloc (Obj.cells #[.int .i64 l, .int .i64 a, .int .i64 b, .int .i64 g] 62)).alloc (Obj.cells #[.int .i64 x, .int .i64 h, .int .i64 y] 71))).heap.size = w.heap.size + 1 + 1) := Lib.hid (by simp)
    generalize ((w.alloc (Obj.cells #[.int .i64 l, .int .i64 a, .int .i64 b, .int .i64 g] 62)).alloc (Obj.cells #[.int .i64 x, .int .i64 h, .int .i64 y] 71)) = w0 at X0 X1 b0 hz0_ ⊢
    have S0 := (⟨X0, X1, b0⟩ : Tup4.Box w0 (w.heap.size) l a b g ∧ Tup3.Box w0 (w.heap.size + 1) x h y ∧ Below w.heap.size w w0)
    clear X0 X1 b0
    obtain ⟨⟨_, _, _, _⟩, ⟨_, _, _⟩, _⟩ := id S0
    refine (Q1.out _).mono ?_
    rintro e w10 ⟨rfl, hb_⟩
    replace S0 := HO _ _ S0 hb_
    clear hb_
    obtain ⟨⟨_, _, _, _⟩, ⟨_, _, _⟩, _⟩ := id S0
    go_wp2_with fail
    refine (QR.out _).mono ?_
    rintro e w_ ⟨rfl, rfl⟩
    go_wp2_with fail
    go_ret
    exact ⟨ret_i64 E.out.symm, S0.2.2⟩
  · skip
    have E : Hid (r = 0) := Lib.hid (by rw [HE.out, if_neg k1, if_pos k2, if_neg k3]; rfl)
    have d2 : decide (a ≤ h ∧ h ≤ b) = true := decide_eq_true k2
    have QR := Lib.hid fun w => PointOk.l01In h a b w
    rw [d2] at QR
    clear HE d2 k2
    go_enter Try.func68, Try.ntmps68
    go_wp2_with fail
    have X0 := (Tup4.box1 w l a b g 62 (k := w.heap.size) (by simp)).alloc (Obj.cells #[.int .i64 x, .int .i64 h, .int .i64 y] 71)
    have X1 := Tup3.box1 (w.alloc (Obj.cells #[.int .i64 l, .int .i64 a, .int .i64 b, .int .i64 g] 62)) x h y 71 (k := w.heap.size + 1) (by simp)
    have b0 := PointOk.below2 w (Obj.cells #[.int .i64 l, .int .i64 a, .int .i64 b, .int .i64 g] 62) (Obj.cells #[.int .i64 x, .int .i64 h, .int .i64 y] 71)
    have HO : ∀ W W' : World, (Tup4.Box W (w.heap.size) l a b g ∧ Tup3.Box W (w.heap.size + 1) x h y ∧ Below w.heap.size w W) → Below W.heap.size W W' → (Tup4.Box W' (w.heap.size) l a b g ∧ Tup3.Box W' (w.heap.size + 1) x h y ∧ Below w.heap.size w W') := fun W W' ⟨h0, h1, hb⟩ h => ⟨h0.later h, h1.later h, hb.trans (h.mono hb.size)⟩
    have hz0_ : Hid ((((w.alloc (Obj.cells #[.int .i64 l, .int .i64 a, .int .i64 b, .int .i64 g] 62)).alloc (Obj.cells #[.int .i64 x, .int .i64 h, .int .i64 y] 71))).heap.size = w.heap.size + 1 + 1) := Lib.hid (by simp)
    generalize ((w.alloc (Obj.cells #[.int .i64 l, .int .i64 a, .int .i64 b, .int .i64 g] 62)).alloc (Obj.cells #[.int .i64 x, .int .i64 h, .int .i64 y] 71)) = w0 at X0 X1 b0 hz0_ ⊢
    have S0 := (⟨X0, X1, b0⟩ : Tup4.Box w0 (w.heap.size) l a b g ∧ Tup3.Box w0 (w.heap.size + 1) x h y ∧ Below w.heap.size w w0)
    clear X0 X1 b0
    obtain ⟨⟨_, _, _, _⟩, ⟨_, _, _⟩, _⟩ := id S0
    refine (Q1.out _).mono ?_
    rintro e w12 ⟨rfl, hb_⟩
    replace S0 := HO _ _ S0 hb_
    clear hb_
    obtain ⟨⟨_, _, _, _⟩, ⟨_, _, _⟩, _⟩ := id S0
    go_wp2_with fail
    refine (QR.out _).mono ?_
    rintro e w_ ⟨rfl, rfl⟩
    go_wp2_with fail
    go_ret
    exact ⟨ret_i64 E.out.symm, S0.2.2⟩
  · skip
    have E : Hid (r = 6) := Lib.hid (by rw [HE.out, if_neg k1, if_neg k2, if_pos k3]; rfl)
    have d2 : decide (a ≤ h ∧ h ≤ b) = false := decide_eq_false k2
    have QR := Lib.hid fun w => PointOk.l01In h a b w
    rw [d2] at QR
    clear HE d2 k2
    go_enter Try.func68, Try.ntmps68
    go_wp2_with fail
    have X0 := (Tup4.box1 w l a b g 62 (k := w.heap.size) (by simp)).alloc (Obj.cells #[.int .i64 x, .int .i64 h, .int .i64 y] 71)
    have X1 := Tup3.box1 (w.alloc (Obj.cells #[.int .i64 l, .int .i64 a, .int .i64 b, .int .i64 g] 62)) x h y 71 (k := w.heap.size + 1) (by simp)
    have b0 := PointOk.below2 w (Obj.cells #[.int .i64 l, .int .i64 a, .int .i64 b, .int .i64 g] 62) (Obj.cells #[.int .i64 x, .int .i64 h, .int .i64 y] 71)
    have HO : ∀ W W' : World, (Tup4.Box W (w.heap.size) l a b g ∧ Tup3.Box W (w.heap.size + 1) x h y ∧ Below w.heap.size w W) → Below W.heap.size W W' → (Tup4.Box W' (w.heap.size) l a b g ∧ Tup3.Box W' (w.heap.size + 1) x h y ∧ Below w.heap.size w W') := fun W W' ⟨h0, h1, hb⟩ h => ⟨h0.later h, h1.later h, hb.trans (h.mono hb.size)⟩
    have hz0_ : Hid ((((w.alloc (Obj.cells #[.int .i64 l, .int .i64 a, .int .i64 b, .int .i64 g] 62)).alloc (Obj.cells #[.int .i64 x, .int .i64 h, .int .i64 y] 71))).heap.size = w.heap.size + 1 + 1) := Lib.hid (by simp)
    generalize ((w.alloc (Obj.cells #[.int .i64 l, .int .i64 a, .int .i64 b, .int .i64 g] 62)).alloc (Obj.cells #[.int .i64 x, .int .i64 h, .int .i64 y] 71)) = w0 at X0 X1 b0 hz0_ ⊢
    have S0 := (⟨X0, X1, b0⟩ : Tup4.Box w0 (w.heap.size) l a b g ∧ Tup3.Box w0 (w.heap.size + 1) x h y ∧ Below w.heap.size w w0)
    clear X0 X1 b0
    obtain ⟨⟨_, _, _, _⟩, ⟨_, _, _⟩, _⟩ := id S0
    refine (Q1.out _).mono ?_
    rintro e w14 ⟨rfl, hb_⟩
    replace S0 := HO _ _ S0 hb_
    clear hb_
    obtain ⟨⟨_, _, _, _⟩, ⟨_, _, _⟩, _⟩ := id S0
    go_wp2_with fail
    refine (QR.out _).mono ?_
    rintro e w_ ⟨rfl, rfl⟩
    go_wp2_with fail
    go_ret
    exact ⟨ret_i64 E.out.symm, S0.2.2⟩
  · skip
    have E : Hid (r = 2) := Lib.hid (by rw [HE.out, if_neg k1, if_neg k2, if_neg k3]; rfl)
    have d2 : decide (a ≤ h ∧ h ≤ b) = false := decide_eq_false k2
    have QR := Lib.hid fun w => PointOk.l01In h a b w
    rw [d2] at QR
    clear HE d2 k2
    go_enter Try.func68, Try.ntmps68
    go_wp2_with fail
    have X0 := (Tup4.box1 w l a b g 62 (k := w.heap.size) (by simp)).alloc (Obj.cells #[.int .i64 x, .int .i64 h, .int .i64 y] 71)
    have X1 := Tup3.box1 (w.alloc (Obj.cells #[.int .i64 l, .int .i64 a, .int .i64 b, .int .i64 g] 62)) x h y 71 (k := w.heap.size + 1) (by simp)
    have b0 := PointOk.below2 w (Obj.cells #[.int .i64 l, .int .i64 a, .int .i64 b, .int .i64 g] 62) (Obj.cells #[.int .i64 x, .int .i64 h, .int .i64 y] 71)
    have HO : ∀ W W' : World, (Tup4.Box W (w.heap.size) l a b g ∧ Tup3.Box W (w.heap.size + 1) x h y ∧ Below w.heap.size w W) → Below W.heap.size W W' → (Tup4.Box W' (w.heap.size) l a b g ∧ Tup3.Box W' (w.heap.size + 1) x h y ∧ Below w.heap.size w W') := fun W W' ⟨h0, h1, hb⟩ h => ⟨h0.later h, h1.later h, hb.trans (h.mono hb.size)⟩
    have hz0_ : Hid ((((w.alloc (Obj.cells #[.int .i64 l, .int .i64 a, .int .i64 b, .int .i64 g] 62)).alloc (Obj.cells #[.int .i64 x, .int .i64 h, .int .i64 y] 71))).heap.size = w.heap.size + 1 + 1) := Lib.hid (by simp)
    generalize ((w.alloc (Obj.cells #[.int .i64 l, .int .i64 a, .int .i64 b, .int .i64 g] 62)).alloc (Obj.cells #[.int .i64 x, .int .i64 h, .int .i64 y] 71)) = w0 at X0 X1 b0 hz0_ ⊢
    have S0 := (⟨X0, X1, b0⟩ : Tup4.Box w0 (w.heap.size) l a b g ∧ Tup3.Box w0 (w.heap.size + 1) x h y ∧ Below w.heap.size w w0)
    clear X0 X1 b0
    obtain ⟨⟨_, _, _, _⟩, ⟨_, _, _⟩, _⟩ := id S0
    refine (Q1.out _).mono ?_
    rintro e w16 ⟨rfl, hb_⟩
    replace S0 := HO _ _ S0 hb_
    clear hb_
    obtain ⟨⟨_, _, _, _⟩, ⟨_, _, _⟩, _⟩ := id S0
    go_wp2_with fail
    refine (QR.out _).mono ?_
    rintro e w_ ⟨rfl, rfl⟩
    go_wp2_with fail
    go_ret
    exact ⟨ret_i64 E.out.symm, S0.2.2⟩

end Go.Proofs.Ytgelkpaiabhklaa.DutySpec

