/-
  What the functions on zones, shifts and loans do, as contracts: what each answers; new memory alone is written.
-/
import Derived.Test.YtmcjnldkhnebcaaPointImpl
import Derived.Test.YtmcjnldkhnebcaaDutyMath
import Derived.Test.YtmcjnldkhnebcaaTup3
import Derived.Test.YtmcjnldkhnebcaaTup4
import Derived.Test.YtmcjnldkhnebcaaGround
import Derived.Lib.MinMax
import Derived.Laws.EntriesVeiled
namespace Go.Proofs.Ytmcjnldkhnebcaa.DutyImpl
open Go.RowKit PointMath DutyMath
open PointOk (ret_bool ret_i64 below1 below2 below3)

theorem isUpTo (n L : Int) (w : World) : Calls Try.prog 39 #[.int .i64 n, .int .i64 L] w fun e w' => e = .returned (.bool (decide (0 ≤ n ∧ n ≤ L))) ∧ w = w' := by
  obtain ⟨r, hr⟩ : ∃ r, decide (0 ≤ n ∧ n ≤ L) = r := ⟨_, rfl⟩
  rw [hr]
  replace hr := Lib.hid hr
  by_cases h1 : 0 ≤ n
  · by_cases h2 : n ≤ L
    · go_enter Try.func39, Try.ntmps39
      go_wp2_with fail
      go_ret
      exact ⟨ret_bool (by rw [← hr.out]; exact (decide_eq_true (by omega)).symm), rfl⟩
    · go_enter Try.func39, Try.ntmps39
      go_wp2_with fail
      go_ret
      exact ⟨ret_bool (by rw [← hr.out]; exact (decide_eq_false (by omega)).symm), rfl⟩
  · go_enter Try.func39, Try.ntmps39
    go_wp2_with fail
    go_ret
    exact ⟨ret_bool (by rw [← hr.out]; exact (decide_eq_false (by omega)).symm), rfl⟩

theorem zoneOk (a b k : Int) (w : World) :
    Calls Try.prog 25 #[.agg #[.int .i64 a, .int .i64 b, .int .i64 k]] w fun e w' => e = .returned (.bool (zoneB a b k)) ∧ Below w.heap.size w w' := by
  obtain ⟨r, hr⟩ : ∃ r, zoneB a b k = r := ⟨_, rfl⟩
  have HR := Lib.hid hr
  rw [hr]
  clear hr
  rw [zone_up] at HR
  by_cases h2 : a ≤ b
  rotate_left
  · skip
    go_enter Try.func25, Try.ntmps25
    go_wp2_with fail
    have X0 := Tup3.box1 w a b k 39 (k := w.heap.size) (by simp)
    have b0 := PointOk.below1 w (Obj.cells #[.int .i64 a, .int .i64 b, .int .i64 k] 39)
    have HO : ∀ W W' : World, (Tup3.Box W (w.heap.size) a b k ∧ Below w.heap.size w W) → Below W.heap.size W W' → (Tup3.Box W' (w.heap.size) a b k ∧ Below w.heap.size w W') := fun W W' ⟨h0, hb⟩ h => ⟨h0.later h, hb.trans (h.mono hb.size)⟩
    have hz0_ : Hid (((w.alloc (Obj.cells #[.int .i64 a, .int .i64 b, .int .i64 k] 39))).heap.size = w.heap.size + 1) := Lib.hid (by simp)
    generalize (w.alloc (Obj.cells #[.int .i64 a, .int .i64 b, .int .i64 k] 39)) = w0 at X0 b0 hz0_ ⊢
    have S0 := (⟨X0, b0⟩ : Tup3.Box w0 (w.heap.size) a b k ∧ Below w.heap.size w w0)
    clear X0 b0
    obtain ⟨⟨_, _, _⟩, _⟩ := id S0
    refine (isUpTo a 10000 _).mono ?_
    rintro e w_ ⟨rfl, rfl⟩
    cases h0 : decide (0 ≤ a ∧ a ≤ 10000)
    · go_wp2_with fail
      go_ret
      exact ⟨ret_bool (by rw [← HR.out, h0]; rfl), S0.2⟩
    replace h0 := Lib.hid h0
    go_wp2_with fail
    refine (isUpTo b 10000 _).mono ?_
    rintro e w_ ⟨rfl, rfl⟩
    cases h1 : decide (0 ≤ b ∧ b ≤ 10000)
    · go_wp2_with fail
      go_ret
      exact ⟨ret_bool (by rw [← HR.out, h0.out, h1]; rfl), S0.2⟩
    replace h1 := Lib.hid h1
    go_wp2_with fail
    go_ret
    exact ⟨ret_bool (by rw [← HR.out, h0.out, h1.out, show decide (a ≤ b) = false from decide_eq_false (by omega)]; rfl), S0.2⟩
  go_enter Try.func25, Try.ntmps25
  go_wp2_with fail
  have X0 := Tup3.box1 w a b k 39 (k := w.heap.size) (by simp)
  have b0 := PointOk.below1 w (Obj.cells #[.int .i64 a, .int .i64 b, .int .i64 k] 39)
  have HO : ∀ W W' : World, (Tup3.Box W (w.heap.size) a b k ∧ Below w.heap.size w W) → Below W.heap.size W W' → (Tup3.Box W' (w.heap.size) a b k ∧ Below w.heap.size w W') := fun W W' ⟨h0, hb⟩ h => ⟨h0.later h, hb.trans (h.mono hb.size)⟩
  have hz0_ : Hid (((w.alloc (Obj.cells #[.int .i64 a, .int .i64 b, .int .i64 k] 39))).heap.size = w.heap.size + 1) := Lib.hid (by simp)
  generalize (w.alloc (Obj.cells #[.int .i64 a, .int .i64 b, .int .i64 k] 39)) = w0 at X0 b0 hz0_ ⊢
  have S0 := (⟨X0, b0⟩ : Tup3.Box w0 (w.heap.size) a b k ∧ Below w.heap.size w w0)
  clear X0 b0
  obtain ⟨⟨_, _, _⟩, _⟩ := id S0
  refine (isUpTo a 10000 _).mono ?_
  rintro e w_ ⟨rfl, rfl⟩
  cases h0 : decide (0 ≤ a ∧ a ≤ 10000)
  · go_wp2_with fail
    go_ret
    exact ⟨ret_bool (by rw [← HR.out, h0]; rfl), S0.2⟩
  replace h0 := Lib.hid h0
  go_wp2_with fail
  refine (isUpTo b 10000 _).mono ?_
  rintro e w_ ⟨rfl, rfl⟩
  cases h1 : decide (0 ≤ b ∧ b ≤ 10000)
  · go_wp2_with fail
    go_ret
    exact ⟨ret_bool (by rw [← HR.out, h0.out, h1]; rfl), S0.2⟩
  replace h1 := Lib.hid h1
  go_wp2_with fail
  refine (isUpTo k 15 _).mono ?_
  rintro e w_ ⟨rfl, rfl⟩
  cases h3 : decide (0 ≤ k ∧ k ≤ 15)
  · go_wp2_with fail
    go_ret
    exact ⟨ret_bool (by rw [← HR.out, h3]; simp), S0.2⟩
  replace h3 := Lib.hid h3
  go_wp2_with fail
  go_ret
  exact ⟨ret_bool (by rw [← HR.out, h0.out, h1.out, h3.out, show decide (a ≤ b) = true from decide_eq_true h2]; rfl), S0.2⟩

end Go.Proofs.Ytmcjnldkhnebcaa.DutyImpl

