/-
  What the landed test on points does, and the landed steps and crosses, as contracts; new memory alone is written.
-/
import Derived.Test.YthokeedmccfalaaGround
import Derived.WalkLawsBesides
namespace Go.Proofs.Ythokeedmccfalaa.PointOkImpl
open Go.RowKit PointMath
open PointOk (ret_bool ret_i64 below1 below2 below3)

theorem isCoordinate (x : Int) (w : World) : Calls Try.prog 184 #[.int .i64 x] w fun e w' => e = .returned (.bool (decide (-40 ≤ x ∧ x ≤ 40))) ∧ w = w' := by
  by_cases h1 : -40 ≤ x
  · by_cases h2 : x ≤ 40
    · have H : Hid (decide (-40 ≤ x ∧ x ≤ 40) = true) := Lib.hid (by simp [h1, h2])
      generalize decide (-40 ≤ x ∧ x ≤ 40) = r at H ⊢
      go_enter Try.func184, Try.ntmps184
      go_wp2_with fail
      go_ret
      exact ⟨ret_bool (by rw [H.out]), rfl⟩
    · have H : Hid (decide (-40 ≤ x ∧ x ≤ 40) = false) := Lib.hid (by simp; omega)
      generalize decide (-40 ≤ x ∧ x ≤ 40) = r at H ⊢
      go_enter Try.func184, Try.ntmps184
      go_wp2_with fail
      go_ret
      exact ⟨ret_bool (by rw [H.out]), rfl⟩
  · have H : Hid (decide (-40 ≤ x ∧ x ≤ 40) = false) := Lib.hid (by simp; omega)
    generalize decide (-40 ≤ x ∧ x ≤ 40) = r at H ⊢
    go_enter Try.func184, Try.ntmps184
    go_wp2_with fail
    go_ret
    exact ⟨ret_bool (by rw [H.out]), rfl⟩

theorem pointOk (x y : Int) (w : World) : Calls Try.prog 158 #[.agg #[.int .i64 x, .int .i64 y]] w fun e w' => e = .returned (.bool (okP x y)) ∧ Below w.heap.size w w' := by
  by_cases h1 : -40 ≤ x ∧ x ≤ 40
  · have hx : Hid (decide (-40 ≤ x ∧ x ≤ 40) = true) := Lib.hid (by simpa using h1)
    obtain ⟨r, hr⟩ : ∃ r, Hid (decide (-40 ≤ y ∧ y ≤ 40) = r) := ⟨_, Lib.hid rfl⟩
    have H : Hid (okP x y = r) := Lib.hid (by rw [← hr.out]; simp [okP, h1.1, h1.2])
    clear h1
    go_enter Try.func158, Try.ntmps158
    go_wp2_with fail
    refine (isCoordinate x _).mono ?_
    rintro e w' ⟨rfl, rfl⟩
    rw [hx.out]
    go_wp2_with fail
    refine (isCoordinate y _).mono ?_
    rintro e w' ⟨rfl, rfl⟩
    rw [hr.out]
    go_wp2_with fail
    go_ret
    exact ⟨ret_bool H.out.symm, below1 _ _⟩
  · have hx : Hid (decide (-40 ≤ x ∧ x ≤ 40) = false) := Lib.hid (by simp; omega)
    have H : Hid (okP x y = false) := Lib.hid (okP_false (by omega))
    clear h1
    go_enter Try.func158, Try.ntmps158
    go_wp2_with fail
    refine (isCoordinate x _).mono ?_
    rintro e w' ⟨rfl, rfl⟩
    rw [hx.out]
    go_wp2_with fail
    go_ret
    exact ⟨ret_bool H.out.symm, below1 _ _⟩

/-- The step from one point to another. -/
theorem minus (ax ay bx bY : Int) (ha : smP ax ay) (hb : smP bx bY) (w : World) : Calls Try.prog 183 #[.agg #[.int .i64 ax, .int .i64 ay], .agg #[.int .i64 bx, .int .i64 bY]] w fun e w' => e = .returned (.agg #[.int .i64 (ax - bx), .int .i64 (ay - bY)]) ∧ Below w.heap.size w w' := by
  have h1 : -1000000 ≤ ax ∧ ax ≤ 1000000 ∧ -1000000 ≤ ay ∧ ay ≤ 1000000 := ha
  have h2 : -1000000 ≤ bx ∧ bx ≤ 1000000 ∧ -1000000 ≤ bY ∧ bY ≤ 1000000 := hb
  clear ha hb
  go_enter Try.func183, Try.ntmps183
  go_wp2_with fail
  refine bodyPost_ret (v := .agg #[.int .i64 (ax - bx), .int .i64 (ay - bY)]) (by simp [results, Try.results183, go_sem]) rfl ⟨rfl, ?_⟩
  exact below3 _ _ _ _

theorem cross (ax ay bx bY : Int) (h1 : -9000000000000 ≤ ax * bY ∧ ax * bY ≤ 9000000000000) (h2 : -9000000000000 ≤ ay * bx ∧ ay * bx ≤ 9000000000000) (w : World) : Calls Try.prog 162 #[.agg #[.int .i64 ax, .int .i64 ay], .agg #[.int .i64 bx, .int .i64 bY]] w fun e w' => e = .returned (.int .i64 (ax * bY - ay * bx)) ∧ Below w.heap.size w w' := by
  go_enter Try.func162, Try.ntmps162
  go_wp2_with fail
  go_ret
  exact ⟨rfl, below2 _ _ _⟩

end Go.Proofs.Ythokeedmccfalaa.PointOkImpl
