/-
  What the functions on zones, shifts and loans do, as contracts: what each answers; new memory alone is written.
-/
import Derived.Test.YtgelkpaiabhklaaDoorPointImpl
import Derived.Test.YtgelkpaiabhklaaDoorDutyMath
import Derived.Test.YtgelkpaiabhklaaDoorTup3
import Derived.Test.YtgelkpaiabhklaaDoorTup4
import Derived.Test.YtgelkpaiabhklaaDoorGround
import Derived.Lib.MinMax
import Derived.Laws.EntriesVeiled
namespace Go.Proofs.YtgelkpaiabhklaaDoor.DutyImpl
open Go.RowKit PointMath DutyMath
open PointOk (ret_bool ret_i64 below1 below2 below3)

theorem isUpTo (n L : Int) (w : World) : Calls Tryd.prog 19 #[.int .i64 n, .int .i64 L] w fun e w' => e = .returned (.bool (decide (0 ≤ n ∧ n ≤ L))) ∧ w = w' := by
  obtain ⟨r, hr⟩ : ∃ r, decide (0 ≤ n ∧ n ≤ L) = r := ⟨_, rfl⟩
  rw [hr]
  replace hr := Lib.hid hr
  by_cases h1 : 0 ≤ n
  · by_cases h2 : n ≤ L
    · go_enter Tryd.func19, Tryd.ntmps19
      go_wp2_with fail
      go_ret
      exact ⟨ret_bool (by rw [← hr.out]; exact (decide_eq_true (by omega)).symm), rfl⟩
    · go_enter Tryd.func19, Tryd.ntmps19
      go_wp2_with fail
      go_ret
      exact ⟨ret_bool (by rw [← hr.out]; exact (decide_eq_false (by omega)).symm), rfl⟩
  · go_enter Tryd.func19, Tryd.ntmps19
    go_wp2_with fail
    go_ret
    exact ⟨ret_bool (by rw [← hr.out]; exact (decide_eq_false (by omega)).symm), rfl⟩

end Go.Proofs.YtgelkpaiabhklaaDoor.DutyImpl

