/-
  The law's own copy of a point, as a contract.
-/
import Derived.Test.YtonbpmabmjhdgacPointOk
import Derived.Test.YtonbpmabmjhdgacSettle
namespace Go.Proofs.Ytonbpmabmjhdgac.LawPoint
open Go.RowKit PointOk

theorem toPoint (x y : Int) (w : World) : Calls Try.prog 27 #[.agg #[.int .i64 x, .int .i64 y]] w fun e w' => e = .returned (.agg #[.int .i64 x, .int .i64 y]) ∧ Below w.heap.size w w' := by
  go_enter Try.func27, Try.ntmps27
  go_wp2_with fail
  refine bodyPost_ret (v := .agg #[.int .i64 x, .int .i64 y]) (by simp [results, Try.results27, go_sem]) rfl ⟨rfl, ?_⟩
  exact below3 _ _ _ _
end Go.Proofs.Ytonbpmabmjhdgac.LawPoint

