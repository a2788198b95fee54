/-
  The law's own copy of a point, as a contract.
-/
import Derived.Test.YtkohfbffmljmcabDoorPointOk
import Derived.Test.YtkohfbffmljmcabDoorSettle
namespace Go.Proofs.YtkohfbffmljmcabDoor.LawPoint
open Go.RowKit PointOk

theorem toPoint (x y : Int) (w : World) : Calls Tryd.prog 23 #[.agg #[.int .i64 x, .int .i64 y]] w fun e w' => e = .returned (.agg #[.int .i64 x, .int .i64 y]) ∧ Below w.heap.size w w' := by
  go_enter Tryd.func23, Tryd.ntmps23
  go_wp2_with fail
  refine bodyPost_ret (v := .agg #[.int .i64 x, .int .i64 y]) (by simp [results, Tryd.results23, go_sem]) rfl ⟨rfl, ?_⟩
  exact below3 _ _ _ _
end Go.Proofs.YtkohfbffmljmcabDoor.LawPoint

