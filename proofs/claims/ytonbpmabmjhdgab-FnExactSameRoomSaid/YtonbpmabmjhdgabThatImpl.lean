/-
  What the landed cornersThat and filtered do with a test that is handed over, as contracts: the numbers of the corners that pass it; the elements that do.
-/
import Derived.Test.YtonbpmabmjhdgabGround
import Derived.Test.YtonbpmabmjhdgabFacts
namespace Go.Proofs.Ytonbpmabmjhdgab.ThatImpl
open Go.RowKit Own PointMath WallMath RoomMath Pts Blk DiagMath
open PointOk (ret_bool ret_i64 below1 below2 below3)

theorem infoI : (Try.prog.info? 3).map (fun i => (i.zero, i.size, i.bytes)) = some (some (.int .i64 0), 1, 8) := by kernel_rfl

end Go.Proofs.Ytonbpmabmjhdgab.ThatImpl

