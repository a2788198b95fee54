/-
  What the landed Sees, SeenBy and CornersSeen do, as contracts: what each answers; no old cell is written.
-/
import Derived.Test.YtonbpmabmjhdgabFromImpl
namespace Go.Proofs.Ytonbpmabmjhdgab.ViewImpl
open Go.RowKit Own PointMath WallMath RoomMath Pts Blk AreaMath PlaceMath FloorMath LineMath CutsMath SightMath FromImpl
open PointOk (ret_bool ret_i64 below1 below2 below3)
open FloorImpl (infoP cellsP_app)
open SeenImpl (infoI)

end Go.Proofs.Ytonbpmabmjhdgab.ViewImpl


