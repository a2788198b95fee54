/-
  What the model's WallOf does, as a contract: what it answers; new memory alone is written.
-/
import Derived.Test.YthokeedmccfalaaRoomOkSpec
namespace Go.Proofs.Ythokeedmccfalaa.WallOfSpec
open Go.RowKit PointMath WallMath RoomMath Pts Blk
open PointOk (ret_bool ret_i64 below1 below2 below3)

end Go.Proofs.Ythokeedmccfalaa.WallOfSpec

