/-
  What MoveRoom does, as a contract: the room in new memory; no old cell is written.
-/
import Derived.Test.YthokeedmccfalaaRoomOkImpl
import Derived.Test.YthokeedmccfalaaMovMath
import Derived.Test.YthokeedmccfalaaFacts
import Derived.Test.YthokeedmccfalaaRoomRes
namespace Go.Proofs.Ythokeedmccfalaa.MovImpl
open Go.RowKit Own PointMath WallMath RoomMath Pts Blk AreaMath TurnrMath MovMath RoomRes
open PointOk (ret_bool ret_i64 below1 below2 below3)

theorem infoP : (Try.prog.info? 49).map (fun i => (i.zero, i.size, i.bytes)) = some (some (.agg #[.int .i64 0, .int .i64 0]), 2, 16) := by kernel_rfl

end Go.Proofs.Ythokeedmccfalaa.MovImpl

