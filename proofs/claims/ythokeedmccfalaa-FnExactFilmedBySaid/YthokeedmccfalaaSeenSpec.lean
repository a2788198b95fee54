/-
  What the model's Sees, SeenBy and CornersSeen do, as contracts: what each answers; no old cell is written.
-/
import Derived.Test.YthokeedmccfalaaSightSpec
import Derived.Test.YthokeedmccfalaaFloorSpec
namespace Go.Proofs.Ythokeedmccfalaa.SeenSpec
open Go.RowKit Own PointMath WallMath RoomMath Pts Blk AreaMath PlaceMath FloorMath LineMath CutsMath SightMath
open PointOk (ret_bool ret_i64 below1 below2 below3)
open SightSpec (infoP cellsP_app pts_own)

theorem infoI : (Try.prog.info? 3).map (fun i => (i.zero, i.size, i.bytes)) = some (some (.int .i64 0), 1, 8) := by kernel_rfl

/-- The contract of l08Sees for points of a room. -/
theorem seesIn (A : Option Addr) (n cap : Nat) (ax ay bx bY : Int) (w : World) (ps : List (Int × Int)) (hl : ps.length = n) (ha : inB ps ax ay = true) (hb : inB ps bx bY = true) (hp : PtsAt w w.heap.size A ps) :
    Calls Try.prog 80 #[.slice A n cap, .agg #[.int .i64 ax, .int .i64 ay], .agg #[.int .i64 bx, .int .i64 bY]] w fun e w' => e = .returned (.bool (seesM ps (ax, ay) (bx, bY))) ∧ Below w.heap.size w w' :=
  SightSpec.sees8 A n cap ax ay bx bY w ps hl (by have := (roomB_yes (inB_parts ha).1).1; omega) (roomB_yes (inB_parts ha).1).2.1 (inB_parts ha).2 (inB_parts hb).2 hp

end Go.Proofs.Ythokeedmccfalaa.SeenSpec

