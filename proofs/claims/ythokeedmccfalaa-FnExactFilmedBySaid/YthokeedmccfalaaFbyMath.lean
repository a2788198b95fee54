/-
  The points of the floor that a camera films. No program stands here.
-/
import Derived.Test.YthokeedmccfalaaFilmMath
import Derived.Test.YthokeedmccfalaaFacts
namespace Go.Proofs.Ythokeedmccfalaa.FbyMath
open PointMath WallMath RoomMath AreaMath PlaceMath FloorMath LineMath CutsMath SightMath TrackMath FiltMath
def shotB (ps : List (Int × Int)) (ax ay rx ry lx ly q : Int) (l : List (Int × Int)) (j : Nat) : Bool := fieldB ax ay rx ry lx ly q (pt l j).1 (pt l j).2 && seesM ps (ax, ay) (pt l j)
def filmL (ps : List (Int × Int)) (ax ay rx ry lx ly q : Int) : List (Int × Int) :=
  if camB ax ay rx ry lx ly q && inB ps ax ay then filtTo (shotB ps ax ay rx ry lx ly q (floorL ps)) (floorL ps) (floorL ps).length else []
theorem film_no1 {ps : List (Int × Int)} {ax ay rx ry lx ly q : Int} (h : camB ax ay rx ry lx ly q = false) : filmL ps ax ay rx ry lx ly q = [] := by unfold filmL; rw [h]; rfl
theorem film_no2 {ps : List (Int × Int)} {ax ay rx ry lx ly q : Int} (h : inB ps ax ay = false) : filmL ps ax ay rx ry lx ly q = [] := by unfold filmL; rw [h, Bool.and_false]; rfl
theorem film_yes {ps : List (Int × Int)} {ax ay rx ry lx ly q : Int} (h1 : camB ax ay rx ry lx ly q = true) (h2 : inB ps ax ay = true) : filmL ps ax ay rx ry lx ly q = filtTo (shotB ps ax ay rx ry lx ly q (floorL ps)) (floorL ps) (floorL ps).length := by unfold filmL; rw [h1, h2]; rfl
theorem film_le (ps : List (Int × Int)) (ax ay rx ry lx ly q : Int) : (filmL ps ax ay rx ry lx ly q).length ≤ 1048576 := by
  unfold filmL
  split
  · exact Nat.le_trans (filtTo_len _ _ _) (floorL_le ps)
  · simp
theorem filt_none (l : List (Int × Int)) : ∀ n, filtTo (fun _ => false) l n = []
  | 0 => rfl
  | n + 1 => by unfold filtTo; rw [filt_none l n]; rfl
end Go.Proofs.Ythokeedmccfalaa.FbyMath
