/-
  What a camera films in a room. No program stands here.
-/
import Derived.Test.YthokeedmccfalaaFacts
import Derived.Test.YthokeedmccfalaaTrackMath
namespace Go.Proofs.Ythokeedmccfalaa.FilmMath
open PointMath RoomMath SightMath TrackMath
def filmsB (ps : List (Int × Int)) (ax ay rx ry lx ly q x y : Int) : Bool := fieldB ax ay rx ry lx ly q x y && seesB ps ax ay x y
end Go.Proofs.Ythokeedmccfalaa.FilmMath
