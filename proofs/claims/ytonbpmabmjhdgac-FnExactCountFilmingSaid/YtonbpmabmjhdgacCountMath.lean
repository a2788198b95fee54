/-
  How many cameras film a point. No program stands here.
-/
import Derived.Test.YtonbpmabmjhdgacFilmMath
import Derived.Test.YtonbpmabmjhdgacTup7
namespace Go.Proofs.Ytonbpmabmjhdgac.CountMath
open PointMath RoomMath SightMath TrackMath FilmMath Tup7
def filmsT (ps : List (Int × Int)) (c : Tu) (x y : Int) : Bool := filmsB ps c.1 c.2.1 c.2.2.1 c.2.2.2.1 c.2.2.2.2.1 c.2.2.2.2.2.1 c.2.2.2.2.2.2 x y
def filmF (ps : List (Int × Int)) (l : List Tu) (x y : Int) (k : Nat) : Bool := filmsT ps (tt l k) x y
def filmI (ps : List (Int × Int)) (l : List Tu) (x y : Int) : Int := ((filtT (filmF ps l x y) l l.length).length : Int)
theorem filt_next (f : Nat → Bool) (l : List Tu) (k : Nat) : ((filtT f l (k + 1)).length : Int) = if f k then ((filtT f l k).length : Int) + 1 else ((filtT f l k).length : Int) := by
  show (((if f k then filtT f l k ++ [tt l k] else filtT f l k)).length : Int) = _
  split
  · rw [List.length_append]; simp
  · rfl
end Go.Proofs.Ytonbpmabmjhdgac.CountMath
