/-
  Plain facts: in which triangle a point is. No program stands here.
-/
import Derived.Test.YtkcodmafakjkfaaGreatTrisPlain
import Derived.Test.YtkcodmafakjkfaaGreatFirstMath
namespace Go.Proofs.YtkcodmafakjkfaaGreat.TriOfMath
open PointMath WallMath RoomMath AreaMath DiagMath TriMath TrisMath Tup3 FirstMath

def inF (ps : List (Int × Int)) (x y : Int) (k : Nat) : Bool := inTriB ps (tt (trisL ps) k).1 (tt (trisL ps) k).2.1 (tt (trisL ps) k).2.2 x y
def triOfI (ps : List (Int × Int)) (x y : Int) : Int := FirstMath.firstI (trisL ps).length (inF ps x y)
end Go.Proofs.YtkcodmafakjkfaaGreat.TriOfMath
