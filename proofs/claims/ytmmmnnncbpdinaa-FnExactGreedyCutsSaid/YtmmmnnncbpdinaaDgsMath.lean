/-
  Plain facts: the diagonals of a room, in order. No program stands here.
-/
import Derived.Test.YtmmmnnncbpdinaaFacts
import Derived.Test.YtmmmnnncbpdinaaEdgeMath
namespace Go.Proofs.Ytmmmnnncbpdinaa.DgsMath
open PointMath WallMath RoomMath AreaMath DiagMath EdgeMath

def dgsL (ps : List (Int × Int)) : List (Int × Int) := if roomB ps then edgesTo (diagM ps) ps.length ps.length else []
theorem dgs_le (ps : List (Int × Int)) : (dgsL ps).length ≤ 20000 := by
  unfold dgsL
  split
  · rename_i h
    have h1 := (roomB_yes h).1.2
    have h2 := edgesTo_len (diagM ps) ps.length ps.length
    have h3 : ps.length * ps.length ≤ 100 := Nat.le_trans (Nat.mul_le_mul h1 h1) (by omega)
    omega
  · simp
end Go.Proofs.Ytmmmnnncbpdinaa.DgsMath
