/-
  Plain facts on the greatest common divisor. No program stands here.
-/
import Derived.Test.YtonbpmabmjhdgabWallMath
namespace Go.Proofs.Ytonbpmabmjhdgab.GcdMath
open PointMath WallMath

def gcdI (a b : Int) : Int := (Int.gcd a b : Nat)
/-- Into how many parts the whole points divide a wall. -/
def stepsI (ax ay bx bY : Int) : Int := if okW ax ay bx bY then gcdI (bx - ax) (bY - ay) else 0

theorem gcd_tmod (a b : Int) : Int.gcd b (a.tmod b) = Int.gcd a b := by
  unfold Int.gcd
  rw [Int.natAbs_tmod, Nat.gcd_comm b.natAbs, ← Nat.gcd_rec, Nat.gcd_comm]
theorem tmod_lt (a b : Int) (h : b ≠ 0) : (a.tmod b).natAbs < b.natAbs := by
  rw [Int.natAbs_tmod]; exact Nat.mod_lt _ (by omega)
theorem gcd_nat_step (x y : Nat) : Nat.gcd y (x % y) = Nat.gcd x y := by
  rw [Nat.gcd_comm y, ← Nat.gcd_rec, Nat.gcd_comm]
end Go.Proofs.Ytonbpmabmjhdgab.GcdMath
