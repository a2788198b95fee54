/-
  A room that is turned: plain facts. No program stands here.
-/
import Derived.Test.YthokeedmccfalaaFacts
namespace Go.Proofs.Ythokeedmccfalaa.TurnrMath
open PointMath WallMath RoomMath

/-- The first i of the moved points. -/
def mvTo (g : Nat → Int × Int) : Nat → List (Int × Int)
  | 0 => []
  | i + 1 => mvTo g i ++ [g i]
theorem mvTo_len (g : Nat → Int × Int) : ∀ i, (mvTo g i).length = i
  | 0 => rfl
  | i + 1 => by simp [mvTo, mvTo_len g i]
/-- Corner i, turned by a quarter. -/
def gTurn (ps : List (Int × Int)) (i : Nat) : Int × Int := (-(pt ps i).2, (pt ps i).1)
def turnL (ps : List (Int × Int)) : List (Int × Int) := if roomB ps = true then mvTo (gTurn ps) ps.length else []
theorem turnL_yes {ps : List (Int × Int)} (h : roomB ps = true) : turnL ps = mvTo (gTurn ps) ps.length := by unfold turnL; rw [if_pos h]
theorem turnL_no {ps : List (Int × Int)} (h : roomB ps = false) : turnL ps = [] := by unfold turnL; rw [h]; rfl
theorem turnL_len (ps : List (Int × Int)) : (turnL ps).length ≤ ps.length := by
  unfold turnL
  split
  · rw [mvTo_len]; omega
  · simp
end Go.Proofs.Ythokeedmccfalaa.TurnrMath
