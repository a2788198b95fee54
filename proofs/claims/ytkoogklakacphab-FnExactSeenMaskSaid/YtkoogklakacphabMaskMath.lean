/-
  Which points of the floor a corner sees, as a list of bools: plain facts. No program stands here.
-/
import Derived.Test.YtkoogklakacphabPtofMath
namespace Go.Proofs.Ytkoogklakacphab.MaskMath
open Go PointMath RoomMath CutsMath SightMath FloorMath PlaceMath KernMath PtofMath

def maskTo (ps l : List (Int × Int)) (a : Int × Int) : Nat → List Bool
  | 0 => []
  | k + 1 => maskTo ps l a k ++ [seesM ps a (pt l k)]
theorem maskTo_len (ps l : List (Int × Int)) (a : Int × Int) : ∀ k, (maskTo ps l a k).length = k
  | 0 => rfl
  | k + 1 => by show (maskTo ps l a k ++ _).length = _; rw [List.length_append, maskTo_len ps l a k]; rfl
/-- The answer of SeenMask. -/
def maskL (ps : List (Int × Int)) (k : Int) : List Bool := if roomB ps && inN ps.length k then maskTo ps (floorL ps) (pt ps k.toNat) (floorL ps).length else []
theorem maskL_le (ps : List (Int × Int)) (k : Int) : (maskL ps k).length ≤ 1048576 := by
  unfold maskL
  split
  · rw [maskTo_len]; exact floorL_le ps
  · exact Nat.zero_le _
end Go.Proofs.Ytkoogklakacphab.MaskMath
