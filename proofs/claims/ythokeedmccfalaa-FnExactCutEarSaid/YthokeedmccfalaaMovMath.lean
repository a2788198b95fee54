/-
  A room that is moved: plain facts. No program stands here.
-/
import Derived.Test.YthokeedmccfalaaTurnrMath
namespace Go.Proofs.Ythokeedmccfalaa.MovMath
open PointMath WallMath RoomMath TurnrMath

/-- Corner i of the moved room. -/
def gPlus (dx dy : Int) (ps : List (Int × Int)) (i : Nat) : Int × Int := (dx + (pt ps i).1, dy + (pt ps i).2)
def movL (dx dy : Int) (ps : List (Int × Int)) : List (Int × Int) := mvTo (gPlus dx dy ps) ps.length
def isMv (n : Int) : Bool := decide (-80 ≤ n ∧ n ≤ 80)
/-- Whether the room may be moved so. -/
def movOk (dx dy : Int) (ps : List (Int × Int)) : Bool := roomB ps && isMv dx && isMv dy && roomB (movL dx dy ps)
/-- The first i corners are moved. -/
def mixTo (dx dy : Int) (ps : List (Int × Int)) (i : Nat) : List (Int × Int) := mvTo (gPlus dx dy ps) i ++ ps.drop i
theorem mixTo_len (dx dy : Int) (ps : List (Int × Int)) {i : Nat} (h : i ≤ ps.length) : (mixTo dx dy ps i).length = ps.length := by
  unfold mixTo
  rw [List.length_append, mvTo_len, List.length_drop]; omega
theorem mixTo_zero (dx dy : Int) (ps : List (Int × Int)) : mixTo dx dy ps 0 = ps := rfl
theorem mixTo_all (dx dy : Int) (ps : List (Int × Int)) {n : Nat} (h : ps.length = n) : mixTo dx dy ps n = mvTo (gPlus dx dy ps) n := by
  unfold mixTo
  rw [List.drop_eq_nil_of_le (by omega), List.append_nil]
theorem mixTo_step (dx dy : Int) (ps : List (Int × Int)) {i : Nat} (h : i < ps.length) : (mixTo dx dy ps i).set i (gPlus dx dy ps i) = mixTo dx dy ps (i + 1) := by
  unfold mixTo
  rw [List.set_append_right _ _ (by rw [mvTo_len]; exact Nat.le_refl _), mvTo_len, Nat.sub_self, List.drop_eq_getElem_cons h]
  show mvTo (gPlus dx dy ps) i ++ gPlus dx dy ps i :: ps.drop (i + 1) = (mvTo (gPlus dx dy ps) i ++ [gPlus dx dy ps i]) ++ ps.drop (i + 1)
  simp
end Go.Proofs.Ythokeedmccfalaa.MovMath
