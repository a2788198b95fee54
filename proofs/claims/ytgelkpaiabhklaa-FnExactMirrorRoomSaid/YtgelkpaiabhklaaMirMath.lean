/-
  A room that is mirrored: plain facts. No program stands here.
-/
import Derived.Test.YtgelkpaiabhklaaTurnrMath
namespace Go.Proofs.Ytgelkpaiabhklaa.MirMath
open PointMath WallMath RoomMath TurnrMath

/-- Corner i of the mirrored room: the last corner comes first. -/
def gMir (ps : List (Int × Int)) (i : Nat) : Int × Int := (-(pt ps (ps.length - 1 - i)).1, (pt ps (ps.length - 1 - i)).2)
def mirL (ps : List (Int × Int)) : List (Int × Int) := if roomB ps = true then mvTo (gMir ps) ps.length else []
theorem mirL_yes {ps : List (Int × Int)} (h : roomB ps = true) : mirL ps = mvTo (gMir ps) ps.length := by unfold mirL; rw [if_pos h]
theorem mirL_no {ps : List (Int × Int)} (h : roomB ps = false) : mirL ps = [] := by unfold mirL; rw [h]; rfl
theorem mirL_len (ps : List (Int × Int)) : (mirL ps).length ≤ ps.length := by
  unfold mirL
  split
  · rw [mvTo_len]; omega
  · simp
/-- Corner i in a mirror. -/
def gFlip (ps : List (Int × Int)) (i : Nat) : Int × Int := (-(pt ps i).1, (pt ps i).2)
theorem mvTo_at (g : Nat → Int × Int) : ∀ {n j : Nat}, j < n → (mvTo g n)[j]? = some (g j)
  | 0, j, h => by omega
  | n + 1, j, h => by
    show (mvTo g n ++ [g n])[j]? = some (g j)
    by_cases e : j = n
    · subst e
      rw [List.getElem?_append_right (by rw [mvTo_len]; omega), mvTo_len, Nat.sub_self]; rfl
    · rw [List.getElem?_append_left (by rw [mvTo_len]; omega)]
      exact mvTo_at g (by omega)
theorem flip_mir (ps : List (Int × Int)) {n : Nat} (hl : ps.length = n) : (mvTo (gFlip ps) n).reverse = mvTo (gMir ps) n := by
  apply List.ext_getElem?
  intro j
  rcases Nat.lt_or_ge j n with h | h
  · rw [List.getElem?_reverse (by rw [mvTo_len]; exact h), mvTo_len, mvTo_at _ h, mvTo_at _ (by omega)]
    unfold gFlip gMir
    rw [hl]
  · rw [List.getElem?_eq_none (by rw [List.length_reverse, mvTo_len]; exact h), List.getElem?_eq_none (by rw [mvTo_len]; exact h)]
end Go.Proofs.Ytgelkpaiabhklaa.MirMath
