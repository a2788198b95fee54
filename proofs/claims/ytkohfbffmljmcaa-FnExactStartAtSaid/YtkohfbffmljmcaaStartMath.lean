/-
  Plain facts on a room that begins at another corner. No program stands here.
-/
import Derived.Test.YtkohfbffmljmcaaRoomMath
namespace Go.Proofs.Ytkohfbffmljmcaa.StartMath
open PointMath WallMath RoomMath

def startL (ps : List (Int × Int)) (k : Int) : List (Int × Int) := if roomB ps = true ∧ 0 ≤ k ∧ k < (ps.length : Int) then ps.drop k.toNat ++ ps.take k.toNat else []
/-- The first i corners from corner k on, going round. -/
def startTo (ps : List (Int × Int)) (k : Nat) : Nat → List (Int × Int)
  | 0 => []
  | i + 1 => startTo ps k i ++ [pt ps ((k + i) % ps.length)]
theorem startTo_len (ps : List (Int × Int)) (k : Nat) : ∀ i, (startTo ps k i).length = i
  | 0 => rfl
  | i + 1 => by simp [startTo, startTo_len ps k i]
theorem startTo_at (ps : List (Int × Int)) (k : Nat) : ∀ i j, j < i → (startTo ps k i)[j]? = some (pt ps ((k + j) % ps.length))
  | 0, j, h => by omega
  | i + 1, j, h => by
    have hl := startTo_len ps k i
    simp only [startTo]
    rw [List.getElem?_append, hl]
    by_cases hj : j < i
    · rw [if_pos hj]; exact startTo_at ps k i j hj
    · obtain rfl : j = i := by omega
      rw [if_neg (by omega)]
      simp
theorem startTo_all {ps : List (Int × Int)} {k : Nat} (hk : k < ps.length) : startTo ps k ps.length = ps.drop k ++ ps.take k := by
  apply List.ext_getElem?
  intro j
  rcases Nat.lt_or_ge j ps.length with hj | hj
  · rw [startTo_at ps k _ j hj, List.getElem?_append, List.length_drop]
    by_cases h : j < ps.length - k
    · rw [if_pos h, List.getElem?_drop, Nat.mod_eq_of_lt (by omega), pt_at (by omega)]
    · rw [if_neg h, List.getElem?_take, if_pos (by omega), Nat.mod_eq_sub_mod (by omega), Nat.mod_eq_of_lt (by omega), ← pt_at (by omega)]
      congr 1
      omega
  · rw [List.getElem?_eq_none (by rw [startTo_len]; exact hj), List.getElem?_eq_none (by simp; omega)]
theorem startL_yes {ps : List (Int × Int)} {k : Nat} (h : roomB ps = true) (hk : k < ps.length) : startL ps (k : Int) = ps.drop k ++ ps.take k := by
  unfold startL
  rw [if_pos ⟨h, by omega, by omega⟩]
  rfl
theorem startL_no {ps : List (Int × Int)} {k : Int} (h : roomB ps = false ∨ ¬ (0 ≤ k ∧ k < (ps.length : Int))) : startL ps k = [] := by
  unfold startL
  rw [if_neg]
  rintro ⟨h1, h2⟩
  rcases h with h | h
  · rw [h] at h1; cases h1
  · exact h h2
theorem startL_len (ps : List (Int × Int)) (k : Int) : (startL ps k).length ≤ ps.length := by
  unfold startL
  split
  · simp; omega
  · simp
end Go.Proofs.Ytkohfbffmljmcaa.StartMath
