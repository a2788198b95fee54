/-
  The corners that hide from each other, taken in order. No program stands here.
-/
import Derived.Test.YtgampbjdoncdoaaFacts
namespace Go.Proofs.Ytgampbjdoncdoaa.HidcMath
open PointMath RoomMath SightMath KernMath DiagMath

/-- Whether corner k is seen from none of the first u of a list of corners. -/
def hfreeTo (ps : List (Int × Int)) (l : List Int) (k : Nat) : Nat → Bool
  | 0 => true
  | u + 1 => hfreeTo ps l k u && !seesM ps (pt ps (l.getD u 0).toNat) (pt ps k)
def hcTo (ps : List (Int × Int)) : Nat → List Int
  | 0 => []
  | k + 1 => if hfreeTo ps (hcTo ps k) k (hcTo ps k).length then hcTo ps k ++ [(k : Int)] else hcTo ps k
def hcL (ps : List (Int × Int)) : List Int := if roomB ps then hcTo ps ps.length else []
theorem hcTo_len (ps : List (Int × Int)) : ∀ k, (hcTo ps k).length ≤ k
  | 0 => Nat.le_refl _
  | k + 1 => by
    have h := hcTo_len ps k
    unfold hcTo
    split <;> simp <;> omega
theorem hcTo_at {ps : List (Int × Int)} : ∀ {k : Nat} {x : Int}, x ∈ hcTo ps k → ∃ j : Nat, x = (j : Int) ∧ j < k
  | 0, x, h => by simp [hcTo] at h
  | k + 1, x, h => by
    unfold hcTo at h
    split at h
    · rw [List.mem_append, List.mem_singleton] at h
      rcases h with h | h
      · obtain ⟨j, e, hj⟩ := hcTo_at h
        exact ⟨j, e, by omega⟩
      · exact ⟨k, h, by omega⟩
    · obtain ⟨j, e, hj⟩ := hcTo_at h
      exact ⟨j, e, by omega⟩
theorem hcL_le (ps : List (Int × Int)) (h : ps.length ≤ 1048576) : (hcL ps).length ≤ 1048576 := by
  unfold hcL
  split
  · have := hcTo_len ps ps.length; omega
  · simp
end Go.Proofs.Ytgampbjdoncdoaa.HidcMath
