/-
  Numbers that no frame has: plain facts. No program stands here.
-/
import Derived.Test.YtonbpmabmjhdgaaListMath
namespace Go.Proofs.Ytonbpmabmjhdgaa.MissMath
open PointMath TrackMath ListMath Tup3

def loTo (l : List Tu) : Nat → Int
  | 0 => (tt l 0).1
  | k + 1 => min (loTo l k) (tt l k).1
def hiTo (l : List Tu) : Nat → Int
  | 0 => (tt l 0).1
  | k + 1 => max (hiTo l k) (tt l k).1
/-- One of the first k frames has the number. -/
def hasTo (l : List Tu) (z : Int) : Nat → Bool
  | 0 => false
  | k + 1 => hasTo l z k || decide ((tt l k).1 = z)
theorem hasTo_of {l : List Tu} {z : Int} {k : Nat} (h : (tt l k).1 = z) : ∀ {m : Nat}, k < m → hasTo l z m = true
  | 0, hm => by omega
  | m + 1, hm => by
    unfold hasTo
    by_cases e : k = m
    · subst e
      rw [decide_eq_true h, Bool.or_true]
    · rw [hasTo_of h (m := m) (by omega)]; rfl
theorem hi_has (l : List Tu) : ∀ k, 0 < k → hasTo l (hiTo l k) k = true
  | 0, h => by omega
  | k + 1, _ => by
    have e : hiTo l (k + 1) = max (hiTo l k) (tt l k).1 := rfl
    rcases Int.lt_or_le (tt l k).1 (hiTo l k) with h | h
    · have e2 : hiTo l (k + 1) = hiTo l k := by omega
      rw [e2]
      by_cases h0 : k = 0
      · subst h0
        have : hiTo l 0 = (tt l 0).1 := rfl
        omega
      · have := hi_has l k (by omega)
        show (hasTo l (hiTo l k) k || _) = true
        rw [this]; rfl
    · have e2 : hiTo l (k + 1) = (tt l k).1 := by omega
      rw [e2]
      exact hasTo_of rfl (by omega)
theorem box_in {l : List Tu} {B : Int} (h : ∀ k, k < l.length → 0 ≤ (tt l k).1 ∧ (tt l k).1 ≤ B) (h0 : 0 < l.length) : ∀ k, k ≤ l.length → 0 ≤ loTo l k ∧ loTo l k ≤ hiTo l k ∧ hiTo l k ≤ B
  | 0, _ => by
    have := h 0 h0
    unfold loTo hiTo
    omega
  | k + 1, hk => by
    have ih := box_in h h0 k (by omega)
    have := h k (by omega)
    unfold loTo hiTo
    omega
/-- The numbers from lo on, of i of them those that no frame has. -/
def missTo (l : List Tu) (lo : Int) : Nat → List Int
  | 0 => []
  | i + 1 => if hasTo l (lo + (i : Int)) l.length then missTo l lo i else missTo l lo i ++ [lo + (i : Int)]
theorem missTo_len (l : List Tu) (lo : Int) : ∀ i, (missTo l lo i).length ≤ i
  | 0 => by simp [missTo]
  | i + 1 => by
    have := missTo_len l lo i
    unfold missTo
    split
    · omega
    · rw [List.length_append]; simp; omega
def spanI (l : List Tu) : Nat := (hiTo l l.length - loTo l l.length).toNat
def missL (l : List Tu) : List Int :=
  if framesB l && decide (l.length ≠ 0) && decide (hiTo l l.length - loTo l l.length ≤ 500) then missTo l (loTo l l.length) (spanI l) else []
theorem missL_le (l : List Tu) : (missL l).length ≤ 1048576 := by
  unfold missL
  split
  · rename_i h
    simp only [Bool.and_eq_true, decide_eq_true_eq] at h
    have := missTo_len l (loTo l l.length) (spanI l)
    unfold spanI at this ⊢
    omega
  · simp
theorem miss_last {l : List Tu} (h0 : l.length ≠ 0) (hb : loTo l l.length ≤ hiTo l l.length) : missTo l (loTo l l.length) (spanI l + 1) = missTo l (loTo l l.length) (spanI l) := by
  show (if hasTo l (loTo l l.length + (spanI l : Int)) l.length then _ else _) = _
  have e : loTo l l.length + (spanI l : Int) = hiTo l l.length := by unfold spanI; omega
  rw [e, hi_has l l.length (by omega), if_pos rfl]
end Go.Proofs.Ytonbpmabmjhdgaa.MissMath
