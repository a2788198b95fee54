/-
  The first index of which a test holds, and whether there is one. No program stands here.
-/
import Derived.Test.YtcfoleiooohbhaaFacts
namespace Go.Proofs.Ytcfoleiooohbhaa.FirstMath
open PlaceMath
abbrev firstI := PlaceMath.firstI
theorem firstI_at {n : Nat} {f : Nat → Bool} {k : Nat} (hk : k < n) (h : f k = true) (h2 : ∀ j, j < k → f j = false) : firstI n f = (k : Int) := PlaceMath.firstI_at hk h h2
theorem firstI_none {n : Nat} {f : Nat → Bool} (h : ∀ k, k < n → f k = false) : firstI n f = -1 := PlaceMath.firstI_none h
theorem first_any (n : Nat) (f : Nat → Bool) : decide (0 ≤ firstI n f) = (List.range n).any f := by
  cases h : (List.range n).any f
  · rw [firstI_none (fun k hk => by
      have := List.any_eq_false.1 h k (List.mem_range.2 hk)
      simpa using this)]
    rfl
  · obtain ⟨k, hk, hf⟩ := List.any_eq_true.1 h
    show decide (0 ≤ PlaceMath.firstI n f) = true
    unfold PlaceMath.firstI
    cases hf2 : (List.range n).find? f with
    | some j => simp
    | none =>
      have := List.find?_eq_none.1 hf2 k hk
      rw [hf] at this
      exact absurd rfl this
end Go.Proofs.Ytcfoleiooohbhaa.FirstMath
