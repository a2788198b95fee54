/-
  Acts that are valid. No program stands here.
-/
import Derived.Test.YtgelkpaiabhklaaFacts
namespace Go.Proofs.Ytgelkpaiabhklaa.ActMath
/-- An act: its kind and its four numbers. -/
def actB (k a b c d : Int) : Bool :=
  if k = 1 then decide (0 ≤ a ∧ a ≤ 5) && decide (0 ≤ b ∧ b ≤ 6) && decide (c = 0) && decide (d = 0)
  else if k = 2 then decide (0 ≤ a ∧ a ≤ 5) && decide (0 ≤ b ∧ b ≤ 6) && decide (0 ≤ c ∧ c ≤ 5) && decide (0 ≤ d ∧ d ≤ 5)
  else if k = 3 then decide (1 ≤ a ∧ a ≤ 1000) && decide (b = 0) && decide (c = 0) && decide (d = 0)
  else if k = 4 then decide (a = 0) && decide (b = 0) && decide (c = 0) && decide (d = 0)
  else if k = 5 then decide (0 ≤ a ∧ a ≤ 5) && decide (b = 0) && decide (c = 0) && decide (d = 0)
  else false
theorem act1 (a b c d : Int) : actB 1 a b c d = (decide (0 ≤ a ∧ a ≤ 5) && decide (0 ≤ b ∧ b ≤ 6) && decide (c = 0) && decide (d = 0)) := rfl
theorem act2 (a b c d : Int) : actB 2 a b c d = (decide (0 ≤ a ∧ a ≤ 5) && decide (0 ≤ b ∧ b ≤ 6) && decide (0 ≤ c ∧ c ≤ 5) && decide (0 ≤ d ∧ d ≤ 5)) := rfl
theorem act3 (a b c d : Int) : actB 3 a b c d = (decide (1 ≤ a ∧ a ≤ 1000) && decide (b = 0) && decide (c = 0) && decide (d = 0)) := rfl
theorem act4 (a b c d : Int) : actB 4 a b c d = (decide (a = 0) && decide (b = 0) && decide (c = 0) && decide (d = 0)) := rfl
theorem act5 (a b c d : Int) : actB 5 a b c d = (decide (0 ≤ a ∧ a ≤ 5) && decide (b = 0) && decide (c = 0) && decide (d = 0)) := rfl
theorem act0 {k a b c d : Int} (h1 : k ≠ 1) (h2 : k ≠ 2) (h3 : k ≠ 3) (h4 : k ≠ 4) (h5 : k ≠ 5) : actB k a b c d = false := by
  unfold actB
  rw [if_neg h1, if_neg h2, if_neg h3, if_neg h4, if_neg h5]
end Go.Proofs.Ytgelkpaiabhklaa.ActMath
