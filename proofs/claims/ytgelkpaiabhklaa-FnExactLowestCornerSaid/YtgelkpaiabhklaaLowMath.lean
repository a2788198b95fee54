/-
  The lowest corner is found by its place: plain facts. No program stands here.
-/
import Derived.Test.YtgelkpaiabhklaaFacts
namespace Go.Proofs.Ytgelkpaiabhklaa.LowMath
open PointMath WallMath RoomMath AreaMath

theorem low_step {a b c : Int × Int} (h : lowB a b = true) (k : lowB c b = false) : lowB a c = true := by
  simp only [lowB, Bool.or_eq_true, Bool.and_eq_true, decide_eq_true_eq, Bool.or_eq_false_iff, Bool.and_eq_false_iff, decide_eq_false_iff_not] at *
  omega
theorem low_no {a b c : Int × Int} (h : lowB a b = true) (k : lowB c b = false) : lowB c a = false := by
  simp only [lowB, Bool.or_eq_true, Bool.and_eq_true, decide_eq_true_eq, Bool.or_eq_false_iff, Bool.and_eq_false_iff, decide_eq_false_iff_not] at *
  omega
theorem low_self (a : Int × Int) : lowB a a = false := by
  simp [lowB]
theorem lowTo_low (ps : List (Int × Int)) : ∀ k, (∀ j, j < k → lowB (pt ps j) (pt ps (lowTo ps k)) = false) ∧ (∀ j, j < lowTo ps k → lowB (pt ps (lowTo ps k)) (pt ps j) = true)
  | 0 => ⟨fun j h => by omega, fun j h => by simp [lowTo] at h⟩
  | k + 1 => by
    obtain ⟨h1, h2⟩ := lowTo_low ps k
    have hlt := lowTo_lt ps k
    simp only [lowTo]
    generalize lowTo ps k = m at *
    cases c : lowB (pt ps k) (pt ps m)
    · simp only [Bool.false_eq_true, if_false]
      refine ⟨fun j hj => ?_, h2⟩
      by_cases e : j = k
      · subst e; exact c
      · exact h1 j (by omega)
    · simp only [if_true]
      refine ⟨fun j hj => ?_, fun j hj => low_step c (h1 j hj)⟩
      by_cases e : j = k
      · subst e; exact low_self _
      · exact low_no c (h1 j (by omega))
theorem find_low {ps : List (Int × Int)} {n : Nat} (hl : ps.length = n) (hn : 1 ≤ n) {x y : Int} (h : pt ps (lowTo ps n) = (x, y)) : findI ps x y = (lowTo ps n : Int) := by
  have hlt := lowTo_lt ps n
  refine findI_at (by rw [pt_at (by omega), h]) (fun j hj e => ?_)
  have := (lowTo_low ps n).2 j hj
  rw [h] at this
  rw [pt_at (by omega)] at e
  injection e with e
  rw [e, low_self] at this
  cases this
end Go.Proofs.Ytgelkpaiabhklaa.LowMath
