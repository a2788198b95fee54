/-
  Plain facts on turns and distances. No program stands here.
-/
import Derived.Test.YtonbpmabmjhdgabPointMath
namespace Go.Proofs.Ytonbpmabmjhdgab.PointFacts
open PointMath

theorem turn_round (ax ay bx bY cx cy : Int) : turnI bx bY cx cy ax ay = turnI ax ay bx bY cx cy := by unfold turnI; grind
theorem turn_back (ax ay bx bY cx cy : Int) : turnI ax ay cx cy bx bY = -turnI ax ay bx bY cx cy := by unfold turnI; grind
theorem turn_swap (ax ay bx bY cx cy : Int) : turnI bx bY ax ay cx cy = -turnI ax ay bx bY cx cy := by unfold turnI; grind
theorem lagrange (ax ay bx bY cx cy t ab ac dot : Int) (ht : t = turnI ax ay bx bY cx cy) (hab : ab = squareI ax ay bx bY) (hac : ac = squareI ax ay cx cy)
    (hd : dot = ab + ac - squareI bx bY cx cy) : 4 * t * t + dot * dot = 4 * ab * ac := by
  subst ht hd hab hac; unfold turnI squareI; grind
theorem sq_nonneg (x : Int) : 0 ≤ x * x := by
  rcases Int.le_total 0 x with h | h
  · exact Int.mul_nonneg h h
  · have := Int.mul_nonneg (show 0 ≤ -x by omega) (show 0 ≤ -x by omega)
    rwa [Int.neg_mul_neg] at this
theorem square_nonneg (ax ay bx bY : Int) : 0 ≤ squareI ax ay bx bY := by
  unfold squareI
  have h1 := sq_nonneg (bx - ax)
  have h2 := sq_nonneg (bY - ay)
  omega
theorem mid_swap (x a b : Int) : midB x a b = midB x b a := by unfold midB; rw [Int.min_comm, Int.max_comm]
theorem between_self {ax ay bx bY : Int} (ha : okP ax ay = true) (hb : okP bx bY = true) : betweenB ax ay ax ay bx bY = true := by
  have h : turnI ax ay bx bY ax ay = 0 := by unfold turnI; grind
  simp [betweenB, ha, hb, h, midB]
  omega
theorem between_swap (px py ax ay bx bY : Int) : betweenB px py ax ay bx bY = betweenB px py bx bY ax ay := by
  unfold betweenB
  rw [mid_swap px ax bx, mid_swap py ay bY, turn_swap bx bY ax ay px py]
  have : decide (-turnI bx bY ax ay px py = 0) = decide (turnI bx bY ax ay px py = 0) := by simp
  rw [this]
  cases okP px py <;> cases okP ax ay <;> cases okP bx bY <;> simp
theorem between_turn {px py ax ay bx bY : Int} (h : betweenB px py ax ay bx bY = true) : turnI ax ay bx bY px py = 0 := by
  simp [betweenB] at h
  exact h.1.1.2
theorem nearer_is {px py ax ay bx bY : Int} (hp : okP px py = true) (ha : okP ax ay = true) (hb : okP bx bY = true) :
    nearerB px py ax ay bx bY = decide (squareI px py ax ay < squareI px py bx bY) := by simp [nearerB, hp, ha, hb]
end Go.Proofs.Ytonbpmabmjhdgab.PointFacts
