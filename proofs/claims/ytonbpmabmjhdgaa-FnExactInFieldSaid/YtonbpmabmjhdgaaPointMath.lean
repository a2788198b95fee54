/-
  Plain facts on points with whole coordinates. No program stands here.
-/
import Derived.WalkKit
namespace Go.Proofs.Ytonbpmabmjhdgaa.PointMath
open Go.RowKit

/-- Are both coordinates in the range? -/
def okP (x y : Int) : Bool := decide (-40 ≤ x ∧ x ≤ 40 ∧ -40 ≤ y ∧ y ≤ 40)
def turnI (ax ay bx bY cx cy : Int) : Int := (bx - ax) * (cy - ay) - (bY - ay) * (cx - ax)
def squareI (ax ay bx bY : Int) : Int := (bx - ax) * (bx - ax) + (bY - ay) * (bY - ay)

theorem okP_yes {x y : Int} (h : okP x y = true) : -40 ≤ x ∧ x ≤ 40 ∧ -40 ≤ y ∧ y ≤ 40 := by simpa [okP] using h
theorem okP_true {x y : Int} (h1 : -40 ≤ x) (h2 : x ≤ 40) (h3 : -40 ≤ y) (h4 : y ≤ 40) : okP x y = true := by simp [okP, h1, h2, h3, h4]
theorem okP_false {x y : Int} (h : x < -40 ∨ 40 < x ∨ y < -40 ∨ 40 < y) : okP x y = false := by
  simp only [okP, decide_eq_false_iff_not]; omega
/-- A product of two numbers up to n. -/
theorem mul_bound {a b n : Int} (ha : -n ≤ a) (ha2 : a ≤ n) (hb : -n ≤ b) (hb2 : b ≤ n) : -(n * n) ≤ a * b ∧ a * b ≤ n * n := by
  have hn : 0 ≤ n := by omega
  have h1 : (n - a) * (n + b) ≥ 0 := Int.mul_nonneg (by omega) (by omega)
  have h2 : (n + a) * (n - b) ≥ 0 := Int.mul_nonneg (by omega) (by omega)
  have h3 : (n - a) * (n - b) ≥ 0 := Int.mul_nonneg (by omega) (by omega)
  have h4 : (n + a) * (n + b) ≥ 0 := Int.mul_nonneg (by omega) (by omega)
  simp only [Int.sub_mul, Int.mul_sub, Int.add_mul, Int.mul_add] at h1 h2 h3 h4
  have e1 : n * b = b * n := Int.mul_comm _ _
  have e2 : n * a = a * n := Int.mul_comm _ _
  constructor <;> omega
/-- Small enough for the turn of two steps. -/
def smP (x y : Int) : Prop := -1000000 ≤ x ∧ x ≤ 1000000 ∧ -1000000 ≤ y ∧ y ≤ 1000000
theorem okP_sm {x y : Int} (h : okP x y = true) : smP x y := by
  have := okP_yes h
  unfold smP; omega
theorem turn_small {ax ay bx bY cx cy : Int} (ha : smP ax ay) (hb : smP bx bY) (hc : smP cx cy) :
    -4000000000000 ≤ (bx - ax) * (cy - ay) ∧ (bx - ax) * (cy - ay) ≤ 4000000000000 ∧ -4000000000000 ≤ (bY - ay) * (cx - ax) ∧ (bY - ay) * (cx - ax) ≤ 4000000000000 := by
  unfold smP at ha hb hc
  have h1 := mul_bound (a := bx - ax) (b := cy - ay) (n := 2000000) (by omega) (by omega) (by omega) (by omega)
  have h2 := mul_bound (a := bY - ay) (b := cx - ax) (n := 2000000) (by omega) (by omega) (by omega) (by omega)
  omega
theorem turn_parts {ax ay bx bY cx cy : Int} (ha : okP ax ay = true) (hb : okP bx bY = true) (hc : okP cx cy = true) :
    -6400 ≤ (bx - ax) * (cy - ay) ∧ (bx - ax) * (cy - ay) ≤ 6400 ∧ -6400 ≤ (bY - ay) * (cx - ax) ∧ (bY - ay) * (cx - ax) ≤ 6400 := by
  have := okP_yes ha
  have := okP_yes hb
  have := okP_yes hc
  have h1 := mul_bound (a := bx - ax) (b := cy - ay) (n := 80) (by omega) (by omega) (by omega) (by omega)
  have h2 := mul_bound (a := bY - ay) (b := cx - ax) (n := 80) (by omega) (by omega) (by omega) (by omega)
  omega
theorem square_parts {ax ay bx bY : Int} (ha : okP ax ay = true) (hb : okP bx bY = true) :
    -6400 ≤ (bx - ax) * (bx - ax) ∧ (bx - ax) * (bx - ax) ≤ 6400 ∧ -6400 ≤ (bY - ay) * (bY - ay) ∧ (bY - ay) * (bY - ay) ≤ 6400 := by
  have := okP_yes ha
  have := okP_yes hb
  have h1 := mul_bound (a := bx - ax) (b := bx - ax) (n := 80) (by omega) (by omega) (by omega) (by omega)
  have h2 := mul_bound (a := bY - ay) (b := bY - ay) (n := 80) (by omega) (by omega) (by omega) (by omega)
  omega

/-- What the functions of the chapter answer. -/
def turnOf (ax ay bx bY cx cy : Int) : Int := if okP ax ay && okP bx bY && okP cx cy then turnI ax ay bx bY cx cy else 0
def squareOf (ax ay bx bY : Int) : Int := if okP ax ay && okP bx bY then squareI ax ay bx bY else -1
/-- Is x from the lesser to the greater of a and b? -/
def midB (x a b : Int) : Bool := decide (min a b ≤ x ∧ x ≤ max a b)
/-- Is p on the way from a to b? The points may be any. -/
def btwB (px py ax ay bx bY : Int) : Bool := decide (turnI ax ay bx bY px py = 0) && midB px ax bx && midB py ay bY
def betweenB (px py ax ay bx bY : Int) : Bool := okP px py && okP ax ay && okP bx bY && decide (turnI ax ay bx bY px py = 0) && midB px ax bx && midB py ay bY
def nearerB (px py ax ay bx bY : Int) : Bool := okP px py && okP ax ay && okP bx bY && decide (squareI px py ax ay < squareI px py bx bY)
theorem betweenB_btw {px py ax ay bx bY : Int} (hp : okP px py = true) (ha : okP ax ay = true) (hb : okP bx bY = true) : betweenB px py ax ay bx bY = btwB px py ax ay bx bY := by simp [betweenB, btwB, hp, ha, hb]
end Go.Proofs.Ytonbpmabmjhdgaa.PointMath
