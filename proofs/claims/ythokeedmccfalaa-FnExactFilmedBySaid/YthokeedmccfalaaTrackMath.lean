/-
  Cameras, frames and sightings: plain facts. No program stands here.
-/
import Derived.Test.YthokeedmccfalaaFacts
namespace Go.Proofs.Ythokeedmccfalaa.TrackMath
open PointMath

def speedB (s : Int) : Bool := decide (1 ≤ s ∧ s ≤ 20)
def sightB (t x y : Int) : Bool := decide (0 ≤ t ∧ t ≤ 1000) && okP x y
def sameB (t x y t2 x2 y2 s : Int) : Bool :=
  sightB t x y && sightB t2 x2 y2 && speedB s && decide (t < t2) && decide (squareI x y x2 y2 ≤ s * (t2 - t) * (s * (t2 - t)))
theorem sight_parts {t x y : Int} (h : sightB t x y = true) : (0 ≤ t ∧ t ≤ 1000) ∧ okP x y = true := by
  unfold sightB at h
  simp only [Bool.and_eq_true, decide_eq_true_eq] at h
  exact h
theorem reach_bound {s d : Int} (hs : 1 ≤ s ∧ s ≤ 20) (hd : 0 ≤ d ∧ d ≤ 1000) : 0 ≤ s * d ∧ s * d ≤ 20000 := by
  have h1 : 0 ≤ s * d := Int.mul_nonneg (by omega) hd.1
  have h2 : 0 ≤ (20 - s) * d := Int.mul_nonneg (by omega) hd.1
  rw [Int.sub_mul] at h2
  omega
theorem reach_square {r : Int} (h : 0 ≤ r ∧ r ≤ 20000) : 0 ≤ r * r ∧ r * r ≤ 400000000 := by
  have h1 : 0 ≤ r * r := Int.mul_nonneg h.1 h.1
  have h2 := mul_bound (a := r) (b := r) (n := 20000) (by omega) h.2 (by omega) h.2
  omega
def frameB (n m p : Int) : Bool := decide (0 ≤ n ∧ n ≤ 100000) && decide (0 ≤ m ∧ m ≤ 1000000) && decide (0 ≤ p ∧ p ≤ 999999)
theorem frame_parts {n m p : Int} (h : frameB n m p = true) : (0 ≤ n ∧ n ≤ 100000) ∧ (0 ≤ m ∧ m ≤ 1000000) ∧ (0 ≤ p ∧ p ≤ 999999) := by
  unfold frameB at h
  simp only [Bool.and_eq_true, decide_eq_true_eq] at h
  exact ⟨h.1.1, h.1.2, h.2⟩
/-- A camera: where it is, its right and left points, its reach. -/
def camB (ax ay rx ry lx ly q : Int) : Bool :=
  okP ax ay && okP rx ry && okP lx ly && decide (0 < turnI ax ay rx ry lx ly) && decide (1 ≤ q ∧ q ≤ 100)
theorem cam_parts {ax ay rx ry lx ly q : Int} (h : camB ax ay rx ry lx ly q = true) : okP ax ay = true ∧ okP rx ry = true ∧ okP lx ly = true ∧ 0 < turnI ax ay rx ry lx ly ∧ (1 ≤ q ∧ q ≤ 100) := by
  unfold camB at h
  simp only [Bool.and_eq_true, decide_eq_true_eq] at h
  exact ⟨h.1.1.1.1, h.1.1.1.2, h.1.1.2, h.1.2, h.2⟩
theorem cam_turn (ax ay rx ry lx ly q : Int) : camB ax ay rx ry lx ly q = (decide (0 < turnOf ax ay rx ry lx ly) && decide (1 ≤ q) && decide (q ≤ 100)) := by
  unfold camB turnOf
  cases okP ax ay <;> cases okP rx ry <;> cases okP lx ly <;> simp [Bool.decide_and, Bool.and_assoc]
def fieldB (ax ay rx ry lx ly q x y : Int) : Bool :=
  camB ax ay rx ry lx ly q && okP x y && (decide (0 ≤ turnI ax ay rx ry x y) && decide (0 ≤ turnI ax ay x y lx ly) && decide (squareI ax ay x y ≤ q * q))
end Go.Proofs.Ythokeedmccfalaa.TrackMath
