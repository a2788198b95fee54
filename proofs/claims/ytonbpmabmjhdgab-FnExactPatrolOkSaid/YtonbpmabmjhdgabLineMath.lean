/-
  Plain facts on the points of one line, and on a way that is cut at corners. No program stands here.
-/
import Derived.Test.YtonbpmabmjhdgabPlaceMath
namespace Go.Proofs.Ytonbpmabmjhdgab.LineMath
open PointMath WallMath RoomMath AreaMath PlaceMath

/-- Where the point lies along the way a-b. -/
def tI (a b p : Int × Int) : Int := (p.1 - a.1) * (b.1 - a.1) + (p.2 - a.2) * (b.2 - a.2)
def dI (a b : Int × Int) : Int := (b.1 - a.1) * (b.1 - a.1) + (b.2 - a.2) * (b.2 - a.2)
theorem sq_pos {x : Int} (h : x ≠ 0) : 0 < x * x := by
  rcases Int.lt_or_gt_of_ne h with h | h
  · exact Int.mul_pos_of_neg_of_neg h h
  · exact Int.mul_pos h h
theorem sq_nonneg (x : Int) : 0 ≤ x * x := by
  by_cases h : x = 0
  · subst h; simp
  · have := sq_pos h; omega
theorem dI_pos {a b : Int × Int} (h : a ≠ b) : 0 < dI a b := by
  unfold dI
  by_cases h1 : b.1 - a.1 = 0
  · have h2 : b.2 - a.2 ≠ 0 := fun e => h (Prod.ext (by omega) (by omega))
    have := sq_pos h2
    have := sq_nonneg (b.1 - a.1)
    omega
  · have := sq_pos h1
    have := sq_nonneg (b.2 - a.2)
    omega
theorem line_pt {a b p : Int × Int} (h : turnP a b p = 0) : dI a b * (p.1 - a.1) = tI a b p * (b.1 - a.1) ∧ dI a b * (p.2 - a.2) = tI a b p * (b.2 - a.2) := by
  unfold turnP turnI at h
  unfold dI tI
  constructor <;> grind
theorem line_dif {a b p q : Int × Int} (hp : turnP a b p = 0) (hq : turnP a b q = 0) :
    dI a b * (p.1 - q.1) = (tI a b p - tI a b q) * (b.1 - a.1) ∧ dI a b * (p.2 - q.2) = (tI a b p - tI a b q) * (b.2 - a.2) := by
  have h1 := line_pt hp
  have h2 := line_pt hq
  constructor <;> grind
theorem line_inj {a b p q : Int × Int} (h : a ≠ b) (hp : turnP a b p = 0) (hq : turnP a b q = 0) (e : tI a b p = tI a b q) : p = q := by
  have hd := dI_pos h
  have h1 := line_dif hp hq
  rw [e, Int.sub_self, Int.zero_mul, Int.zero_mul] at h1
  have e1 : p.1 - q.1 = 0 := (Int.mul_eq_zero.1 h1.1).resolve_left (by omega)
  have e2 : p.2 - q.2 = 0 := (Int.mul_eq_zero.1 h1.2).resolve_left (by omega)
  exact Prod.ext (by omega) (by omega)
theorem mid_iff {x a b : Int} : midB x a b = true ↔ (x - a) * (x - b) ≤ 0 := by
  unfold midB
  rw [decide_eq_true_eq]
  constructor
  · intro h
    rcases Int.le_total a b with h1 | h1
    · have := Int.mul_nonneg (show 0 ≤ x - a by omega) (show 0 ≤ b - x by omega)
      have e : (x - a) * (x - b) = -((x - a) * (b - x)) := by grind
      omega
    · have := Int.mul_nonneg (show 0 ≤ a - x by omega) (show 0 ≤ x - b by omega)
      have e : (x - a) * (x - b) = -((a - x) * (x - b)) := by grind
      omega
  · intro h
    rcases Int.lt_or_le x (min a b) with h1 | h1
    · have := Int.mul_pos_of_neg_of_neg (show x - a < 0 by omega) (show x - b < 0 by omega)
      omega
    · rcases Int.lt_or_le (max a b) x with h2 | h2
      · have := Int.mul_pos (show 0 < x - a by omega) (show 0 < x - b by omega)
        omega
      · exact ⟨h1, h2⟩
theorem mul_le_iff {x y : Int} : x * y ≤ 0 ↔ (x ≤ 0 ∧ 0 ≤ y) ∨ (0 ≤ x ∧ y ≤ 0) := by
  constructor
  · intro h
    rcases Int.lt_trichotomy x 0 with hx | hx | hx
    · rcases Int.lt_or_le y 0 with hy | hy
      · have := Int.mul_pos_of_neg_of_neg hx hy; omega
      · omega
    · omega
    · rcases Int.lt_or_le 0 y with hy | hy
      · have := Int.mul_pos hx hy; omega
      · omega
  · rintro (⟨h1, h2⟩ | ⟨h1, h2⟩)
    · have := Int.mul_nonneg (show 0 ≤ -x by omega) h2
      rw [Int.neg_mul] at this; omega
    · have := Int.mul_nonneg h1 (show 0 ≤ -y by omega)
      rw [Int.mul_neg] at this; omega
/-- Between, along a line: by the order of the places. -/
theorem btw_iff {a b p u v : Int × Int} (h : a ≠ b) (hp : turnP a b p = 0) (hu : turnP a b u = 0) (hv : turnP a b v = 0) :
    btwP p u v = true ↔ (tI a b u ≤ tI a b p ∧ tI a b p ≤ tI a b v) ∨ (tI a b v ≤ tI a b p ∧ tI a b p ≤ tI a b u) := by
  have hd := dI_pos h
  have h1 := line_dif hp hu
  have h2 := line_dif hp hv
  have h3 := line_dif hv hu
  have ht : turnI u.1 u.2 v.1 v.2 p.1 p.2 = 0 := by
    have e : (dI a b * dI a b) * turnI u.1 u.2 v.1 v.2 p.1 p.2 = 0 := by
      unfold turnI
      have e1 : (dI a b * dI a b) * ((v.1 - u.1) * (p.2 - u.2) - (v.2 - u.2) * (p.1 - u.1)) = (dI a b * (v.1 - u.1)) * (dI a b * (p.2 - u.2)) - (dI a b * (v.2 - u.2)) * (dI a b * (p.1 - u.1)) := by grind
      rw [e1, h1.1, h1.2, h3.1, h3.2]
      grind
    rcases Int.mul_eq_zero.1 e with e | e
    · rcases Int.mul_eq_zero.1 e with e | e <;> omega
    · exact e
  unfold btwP btwB
  rw [ht, decide_eq_true rfl, Bool.true_and, Bool.and_eq_true, mid_iff, mid_iff]
  generalize tI a b p = tp at *
  generalize tI a b u = tu at *
  generalize tI a b v = tv at *
  have hdd : 0 < dI a b * dI a b := Int.mul_pos hd hd
  have k1 : (dI a b * dI a b) * ((p.1 - u.1) * (p.1 - v.1)) = ((tp - tu) * (tp - tv)) * ((b.1 - a.1) * (b.1 - a.1)) := by
    rw [show (dI a b * dI a b) * ((p.1 - u.1) * (p.1 - v.1)) = (dI a b * (p.1 - u.1)) * (dI a b * (p.1 - v.1)) by grind, h1.1, h2.1]; grind
  have k2 : (dI a b * dI a b) * ((p.2 - u.2) * (p.2 - v.2)) = ((tp - tu) * (tp - tv)) * ((b.2 - a.2) * (b.2 - a.2)) := by
    rw [show (dI a b * dI a b) * ((p.2 - u.2) * (p.2 - v.2)) = (dI a b * (p.2 - u.2)) * (dI a b * (p.2 - v.2)) by grind, h1.2, h2.2]; grind
  have goal : (tu ≤ tp ∧ tp ≤ tv ∨ tv ≤ tp ∧ tp ≤ tu) ↔ (tp - tu) * (tp - tv) ≤ 0 := by
    rw [mul_le_iff]; omega
  rw [goal]
  have hs1 := sq_nonneg (b.1 - a.1)
  have hs2 := sq_nonneg (b.2 - a.2)
  have hsum : 0 < (b.1 - a.1) * (b.1 - a.1) + (b.2 - a.2) * (b.2 - a.2) := hd
  generalize (tp - tu) * (tp - tv) = m at *
  generalize (b.1 - a.1) * (b.1 - a.1) = s1 at *
  generalize (b.2 - a.2) * (b.2 - a.2) = s2 at *
  generalize (p.1 - u.1) * (p.1 - v.1) = m1 at *
  generalize (p.2 - u.2) * (p.2 - v.2) = m2 at *
  generalize dI a b * dI a b = D at *
  constructor
  · rintro ⟨g1, g2⟩
    rcases Int.lt_or_le 0 m with hm | hm
    · exfalso
      have q1 : D * m1 ≤ 0 := by rw [mul_le_iff]; omega
      have q2 : D * m2 ≤ 0 := by rw [mul_le_iff]; omega
      have e : D * m1 + D * m2 = m * (s1 + s2) := by rw [k1, k2, Int.mul_add]
      have := Int.mul_pos hm hsum
      omega
    · exact hm
  · intro g
    have q1 : m * s1 ≤ 0 := by rw [mul_le_iff]; omega
    have q2 : m * s2 ≤ 0 := by rw [mul_le_iff]; omega
    rw [← k1, mul_le_iff] at q1
    rw [← k2, mul_le_iff] at q2
    omega
theorem btw_self {p u : Int × Int} (h : btwP p u u = true) : p = u := by
  unfold btwP btwB at h
  simp only [Bool.and_eq_true, midB, decide_eq_true_eq] at h
  exact Prod.ext (by omega) (by omega)
theorem btw_left (u v : Int × Int) : btwP u u v = true := by
  unfold btwP btwB midB turnI
  simp only [Bool.and_eq_true, decide_eq_true_eq, Int.sub_self, Int.mul_zero, Int.sub_self, true_and]
  omega
theorem btw_line {a b p : Int × Int} (h : btwP p a b = true) : turnP a b p = 0 := by
  unfold btwP btwB at h
  simp only [Bool.and_eq_true, decide_eq_true_eq] at h
  exact h.1.1
/-- What lies between two points of a line lies on it. -/
theorem btw_on {a b p u v : Int × Int} (h : a ≠ b) (hu : turnP a b u = 0) (hv : turnP a b v = 0) (hp : btwP p u v = true) : turnP a b p = 0 := by
  by_cases e : u = v
  · subst e
    rw [btw_self hp]; exact hu
  · have h3 := line_dif hv hu
    have hne : tI a b v - tI a b u ≠ 0 := fun z => e (line_inj h hu hv (by omega))
    have ht := btw_line hp
    unfold turnP turnI at ht hu ⊢
    have e1 : (tI a b v - tI a b u) * ((b.1 - a.1) * (p.2 - u.2) - (b.2 - a.2) * (p.1 - u.1)) = 0 := by
      have : dI a b * ((v.1 - u.1) * (p.2 - u.2) - (v.2 - u.2) * (p.1 - u.1)) = (dI a b * (v.1 - u.1)) * (p.2 - u.2) - (dI a b * (v.2 - u.2)) * (p.1 - u.1) := by grind
      rw [ht, Int.mul_zero, h3.1, h3.2] at this
      grind
    have e2 := (Int.mul_eq_zero.1 e1).resolve_left hne
    grind
theorem turn_ends (a b : Int × Int) : turnP a b a = 0 ∧ turnP a b b = 0 := by
  unfold turnP turnI
  constructor <;> grind
theorem tI_ends {a b : Int × Int} (h : a ≠ b) : tI a b a = 0 ∧ 0 < tI a b b := by
  constructor
  · unfold tI; simp
  · exact dI_pos h
end Go.Proofs.Ytonbpmabmjhdgab.LineMath
