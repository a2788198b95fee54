/-
  Plain facts on walls. No program stands here.
-/
import Derived.Test.YtonbpmabmjhdgabPointMath
namespace Go.Proofs.Ytonbpmabmjhdgab.WallMath
open PointMath

/-- Is a wall valid: both ends, and they differ? -/
def okW (ax ay bx bY : Int) : Bool := okP ax ay && okP bx bY && !(decide (ax = bx) && decide (ay = bY))
def onB (ax ay bx bY px py : Int) : Bool := okW ax ay bx bY && betweenB px py ax ay bx bY
def sgn (n : Int) : Int := if 0 < n then 1 else if n < 0 then -1 else 0
/-- Are two numbers of different signs, neither of them 0? -/
def sepB (s t : Int) : Bool := (decide (s < 0) && decide (0 < t)) || (decide (0 < s) && decide (t < 0))
def sepW (ax ay bx bY cx cy dx dy : Int) : Bool := sepB (turnI ax ay bx bY cx cy) (turnI ax ay bx bY dx dy)
/-- Do the ways a-b and c-d cross? The points may be any. -/
def cutW (ax ay bx bY cx cy dx dy : Int) : Bool := sepW ax ay bx bY cx cy dx dy && sepW cx cy dx dy ax ay bx bY
/-- Do the walls a-b and c-d cross? -/
def crossB (ax ay bx bY cx cy dx dy : Int) : Bool := okW ax ay bx bY && okW cx cy dx dy && sepW ax ay bx bY cx cy dx dy && sepW cx cy dx dy ax ay bx bY
def meetB (ax ay bx bY cx cy dx dy : Int) : Bool :=
  okW ax ay bx bY && okW cx cy dx dy &&
    (crossB ax ay bx bY cx cy dx dy || onB ax ay bx bY cx cy || onB ax ay bx bY dx dy || onB cx cy dx dy ax ay || onB cx cy dx dy bx bY)
def lenI (ax ay bx bY : Int) : Int := if okW ax ay bx bY then squareI ax ay bx bY else -1

theorem sgn_cases (n : Int) : (0 < n ∧ sgn n = 1) ∨ (n < 0 ∧ sgn n = -1) ∨ (n = 0 ∧ sgn n = 0) := by
  unfold sgn
  by_cases h : 0 < n
  · exact .inl ⟨h, by simp [h]⟩
  · by_cases h2 : n < 0
    · exact .inr (.inl ⟨h2, by simp [h, h2]⟩)
    · exact .inr (.inr ⟨by omega, by simp [h, h2]⟩)
theorem sgn_sep (s t : Int) : decide (sgn s * sgn t < 0) = sepB s t := by
  unfold sepB
  rcases sgn_cases s with ⟨h, e⟩ | ⟨h, e⟩ | ⟨h, e⟩ <;> rcases sgn_cases t with ⟨h2, e2⟩ | ⟨h2, e2⟩ | ⟨h2, e2⟩ <;> rw [e, e2] <;>
    (rw [Bool.eq_iff_iff]; simp; omega)
theorem sgn_bound (s t : Int) : -1 ≤ sgn s * sgn t ∧ sgn s * sgn t ≤ 1 := by
  rcases sgn_cases s with ⟨h, e⟩ | ⟨h, e⟩ | ⟨h, e⟩ <;> rcases sgn_cases t with ⟨h2, e2⟩ | ⟨h2, e2⟩ | ⟨h2, e2⟩ <;> rw [e, e2] <;> decide
theorem okW_parts {ax ay bx bY : Int} (h : okW ax ay bx bY = true) : okP ax ay = true ∧ okP bx bY = true ∧ ¬(ax = bx ∧ ay = bY) := by
  simp [okW, and_assoc] at h
  exact ⟨h.1, h.2.1, fun ⟨e1, e2⟩ => h.2.2.elim (fun f => f e1) (fun f => f e2)⟩
theorem okW_sm2 {ax ay bx bY cx cy dx dy : Int} (h : okW ax ay bx bY = true) (h2 : okW cx cy dx dy = true) : smP ax ay ∧ smP bx bY ∧ smP cx cy ∧ smP dx dy :=
  ⟨okP_sm (okW_parts h).1, okP_sm (okW_parts h).2.1, okP_sm (okW_parts h2).1, okP_sm (okW_parts h2).2.1⟩
/-- Do the ways a-b and c-d meet? The points may be any. -/
def meet2 (ax ay bx bY cx cy dx dy : Int) : Bool :=
  cutW ax ay bx bY cx cy dx dy || (btwB cx cy ax ay bx bY || btwB dx dy ax ay bx bY) || (btwB ax ay cx cy dx dy || btwB bx bY cx cy dx dy)
theorem onB_btw {ax ay bx bY px py : Int} (h : okW ax ay bx bY = true) (hp : okP px py = true) : onB ax ay bx bY px py = btwB px py ax ay bx bY := by
  have h2 := okW_parts h
  unfold onB
  rw [h, betweenB_btw hp h2.1 h2.2.1, Bool.true_and]
theorem crossB_cut {ax ay bx bY cx cy dx dy : Int} (h : okW ax ay bx bY = true) (h2 : okW cx cy dx dy = true) : crossB ax ay bx bY cx cy dx dy = cutW ax ay bx bY cx cy dx dy := by
  unfold crossB cutW; rw [h, h2]; simp
theorem meetB_meet2 {ax ay bx bY cx cy dx dy : Int} (h : okW ax ay bx bY = true) (h2 : okW cx cy dx dy = true) : meetB ax ay bx bY cx cy dx dy = meet2 ax ay bx bY cx cy dx dy := by
  have p1 := okW_parts h
  have p2 := okW_parts h2
  unfold meetB meet2
  rw [crossB_cut h h2, onB_btw h p2.1, onB_btw h p2.2.1, onB_btw h2 p1.1, onB_btw h2 p1.2.1, h, h2]
  simp [Bool.or_assoc]
end Go.Proofs.Ytonbpmabmjhdgab.WallMath
