/-
  Plain facts on the place of a point in a list of corners. No program stands here.
-/
import Derived.Test.YtonbpmabmjhdgabAreaMath
namespace Go.Proofs.Ytonbpmabmjhdgab.PlaceMath
open PointMath WallMath RoomMath AreaMath

def btwP (p a b : Int × Int) : Bool := btwB p.1 p.2 a.1 a.2 b.1 b.2
/-- Is the point on wall number k? -/
def onK (ps : List (Int × Int)) (p : Int × Int) (k : Nat) : Bool := btwP p (pt ps k) (pt ps ((k + 1) % ps.length))
/-- Does the wall a-b pass to the right of p? An end at its height counts as above. -/
def riseB (a b p : Int × Int) : Bool := decide (a.2 < p.2) && decide (p.2 ≤ b.2) && decide (0 < turnP a b p) || decide (b.2 < p.2) && decide (p.2 ≤ a.2) && decide (turnP a b p < 0)
/-- .. An end at its height counts as below. -/
def riseS (a b p : Int × Int) : Bool := decide (a.2 ≤ p.2) && decide (p.2 < b.2) && decide (0 < turnP a b p) || decide (b.2 ≤ p.2) && decide (p.2 < a.2) && decide (turnP a b p < 0)
def parI (ps : List (Int × Int)) (p : Int × Int) : Nat → Bool
  | 0 => false
  | k + 1 => parI ps p k ^^ riseB (pt ps k) (pt ps ((k + 1) % ps.length)) p
def parS (ps : List (Int × Int)) (p : Int × Int) : Nat → Bool
  | 0 => false
  | k + 1 => parS ps p k ^^ riseS (pt ps k) (pt ps ((k + 1) % ps.length)) p
def onAny (ps : List (Int × Int)) (p : Int × Int) : Bool := (List.range ps.length).any fun k => onK ps p k
/-- 0 outside, 1 on a wall, 2 inside. -/
def placeM (ps : List (Int × Int)) (p : Int × Int) : Int := if onAny ps p then 1 else if parS ps p ps.length then 2 else 0
/-- The least index of a wall that the point is on, or -1. -/
def wallM (ps : List (Int × Int)) (p : Int × Int) : Int :=
  match (List.range ps.length).find? fun k => onK ps p k with
  | some k => (k : Int)
  | none => -1

theorem rect_at {ps : List (Int × Int)} {k : Nat} (hk : k < ps.length) (h : slantB (wallI ps k).1 (wallI ps k).2 = true) : rectB ps = false := by
  cases hr : roomB ps
  · unfold rectB; rw [hr]; rfl
  · rw [wallI_at hr hk] at h
    unfold rectB
    have : ((List.range ps.length).all fun k => !slantB (pt ps k) (pt ps ((k + 1) % ps.length))) = false := by
      rw [List.all_eq_false]
      exact ⟨k, List.mem_range.2 hk, by simp [h]⟩
    rw [this, Bool.and_false]
theorem rect_of {ps : List (Int × Int)} (h : ∀ k, k < ps.length → slantB (wallI ps k).1 (wallI ps k).2 = false) : rectB ps = roomB ps := by
  cases hr : roomB ps
  · unfold rectB; rw [hr]; rfl
  · unfold rectB
    rw [hr, Bool.true_and, List.all_eq_true]
    intro k hk
    have := h k (List.mem_range.1 hk)
    rw [wallI_at hr (List.mem_range.1 hk)] at this
    simp [this]
/-- The least index of which f holds, or -1. -/
def firstI (n : Nat) (f : Nat → Bool) : Int :=
  match (List.range n).find? f with
  | some k => (k : Int)
  | none => -1
theorem firstI_at {n : Nat} {f : Nat → Bool} {k : Nat} (hk : k < n) (h : f k = true) (h2 : ∀ j, j < k → f j = false) : firstI n f = (k : Int) := by
  unfold firstI
  have : (List.range n).find? f = some k := by
    rw [List.find?_range_eq_some]
    exact ⟨h, List.mem_range.2 hk, fun j hj => by simp [h2 j hj]⟩
  rw [this]
theorem firstI_none {n : Nat} {f : Nat → Bool} (h : ∀ k, k < n → f k = false) : firstI n f = -1 := by
  unfold firstI
  have : (List.range n).find? f = none := by
    rw [List.find?_eq_none]
    intro k hk
    simp [h k (List.mem_range.1 hk)]
  rw [this]
def cutP (a b c d : Int × Int) : Bool := cutW a.1 a.2 b.1 b.2 c.1 c.2 d.1 d.2
/-- Does wall number k cross the way a-b? -/
def cutK (ps : List (Int × Int)) (a b : Int × Int) (k : Nat) : Bool := cutP (pt ps k) (pt ps ((k + 1) % ps.length)) a b
def crossM (ps : List (Int × Int)) (a b : Int × Int) : Int := firstI ps.length (cutK ps a b)
theorem cutW_comm (ax ay bx bY cx cy dx dy : Int) : cutW ax ay bx bY cx cy dx dy = cutW cx cy dx dy ax ay bx bY := Bool.and_comm _ _
theorem cutW_point (ax ay cx cy dx dy : Int) : cutW ax ay ax ay cx cy dx dy = false := by
  unfold cutW
  have : sepW cx cy dx dy ax ay ax ay = false := by
    unfold sepW sepB
    generalize turnI cx cy dx dy ax ay = t
    rw [Bool.eq_false_iff]
    simp
    omega
  rw [this, Bool.and_false]
theorem cross_cut {ax ay bx bY cx cy dx dy : Int} (ha : okP ax ay = true) (hb : okP bx bY = true) (hw : okW cx cy dx dy = true) : crossB ax ay bx bY cx cy dx dy = cutW cx cy dx dy ax ay bx bY := by
  by_cases h : ax = bx ∧ ay = bY
  · obtain ⟨rfl, rfl⟩ := h
    rw [cutW_comm, cutW_point]
    unfold crossB okW
    simp
  · have : okW ax ay bx bY = true := by
      unfold okW
      rw [ha, hb]
      simp
      omega
    rw [crossB_cut this hw, cutW_comm]
def sideB (v p : Int × Int) : Bool := decide (v.2 = p.2) && decide (p.1 < v.1)
theorem mul_sign {d e : Int} (h : 0 < d) : (0 < d * e ↔ 0 < e) ∧ (d * e < 0 ↔ e < 0) := by
  rcases Int.lt_trichotomy e 0 with h2 | h2 | h2
  · have := Int.mul_neg_of_pos_of_neg h h2; omega
  · subst h2; simp
  · have := Int.mul_pos h h2; omega
theorem rise_side {a b p : Int × Int} (h : btwP p a b = false) : (riseB a b p ^^ riseS a b p) = (sideB a p ^^ sideB b p) := by
  obtain ⟨ax, ay⟩ := a
  obtain ⟨bx, bY⟩ := b
  obtain ⟨px, py⟩ := p
  unfold btwP btwB midB at h
  unfold riseB riseS sideB turnP
  simp only at h ⊢
  obtain ⟨t, ht⟩ : ∃ t, turnI ax ay bx bY px py = t := ⟨_, rfl⟩
  rw [ht] at h ⊢
  unfold turnI at ht
  rcases Int.lt_trichotomy ay py with h1 | h1 | h1 <;> rcases Int.lt_trichotomy bY py with h2 | h2 | h2
  · simp [show ¬ py ≤ bY by omega, show ¬ py ≤ ay by omega, show ¬ py < bY by omega, show ¬ py < ay by omega, show ¬ ay = py by omega, show ¬ bY = py by omega]
  · subst h2
    have e : t = (bY - ay) * (bx - px) := by rw [← ht, ← Int.mul_comm (bY - ay), ← Int.mul_sub]; congr 1; omega
    have := mul_sign (d := bY - ay) (e := bx - px) (by omega)
    rw [← e] at this
    simp [show ay < bY by omega, show ¬ bY < ay by omega, show ¬ bY ≤ ay by omega, show ¬ ay = bY by omega]
    omega
  · simp [show ay < py by omega, show ay ≤ py by omega, show py ≤ bY by omega, show py < bY by omega, show ¬ bY ≤ py by omega, show ¬ bY < py by omega, show ¬ ay = py by omega, show ¬ bY = py by omega]
  · subst h1
    have e : t = (ay - bY) * (px - ax) := by rw [← ht, show ay - ay = 0 by omega, Int.mul_zero, Int.zero_sub, ← Int.neg_mul]; congr 1; omega
    have := mul_sign (d := ay - bY) (e := px - ax) (by omega)
    rw [← e] at this
    simp [show bY < ay by omega, show ¬ ay < bY by omega, show ¬ ay ≤ bY by omega, show ¬ bY = ay by omega]
    omega
  · subst h1
    subst h2
    have e : t = 0 := by rw [← ht]; simp
    rw [e] at h
    simp at h
    simp
    omega
  · subst h1
    have e : t = (bY - ay) * (ax - px) := by rw [← ht, show ay - ay = 0 by omega, Int.mul_zero, Int.zero_sub, ← Int.mul_neg]; congr 1; omega
    have := mul_sign (d := bY - ay) (e := ax - px) (by omega)
    rw [← e] at this
    simp [show ay < bY by omega, show ¬ bY < ay by omega, show ¬ bY ≤ ay by omega, show ¬ bY = ay by omega]
    omega
  · simp [show bY < py by omega, show bY ≤ py by omega, show py ≤ ay by omega, show py < ay by omega, show ¬ ay ≤ py by omega, show ¬ ay < py by omega, show ¬ ay = py by omega, show ¬ bY = py by omega]
  · subst h2
    have e : t = (ay - bY) * (px - bx) := by
      rw [← ht]; grind
    have := mul_sign (d := ay - bY) (e := px - bx) (by omega)
    rw [← e] at this
    simp [show bY < ay by omega, show ¬ ay < bY by omega, show ¬ ay ≤ bY by omega, show ¬ ay = bY by omega]
    omega
  · simp [show ¬ ay ≤ py by omega, show ¬ ay < py by omega, show ¬ bY ≤ py by omega, show ¬ bY < py by omega, show ¬ ay = py by omega, show ¬ bY = py by omega]
theorem onAny_at {ps : List (Int × Int)} {p : Int × Int} {k : Nat} (hk : k < ps.length) (h : onK ps p k = true) : onAny ps p = true := by
  unfold onAny
  rw [List.any_eq_true]
  exact ⟨k, List.mem_range.2 hk, h⟩
theorem onAny_of {ps : List (Int × Int)} {p : Int × Int} (h : ∀ k, k < ps.length → onK ps p k = false) : onAny ps p = false := by
  unfold onAny
  rw [List.any_eq_false]
  intro k hk
  rw [h k (List.mem_range.1 hk)]
  simp
theorem onAny_not {ps : List (Int × Int)} {p : Int × Int} (h : onAny ps p = false) {k : Nat} (hk : k < ps.length) : onK ps p k = false := by
  cases h2 : onK ps p k
  · rfl
  · rw [onAny_at hk h2] at h; cases h
theorem par_step {ps : List (Int × Int)} {p : Int × Int} (h : onAny ps p = false) : ∀ k, k ≤ ps.length → (parI ps p k ^^ parS ps p k) = (sideB (pt ps 0) p ^^ sideB (pt ps (k % ps.length)) p)
  | 0, _ => by simp [parI, parS]
  | k + 1, hk => by
    have ih := par_step h k (by omega)
    have e := rise_side (onAny_not h (k := k) (by omega))
    rw [Nat.mod_eq_of_lt (show k < ps.length by omega)] at ih
    simp only [parI, parS]
    generalize parI ps p k = a at *
    generalize parS ps p k = b at *
    generalize riseB _ _ _ = c at *
    generalize riseS _ _ _ = d at *
    generalize sideB (pt ps 0) p = s at *
    generalize sideB (pt ps k) p = u at *
    generalize sideB _ _ = v at *
    revert ih e
    revert a b c d s u v
    decide
/-- Both ways to count the walls to the right agree at points on no wall. -/
theorem par_eq {ps : List (Int × Int)} {p : Int × Int} (h : onAny ps p = false) : parI ps p ps.length = parS ps p ps.length := by
  have := par_step h ps.length (Nat.le_refl _)
  rw [Nat.mod_self] at this
  generalize parI ps p ps.length = a at *
  generalize parS ps p ps.length = b at *
  generalize sideB _ _ = c at *
  revert a b c
  decide
theorem wallM_at {ps : List (Int × Int)} {p : Int × Int} {k : Nat} (hk : k < ps.length) (h : onK ps p k = true) (h2 : ∀ j, j < k → onK ps p j = false) : wallM ps p = (k : Int) := by
  unfold wallM
  have : (List.range ps.length).find? (fun k => onK ps p k) = some k := by
    rw [List.find?_range_eq_some]
    exact ⟨h, List.mem_range.2 hk, fun j hj => by simp [h2 j hj]⟩
  rw [this]
theorem wallM_none {ps : List (Int × Int)} {p : Int × Int} (h : ∀ k, k < ps.length → onK ps p k = false) : wallM ps p = -1 := by
  unfold wallM
  have : (List.range ps.length).find? (fun k => onK ps p k) = none := by
    rw [List.find?_eq_none]
    intro k hk
    simp [h k (List.mem_range.1 hk)]
  rw [this]
theorem wallM_neg {ps : List (Int × Int)} {p : Int × Int} : wallM ps p < 0 ↔ onAny ps p = false := by
  constructor
  · intro h
    refine onAny_of fun k hk => ?_
    cases h2 : onK ps p k
    · rfl
    · exfalso
      unfold wallM at h
      cases e : (List.range ps.length).find? fun k => onK ps p k
      · rw [List.find?_eq_none] at e
        exact e k (List.mem_range.2 hk) h2
      · rw [e] at h; simp at h; omega
  · intro h
    rw [wallM_none fun k hk => onAny_not h hk]
    decide
/-- How many of the first k walls pass to the right. -/
def crossTo (ps : List (Int × Int)) (p : Int × Int) : Nat → Nat
  | 0 => 0
  | k + 1 => if riseB (pt ps k) (pt ps ((k + 1) % ps.length)) p then crossTo ps p k + 1 else crossTo ps p k
theorem crossTo_le (ps : List (Int × Int)) (p : Int × Int) : ∀ k, crossTo ps p k ≤ k
  | 0 => Nat.le_refl _
  | k + 1 => by
    have := crossTo_le ps p k
    simp only [crossTo]
    split <;> omega
theorem crossTo_par (ps : List (Int × Int)) (p : Int × Int) : ∀ k, parI ps p k = true ↔ crossTo ps p k % 2 = 1
  | 0 => by simp [parI, crossTo]
  | k + 1 => by
    have ih := crossTo_par ps p k
    simp only [crossTo, parI]
    cases h : riseB (pt ps k) (pt ps ((k + 1) % ps.length)) p
    · simpa using ih
    · cases hp : parI ps p k
      · rw [hp] at ih
        simp at ih ⊢
        omega
      · rw [hp] at ih
        simp at ih ⊢
        omega
/-- The place, as the landed code counts. -/
theorem placeM_impl (ps : List (Int × Int)) (p : Int × Int) : placeM ps p = if 0 ≤ wallM ps p then 1 else if parI ps p ps.length then 2 else 0 := by
  have hw := wallM_neg (ps := ps) (p := p)
  unfold placeM
  cases h : onAny ps p
  · have h2 : ¬ 0 ≤ wallM ps p := by have := hw.2 h; omega
    rw [if_neg h2, par_eq h]
    simp
  · have h2 : 0 ≤ wallM ps p := by
      rcases Int.lt_or_le (wallM ps p) 0 with h2 | h2
      · rw [hw.1 h2] at h; cases h
      · exact h2
    rw [if_pos h2]
    simp
/-- Every coordinate is small. -/
def smAll (ps : List (Int × Int)) : Prop := ∀ k, k < ps.length → smP (pt ps k).1 (pt ps k).2
theorem smAll_of {ps : List (Int × Int)} (h : okAll ps = true) : smAll ps := fun _ hk => okP_sm (okAll_at h hk)
theorem placeM_on {ps : List (Int × Int)} {p : Int × Int} {k : Nat} (hk : k < ps.length) (h : onK ps p k = true) : placeM ps p = 1 := by
  unfold placeM; rw [onAny_at hk h]; rfl
theorem placeM_off {ps : List (Int × Int)} {p : Int × Int} (h : ∀ k, k < ps.length → onK ps p k = false) : placeM ps p = if parS ps p ps.length then 2 else 0 := by
  unfold placeM; rw [onAny_of h]; rfl
theorem placeM_cases (ps : List (Int × Int)) (p : Int × Int) : placeM ps p = 0 ∨ placeM ps p = 1 ∨ placeM ps p = 2 := by
  unfold placeM
  split
  · exact .inr (.inl rfl)
  · split
    · exact .inr (.inr rfl)
    · exact .inl rfl
/-- The place of a point in a room: 0 where one of them is not valid. -/
def placeI (ps : List (Int × Int)) (x y : Int) : Int := if roomB ps && okP x y then placeM ps (x, y) else 0
def inB (ps : List (Int × Int)) (x y : Int) : Bool := decide (placeI ps x y ≠ 0)
def wallAtI (ps : List (Int × Int)) (x y : Int) : Int := if roomB ps && okP x y then wallM ps (x, y) else -1
theorem wallAt_not {ps : List (Int × Int)} {x y : Int} (h : placeI ps x y ≠ 1) : wallAtI ps x y = -1 := by
  unfold placeI at h
  unfold wallAtI
  cases hb : roomB ps && okP x y
  · rfl
  · rw [hb] at h
    simp only [if_true] at h ⊢
    refine wallM_none fun k hk => ?_
    cases h2 : onK ps (x, y) k
    · rfl
    · exact absurd (placeM_on hk h2) h
theorem wallAt_on {ps : List (Int × Int)} {x y : Int} (h : placeI ps x y = 1) : roomB ps = true ∧ okP x y = true ∧ wallAtI ps x y = wallM ps (x, y) := by
  unfold placeI at h
  unfold wallAtI
  cases hb : roomB ps && okP x y
  · rw [hb] at h; simp at h
  · rw [Bool.and_eq_true] at hb
    exact ⟨hb.1, hb.2, rfl⟩
theorem inB_parts {ps : List (Int × Int)} {x y : Int} (h : inB ps x y = true) : roomB ps = true ∧ okP x y = true := by
  unfold inB placeI at h
  cases hb : roomB ps && okP x y
  · rw [hb] at h; simp at h
  · rw [Bool.and_eq_true] at hb; exact hb
def blockI (ps : List (Int × Int)) (ax ay bx bY : Int) : Int := if inB ps ax ay && inB ps bx bY then crossM ps (ax, ay) (bx, bY) else -1
/-- How many of the first k points are in the room. -/
def countTo (ps qs : List (Int × Int)) : Nat → Int
  | 0 => 0
  | k + 1 => if inB ps (pt qs k).1 (pt qs k).2 then countTo ps qs k + 1 else countTo ps qs k
theorem countTo_bound (ps qs : List (Int × Int)) : ∀ k, 0 ≤ countTo ps qs k ∧ countTo ps qs k ≤ (k : Int)
  | 0 => by simp [countTo]
  | k + 1 => by
    have := countTo_bound ps qs k
    simp only [countTo]
    split <;> omega
theorem inB_no {ps : List (Int × Int)} (h : roomB ps = false) (x y : Int) : inB ps x y = false := by
  unfold inB placeI; rw [h]; rfl
theorem countTo_no {ps : List (Int × Int)} (h : roomB ps = false) (qs : List (Int × Int)) : ∀ k, countTo ps qs k = 0
  | 0 => rfl
  | k + 1 => by simp only [countTo, inB_no h]; exact countTo_no h qs k
end Go.Proofs.Ytonbpmabmjhdgab.PlaceMath
