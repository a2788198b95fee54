/-
  Plain facts on areas, places and corners of rooms. No program stands here.
-/
import Derived.Test.YtonbpmabmjhdgabGcdMath
import Derived.Test.YtonbpmabmjhdgabRoomMath
namespace Go.Proofs.Ytonbpmabmjhdgab.AreaMath
open PointMath WallMath GcdMath RoomMath

def stepP (a b : Int × Int) : Int := stepsI a.1 a.2 b.1 b.2
/-- The whole points on the first k walls. -/
def edgeTo (ps : List (Int × Int)) : Nat → Int
  | 0 => 0
  | k + 1 => edgeTo ps k + stepP (pt ps k) (pt ps ((k + 1) % ps.length))
def edgeI (ps : List (Int × Int)) : Int := if roomB ps then edgeTo ps ps.length else 0
def innerI (ps : List (Int × Int)) : Int := if roomB ps then (dblTo ps ps.length - edgeTo ps ps.length + 2).tdiv 2 else -1
def doubleI (ps : List (Int × Int)) : Int := if decide (ps.length ≤ 10) && okAll ps then dblTo ps ps.length else 0
def largerB (ps qs : List (Int × Int)) : Bool := roomB ps && roomB qs && decide (dblTo qs qs.length < dblTo ps ps.length)

theorem tdiv2 (x : Int) : -(max x (-x)) ≤ x.tdiv 2 ∧ x.tdiv 2 ≤ max x (-x) := by
  rcases Int.le_total 0 x with h | h
  · rw [Int.tdiv_eq_ediv_of_nonneg h]; omega
  · obtain ⟨y, rfl⟩ : ∃ y, x = -y := ⟨-x, by omega⟩
    rw [Int.neg_tdiv, Int.tdiv_eq_ediv_of_nonneg (by omega)]; omega
theorem gcd_le {a b : Int} (h : a ≠ 0 ∨ b ≠ 0) (n : Nat) (ha : a.natAbs ≤ n) (hb : b.natAbs ≤ n) : Int.gcd a b ≤ n := by
  unfold Int.gcd
  rcases h with h | h
  · exact Nat.le_trans (Nat.gcd_le_left _ (by omega)) ha
  · exact Nat.le_trans (Nat.gcd_le_right _ (by omega)) hb
theorem steps_bound (ax ay bx bY : Int) : 0 ≤ stepsI ax ay bx bY ∧ stepsI ax ay bx bY ≤ 80 := by
  unfold stepsI
  cases h : okW ax ay bx bY
  · simp
  · obtain ⟨h1, h2, h3⟩ := okW_parts h
    have q1 := okP_yes h1
    have q2 := okP_yes h2
    have := gcd_le (a := bx - ax) (b := bY - ay) (by omega) 80 (by omega) (by omega)
    unfold gcdI
    simp
    omega
theorem edgeTo_bound (ps : List (Int × Int)) : ∀ k, 0 ≤ edgeTo ps k ∧ edgeTo ps k ≤ 80 * (k : Int)
  | 0 => by simp [edgeTo]
  | k + 1 => by
    have ih := edgeTo_bound ps k
    have := steps_bound (pt ps k).1 (pt ps k).2 (pt ps ((k + 1) % ps.length)).1 (pt ps ((k + 1) % ps.length)).2
    simp only [edgeTo, stepP]
    omega

theorem roomB_yes {ps : List (Int × Int)} (h : roomB ps = true) : (3 ≤ ps.length ∧ ps.length ≤ 10) ∧ okAll ps = true ∧ (∀ k, k < ps.length → roundB ps k = true) ∧ 0 < dblTo ps ps.length := by
  unfold roomB at h
  simp only [Bool.and_eq_true, decide_eq_true_eq] at h
  exact ⟨h.1.1.1, h.1.1.2, fun k hk => List.all_eq_true.1 h.1.2 k (List.mem_range.2 hk), h.2⟩
/-- Two corners that follow each other are the ends of a valid wall. -/
theorem corner_wall {ps : List (Int × Int)} (h : roomB ps = true) {k : Nat} (hk : k < ps.length) :
    okW (pt ps k).1 (pt ps k).2 (pt ps ((k + 1) % ps.length)).1 (pt ps ((k + 1) % ps.length)).2 = true := by
  obtain ⟨h1, h2, h3, _⟩ := roomB_yes h
  have hm : (k + 1) % ps.length < ps.length := Nat.mod_lt _ (by omega)
  have p1 := okAll_at h2 hk
  have p2 := okAll_at h2 hm
  have hr := h3 k hk
  unfold roundB at hr
  simp only [Bool.and_eq_true, decide_eq_true_eq] at hr
  have hb := hr.1
  unfold okW
  rw [p1, p2]
  simp only [Bool.true_and, Bool.not_eq_true', Bool.and_eq_false_iff, decide_eq_false_iff_not]
  by_cases e : (pt ps k).1 = (pt ps ((k + 1) % ps.length)).1
  · right
    intro e2
    apply hb
    unfold bendAt turnP turnI
    rw [e, e2]
    simp
  · left; exact e

theorem roomB_zero {ps : List (Int × Int)} (h : roomB ps = true) : ps.length ≠ 0 := by have := (roomB_yes h).1; omega
/-- A loop that goes on while the room is valid ends with the answer. -/
theorem exit_of {α : Type} {ps : List (Int × Int)} {F : Nat → α} {k : Nat} (h : k = 0 ∨ roomB ps = true) (_ : k ≤ ps.length) (h2 : roomB ps = false ∨ k = ps.length) :
    (if roomB ps then F ps.length else F 0) = F k := by
  cases hr : roomB ps
  · rcases h with h | h
    · subst h; rfl
    · rw [hr] at h; cases h
  · rcases h2 with h2 | h2
    · rw [hr] at h2; cases h2
    · subst h2; rfl
theorem edgeI_exit {ps : List (Int × Int)} {k : Nat} (h : k = 0 ∨ roomB ps = true) (hk : k ≤ ps.length) (h2 : roomB ps = false ∨ k = ps.length) : edgeI ps = edgeTo ps k :=
  exit_of (F := edgeTo ps) h hk h2
theorem wallI_at {ps : List (Int × Int)} {k : Nat} (h : roomB ps = true) (hk : k < ps.length) : wallI ps (k : Int) = (pt ps k, pt ps ((k + 1) % ps.length)) := by
  unfold wallI
  rw [if_pos ⟨h, by omega, by omega⟩]
  rfl

/-- Is the corner reflex? -/
def reflB (ps : List (Int × Int)) (k : Nat) : Bool := decide (bendBack ps k < 0)
def reflexB (ps : List (Int × Int)) (k : Int) : Bool := roomB ps && decide (0 ≤ k ∧ k < (ps.length : Int)) && reflB ps k.toNat
/-- The reflex corners among the first k. -/
def reflTo (ps : List (Int × Int)) : Nat → List Int
  | 0 => []
  | k + 1 => if reflB ps k then reflTo ps k ++ [(k : Int)] else reflTo ps k
def reflL (ps : List (Int × Int)) : List Int := if roomB ps then reflTo ps ps.length else []
theorem reflTo_len (ps : List (Int × Int)) : ∀ k, (reflTo ps k).length ≤ k
  | 0 => by simp [reflTo]
  | k + 1 => by
    have := reflTo_len ps k
    simp only [reflTo]
    split
    · simp; omega
    · omega
theorem reflL_le (ps : List (Int × Int)) : (reflL ps).length ≤ 1048576 := by
  unfold reflL
  cases h : roomB ps
  · simp
  · have := (roomB_yes h).1
    have := reflTo_len ps ps.length
    simp only [if_true]
    omega
def convexB (ps : List (Int × Int)) : Bool := roomB ps && decide ((reflL ps).length = 0)
def turnSumI (ps : List (Int × Int)) : Int := if roomB ps then (ps.length : Int) - 2 * ((reflL ps).length : Int) else 0

def lowB (p q : Int × Int) : Bool := decide (p.2 < q.2) || decide (p.2 = q.2) && decide (p.1 < q.1)
/-- The lowest of the first k corners (0 where there is none). -/
def lowTo (ps : List (Int × Int)) : Nat → Nat
  | 0 => 0
  | k + 1 => if lowB (pt ps k) (pt ps (lowTo ps k)) then k else lowTo ps k
def lowTo0 (ps : List (Int × Int)) (k : Nat) : Int := if k = 0 then -1 else (lowTo ps k : Int)
def lowestI (ps : List (Int × Int)) : Int := if roomB ps then (lowTo ps ps.length : Int) else -1
theorem lowTo_lt (ps : List (Int × Int)) : ∀ k, lowTo ps k ≤ k - 1
  | 0 => by simp [lowTo]
  | k + 1 => by
    have := lowTo_lt ps k
    simp only [lowTo]
    split <;> omega
theorem lowTo_one (ps : List (Int × Int)) : lowTo ps 1 = 0 := ite_self _
theorem lowestI_eq (ps : List (Int × Int)) : lowestI ps = if roomB ps then lowTo0 ps ps.length else lowTo0 ps 0 := by
  unfold lowestI lowTo0
  cases h : roomB ps
  · rfl
  · have := roomB_zero h
    simp [this]
theorem lowTo0_step {ps : List (Int × Int)} {k : Nat} (h : k ≠ 0) : lowTo0 ps (k + 1) = (if lowB (pt ps k) (pt ps (lowTo ps k)) then (k : Int) else (lowTo ps k : Int)) ∧ lowTo0 ps k = (lowTo ps k : Int) := by
  unfold lowTo0
  simp only [h, if_false, Nat.add_one_ne_zero, lowTo]
  constructor
  · split <;> rfl
  · trivial
def slantB (a b : Int × Int) : Bool := decide (a.1 ≠ b.1) && decide (a.2 ≠ b.2)
def rectB (ps : List (Int × Int)) : Bool := roomB ps && (List.range ps.length).all fun k => !slantB (pt ps k) (pt ps ((k + 1) % ps.length))
end Go.Proofs.Ytonbpmabmjhdgab.AreaMath
