/-
  Plain facts on points, walls, rooms, areas, places, sights, kernels, diagonals and lists. No program stands here.
-/
import Derived.WalkKit

/-
  Plain facts on points with whole coordinates. No program stands here.
-/
namespace Go.Proofs.Ytcfoleiooohbhaa.PointMath
open Go.RowKit

/-- Are both coordinates in the range? -/
def okP (x y : Int) : Bool := decide (-40 ≤ x ∧ x ≤ 40 ∧ -40 ≤ y ∧ y ≤ 40)
def turnI (ax ay bx bY cx cy : Int) : Int := (bx - ax) * (cy - ay) - (bY - ay) * (cx - ax)
def squareI (ax ay bx bY : Int) : Int := (bx - ax) * (bx - ax) + (bY - ay) * (bY - ay)

theorem okP_yes {x y : Int} (h : okP x y = true) : -40 ≤ x ∧ x ≤ 40 ∧ -40 ≤ y ∧ y ≤ 40 := by simpa [okP] using h
theorem okP_true {x y : Int} (h1 : -40 ≤ x) (h2 : x ≤ 40) (h3 : -40 ≤ y) (h4 : y ≤ 40) : okP x y = true := by simp [okP, h1, h2, h3, h4]
theorem okP_false {x y : Int} (h : x < -40 ∨ 40 < x ∨ y < -40 ∨ 40 < y) : okP x y = false := by
  simp only [okP, decide_eq_false_iff_not]; omega
/-- A product of two numbers up to n. -/
theorem mul_bound {a b n : Int} (ha : -n ≤ a) (ha2 : a ≤ n) (hb : -n ≤ b) (hb2 : b ≤ n) : -(n * n) ≤ a * b ∧ a * b ≤ n * n := by
  have hn : 0 ≤ n := by omega
  have h1 : (n - a) * (n + b) ≥ 0 := Int.mul_nonneg (by omega) (by omega)
  have h2 : (n + a) * (n - b) ≥ 0 := Int.mul_nonneg (by omega) (by omega)
  have h3 : (n - a) * (n - b) ≥ 0 := Int.mul_nonneg (by omega) (by omega)
  have h4 : (n + a) * (n + b) ≥ 0 := Int.mul_nonneg (by omega) (by omega)
  simp only [Int.sub_mul, Int.mul_sub, Int.add_mul, Int.mul_add] at h1 h2 h3 h4
  have e1 : n * b = b * n := Int.mul_comm _ _
  have e2 : n * a = a * n := Int.mul_comm _ _
  constructor <;> omega
/-- Small enough for the turn of two steps. -/
def smP (x y : Int) : Prop := -1000000 ≤ x ∧ x ≤ 1000000 ∧ -1000000 ≤ y ∧ y ≤ 1000000
theorem okP_sm {x y : Int} (h : okP x y = true) : smP x y := by
  have := okP_yes h
  unfold smP; omega
theorem turn_small {ax ay bx bY cx cy : Int} (ha : smP ax ay) (hb : smP bx bY) (hc : smP cx cy) :
    -4000000000000 ≤ (bx - ax) * (cy - ay) ∧ (bx - ax) * (cy - ay) ≤ 4000000000000 ∧ -4000000000000 ≤ (bY - ay) * (cx - ax) ∧ (bY - ay) * (cx - ax) ≤ 4000000000000 := by
  unfold smP at ha hb hc
  have h1 := mul_bound (a := bx - ax) (b := cy - ay) (n := 2000000) (by omega) (by omega) (by omega) (by omega)
  have h2 := mul_bound (a := bY - ay) (b := cx - ax) (n := 2000000) (by omega) (by omega) (by omega) (by omega)
  omega
theorem turn_parts {ax ay bx bY cx cy : Int} (ha : okP ax ay = true) (hb : okP bx bY = true) (hc : okP cx cy = true) :
    -6400 ≤ (bx - ax) * (cy - ay) ∧ (bx - ax) * (cy - ay) ≤ 6400 ∧ -6400 ≤ (bY - ay) * (cx - ax) ∧ (bY - ay) * (cx - ax) ≤ 6400 := by
  have := okP_yes ha
  have := okP_yes hb
  have := okP_yes hc
  have h1 := mul_bound (a := bx - ax) (b := cy - ay) (n := 80) (by omega) (by omega) (by omega) (by omega)
  have h2 := mul_bound (a := bY - ay) (b := cx - ax) (n := 80) (by omega) (by omega) (by omega) (by omega)
  omega
theorem square_parts {ax ay bx bY : Int} (ha : okP ax ay = true) (hb : okP bx bY = true) :
    -6400 ≤ (bx - ax) * (bx - ax) ∧ (bx - ax) * (bx - ax) ≤ 6400 ∧ -6400 ≤ (bY - ay) * (bY - ay) ∧ (bY - ay) * (bY - ay) ≤ 6400 := by
  have := okP_yes ha
  have := okP_yes hb
  have h1 := mul_bound (a := bx - ax) (b := bx - ax) (n := 80) (by omega) (by omega) (by omega) (by omega)
  have h2 := mul_bound (a := bY - ay) (b := bY - ay) (n := 80) (by omega) (by omega) (by omega) (by omega)
  omega

/-- What the functions of the chapter answer. -/
def turnOf (ax ay bx bY cx cy : Int) : Int := if okP ax ay && okP bx bY && okP cx cy then turnI ax ay bx bY cx cy else 0
def squareOf (ax ay bx bY : Int) : Int := if okP ax ay && okP bx bY then squareI ax ay bx bY else -1
/-- Is x from the lesser to the greater of a and b? -/
def midB (x a b : Int) : Bool := decide (min a b ≤ x ∧ x ≤ max a b)
/-- Is p on the way from a to b? The points may be any. -/
def btwB (px py ax ay bx bY : Int) : Bool := decide (turnI ax ay bx bY px py = 0) && midB px ax bx && midB py ay bY
def betweenB (px py ax ay bx bY : Int) : Bool := okP px py && okP ax ay && okP bx bY && decide (turnI ax ay bx bY px py = 0) && midB px ax bx && midB py ay bY
def nearerB (px py ax ay bx bY : Int) : Bool := okP px py && okP ax ay && okP bx bY && decide (squareI px py ax ay < squareI px py bx bY)
theorem betweenB_btw {px py ax ay bx bY : Int} (hp : okP px py = true) (ha : okP ax ay = true) (hb : okP bx bY = true) : betweenB px py ax ay bx bY = btwB px py ax ay bx bY := by simp [betweenB, btwB, hp, ha, hb]
end Go.Proofs.Ytcfoleiooohbhaa.PointMath

/-
  Plain facts on turns and distances. No program stands here.
-/
namespace Go.Proofs.Ytcfoleiooohbhaa.PointFacts
open PointMath

theorem turn_round (ax ay bx bY cx cy : Int) : turnI bx bY cx cy ax ay = turnI ax ay bx bY cx cy := by unfold turnI; grind
theorem turn_back (ax ay bx bY cx cy : Int) : turnI ax ay cx cy bx bY = -turnI ax ay bx bY cx cy := by unfold turnI; grind
theorem turn_swap (ax ay bx bY cx cy : Int) : turnI bx bY ax ay cx cy = -turnI ax ay bx bY cx cy := by unfold turnI; grind
theorem lagrange (ax ay bx bY cx cy t ab ac dot : Int) (ht : t = turnI ax ay bx bY cx cy) (hab : ab = squareI ax ay bx bY) (hac : ac = squareI ax ay cx cy)
    (hd : dot = ab + ac - squareI bx bY cx cy) : 4 * t * t + dot * dot = 4 * ab * ac := by
  subst ht hd hab hac; unfold turnI squareI; grind
theorem sq_nonneg (x : Int) : 0 ≤ x * x := by
  rcases Int.le_total 0 x with h | h
  · exact Int.mul_nonneg h h
  · have := Int.mul_nonneg (show 0 ≤ -x by omega) (show 0 ≤ -x by omega)
    rwa [Int.neg_mul_neg] at this
theorem square_nonneg (ax ay bx bY : Int) : 0 ≤ squareI ax ay bx bY := by
  unfold squareI
  have h1 := sq_nonneg (bx - ax)
  have h2 := sq_nonneg (bY - ay)
  omega
theorem mid_swap (x a b : Int) : midB x a b = midB x b a := by unfold midB; rw [Int.min_comm, Int.max_comm]
theorem between_self {ax ay bx bY : Int} (ha : okP ax ay = true) (hb : okP bx bY = true) : betweenB ax ay ax ay bx bY = true := by
  have h : turnI ax ay bx bY ax ay = 0 := by unfold turnI; grind
  simp [betweenB, ha, hb, h, midB]
  omega
theorem between_swap (px py ax ay bx bY : Int) : betweenB px py ax ay bx bY = betweenB px py bx bY ax ay := by
  unfold betweenB
  rw [mid_swap px ax bx, mid_swap py ay bY, turn_swap bx bY ax ay px py]
  have : decide (-turnI bx bY ax ay px py = 0) = decide (turnI bx bY ax ay px py = 0) := by simp
  rw [this]
  cases okP px py <;> cases okP ax ay <;> cases okP bx bY <;> simp
theorem between_turn {px py ax ay bx bY : Int} (h : betweenB px py ax ay bx bY = true) : turnI ax ay bx bY px py = 0 := by
  simp [betweenB] at h
  exact h.1.1.2
theorem nearer_is {px py ax ay bx bY : Int} (hp : okP px py = true) (ha : okP ax ay = true) (hb : okP bx bY = true) :
    nearerB px py ax ay bx bY = decide (squareI px py ax ay < squareI px py bx bY) := by simp [nearerB, hp, ha, hb]
end Go.Proofs.Ytcfoleiooohbhaa.PointFacts

/-
  Plain facts on walls. No program stands here.
-/
namespace Go.Proofs.Ytcfoleiooohbhaa.WallMath
open PointMath

/-- Is a wall valid: both ends, and they differ? -/
def okW (ax ay bx bY : Int) : Bool := okP ax ay && okP bx bY && !(decide (ax = bx) && decide (ay = bY))
def onB (ax ay bx bY px py : Int) : Bool := okW ax ay bx bY && betweenB px py ax ay bx bY
def sgn (n : Int) : Int := if 0 < n then 1 else if n < 0 then -1 else 0
/-- Are two numbers of different signs, neither of them 0? -/
def sepB (s t : Int) : Bool := (decide (s < 0) && decide (0 < t)) || (decide (0 < s) && decide (t < 0))
def sepW (ax ay bx bY cx cy dx dy : Int) : Bool := sepB (turnI ax ay bx bY cx cy) (turnI ax ay bx bY dx dy)
/-- Do the ways a-b and c-d cross? The points may be any. -/
def cutW (ax ay bx bY cx cy dx dy : Int) : Bool := sepW ax ay bx bY cx cy dx dy && sepW cx cy dx dy ax ay bx bY
/-- Do the walls a-b and c-d cross? -/
def crossB (ax ay bx bY cx cy dx dy : Int) : Bool := okW ax ay bx bY && okW cx cy dx dy && sepW ax ay bx bY cx cy dx dy && sepW cx cy dx dy ax ay bx bY
def meetB (ax ay bx bY cx cy dx dy : Int) : Bool :=
  okW ax ay bx bY && okW cx cy dx dy &&
    (crossB ax ay bx bY cx cy dx dy || onB ax ay bx bY cx cy || onB ax ay bx bY dx dy || onB cx cy dx dy ax ay || onB cx cy dx dy bx bY)
def lenI (ax ay bx bY : Int) : Int := if okW ax ay bx bY then squareI ax ay bx bY else -1

theorem sgn_cases (n : Int) : (0 < n ∧ sgn n = 1) ∨ (n < 0 ∧ sgn n = -1) ∨ (n = 0 ∧ sgn n = 0) := by
  unfold sgn
  by_cases h : 0 < n
  · exact .inl ⟨h, by simp [h]⟩
  · by_cases h2 : n < 0
    · exact .inr (.inl ⟨h2, by simp [h, h2]⟩)
    · exact .inr (.inr ⟨by omega, by simp [h, h2]⟩)
theorem sgn_sep (s t : Int) : decide (sgn s * sgn t < 0) = sepB s t := by
  unfold sepB
  rcases sgn_cases s with ⟨h, e⟩ | ⟨h, e⟩ | ⟨h, e⟩ <;> rcases sgn_cases t with ⟨h2, e2⟩ | ⟨h2, e2⟩ | ⟨h2, e2⟩ <;> rw [e, e2] <;>
    (rw [Bool.eq_iff_iff]; simp; omega)
theorem sgn_bound (s t : Int) : -1 ≤ sgn s * sgn t ∧ sgn s * sgn t ≤ 1 := by
  rcases sgn_cases s with ⟨h, e⟩ | ⟨h, e⟩ | ⟨h, e⟩ <;> rcases sgn_cases t with ⟨h2, e2⟩ | ⟨h2, e2⟩ | ⟨h2, e2⟩ <;> rw [e, e2] <;> decide
theorem okW_parts {ax ay bx bY : Int} (h : okW ax ay bx bY = true) : okP ax ay = true ∧ okP bx bY = true ∧ ¬(ax = bx ∧ ay = bY) := by
  simp [okW, and_assoc] at h
  exact ⟨h.1, h.2.1, fun ⟨e1, e2⟩ => h.2.2.elim (fun f => f e1) (fun f => f e2)⟩
theorem okW_sm2 {ax ay bx bY cx cy dx dy : Int} (h : okW ax ay bx bY = true) (h2 : okW cx cy dx dy = true) : smP ax ay ∧ smP bx bY ∧ smP cx cy ∧ smP dx dy :=
  ⟨okP_sm (okW_parts h).1, okP_sm (okW_parts h).2.1, okP_sm (okW_parts h2).1, okP_sm (okW_parts h2).2.1⟩
/-- Do the ways a-b and c-d meet? The points may be any. -/
def meet2 (ax ay bx bY cx cy dx dy : Int) : Bool :=
  cutW ax ay bx bY cx cy dx dy || (btwB cx cy ax ay bx bY || btwB dx dy ax ay bx bY) || (btwB ax ay cx cy dx dy || btwB bx bY cx cy dx dy)
theorem onB_btw {ax ay bx bY px py : Int} (h : okW ax ay bx bY = true) (hp : okP px py = true) : onB ax ay bx bY px py = btwB px py ax ay bx bY := by
  have h2 := okW_parts h
  unfold onB
  rw [h, betweenB_btw hp h2.1 h2.2.1, Bool.true_and]
theorem crossB_cut {ax ay bx bY cx cy dx dy : Int} (h : okW ax ay bx bY = true) (h2 : okW cx cy dx dy = true) : crossB ax ay bx bY cx cy dx dy = cutW ax ay bx bY cx cy dx dy := by
  unfold crossB cutW; rw [h, h2]; simp
theorem meetB_meet2 {ax ay bx bY cx cy dx dy : Int} (h : okW ax ay bx bY = true) (h2 : okW cx cy dx dy = true) : meetB ax ay bx bY cx cy dx dy = meet2 ax ay bx bY cx cy dx dy := by
  have p1 := okW_parts h
  have p2 := okW_parts h2
  unfold meetB meet2
  rw [crossB_cut h h2, onB_btw h p2.1, onB_btw h p2.2.1, onB_btw h2 p1.1, onB_btw h2 p1.2.1, h, h2]
  simp [Bool.or_assoc]
end Go.Proofs.Ytcfoleiooohbhaa.WallMath

/-
  Plain facts on the greatest common divisor. No program stands here.
-/
namespace Go.Proofs.Ytcfoleiooohbhaa.GcdMath
open PointMath WallMath

def gcdI (a b : Int) : Int := (Int.gcd a b : Nat)
/-- Into how many parts the whole points divide a wall. -/
def stepsI (ax ay bx bY : Int) : Int := if okW ax ay bx bY then gcdI (bx - ax) (bY - ay) else 0

theorem gcd_tmod (a b : Int) : Int.gcd b (a.tmod b) = Int.gcd a b := by
  unfold Int.gcd
  rw [Int.natAbs_tmod, Nat.gcd_comm b.natAbs, ← Nat.gcd_rec, Nat.gcd_comm]
theorem tmod_lt (a b : Int) (h : b ≠ 0) : (a.tmod b).natAbs < b.natAbs := by
  rw [Int.natAbs_tmod]; exact Nat.mod_lt _ (by omega)
theorem gcd_nat_step (x y : Nat) : Nat.gcd y (x % y) = Nat.gcd x y := by
  rw [Nat.gcd_comm y, ← Nat.gcd_rec, Nat.gcd_comm]
end Go.Proofs.Ytcfoleiooohbhaa.GcdMath

/-
  Plain facts on rooms: lists of points. No program stands here.
-/
namespace Go.Proofs.Ytcfoleiooohbhaa.RoomMath
open PointMath WallMath

/-- Which of n corners has the index k, going round. -/
def ixI (n : Nat) (k : Int) : Nat := ((k.tmod n + n).tmod n).toNat
def cornerI (ps : List (Int × Int)) (k : Int) : Int × Int := if ps.length = 0 ∨ ¬(-1000 ≤ k ∧ k ≤ 1000) then (0, 0) else ps.getD (ixI ps.length k) (0, 0)

theorem ix_tmod {n : Nat} {k : Int} (hn : 0 < n) : -(n : Int) < k.tmod n ∧ k.tmod n < n := by
  have h1 := Int.natAbs_tmod k n
  have h2 := Nat.mod_lt k.natAbs (show 0 < (n : Int).natAbs by omega)
  omega
theorem ix_lt {n : Nat} {k : Int} (hn : 0 < n) : (k.tmod n + n).tmod n = (ixI n k : Int) ∧ ixI n k < n := by
  have h := ix_tmod (k := k) hn
  have e : (k.tmod n + n).tmod n = (k.tmod n + n) % n := Int.tmod_eq_emod_of_nonneg (by omega)
  have h1 := Int.emod_nonneg (k.tmod n + n) (show (n : Int) ≠ 0 by omega)
  have h2 := Int.emod_lt_of_pos (k.tmod n + n) (show (0 : Int) < n by omega)
  unfold ixI
  rw [e]
  omega

/-- The least index of the point, or -1. -/
def findI (ps : List (Int × Int)) (x y : Int) : Int :=
  match ps.findIdx? (fun p => decide (p = (x, y))) with
  | some k => (k : Int)
  | none => -1
theorem findI_at {ps : List (Int × Int)} {x y : Int} {k : Nat} (h1 : ps[k]? = some (x, y)) (h2 : ∀ j, j < k → ps[j]? ≠ some (x, y)) : findI ps x y = (k : Int) := by
  obtain ⟨hl, e⟩ := List.getElem?_eq_some_iff.1 h1
  have : ps.findIdx? (fun p => decide (p = (x, y))) = some k := by
    rw [List.findIdx?_eq_some_iff_getElem]
    refine ⟨hl, by simp [e], fun j hj => ?_⟩
    have := h2 j hj
    rw [List.getElem?_eq_getElem (by omega)] at this
    simpa using this
  unfold findI
  rw [this]
theorem findI_none {ps : List (Int × Int)} {x y : Int} (h : ∀ j, j < ps.length → ps[j]? ≠ some (x, y)) : findI ps x y = -1 := by
  have : ps.findIdx? (fun p => decide (p = (x, y))) = none := by
    rw [List.findIdx?_eq_none_iff]
    intro p hp
    obtain ⟨j, hj, e⟩ := List.mem_iff_getElem.1 hp
    have := h j hj
    rw [List.getElem?_eq_getElem hj, e] at this
    simpa using this
  unfold findI
  rw [this]

def pt (ps : List (Int × Int)) (k : Nat) : Int × Int := ps.getD k (0, 0)
theorem pt_at {ps : List (Int × Int)} {k : Nat} (h : k < ps.length) : ps[k]? = some (pt ps k) := by
  unfold pt
  rw [List.getD_eq_getElem?_getD, List.getElem?_eq_getElem h]
  rfl
def okAll (ps : List (Int × Int)) : Bool := ps.all fun p => okP p.1 p.2
def crossI (p q : Int × Int) : Int := p.1 * q.2 - p.2 * q.1
/-- Twice the area, over the first k corners. -/
def dblTo (ps : List (Int × Int)) : Nat → Int
  | 0 => 0
  | k + 1 => dblTo ps k + crossI (pt ps k) (pt ps ((k + 1) % ps.length))
def turnP (a b c : Int × Int) : Int := turnI a.1 a.2 b.1 b.2 c.1 c.2
def bendAt (ps : List (Int × Int)) (k : Nat) : Int := turnP (pt ps k) (pt ps ((k + 1) % ps.length)) (pt ps ((k + 2) % ps.length))
def meetP (a b c d : Int × Int) : Bool := meetB a.1 a.2 b.1 b.2 c.1 c.2 d.1 d.2
def meetAt (ps : List (Int × Int)) (k i : Nat) : Bool := meetP (pt ps k) (pt ps ((k + 1) % ps.length)) (pt ps i) (pt ps ((i + 1) % ps.length))
def nearB (n k i : Nat) : Bool := decide (i = k) || decide ((i + 1) % n = k) || decide ((k + 1) % n = i)
def roundB (ps : List (Int × Int)) (k : Nat) : Bool := decide (bendAt ps k ≠ 0) && (List.range ps.length).all fun i => nearB ps.length k i || !meetAt ps k i
/-- Is a room valid? -/
def roomB (ps : List (Int × Int)) : Bool :=
  decide (3 ≤ ps.length ∧ ps.length ≤ 10) && okAll ps && ((List.range ps.length).all fun k => roundB ps k) && decide (0 < dblTo ps ps.length)

theorem okAll_at {ps : List (Int × Int)} (h : okAll ps = true) {k : Nat} (hk : k < ps.length) : okP (pt ps k).1 (pt ps k).2 = true :=
  (List.all_eq_true.1 h) _ (List.mem_of_getElem? (pt_at hk))
theorem okAll_of {ps : List (Int × Int)} (h : ∀ k, k < ps.length → okP (pt ps k).1 (pt ps k).2 = true) : okAll ps = true := by
  refine List.all_eq_true.2 fun p hp => ?_
  obtain ⟨k, hk, e⟩ := List.mem_iff_getElem.1 hp
  have := h k hk
  have e2 : pt ps k = p := by
    have := pt_at hk
    rw [List.getElem?_eq_getElem hk, e] at this
    injection this with this
    exact this.symm
  rwa [e2] at this
theorem roomB_short {ps : List (Int × Int)} (h : ¬(3 ≤ ps.length ∧ ps.length ≤ 10)) : roomB ps = false := by
  unfold roomB
  rw [show decide (3 ≤ ps.length ∧ ps.length ≤ 10) = false from decide_eq_false h]
  rfl
theorem roomB_point {ps : List (Int × Int)} {k : Nat} (hk : k < ps.length) (h : okP (pt ps k).1 (pt ps k).2 = false) : roomB ps = false := by
  cases h2 : okAll ps
  · unfold roomB; rw [h2]; simp
  · have := okAll_at h2 hk
    rw [h] at this
    cases this
theorem roomB_round {ps : List (Int × Int)} {k : Nat} (hk : k < ps.length) (h : roundB ps k = false) : roomB ps = false := by
  have : ((List.range ps.length).all fun k => roundB ps k) = false := by
    rw [List.all_eq_false]
    exact ⟨k, List.mem_range.2 hk, by simp [h]⟩
  unfold roomB
  rw [this]
  simp
theorem roundB_bend {ps : List (Int × Int)} {k : Nat} (h : bendAt ps k = 0) : roundB ps k = false := by
  unfold roundB; rw [h]; simp
theorem roundB_meet {ps : List (Int × Int)} {k i : Nat} (hi : i < ps.length) (h1 : nearB ps.length k i = false) (h2 : meetAt ps k i = true) : roundB ps k = false := by
  have : ((List.range ps.length).all fun i => nearB ps.length k i || !meetAt ps k i) = false := by
    rw [List.all_eq_false]
    exact ⟨i, List.mem_range.2 hi, by simp [h1, h2]⟩
  unfold roundB
  rw [this]
  simp
theorem roundB_of {ps : List (Int × Int)} {k : Nat} (h1 : bendAt ps k ≠ 0) (h2 : ∀ i, i < ps.length → nearB ps.length k i = true ∨ meetAt ps k i = false) : roundB ps k = true := by
  unfold roundB
  rw [show decide (bendAt ps k ≠ 0) = true from decide_eq_true h1, Bool.true_and, List.all_eq_true]
  intro i hi
  rcases h2 i (List.mem_range.1 hi) with h | h <;> simp [h]
theorem roomB_last {ps : List (Int × Int)} (h1 : 3 ≤ ps.length ∧ ps.length ≤ 10) (h2 : okAll ps = true) (h3 : ∀ k, k < ps.length → roundB ps k = true) : roomB ps = decide (0 < dblTo ps ps.length) := by
  have : ((List.range ps.length).all fun k => roundB ps k) = true := List.all_eq_true.2 fun k hk => h3 k (List.mem_range.1 hk)
  unfold roomB
  rw [this, h2, show decide (3 ≤ ps.length ∧ ps.length ≤ 10) = true from decide_eq_true h1]
  simp
theorem small_mul {a b : Int} (ha : -40 ≤ a ∧ a ≤ 40) (hb : -40 ≤ b ∧ b ≤ 40) : -1600 ≤ a * b ∧ a * b ≤ 1600 := by
  have h1 : (a * b).natAbs ≤ 40 * 40 := by
    rw [Int.natAbs_mul]
    exact Nat.mul_le_mul (by omega) (by omega)
  omega
theorem dblTo_bound {ps : List (Int × Int)} (h : okAll ps = true) : ∀ k, k ≤ ps.length → -(3200 * (k : Int)) ≤ dblTo ps k ∧ dblTo ps k ≤ 3200 * (k : Int)
  | 0, _ => by simp [dblTo]
  | k + 1, hk => by
    have ih := dblTo_bound h k (by omega)
    have q1 := okP_yes (okAll_at h (k := k) (by omega))
    have q2 := okP_yes (okAll_at h (k := (k + 1) % ps.length) (Nat.mod_lt _ (by omega)))
    have m1 := small_mul (a := (pt ps k).1) (b := (pt ps ((k + 1) % ps.length)).2) (by omega) (by omega)
    have m2 := small_mul (a := (pt ps k).2) (b := (pt ps ((k + 1) % ps.length)).1) (by omega) (by omega)
    simp only [dblTo, crossI]
    omega
theorem succ_emod (n k : Nat) : ((k : Int) + 1) % (n : Int) = (((k + 1) % n : Nat) : Int) := by
  rw [Int.natCast_emod, Int.natCast_add]; rfl
theorem succ2_emod (n k : Nat) : ((k : Int) + 2) % (n : Int) = (((k + 2) % n : Nat) : Int) := by
  rw [Int.natCast_emod, Int.natCast_add]; rfl

theorem ix_succ {n k : Nat} (hn : 0 < n) : ixI n ((k : Int) + 1) = (k + 1) % n := by
  have h1 : ((k : Int) + 1).tmod n = (((k + 1) % n : Nat) : Int) := by rw [Int.tmod_eq_emod_of_nonneg (by omega)]; exact succ_emod n k
  have h2 := Nat.mod_lt (k + 1) hn
  unfold ixI
  rw [h1, Int.tmod_eq_emod_of_nonneg (by omega), Int.add_emod_right]
  rw [Int.emod_eq_of_lt (by omega) (by omega)]
  rfl
theorem ix_pred {n k : Nat} (hn : 2 ≤ n) (hk : k < n) : ixI n ((k : Int) - 1) = (k + (n - 1)) % n := by
  unfold ixI
  rcases Nat.eq_zero_or_pos k with h | h
  · subst h
    have h1 : (((0 : Nat) : Int) - 1).tmod n = -1 := by
      rw [show (((0 : Nat) : Int) - 1) = -(1 : Int) by omega, Int.neg_tmod, Int.tmod_eq_emod_of_nonneg (by omega), Int.emod_eq_of_lt (by omega) (by omega)]
    rw [h1, Int.tmod_eq_emod_of_nonneg (by omega), Int.emod_eq_of_lt (by omega) (by omega), Nat.mod_eq_of_lt (by omega)]
    omega
  · have h1 : ((k : Int) - 1).tmod n = (k : Int) - 1 := by rw [Int.tmod_eq_emod_of_nonneg (by omega), Int.emod_eq_of_lt (by omega) (by omega)]
    rw [h1, Int.tmod_eq_emod_of_nonneg (by omega), Int.add_emod_right, Int.emod_eq_of_lt (by omega) (by omega), show k + (n - 1) = (k - 1) + n by omega, Nat.add_mod_right, Nat.mod_eq_of_lt (by omega)]
    omega

/-- The turn at corner k, seen from the corner before it. -/
def bendBack (ps : List (Int × Int)) (k : Nat) : Int := turnP (pt ps ((k + (ps.length - 1)) % ps.length)) (pt ps k) (pt ps ((k + 1) % ps.length))
def bendsB (ps : List (Int × Int)) : Bool := (List.range ps.length).all fun k => decide (bendBack ps k ≠ 0)
/-- Do walls i < k have a common corner? -/
def nextB (n k i : Nat) : Bool := decide (k - i = 1) || decide (k - i = n - 1)
def farB (ps : List (Int × Int)) : Bool := (List.range ps.length).any fun k => (List.range k).any fun i => !nextB ps.length k i && meetAt ps i k

theorem bendsB_at {ps : List (Int × Int)} {k : Nat} (hk : k < ps.length) (h : bendBack ps k = 0) : bendsB ps = false := by
  unfold bendsB
  rw [List.all_eq_false]
  exact ⟨k, List.mem_range.2 hk, by simp [h]⟩
theorem bendsB_of {ps : List (Int × Int)} (h : ∀ k, k < ps.length → bendBack ps k ≠ 0) : bendsB ps = true :=
  List.all_eq_true.2 fun k hk => by simpa using h k (List.mem_range.1 hk)
theorem farB_at {ps : List (Int × Int)} {k i : Nat} (hk : k < ps.length) (hi : i < k) (h1 : nextB ps.length k i = false) (h2 : meetAt ps i k = true) : farB ps = true := by
  unfold farB
  rw [List.any_eq_true]
  refine ⟨k, List.mem_range.2 hk, ?_⟩
  rw [List.any_eq_true]
  exact ⟨i, List.mem_range.2 hi, by simp [h1, h2]⟩
theorem farB_of {ps : List (Int × Int)} (h : ∀ k, k < ps.length → ∀ i, i < k → nextB ps.length k i = true ∨ meetAt ps i k = false) : farB ps = false := by
  unfold farB
  rw [List.any_eq_false]
  intro k hk
  rw [Bool.not_eq_true, List.any_eq_false]
  intro i hi
  rcases h k (List.mem_range.1 hk) i (List.mem_range.1 hi) with h | h <;> simp [h]

theorem meetP_comm (a b c d : Int × Int) : meetP a b c d = meetP c d a b := by
  unfold meetP meetB crossB
  generalize okW a.1 a.2 b.1 b.2 = x1
  generalize okW c.1 c.2 d.1 d.2 = x2
  generalize sepW a.1 a.2 b.1 b.2 c.1 c.2 d.1 d.2 = x3
  generalize sepW c.1 c.2 d.1 d.2 a.1 a.2 b.1 b.2 = x4
  generalize onB a.1 a.2 b.1 b.2 c.1 c.2 = x5
  generalize onB a.1 a.2 b.1 b.2 d.1 d.2 = x6
  generalize onB c.1 c.2 d.1 d.2 a.1 a.2 = x7
  generalize onB c.1 c.2 d.1 d.2 b.1 b.2 = x8
  revert x1 x2 x3 x4 x5 x6 x7 x8
  decide
theorem meetAt_comm (ps : List (Int × Int)) (k i : Nat) : meetAt ps k i = meetAt ps i k := meetP_comm _ _ _ _

theorem roomB_bends {ps : List (Int × Int)} (h : bendsB ps = false) : roomB ps = false := by
  unfold bendsB at h
  rw [List.all_eq_false] at h
  obtain ⟨k, hk, h⟩ := h
  have hk := List.mem_range.1 hk
  have h0 : bendBack ps k = 0 := by simpa using h
  have hj : (k + (ps.length - 1)) % ps.length < ps.length := Nat.mod_lt _ (by omega)
  have e1 : ((k + (ps.length - 1)) % ps.length + 1) % ps.length = k := by
    rw [Nat.mod_add_mod, show k + (ps.length - 1) + 1 = k + ps.length by omega, Nat.add_mod_right, Nat.mod_eq_of_lt hk]
  have e2 : ((k + (ps.length - 1)) % ps.length + 2) % ps.length = (k + 1) % ps.length := by
    rw [Nat.mod_add_mod, show k + (ps.length - 1) + 2 = k + 1 + ps.length by omega, Nat.add_mod_right]
  refine roomB_round hj (roundB_bend ?_)
  unfold bendAt
  rw [e1, e2]
  exact h0
theorem bends_yes {ps : List (Int × Int)} (h : bendsB ps = true) {j : Nat} (hj : j < ps.length) : bendAt ps j ≠ 0 := by
  have hk : (j + 1) % ps.length < ps.length := Nat.mod_lt _ (by omega)
  have h0 := (List.all_eq_true.1 h) _ (List.mem_range.2 hk)
  have h1 : bendBack ps ((j + 1) % ps.length) ≠ 0 := by simpa using h0
  have e1 : ((j + 1) % ps.length + (ps.length - 1)) % ps.length = j := by
    rw [Nat.mod_add_mod, show j + 1 + (ps.length - 1) = j + ps.length by omega, Nat.add_mod_right, Nat.mod_eq_of_lt hj]
  have e2 : ((j + 1) % ps.length + 1) % ps.length = (j + 2) % ps.length := by rw [Nat.mod_add_mod]
  unfold bendBack at h1
  rw [e1, e2] at h1
  exact h1
theorem near_of_next {n k i : Nat} (hk : k < n) (hi : i < k) : nearB n i k = nextB n k i := by
  have e1 : (i + 1) % n = i + 1 := Nat.mod_eq_of_lt (by omega)
  unfold nearB nextB
  rw [e1, Bool.eq_iff_iff]
  rcases Nat.lt_or_ge (k + 1) n with h | h
  · rw [Nat.mod_eq_of_lt h]; simp; omega
  · rw [show k + 1 = n by omega, Nat.mod_self]; simp; omega
theorem near_comm (n k i : Nat) : nearB n k i = nearB n i k := by
  unfold nearB
  rw [Bool.eq_iff_iff]
  simp
  omega
theorem ix_pred1 {n k : Nat} (hn : 1 ≤ n) (hk : k < n) : ixI n ((k : Int) - 1) = (k + (n - 1)) % n := by
  rcases Nat.lt_or_ge n 2 with h | h
  · obtain rfl : n = 1 := by omega
    obtain rfl : k = 0 := by omega
    decide
  · exact ix_pred h hk
/-- The least index of a corner on one line with its neighbors, or -1. -/
def straightI (ps : List (Int × Int)) : Int :=
  match (List.range ps.length).find? fun k => decide (bendBack ps k = 0) with
  | some k => (k : Int)
  | none => -1
theorem straightI_at {ps : List (Int × Int)} {k : Nat} (hk : k < ps.length) (h : bendBack ps k = 0) (hno : ∀ j, j < k → bendBack ps j ≠ 0) : straightI ps = (k : Int) := by
  unfold straightI
  rw [List.find?_range_eq_some.2 ⟨by simpa using h, List.mem_range.2 hk, fun j hj => by simpa using hno j hj⟩]
theorem straightI_none {ps : List (Int × Int)} (h : ∀ k, k < ps.length → bendBack ps k ≠ 0) : straightI ps = -1 := by
  unfold straightI
  rw [List.find?_range_eq_none.2 fun j hj => by simpa using h j hj]
theorem straightI_cases (ps : List (Int × Int)) : (straightI ps = -1 ∧ ∀ k, k < ps.length → bendBack ps k ≠ 0) ∨ ∃ k : Nat, k < ps.length ∧ straightI ps = (k : Int) ∧ bendBack ps k = 0 ∧ ∀ j, j < k → bendBack ps j ≠ 0 := by
  cases h : (List.range ps.length).find? fun k => decide (bendBack ps k = 0) with
  | none =>
    have h1 := List.find?_range_eq_none.1 h
    have h2 : ∀ k, k < ps.length → bendBack ps k ≠ 0 := fun k hk => by simpa using h1 k hk
    exact .inl ⟨straightI_none h2, h2⟩
  | some k =>
    obtain ⟨h1, h2, h3⟩ := List.find?_range_eq_some.1 h
    have h1 : bendBack ps k = 0 := by simpa using h1
    have h3 : ∀ j, j < k → bendBack ps j ≠ 0 := fun j hj => by simpa using h3 j hj
    exact .inr ⟨k, List.mem_range.1 h2, straightI_at (List.mem_range.1 h2) h1 h3, h1, h3⟩
theorem straight_neg (ps : List (Int × Int)) : decide (straightI ps < 0) = bendsB ps := by
  rcases straightI_cases ps with ⟨h1, h2⟩ | ⟨k, hk, h1, h2, _⟩
  · rw [h1, bendsB_of h2]; rfl
  · rw [h1, bendsB_at hk h2]; simp
/-- Is one of two corners the next one of the other? -/
def nbrB (n i k : Nat) : Bool := decide (k = (i + 1) % n) || decide (i = (k + 1) % n)
theorem nbr_next {n k i : Nat} (hk : k < n) (hi : i < k) : nbrB n i k = nextB n k i := by
  rw [← near_of_next hk hi]
  unfold nearB nbrB
  rw [Bool.eq_iff_iff]
  simp
  omega
theorem roomB_far {ps : List (Int × Int)} (h : farB ps = true) : roomB ps = false := by
  unfold farB at h
  rw [List.any_eq_true] at h
  obtain ⟨k, hk, h⟩ := h
  rw [List.any_eq_true] at h
  obtain ⟨i, hi, h⟩ := h
  have hk := List.mem_range.1 hk
  have hi := List.mem_range.1 hi
  simp at h
  exact roomB_round (k := i) (by omega) (roundB_meet hk (by rw [near_of_next hk hi]; exact h.1) h.2)
theorem roomB_impl {ps : List (Int × Int)} (h1 : 3 ≤ ps.length ∧ ps.length ≤ 10) (h2 : okAll ps = true) (h3 : bendsB ps = true) (h4 : farB ps = false) : roomB ps = decide (0 < dblTo ps ps.length) := by
  refine roomB_last h1 h2 fun k hk => roundB_of (bends_yes h3 hk) fun i hi => ?_
  have far : ∀ k i, k < ps.length → i < k → nextB ps.length k i = true ∨ meetAt ps i k = false := by
    intro k i hk hi
    cases h : nextB ps.length k i
    · cases h5 : meetAt ps i k
      · exact .inr rfl
      · rw [farB_at hk hi h h5] at h4
        cases h4
    · exact .inl rfl
  rcases Nat.lt_trichotomy i k with h | h | h
  · rcases far k i hk h with h' | h'
    · exact .inl (by rw [near_comm, near_of_next hk h]; exact h')
    · exact .inr (by rw [meetAt_comm]; exact h')
  · exact .inl (by simp [nearB, h])
  · rcases far i k hi h with h' | h'
    · exact .inl (by rw [near_of_next hi h]; exact h')
    · exact .inr h'

/-- The wall that begins at corner k, if there is one. -/
def wallI (ps : List (Int × Int)) (k : Int) : (Int × Int) × (Int × Int) :=
  if roomB ps = true ∧ 0 ≤ k ∧ k < (ps.length : Int) then (pt ps k.toNat, pt ps ((k.toNat + 1) % ps.length)) else ((0, 0), (0, 0))
end Go.Proofs.Ytcfoleiooohbhaa.RoomMath

/-
  Plain facts on areas, places and corners of rooms. No program stands here.
-/
namespace Go.Proofs.Ytcfoleiooohbhaa.AreaMath
open PointMath WallMath GcdMath RoomMath

def stepP (a b : Int × Int) : Int := stepsI a.1 a.2 b.1 b.2
/-- The whole points on the first k walls. -/
def edgeTo (ps : List (Int × Int)) : Nat → Int
  | 0 => 0
  | k + 1 => edgeTo ps k + stepP (pt ps k) (pt ps ((k + 1) % ps.length))
def edgeI (ps : List (Int × Int)) : Int := if roomB ps then edgeTo ps ps.length else 0
def innerI (ps : List (Int × Int)) : Int := if roomB ps then (dblTo ps ps.length - edgeTo ps ps.length + 2).tdiv 2 else -1
def doubleI (ps : List (Int × Int)) : Int := if decide (ps.length ≤ 10) && okAll ps then dblTo ps ps.length else 0
def largerB (ps qs : List (Int × Int)) : Bool := roomB ps && roomB qs && decide (dblTo qs qs.length < dblTo ps ps.length)

theorem tdiv2 (x : Int) : -(max x (-x)) ≤ x.tdiv 2 ∧ x.tdiv 2 ≤ max x (-x) := by
  rcases Int.le_total 0 x with h | h
  · rw [Int.tdiv_eq_ediv_of_nonneg h]; omega
  · obtain ⟨y, rfl⟩ : ∃ y, x = -y := ⟨-x, by omega⟩
    rw [Int.neg_tdiv, Int.tdiv_eq_ediv_of_nonneg (by omega)]; omega
theorem gcd_le {a b : Int} (h : a ≠ 0 ∨ b ≠ 0) (n : Nat) (ha : a.natAbs ≤ n) (hb : b.natAbs ≤ n) : Int.gcd a b ≤ n := by
  unfold Int.gcd
  rcases h with h | h
  · exact Nat.le_trans (Nat.gcd_le_left _ (by omega)) ha
  · exact Nat.le_trans (Nat.gcd_le_right _ (by omega)) hb
theorem steps_bound (ax ay bx bY : Int) : 0 ≤ stepsI ax ay bx bY ∧ stepsI ax ay bx bY ≤ 80 := by
  unfold stepsI
  cases h : okW ax ay bx bY
  · simp
  · obtain ⟨h1, h2, h3⟩ := okW_parts h
    have q1 := okP_yes h1
    have q2 := okP_yes h2
    have := gcd_le (a := bx - ax) (b := bY - ay) (by omega) 80 (by omega) (by omega)
    unfold gcdI
    simp
    omega
theorem edgeTo_bound (ps : List (Int × Int)) : ∀ k, 0 ≤ edgeTo ps k ∧ edgeTo ps k ≤ 80 * (k : Int)
  | 0 => by simp [edgeTo]
  | k + 1 => by
    have ih := edgeTo_bound ps k
    have := steps_bound (pt ps k).1 (pt ps k).2 (pt ps ((k + 1) % ps.length)).1 (pt ps ((k + 1) % ps.length)).2
    simp only [edgeTo, stepP]
    omega

theorem roomB_yes {ps : List (Int × Int)} (h : roomB ps = true) : (3 ≤ ps.length ∧ ps.length ≤ 10) ∧ okAll ps = true ∧ (∀ k, k < ps.length → roundB ps k = true) ∧ 0 < dblTo ps ps.length := by
  unfold roomB at h
  simp only [Bool.and_eq_true, decide_eq_true_eq] at h
  exact ⟨h.1.1.1, h.1.1.2, fun k hk => List.all_eq_true.1 h.1.2 k (List.mem_range.2 hk), h.2⟩
/-- Two corners that follow each other are the ends of a valid wall. -/
theorem corner_wall {ps : List (Int × Int)} (h : roomB ps = true) {k : Nat} (hk : k < ps.length) :
    okW (pt ps k).1 (pt ps k).2 (pt ps ((k + 1) % ps.length)).1 (pt ps ((k + 1) % ps.length)).2 = true := by
  obtain ⟨h1, h2, h3, _⟩ := roomB_yes h
  have hm : (k + 1) % ps.length < ps.length := Nat.mod_lt _ (by omega)
  have p1 := okAll_at h2 hk
  have p2 := okAll_at h2 hm
  have hr := h3 k hk
  unfold roundB at hr
  simp only [Bool.and_eq_true, decide_eq_true_eq] at hr
  have hb := hr.1
  unfold okW
  rw [p1, p2]
  simp only [Bool.true_and, Bool.not_eq_true', Bool.and_eq_false_iff, decide_eq_false_iff_not]
  by_cases e : (pt ps k).1 = (pt ps ((k + 1) % ps.length)).1
  · right
    intro e2
    apply hb
    unfold bendAt turnP turnI
    rw [e, e2]
    simp
  · left; exact e

theorem roomB_zero {ps : List (Int × Int)} (h : roomB ps = true) : ps.length ≠ 0 := by have := (roomB_yes h).1; omega
/-- A loop that goes on while the room is valid ends with the answer. -/
theorem exit_of {α : Type} {ps : List (Int × Int)} {F : Nat → α} {k : Nat} (h : k = 0 ∨ roomB ps = true) (_ : k ≤ ps.length) (h2 : roomB ps = false ∨ k = ps.length) :
    (if roomB ps then F ps.length else F 0) = F k := by
  cases hr : roomB ps
  · rcases h with h | h
    · subst h; rfl
    · rw [hr] at h; cases h
  · rcases h2 with h2 | h2
    · rw [hr] at h2; cases h2
    · subst h2; rfl
theorem edgeI_exit {ps : List (Int × Int)} {k : Nat} (h : k = 0 ∨ roomB ps = true) (hk : k ≤ ps.length) (h2 : roomB ps = false ∨ k = ps.length) : edgeI ps = edgeTo ps k :=
  exit_of (F := edgeTo ps) h hk h2
theorem wallI_at {ps : List (Int × Int)} {k : Nat} (h : roomB ps = true) (hk : k < ps.length) : wallI ps (k : Int) = (pt ps k, pt ps ((k + 1) % ps.length)) := by
  unfold wallI
  rw [if_pos ⟨h, by omega, by omega⟩]
  rfl

/-- Is the corner reflex? -/
def reflB (ps : List (Int × Int)) (k : Nat) : Bool := decide (bendBack ps k < 0)
def reflexB (ps : List (Int × Int)) (k : Int) : Bool := roomB ps && decide (0 ≤ k ∧ k < (ps.length : Int)) && reflB ps k.toNat
/-- The reflex corners among the first k. -/
def reflTo (ps : List (Int × Int)) : Nat → List Int
  | 0 => []
  | k + 1 => if reflB ps k then reflTo ps k ++ [(k : Int)] else reflTo ps k
def reflL (ps : List (Int × Int)) : List Int := if roomB ps then reflTo ps ps.length else []
theorem reflTo_len (ps : List (Int × Int)) : ∀ k, (reflTo ps k).length ≤ k
  | 0 => by simp [reflTo]
  | k + 1 => by
    have := reflTo_len ps k
    simp only [reflTo]
    split
    · simp; omega
    · omega
theorem reflL_le (ps : List (Int × Int)) : (reflL ps).length ≤ 1048576 := by
  unfold reflL
  cases h : roomB ps
  · simp
  · have := (roomB_yes h).1
    have := reflTo_len ps ps.length
    simp only [if_true]
    omega
def convexB (ps : List (Int × Int)) : Bool := roomB ps && decide ((reflL ps).length = 0)
def turnSumI (ps : List (Int × Int)) : Int := if roomB ps then (ps.length : Int) - 2 * ((reflL ps).length : Int) else 0

def lowB (p q : Int × Int) : Bool := decide (p.2 < q.2) || decide (p.2 = q.2) && decide (p.1 < q.1)
/-- The lowest of the first k corners (0 where there is none). -/
def lowTo (ps : List (Int × Int)) : Nat → Nat
  | 0 => 0
  | k + 1 => if lowB (pt ps k) (pt ps (lowTo ps k)) then k else lowTo ps k
def lowTo0 (ps : List (Int × Int)) (k : Nat) : Int := if k = 0 then -1 else (lowTo ps k : Int)
def lowestI (ps : List (Int × Int)) : Int := if roomB ps then (lowTo ps ps.length : Int) else -1
theorem lowTo_lt (ps : List (Int × Int)) : ∀ k, lowTo ps k ≤ k - 1
  | 0 => by simp [lowTo]
  | k + 1 => by
    have := lowTo_lt ps k
    simp only [lowTo]
    split <;> omega
theorem lowTo_one (ps : List (Int × Int)) : lowTo ps 1 = 0 := ite_self _
theorem lowestI_eq (ps : List (Int × Int)) : lowestI ps = if roomB ps then lowTo0 ps ps.length else lowTo0 ps 0 := by
  unfold lowestI lowTo0
  cases h : roomB ps
  · rfl
  · have := roomB_zero h
    simp [this]
theorem lowTo0_step {ps : List (Int × Int)} {k : Nat} (h : k ≠ 0) : lowTo0 ps (k + 1) = (if lowB (pt ps k) (pt ps (lowTo ps k)) then (k : Int) else (lowTo ps k : Int)) ∧ lowTo0 ps k = (lowTo ps k : Int) := by
  unfold lowTo0
  simp only [h, if_false, Nat.add_one_ne_zero, lowTo]
  constructor
  · split <;> rfl
  · trivial
def slantB (a b : Int × Int) : Bool := decide (a.1 ≠ b.1) && decide (a.2 ≠ b.2)
def rectB (ps : List (Int × Int)) : Bool := roomB ps && (List.range ps.length).all fun k => !slantB (pt ps k) (pt ps ((k + 1) % ps.length))
end Go.Proofs.Ytcfoleiooohbhaa.AreaMath

/-
  Plain facts on the place of a point in a list of corners. No program stands here.
-/
namespace Go.Proofs.Ytcfoleiooohbhaa.PlaceMath
open PointMath WallMath RoomMath AreaMath

def btwP (p a b : Int × Int) : Bool := btwB p.1 p.2 a.1 a.2 b.1 b.2
/-- Is the point on wall number k? -/
def onK (ps : List (Int × Int)) (p : Int × Int) (k : Nat) : Bool := btwP p (pt ps k) (pt ps ((k + 1) % ps.length))
/-- Does the wall a-b pass to the right of p? An end at its height counts as above. -/
def riseB (a b p : Int × Int) : Bool := decide (a.2 < p.2) && decide (p.2 ≤ b.2) && decide (0 < turnP a b p) || decide (b.2 < p.2) && decide (p.2 ≤ a.2) && decide (turnP a b p < 0)
/-- .. An end at its height counts as below. -/
def riseS (a b p : Int × Int) : Bool := decide (a.2 ≤ p.2) && decide (p.2 < b.2) && decide (0 < turnP a b p) || decide (b.2 ≤ p.2) && decide (p.2 < a.2) && decide (turnP a b p < 0)
def parI (ps : List (Int × Int)) (p : Int × Int) : Nat → Bool
  | 0 => false
  | k + 1 => parI ps p k ^^ riseB (pt ps k) (pt ps ((k + 1) % ps.length)) p
def parS (ps : List (Int × Int)) (p : Int × Int) : Nat → Bool
  | 0 => false
  | k + 1 => parS ps p k ^^ riseS (pt ps k) (pt ps ((k + 1) % ps.length)) p
def onAny (ps : List (Int × Int)) (p : Int × Int) : Bool := (List.range ps.length).any fun k => onK ps p k
/-- 0 outside, 1 on a wall, 2 inside. -/
def placeM (ps : List (Int × Int)) (p : Int × Int) : Int := if onAny ps p then 1 else if parS ps p ps.length then 2 else 0
/-- The least index of a wall that the point is on, or -1. -/
def wallM (ps : List (Int × Int)) (p : Int × Int) : Int :=
  match (List.range ps.length).find? fun k => onK ps p k with
  | some k => (k : Int)
  | none => -1

theorem rect_at {ps : List (Int × Int)} {k : Nat} (hk : k < ps.length) (h : slantB (wallI ps k).1 (wallI ps k).2 = true) : rectB ps = false := by
  cases hr : roomB ps
  · unfold rectB; rw [hr]; rfl
  · rw [wallI_at hr hk] at h
    unfold rectB
    have : ((List.range ps.length).all fun k => !slantB (pt ps k) (pt ps ((k + 1) % ps.length))) = false := by
      rw [List.all_eq_false]
      exact ⟨k, List.mem_range.2 hk, by simp [h]⟩
    rw [this, Bool.and_false]
theorem rect_of {ps : List (Int × Int)} (h : ∀ k, k < ps.length → slantB (wallI ps k).1 (wallI ps k).2 = false) : rectB ps = roomB ps := by
  cases hr : roomB ps
  · unfold rectB; rw [hr]; rfl
  · unfold rectB
    rw [hr, Bool.true_and, List.all_eq_true]
    intro k hk
    have := h k (List.mem_range.1 hk)
    rw [wallI_at hr (List.mem_range.1 hk)] at this
    simp [this]
/-- The least index of which f holds, or -1. -/
def firstI (n : Nat) (f : Nat → Bool) : Int :=
  match (List.range n).find? f with
  | some k => (k : Int)
  | none => -1
theorem firstI_at {n : Nat} {f : Nat → Bool} {k : Nat} (hk : k < n) (h : f k = true) (h2 : ∀ j, j < k → f j = false) : firstI n f = (k : Int) := by
  unfold firstI
  have : (List.range n).find? f = some k := by
    rw [List.find?_range_eq_some]
    exact ⟨h, List.mem_range.2 hk, fun j hj => by simp [h2 j hj]⟩
  rw [this]
theorem firstI_none {n : Nat} {f : Nat → Bool} (h : ∀ k, k < n → f k = false) : firstI n f = -1 := by
  unfold firstI
  have : (List.range n).find? f = none := by
    rw [List.find?_eq_none]
    intro k hk
    simp [h k (List.mem_range.1 hk)]
  rw [this]
def cutP (a b c d : Int × Int) : Bool := cutW a.1 a.2 b.1 b.2 c.1 c.2 d.1 d.2
/-- Does wall number k cross the way a-b? -/
def cutK (ps : List (Int × Int)) (a b : Int × Int) (k : Nat) : Bool := cutP (pt ps k) (pt ps ((k + 1) % ps.length)) a b
def crossM (ps : List (Int × Int)) (a b : Int × Int) : Int := firstI ps.length (cutK ps a b)
theorem cutW_comm (ax ay bx bY cx cy dx dy : Int) : cutW ax ay bx bY cx cy dx dy = cutW cx cy dx dy ax ay bx bY := Bool.and_comm _ _
theorem cutW_point (ax ay cx cy dx dy : Int) : cutW ax ay ax ay cx cy dx dy = false := by
  unfold cutW
  have : sepW cx cy dx dy ax ay ax ay = false := by
    unfold sepW sepB
    generalize turnI cx cy dx dy ax ay = t
    rw [Bool.eq_false_iff]
    simp
    omega
  rw [this, Bool.and_false]
theorem cross_cut {ax ay bx bY cx cy dx dy : Int} (ha : okP ax ay = true) (hb : okP bx bY = true) (hw : okW cx cy dx dy = true) : crossB ax ay bx bY cx cy dx dy = cutW cx cy dx dy ax ay bx bY := by
  by_cases h : ax = bx ∧ ay = bY
  · obtain ⟨rfl, rfl⟩ := h
    rw [cutW_comm, cutW_point]
    unfold crossB okW
    simp
  · have : okW ax ay bx bY = true := by
      unfold okW
      rw [ha, hb]
      simp
      omega
    rw [crossB_cut this hw, cutW_comm]
def sideB (v p : Int × Int) : Bool := decide (v.2 = p.2) && decide (p.1 < v.1)
theorem mul_sign {d e : Int} (h : 0 < d) : (0 < d * e ↔ 0 < e) ∧ (d * e < 0 ↔ e < 0) := by
  rcases Int.lt_trichotomy e 0 with h2 | h2 | h2
  · have := Int.mul_neg_of_pos_of_neg h h2; omega
  · subst h2; simp
  · have := Int.mul_pos h h2; omega
theorem rise_side {a b p : Int × Int} (h : btwP p a b = false) : (riseB a b p ^^ riseS a b p) = (sideB a p ^^ sideB b p) := by
  obtain ⟨ax, ay⟩ := a
  obtain ⟨bx, bY⟩ := b
  obtain ⟨px, py⟩ := p
  unfold btwP btwB midB at h
  unfold riseB riseS sideB turnP
  simp only at h ⊢
  obtain ⟨t, ht⟩ : ∃ t, turnI ax ay bx bY px py = t := ⟨_, rfl⟩
  rw [ht] at h ⊢
  unfold turnI at ht
  rcases Int.lt_trichotomy ay py with h1 | h1 | h1 <;> rcases Int.lt_trichotomy bY py with h2 | h2 | h2
  · simp [show ¬ py ≤ bY by omega, show ¬ py ≤ ay by omega, show ¬ py < bY by omega, show ¬ py < ay by omega, show ¬ ay = py by omega, show ¬ bY = py by omega]
  · subst h2
    have e : t = (bY - ay) * (bx - px) := by rw [← ht, ← Int.mul_comm (bY - ay), ← Int.mul_sub]; congr 1; omega
    have := mul_sign (d := bY - ay) (e := bx - px) (by omega)
    rw [← e] at this
    simp [show ay < bY by omega, show ¬ bY < ay by omega, show ¬ bY ≤ ay by omega, show ¬ ay = bY by omega]
    omega
  · simp [show ay < py by omega, show ay ≤ py by omega, show py ≤ bY by omega, show py < bY by omega, show ¬ bY ≤ py by omega, show ¬ bY < py by omega, show ¬ ay = py by omega, show ¬ bY = py by omega]
  · subst h1
    have e : t = (ay - bY) * (px - ax) := by rw [← ht, show ay - ay = 0 by omega, Int.mul_zero, Int.zero_sub, ← Int.neg_mul]; congr 1; omega
    have := mul_sign (d := ay - bY) (e := px - ax) (by omega)
    rw [← e] at this
    simp [show bY < ay by omega, show ¬ ay < bY by omega, show ¬ ay ≤ bY by omega, show ¬ bY = ay by omega]
    omega
  · subst h1
    subst h2
    have e : t = 0 := by rw [← ht]; simp
    rw [e] at h
    simp at h
    simp
    omega
  · subst h1
    have e : t = (bY - ay) * (ax - px) := by rw [← ht, show ay - ay = 0 by omega, Int.mul_zero, Int.zero_sub, ← Int.mul_neg]; congr 1; omega
    have := mul_sign (d := bY - ay) (e := ax - px) (by omega)
    rw [← e] at this
    simp [show ay < bY by omega, show ¬ bY < ay by omega, show ¬ bY ≤ ay by omega, show ¬ bY = ay by omega]
    omega
  · simp [show bY < py by omega, show bY ≤ py by omega, show py ≤ ay by omega, show py < ay by omega, show ¬ ay ≤ py by omega, show ¬ ay < py by omega, show ¬ ay = py by omega, show ¬ bY = py by omega]
  · subst h2
    have e : t = (ay - bY) * (px - bx) := by
      rw [← ht]; grind
    have := mul_sign (d := ay - bY) (e := px - bx) (by omega)
    rw [← e] at this
    simp [show bY < ay by omega, show ¬ ay < bY by omega, show ¬ ay ≤ bY by omega, show ¬ ay = bY by omega]
    omega
  · simp [show ¬ ay ≤ py by omega, show ¬ ay < py by omega, show ¬ bY ≤ py by omega, show ¬ bY < py by omega, show ¬ ay = py by omega, show ¬ bY = py by omega]
theorem onAny_at {ps : List (Int × Int)} {p : Int × Int} {k : Nat} (hk : k < ps.length) (h : onK ps p k = true) : onAny ps p = true := by
  unfold onAny
  rw [List.any_eq_true]
  exact ⟨k, List.mem_range.2 hk, h⟩
theorem onAny_of {ps : List (Int × Int)} {p : Int × Int} (h : ∀ k, k < ps.length → onK ps p k = false) : onAny ps p = false := by
  unfold onAny
  rw [List.any_eq_false]
  intro k hk
  rw [h k (List.mem_range.1 hk)]
  simp
theorem onAny_not {ps : List (Int × Int)} {p : Int × Int} (h : onAny ps p = false) {k : Nat} (hk : k < ps.length) : onK ps p k = false := by
  cases h2 : onK ps p k
  · rfl
  · rw [onAny_at hk h2] at h; cases h
theorem par_step {ps : List (Int × Int)} {p : Int × Int} (h : onAny ps p = false) : ∀ k, k ≤ ps.length → (parI ps p k ^^ parS ps p k) = (sideB (pt ps 0) p ^^ sideB (pt ps (k % ps.length)) p)
  | 0, _ => by simp [parI, parS]
  | k + 1, hk => by
    have ih := par_step h k (by omega)
    have e := rise_side (onAny_not h (k := k) (by omega))
    rw [Nat.mod_eq_of_lt (show k < ps.length by omega)] at ih
    simp only [parI, parS]
    generalize parI ps p k = a at *
    generalize parS ps p k = b at *
    generalize riseB _ _ _ = c at *
    generalize riseS _ _ _ = d at *
    generalize sideB (pt ps 0) p = s at *
    generalize sideB (pt ps k) p = u at *
    generalize sideB _ _ = v at *
    revert ih e
    revert a b c d s u v
    decide
/-- Both ways to count the walls to the right agree at points on no wall. -/
theorem par_eq {ps : List (Int × Int)} {p : Int × Int} (h : onAny ps p = false) : parI ps p ps.length = parS ps p ps.length := by
  have := par_step h ps.length (Nat.le_refl _)
  rw [Nat.mod_self] at this
  generalize parI ps p ps.length = a at *
  generalize parS ps p ps.length = b at *
  generalize sideB _ _ = c at *
  revert a b c
  decide
theorem wallM_at {ps : List (Int × Int)} {p : Int × Int} {k : Nat} (hk : k < ps.length) (h : onK ps p k = true) (h2 : ∀ j, j < k → onK ps p j = false) : wallM ps p = (k : Int) := by
  unfold wallM
  have : (List.range ps.length).find? (fun k => onK ps p k) = some k := by
    rw [List.find?_range_eq_some]
    exact ⟨h, List.mem_range.2 hk, fun j hj => by simp [h2 j hj]⟩
  rw [this]
theorem wallM_none {ps : List (Int × Int)} {p : Int × Int} (h : ∀ k, k < ps.length → onK ps p k = false) : wallM ps p = -1 := by
  unfold wallM
  have : (List.range ps.length).find? (fun k => onK ps p k) = none := by
    rw [List.find?_eq_none]
    intro k hk
    simp [h k (List.mem_range.1 hk)]
  rw [this]
theorem wallM_neg {ps : List (Int × Int)} {p : Int × Int} : wallM ps p < 0 ↔ onAny ps p = false := by
  constructor
  · intro h
    refine onAny_of fun k hk => ?_
    cases h2 : onK ps p k
    · rfl
    · exfalso
      unfold wallM at h
      cases e : (List.range ps.length).find? fun k => onK ps p k
      · rw [List.find?_eq_none] at e
        exact e k (List.mem_range.2 hk) h2
      · rw [e] at h; simp at h; omega
  · intro h
    rw [wallM_none fun k hk => onAny_not h hk]
    decide
/-- How many of the first k walls pass to the right. -/
def crossTo (ps : List (Int × Int)) (p : Int × Int) : Nat → Nat
  | 0 => 0
  | k + 1 => if riseB (pt ps k) (pt ps ((k + 1) % ps.length)) p then crossTo ps p k + 1 else crossTo ps p k
theorem crossTo_le (ps : List (Int × Int)) (p : Int × Int) : ∀ k, crossTo ps p k ≤ k
  | 0 => Nat.le_refl _
  | k + 1 => by
    have := crossTo_le ps p k
    simp only [crossTo]
    split <;> omega
theorem crossTo_par (ps : List (Int × Int)) (p : Int × Int) : ∀ k, parI ps p k = true ↔ crossTo ps p k % 2 = 1
  | 0 => by simp [parI, crossTo]
  | k + 1 => by
    have ih := crossTo_par ps p k
    simp only [crossTo, parI]
    cases h : riseB (pt ps k) (pt ps ((k + 1) % ps.length)) p
    · simpa using ih
    · cases hp : parI ps p k
      · rw [hp] at ih
        simp at ih ⊢
        omega
      · rw [hp] at ih
        simp at ih ⊢
        omega
/-- The place, as the landed code counts. -/
theorem placeM_impl (ps : List (Int × Int)) (p : Int × Int) : placeM ps p = if 0 ≤ wallM ps p then 1 else if parI ps p ps.length then 2 else 0 := by
  have hw := wallM_neg (ps := ps) (p := p)
  unfold placeM
  cases h : onAny ps p
  · have h2 : ¬ 0 ≤ wallM ps p := by have := hw.2 h; omega
    rw [if_neg h2, par_eq h]
    simp
  · have h2 : 0 ≤ wallM ps p := by
      rcases Int.lt_or_le (wallM ps p) 0 with h2 | h2
      · rw [hw.1 h2] at h; cases h
      · exact h2
    rw [if_pos h2]
    simp
/-- Every coordinate is small. -/
def smAll (ps : List (Int × Int)) : Prop := ∀ k, k < ps.length → smP (pt ps k).1 (pt ps k).2
theorem smAll_of {ps : List (Int × Int)} (h : okAll ps = true) : smAll ps := fun _ hk => okP_sm (okAll_at h hk)
theorem placeM_on {ps : List (Int × Int)} {p : Int × Int} {k : Nat} (hk : k < ps.length) (h : onK ps p k = true) : placeM ps p = 1 := by
  unfold placeM; rw [onAny_at hk h]; rfl
theorem placeM_off {ps : List (Int × Int)} {p : Int × Int} (h : ∀ k, k < ps.length → onK ps p k = false) : placeM ps p = if parS ps p ps.length then 2 else 0 := by
  unfold placeM; rw [onAny_of h]; rfl
theorem placeM_cases (ps : List (Int × Int)) (p : Int × Int) : placeM ps p = 0 ∨ placeM ps p = 1 ∨ placeM ps p = 2 := by
  unfold placeM
  split
  · exact .inr (.inl rfl)
  · split
    · exact .inr (.inr rfl)
    · exact .inl rfl
/-- The place of a point in a room: 0 where one of them is not valid. -/
def placeI (ps : List (Int × Int)) (x y : Int) : Int := if roomB ps && okP x y then placeM ps (x, y) else 0
def inB (ps : List (Int × Int)) (x y : Int) : Bool := decide (placeI ps x y ≠ 0)
def wallAtI (ps : List (Int × Int)) (x y : Int) : Int := if roomB ps && okP x y then wallM ps (x, y) else -1
theorem wallAt_not {ps : List (Int × Int)} {x y : Int} (h : placeI ps x y ≠ 1) : wallAtI ps x y = -1 := by
  unfold placeI at h
  unfold wallAtI
  cases hb : roomB ps && okP x y
  · rfl
  · rw [hb] at h
    simp only [if_true] at h ⊢
    refine wallM_none fun k hk => ?_
    cases h2 : onK ps (x, y) k
    · rfl
    · exact absurd (placeM_on hk h2) h
theorem wallAt_on {ps : List (Int × Int)} {x y : Int} (h : placeI ps x y = 1) : roomB ps = true ∧ okP x y = true ∧ wallAtI ps x y = wallM ps (x, y) := by
  unfold placeI at h
  unfold wallAtI
  cases hb : roomB ps && okP x y
  · rw [hb] at h; simp at h
  · rw [Bool.and_eq_true] at hb
    exact ⟨hb.1, hb.2, rfl⟩
theorem inB_parts {ps : List (Int × Int)} {x y : Int} (h : inB ps x y = true) : roomB ps = true ∧ okP x y = true := by
  unfold inB placeI at h
  cases hb : roomB ps && okP x y
  · rw [hb] at h; simp at h
  · rw [Bool.and_eq_true] at hb; exact hb
def blockI (ps : List (Int × Int)) (ax ay bx bY : Int) : Int := if inB ps ax ay && inB ps bx bY then crossM ps (ax, ay) (bx, bY) else -1
/-- How many of the first k points are in the room. -/
def countTo (ps qs : List (Int × Int)) : Nat → Int
  | 0 => 0
  | k + 1 => if inB ps (pt qs k).1 (pt qs k).2 then countTo ps qs k + 1 else countTo ps qs k
theorem countTo_bound (ps qs : List (Int × Int)) : ∀ k, 0 ≤ countTo ps qs k ∧ countTo ps qs k ≤ (k : Int)
  | 0 => by simp [countTo]
  | k + 1 => by
    have := countTo_bound ps qs k
    simp only [countTo]
    split <;> omega
theorem inB_no {ps : List (Int × Int)} (h : roomB ps = false) (x y : Int) : inB ps x y = false := by
  unfold inB placeI; rw [h]; rfl
theorem countTo_no {ps : List (Int × Int)} (h : roomB ps = false) (qs : List (Int × Int)) : ∀ k, countTo ps qs k = 0
  | 0 => rfl
  | k + 1 => by simp only [countTo, inB_no h]; exact countTo_no h qs k
end Go.Proofs.Ytcfoleiooohbhaa.PlaceMath

/-
  Plain facts on the points of a room's floor. No program stands here.
-/
namespace Go.Proofs.Ytcfoleiooohbhaa.FloorMath
open PointMath WallMath RoomMath AreaMath PlaceMath

/-- The least and the greatest coordinates of the first k corners. -/
def boxTo (ps : List (Int × Int)) : Nat → (Int × Int) × (Int × Int)
  | 0 => (pt ps 0, pt ps 0)
  | k + 1 => ((min (boxTo ps k).1.1 (pt ps k).1, min (boxTo ps k).1.2 (pt ps k).2), (max (boxTo ps k).2.1 (pt ps k).1, max (boxTo ps k).2.2 (pt ps k).2))
theorem boxTo_bound {ps : List (Int × Int)} (h : okAll ps = true) (h0 : 0 < ps.length) : ∀ k, k ≤ ps.length →
    (-40 ≤ (boxTo ps k).1.1 ∧ (boxTo ps k).1.1 ≤ (boxTo ps k).2.1 ∧ (boxTo ps k).2.1 ≤ 40) ∧ (-40 ≤ (boxTo ps k).1.2 ∧ (boxTo ps k).1.2 ≤ (boxTo ps k).2.2 ∧ (boxTo ps k).2.2 ≤ 40)
  | 0, _ => by
    have q := okP_yes (okAll_at h h0)
    simp only [boxTo]
    omega
  | k + 1, hk => by
    have ih := boxTo_bound h h0 k (by omega)
    have q := okP_yes (okAll_at h (k := k) (by omega))
    simp only [boxTo]
    omega
/-- The first j points from (lx, y) on that are in the room. -/
def rowTo (ps : List (Int × Int)) (lx y : Int) : Nat → List (Int × Int)
  | 0 => []
  | j + 1 => if placeM ps (lx + j, y) = 0 then rowTo ps lx y j else rowTo ps lx y j ++ [(lx + j, y)]
/-- The first i rows. -/
def floorTo (ps : List (Int × Int)) (lx ly : Int) (w : Nat) : Nat → List (Int × Int)
  | 0 => []
  | i + 1 => floorTo ps lx ly w i ++ rowTo ps lx (ly + i) w
def widthI (ps : List (Int × Int)) : Nat := ((boxTo ps ps.length).2.1 - (boxTo ps ps.length).1.1 + 1).toNat
def heightI (ps : List (Int × Int)) : Nat := ((boxTo ps ps.length).2.2 - (boxTo ps ps.length).1.2 + 1).toNat
def floorL (ps : List (Int × Int)) : List (Int × Int) :=
  if roomB ps then floorTo ps (boxTo ps ps.length).1.1 (boxTo ps ps.length).1.2 (widthI ps) (heightI ps) else []
theorem rowTo_len (ps : List (Int × Int)) (lx y : Int) : ∀ j, (rowTo ps lx y j).length ≤ j
  | 0 => by simp [rowTo]
  | j + 1 => by
    have := rowTo_len ps lx y j
    simp only [rowTo]
    split
    · omega
    · simp; omega
theorem floorTo_len (ps : List (Int × Int)) (lx ly : Int) (w : Nat) : ∀ i, (floorTo ps lx ly w i).length ≤ i * w
  | 0 => by simp [floorTo]
  | i + 1 => by
    have h1 := floorTo_len ps lx ly w i
    have h2 := rowTo_len ps lx (ly + i) w
    simp only [floorTo, List.length_append, Nat.add_mul]
    omega
theorem floorL_le (ps : List (Int × Int)) : (floorL ps).length ≤ 1048576 := by
  unfold floorL
  cases h : roomB ps
  · simp
  · obtain ⟨h3, hok, _, _⟩ := roomB_yes h
    have hb := boxTo_bound hok (by omega) ps.length (Nat.le_refl _)
    have hl := floorTo_len ps (boxTo ps ps.length).1.1 (boxTo ps ps.length).1.2 (widthI ps) (heightI ps)
    have hw : widthI ps ≤ 81 := by unfold widthI; omega
    have hh : heightI ps ≤ 81 := by unfold heightI; omega
    have := Nat.mul_le_mul hh hw
    simp only [if_true]
    omega
end Go.Proofs.Ytcfoleiooohbhaa.FloorMath

/-
  Plain facts on the points of one line, and on a way that is cut at corners. No program stands here.
-/
namespace Go.Proofs.Ytcfoleiooohbhaa.LineMath
open PointMath WallMath RoomMath AreaMath PlaceMath

/-- Where the point lies along the way a-b. -/
def tI (a b p : Int × Int) : Int := (p.1 - a.1) * (b.1 - a.1) + (p.2 - a.2) * (b.2 - a.2)
def dI (a b : Int × Int) : Int := (b.1 - a.1) * (b.1 - a.1) + (b.2 - a.2) * (b.2 - a.2)
theorem sq_pos {x : Int} (h : x ≠ 0) : 0 < x * x := by
  rcases Int.lt_or_gt_of_ne h with h | h
  · exact Int.mul_pos_of_neg_of_neg h h
  · exact Int.mul_pos h h
theorem sq_nonneg (x : Int) : 0 ≤ x * x := by
  by_cases h : x = 0
  · subst h; simp
  · have := sq_pos h; omega
theorem dI_pos {a b : Int × Int} (h : a ≠ b) : 0 < dI a b := by
  unfold dI
  by_cases h1 : b.1 - a.1 = 0
  · have h2 : b.2 - a.2 ≠ 0 := fun e => h (Prod.ext (by omega) (by omega))
    have := sq_pos h2
    have := sq_nonneg (b.1 - a.1)
    omega
  · have := sq_pos h1
    have := sq_nonneg (b.2 - a.2)
    omega
theorem line_pt {a b p : Int × Int} (h : turnP a b p = 0) : dI a b * (p.1 - a.1) = tI a b p * (b.1 - a.1) ∧ dI a b * (p.2 - a.2) = tI a b p * (b.2 - a.2) := by
  unfold turnP turnI at h
  unfold dI tI
  constructor <;> grind
theorem line_dif {a b p q : Int × Int} (hp : turnP a b p = 0) (hq : turnP a b q = 0) :
    dI a b * (p.1 - q.1) = (tI a b p - tI a b q) * (b.1 - a.1) ∧ dI a b * (p.2 - q.2) = (tI a b p - tI a b q) * (b.2 - a.2) := by
  have h1 := line_pt hp
  have h2 := line_pt hq
  constructor <;> grind
theorem line_inj {a b p q : Int × Int} (h : a ≠ b) (hp : turnP a b p = 0) (hq : turnP a b q = 0) (e : tI a b p = tI a b q) : p = q := by
  have hd := dI_pos h
  have h1 := line_dif hp hq
  rw [e, Int.sub_self, Int.zero_mul, Int.zero_mul] at h1
  have e1 : p.1 - q.1 = 0 := (Int.mul_eq_zero.1 h1.1).resolve_left (by omega)
  have e2 : p.2 - q.2 = 0 := (Int.mul_eq_zero.1 h1.2).resolve_left (by omega)
  exact Prod.ext (by omega) (by omega)
theorem mid_iff {x a b : Int} : midB x a b = true ↔ (x - a) * (x - b) ≤ 0 := by
  unfold midB
  rw [decide_eq_true_eq]
  constructor
  · intro h
    rcases Int.le_total a b with h1 | h1
    · have := Int.mul_nonneg (show 0 ≤ x - a by omega) (show 0 ≤ b - x by omega)
      have e : (x - a) * (x - b) = -((x - a) * (b - x)) := by grind
      omega
    · have := Int.mul_nonneg (show 0 ≤ a - x by omega) (show 0 ≤ x - b by omega)
      have e : (x - a) * (x - b) = -((a - x) * (x - b)) := by grind
      omega
  · intro h
    rcases Int.lt_or_le x (min a b) with h1 | h1
    · have := Int.mul_pos_of_neg_of_neg (show x - a < 0 by omega) (show x - b < 0 by omega)
      omega
    · rcases Int.lt_or_le (max a b) x with h2 | h2
      · have := Int.mul_pos (show 0 < x - a by omega) (show 0 < x - b by omega)
        omega
      · exact ⟨h1, h2⟩
theorem mul_le_iff {x y : Int} : x * y ≤ 0 ↔ (x ≤ 0 ∧ 0 ≤ y) ∨ (0 ≤ x ∧ y ≤ 0) := by
  constructor
  · intro h
    rcases Int.lt_trichotomy x 0 with hx | hx | hx
    · rcases Int.lt_or_le y 0 with hy | hy
      · have := Int.mul_pos_of_neg_of_neg hx hy; omega
      · omega
    · omega
    · rcases Int.lt_or_le 0 y with hy | hy
      · have := Int.mul_pos hx hy; omega
      · omega
  · rintro (⟨h1, h2⟩ | ⟨h1, h2⟩)
    · have := Int.mul_nonneg (show 0 ≤ -x by omega) h2
      rw [Int.neg_mul] at this; omega
    · have := Int.mul_nonneg h1 (show 0 ≤ -y by omega)
      rw [Int.mul_neg] at this; omega
/-- Between, along a line: by the order of the places. -/
theorem btw_iff {a b p u v : Int × Int} (h : a ≠ b) (hp : turnP a b p = 0) (hu : turnP a b u = 0) (hv : turnP a b v = 0) :
    btwP p u v = true ↔ (tI a b u ≤ tI a b p ∧ tI a b p ≤ tI a b v) ∨ (tI a b v ≤ tI a b p ∧ tI a b p ≤ tI a b u) := by
  have hd := dI_pos h
  have h1 := line_dif hp hu
  have h2 := line_dif hp hv
  have h3 := line_dif hv hu
  have ht : turnI u.1 u.2 v.1 v.2 p.1 p.2 = 0 := by
    have e : (dI a b * dI a b) * turnI u.1 u.2 v.1 v.2 p.1 p.2 = 0 := by
      unfold turnI
      have e1 : (dI a b * dI a b) * ((v.1 - u.1) * (p.2 - u.2) - (v.2 - u.2) * (p.1 - u.1)) = (dI a b * (v.1 - u.1)) * (dI a b * (p.2 - u.2)) - (dI a b * (v.2 - u.2)) * (dI a b * (p.1 - u.1)) := by grind
      rw [e1, h1.1, h1.2, h3.1, h3.2]
      grind
    rcases Int.mul_eq_zero.1 e with e | e
    · rcases Int.mul_eq_zero.1 e with e | e <;> omega
    · exact e
  unfold btwP btwB
  rw [ht, decide_eq_true rfl, Bool.true_and, Bool.and_eq_true, mid_iff, mid_iff]
  generalize tI a b p = tp at *
  generalize tI a b u = tu at *
  generalize tI a b v = tv at *
  have hdd : 0 < dI a b * dI a b := Int.mul_pos hd hd
  have k1 : (dI a b * dI a b) * ((p.1 - u.1) * (p.1 - v.1)) = ((tp - tu) * (tp - tv)) * ((b.1 - a.1) * (b.1 - a.1)) := by
    rw [show (dI a b * dI a b) * ((p.1 - u.1) * (p.1 - v.1)) = (dI a b * (p.1 - u.1)) * (dI a b * (p.1 - v.1)) by grind, h1.1, h2.1]; grind
  have k2 : (dI a b * dI a b) * ((p.2 - u.2) * (p.2 - v.2)) = ((tp - tu) * (tp - tv)) * ((b.2 - a.2) * (b.2 - a.2)) := by
    rw [show (dI a b * dI a b) * ((p.2 - u.2) * (p.2 - v.2)) = (dI a b * (p.2 - u.2)) * (dI a b * (p.2 - v.2)) by grind, h1.2, h2.2]; grind
  have goal : (tu ≤ tp ∧ tp ≤ tv ∨ tv ≤ tp ∧ tp ≤ tu) ↔ (tp - tu) * (tp - tv) ≤ 0 := by
    rw [mul_le_iff]; omega
  rw [goal]
  have hs1 := sq_nonneg (b.1 - a.1)
  have hs2 := sq_nonneg (b.2 - a.2)
  have hsum : 0 < (b.1 - a.1) * (b.1 - a.1) + (b.2 - a.2) * (b.2 - a.2) := hd
  generalize (tp - tu) * (tp - tv) = m at *
  generalize (b.1 - a.1) * (b.1 - a.1) = s1 at *
  generalize (b.2 - a.2) * (b.2 - a.2) = s2 at *
  generalize (p.1 - u.1) * (p.1 - v.1) = m1 at *
  generalize (p.2 - u.2) * (p.2 - v.2) = m2 at *
  generalize dI a b * dI a b = D at *
  constructor
  · rintro ⟨g1, g2⟩
    rcases Int.lt_or_le 0 m with hm | hm
    · exfalso
      have q1 : D * m1 ≤ 0 := by rw [mul_le_iff]; omega
      have q2 : D * m2 ≤ 0 := by rw [mul_le_iff]; omega
      have e : D * m1 + D * m2 = m * (s1 + s2) := by rw [k1, k2, Int.mul_add]
      have := Int.mul_pos hm hsum
      omega
    · exact hm
  · intro g
    have q1 : m * s1 ≤ 0 := by rw [mul_le_iff]; omega
    have q2 : m * s2 ≤ 0 := by rw [mul_le_iff]; omega
    rw [← k1, mul_le_iff] at q1
    rw [← k2, mul_le_iff] at q2
    omega
theorem btw_self {p u : Int × Int} (h : btwP p u u = true) : p = u := by
  unfold btwP btwB at h
  simp only [Bool.and_eq_true, midB, decide_eq_true_eq] at h
  exact Prod.ext (by omega) (by omega)
theorem btw_left (u v : Int × Int) : btwP u u v = true := by
  unfold btwP btwB midB turnI
  simp only [Bool.and_eq_true, decide_eq_true_eq, Int.sub_self, Int.mul_zero, Int.sub_self, true_and]
  omega
theorem btw_line {a b p : Int × Int} (h : btwP p a b = true) : turnP a b p = 0 := by
  unfold btwP btwB at h
  simp only [Bool.and_eq_true, decide_eq_true_eq] at h
  exact h.1.1
/-- What lies between two points of a line lies on it. -/
theorem btw_on {a b p u v : Int × Int} (h : a ≠ b) (hu : turnP a b u = 0) (hv : turnP a b v = 0) (hp : btwP p u v = true) : turnP a b p = 0 := by
  by_cases e : u = v
  · subst e
    rw [btw_self hp]; exact hu
  · have h3 := line_dif hv hu
    have hne : tI a b v - tI a b u ≠ 0 := fun z => e (line_inj h hu hv (by omega))
    have ht := btw_line hp
    unfold turnP turnI at ht hu ⊢
    have e1 : (tI a b v - tI a b u) * ((b.1 - a.1) * (p.2 - u.2) - (b.2 - a.2) * (p.1 - u.1)) = 0 := by
      have : dI a b * ((v.1 - u.1) * (p.2 - u.2) - (v.2 - u.2) * (p.1 - u.1)) = (dI a b * (v.1 - u.1)) * (p.2 - u.2) - (dI a b * (v.2 - u.2)) * (p.1 - u.1) := by grind
      rw [ht, Int.mul_zero, h3.1, h3.2] at this
      grind
    have e2 := (Int.mul_eq_zero.1 e1).resolve_left hne
    grind
theorem turn_ends (a b : Int × Int) : turnP a b a = 0 ∧ turnP a b b = 0 := by
  unfold turnP turnI
  constructor <;> grind
theorem tI_ends {a b : Int × Int} (h : a ≠ b) : tI a b a = 0 ∧ 0 < tI a b b := by
  constructor
  · unfold tI; simp
  · exact dI_pos h
end Go.Proofs.Ytcfoleiooohbhaa.LineMath

/-
  Plain facts on a way that is cut at corners: its pieces, one after the other, are the pairs of neighbors. No program stands here.
-/
namespace Go.Proofs.Ytcfoleiooohbhaa.CutsMath
open PointMath WallMath RoomMath AreaMath PlaceMath LineMath

def gt (L : List ((Int × Int) × (Int × Int))) (j : Nat) : (Int × Int) × (Int × Int) := L.getD j ((0, 0), (0, 0))
def holdK (L : List ((Int × Int) × (Int × Int))) (p : Int × Int) (j : Nat) : Bool := btwP p (gt L j).1 (gt L j).2
def firstH (L : List ((Int × Int) × (Int × Int))) (p : Int × Int) : Option Nat := (List.range L.length).find? (holdK L p)
/-- The first piece that holds the point is cut there. -/
def split (L : List ((Int × Int) × (Int × Int))) (p : Int × Int) : List ((Int × Int) × (Int × Int)) :=
  match firstH L p with
  | none => L
  | some k => L.set k ((gt L k).1, p) ++ [(p, (gt L k).2)]
/-- The pieces after the first k corners. -/
def cutTo (cs : List (Int × Int)) (w : (Int × Int) × (Int × Int)) : Nat → List ((Int × Int) × (Int × Int))
  | 0 => [w]
  | k + 1 => split (cutTo cs w k) (pt cs k)

theorem split_none {L : List ((Int × Int) × (Int × Int))} {p : Int × Int} (h : firstH L p = none) : split L p = L := by unfold split; rw [h]
theorem split_some {L : List ((Int × Int) × (Int × Int))} {p : Int × Int} {k : Nat} (h : firstH L p = some k) : split L p = L.set k ((gt L k).1, p) ++ [(p, (gt L k).2)] := by unfold split; rw [h]
theorem firstH_some {L : List ((Int × Int) × (Int × Int))} {p : Int × Int} {k : Nat} (h : firstH L p = some k) : k < L.length ∧ holdK L p k = true := by
  unfold firstH at h
  rw [List.find?_range_eq_some] at h
  exact ⟨List.mem_range.1 h.2.1, h.1⟩
theorem firstH_none {L : List ((Int × Int) × (Int × Int))} {p : Int × Int} (h : firstH L p = none) {k : Nat} (hk : k < L.length) : holdK L p k = false := by
  unfold firstH at h
  rw [List.find?_eq_none] at h
  simpa using h k (List.mem_range.2 hk)
theorem firstH_at {L : List ((Int × Int) × (Int × Int))} {p : Int × Int} {k : Nat} (hk : k < L.length) (h : holdK L p k = true) (h2 : ∀ j, j < k → holdK L p j = false) : firstH L p = some k := by
  unfold firstH
  rw [List.find?_range_eq_some]
  exact ⟨h, List.mem_range.2 hk, fun j hj => by simp [h2 j hj]⟩
theorem firstH_of {L : List ((Int × Int) × (Int × Int))} {p : Int × Int} (h : ∀ j, j < L.length → holdK L p j = false) : firstH L p = none := by
  unfold firstH
  rw [List.find?_eq_none]
  intro k hk
  simp [h k (List.mem_range.1 hk)]
theorem split_len {L : List ((Int × Int) × (Int × Int))} {p : Int × Int} : L.length ≤ (split L p).length ∧ (split L p).length ≤ L.length + 1 := by
  cases h : firstH L p
  · rw [split_none h]; omega
  · rw [split_some h]; simp
theorem cutTo_len (cs : List (Int × Int)) (w : (Int × Int) × (Int × Int)) : ∀ k, 1 ≤ (cutTo cs w k).length ∧ (cutTo cs w k).length ≤ k + 1
  | 0 => by simp [cutTo]
  | k + 1 => by
    have := cutTo_len cs w k
    have := split_len (L := cutTo cs w k) (p := pt cs k)
    simp only [cutTo]
    omega
theorem gt_set {L : List ((Int × Int) × (Int × Int))} {k j : Nat} {x y : (Int × Int) × (Int × Int)} (hk : k < L.length) :
    gt (L.set k x ++ [y]) j = if j = k then x else if j = L.length then y else gt L j := by
  unfold gt
  rw [List.getD_eq_getElem?_getD, List.getD_eq_getElem?_getD, List.getElem?_append, List.length_set]
  by_cases h1 : j < L.length
  · rw [if_pos h1, List.getElem?_set]
    by_cases h2 : j = k
    · subst h2; simp [h1]
    · rw [if_neg (fun e => h2 e.symm), if_neg h2, if_neg (by omega)]
  · rw [if_neg h1, if_neg (show ¬ j = k by omega)]
    by_cases h3 : j = L.length
    · subst h3; simp
    · rw [if_neg h3, List.getElem?_eq_none (by simp; omega), List.getElem?_eq_none (by omega)]

/-- The pieces of the way a-b that is cut at the points of S. -/
structure Inv (a b : Int × Int) (S : Int × Int → Prop) (L : List ((Int × Int) × (Int × Int))) : Prop where
  on : ∀ s, S s → turnP a b s = 0 ∧ 0 ≤ tI a b s ∧ tI a b s ≤ tI a b b
  sb : S b
  ends : ∀ j, j < L.length → S (gt L j).1 ∧ S (gt L j).2
  ord : ∀ j, j < L.length → tI a b (gt L j).1 ≤ tI a b (gt L j).2
  empt : ∀ j, j < L.length → ∀ s, S s → tI a b (gt L j).1 ≤ tI a b s → tI a b s ≤ tI a b (gt L j).2 → s = (gt L j).1 ∨ s = (gt L j).2
  cov : ∀ t, 0 ≤ t → t < tI a b b → ∃ j, j < L.length ∧ tI a b (gt L j).1 ≤ t ∧ t < tI a b (gt L j).2
  dis : ∀ i, i < L.length → ∀ j, j < L.length → i ≠ j → ∀ t, tI a b (gt L i).1 ≤ t → t ≤ tI a b (gt L i).2 → tI a b (gt L j).1 ≤ t → t ≤ tI a b (gt L j).2 → t = tI a b (gt L i).1 ∨ t = tI a b (gt L i).2

theorem Inv.hold {a b : Int × Int} {S : Int × Int → Prop} {L : List ((Int × Int) × (Int × Int))} (hab : a ≠ b) (I : Inv a b S L) {p : Int × Int} {j : Nat} (hj : j < L.length) :
    holdK L p j = true ↔ turnP a b p = 0 ∧ tI a b (gt L j).1 ≤ tI a b p ∧ tI a b p ≤ tI a b (gt L j).2 := by
  have e := I.ends j hj
  have o := I.ord j hj
  have h1 := (I.on _ e.1).1
  have h2 := (I.on _ e.2).1
  constructor
  · intro h
    have hp := btw_on hab h1 h2 h
    have := (btw_iff hab hp h1 h2).1 h
    exact ⟨hp, by omega⟩
  · rintro ⟨hp, h3⟩
    exact (btw_iff hab hp h1 h2).2 (.inl h3)

theorem inv_start {a b : Int × Int} (hab : a ≠ b) : Inv a b (fun s => s = a ∨ s = b) [(a, b)] := by
  have e := turn_ends a b
  have t := tI_ends hab
  have g : gt [(a, b)] 0 = (a, b) := rfl
  refine ⟨?_, .inr rfl, ?_, ?_, ?_, ?_, ?_⟩
  · rintro s (rfl | rfl)
    · exact ⟨e.1, by omega, by omega⟩
    · exact ⟨e.2, by omega, by omega⟩
  · intro j hj
    obtain rfl : j = 0 := by simpa using hj
    rw [g]; exact ⟨.inl rfl, .inr rfl⟩
  · intro j hj
    obtain rfl : j = 0 := by simpa using hj
    rw [g]; simp only; omega
  · intro j hj s hs _ _
    obtain rfl : j = 0 := by simpa using hj
    rw [g]; exact hs
  · intro x h1 h2
    refine ⟨0, by simp, ?_⟩
    rw [g]; simp only; omega
  · intro i hi j hj hne
    have : i = 0 := by simpa using hi
    have : j = 0 := by simpa using hj
    omega

theorem inv_step {a b : Int × Int} (hab : a ≠ b) {S : Int × Int → Prop} {L : List ((Int × Int) × (Int × Int))} (I : Inv a b S L) (p : Int × Int) :
    Inv a b (fun s => S s ∨ (s = p ∧ btwP p a b = true)) (split L p) := by
  have te := turn_ends a b
  have ta := tI_ends hab
  cases h : firstH L p with
  | none =>
    rw [split_none h]
    have hs : ∀ s, (S s ∨ (s = p ∧ btwP p a b = true)) → S s := by
      rintro s (hs | ⟨rfl, hp⟩)
      · exact hs
      · have hl := btw_line hp
        have ht := (btw_iff hab hl te.1 te.2).1 hp
        by_cases e : tI a b s = tI a b b
        · rw [line_inj hab hl te.2 e]; exact I.sb
        · obtain ⟨j, hj, h1, h2⟩ := I.cov (tI a b s) (by omega) (by omega)
          have := (I.hold hab hj).2 ⟨hl, h1, by omega⟩
          rw [firstH_none h hj] at this
          cases this
    exact ⟨fun s q => I.on s (hs s q), .inl I.sb, fun j hj => ⟨.inl (I.ends j hj).1, .inl (I.ends j hj).2⟩, I.ord, fun j hj s q => I.empt j hj s (hs s q), I.cov, I.dis⟩
  | some k =>
    obtain ⟨hk, hh⟩ := firstH_some h
    rw [split_some h]
    obtain ⟨hl, hu, hv⟩ := (I.hold hab hk).1 hh
    have ek := I.ends k hk
    have ou := I.on _ ek.1
    have ov := I.on _ ek.2
    have hp : btwP p a b = true := (btw_iff hab hl te.1 te.2).2 (by omega)
    have G := fun j => gt_set (L := L) (k := k) (j := j) (x := ((gt L k).1, p)) (y := (p, (gt L k).2)) hk
    have hlen : (L.set k ((gt L k).1, p) ++ [(p, (gt L k).2)]).length = L.length + 1 := by simp
    have D1 := fun j hj hne => I.dis k hk j hj hne
    have D2 := fun j hj hne => I.dis j hj k hk hne
    have E := I.empt k hk
    generalize hgk : gt L k = q at *
    obtain ⟨u, v⟩ := q
    simp only at hu hv ek ou ov G hlen D1 D2 E ⊢
    generalize hN : L.set k (u, p) ++ [(p, v)] = N at *
    have Gk : gt N k = (u, p) := by rw [G, if_pos rfl]
    have Gl : gt N L.length = (p, v) := by rw [G, if_neg (by omega), if_pos rfl]
    have Go : ∀ j, j < L.length → j ≠ k → gt N j = gt L j := fun j hj hne => by rw [G, if_neg hne, if_neg (by omega)]
    have cases3 : ∀ j, j < N.length → j = k ∨ j = L.length ∨ (j < L.length ∧ j ≠ k) := fun j hj => by omega
    refine ⟨?_, .inl I.sb, ?_, ?_, ?_, ?_, ?_⟩
    · rintro s (hs | ⟨rfl, _⟩)
      · exact I.on s hs
      · exact ⟨hl, by omega, by omega⟩
    · intro j hj
      rcases cases3 j hj with rfl | rfl | ⟨hj, hne⟩
      · rw [Gk]; exact ⟨.inl ek.1, .inr ⟨rfl, hp⟩⟩
      · rw [Gl]; exact ⟨.inr ⟨rfl, hp⟩, .inl ek.2⟩
      · rw [Go j hj hne]; exact ⟨.inl (I.ends j hj).1, .inl (I.ends j hj).2⟩
    · intro j hj
      rcases cases3 j hj with rfl | rfl | ⟨hj, hne⟩
      · rw [Gk]; exact hu
      · rw [Gl]; exact hv
      · rw [Go j hj hne]; exact I.ord j hj
    · intro j hj s hs
      rcases cases3 j hj with rfl | rfl | ⟨hj, hne⟩
      · rw [Gk]; simp only
        intro h1 h2
        rcases hs with hs | ⟨rfl, _⟩
        · rcases E s hs h1 (by omega) with e | e
          · exact .inl e
          · subst e
            exact .inr (line_inj hab ov.1 hl (by omega))
        · exact .inr rfl
      · rw [Gl]; simp only
        intro h1 h2
        rcases hs with hs | ⟨rfl, _⟩
        · rcases E s hs (by omega) h2 with e | e
          · subst e
            exact .inl (line_inj hab ou.1 hl (by omega))
          · exact .inr e
        · exact .inl rfl
      · rw [Go j hj hne]
        intro h1 h2
        rcases hs with hs | ⟨rfl, _⟩
        · exact I.empt j hj s hs h1 h2
        · have en := I.ends j hj
          rcases D2 j hj hne (tI a b s) h1 h2 hu hv with e | e
          · exact .inl (line_inj hab hl (I.on _ en.1).1 e)
          · exact .inr (line_inj hab hl (I.on _ en.2).1 e)
    · intro t h1 h2
      obtain ⟨j, hj, h3, h4⟩ := I.cov t h1 h2
      by_cases e : j = k
      · subst e
        rw [hgk] at h3 h4
        simp only at h3 h4
        by_cases e2 : t < tI a b p
        · exact ⟨j, by omega, by rw [Gk]; exact ⟨h3, e2⟩⟩
        · exact ⟨L.length, by omega, by rw [Gl]; simp only; omega⟩
      · exact ⟨j, by omega, by rw [Go j hj e]; exact ⟨h3, h4⟩⟩
    · intro i hi j hj hij t
      rcases cases3 i hi with rfl | rfl | ⟨hi, hni⟩
      · rcases cases3 j hj with rfl | rfl | ⟨hj, hne⟩
        · exact absurd rfl hij
        · rw [Gk, Gl]; simp only; omega
        · rw [Gk, Go j hj hne]; simp only
          intro h1 h2 h3 h4
          rcases D1 j hj (by omega) t h1 (by omega) h3 h4 with e | e <;> omega
      · rcases cases3 j hj with rfl | rfl | ⟨hj, hne⟩
        · rw [Gk, Gl]; simp only; omega
        · exact absurd rfl hij
        · rw [Gl, Go j hj hne]; simp only
          intro h1 h2 h3 h4
          rcases D1 j hj (by omega) t (by omega) h2 h3 h4 with e | e <;> omega
      · rcases cases3 j hj with rfl | rfl | ⟨hj, hne⟩
        · rw [Gk, Go i hi hni]; simp only
          intro h1 h2 h3 h4
          exact D2 i hi hni t h1 h2 h3 (by omega)
        · rw [Gl, Go i hi hni]; simp only
          intro h1 h2 h3 h4
          exact D2 i hi hni t h1 h2 (by omega) h4
        · rw [Go i hi hni, Go j hj hne]
          exact I.dis i hi j hj hij t

/-- The ends of the way, and those of the first k corners that lie on it. -/
def onWay (cs : List (Int × Int)) (a b : Int × Int) (k : Nat) (s : Int × Int) : Prop := s = a ∨ s = b ∨ ∃ j, j < k ∧ s = pt cs j ∧ btwP s a b = true
theorem Inv.congr {a b : Int × Int} {S S' : Int × Int → Prop} {L : List ((Int × Int) × (Int × Int))} (h : ∀ s, S s ↔ S' s) (I : Inv a b S L) : Inv a b S' L := by
  have : S = S' := funext fun s => propext (h s)
  rw [← this]; exact I
theorem cut_inv {a b : Int × Int} (hab : a ≠ b) (cs : List (Int × Int)) : ∀ k, Inv a b (onWay cs a b k) (cutTo cs (a, b) k)
  | 0 => (inv_start hab).congr (fun s => by unfold onWay; simp)
  | k + 1 => by
    refine (inv_step hab (cut_inv hab cs k) (pt cs k)).congr fun s => ?_
    unfold onWay
    constructor
    · rintro ((h | h | ⟨j, hj, e, hb⟩) | ⟨e, hb⟩)
      · exact .inl h
      · exact .inr (.inl h)
      · exact .inr (.inr ⟨j, by omega, e, hb⟩)
      · exact .inr (.inr ⟨k, by omega, e, by rw [e]; exact hb⟩)
    · rintro (h | h | ⟨j, hj, e, hb⟩)
      · exact .inl (.inl h)
      · exact .inl (.inr (.inl h))
      · by_cases hjk : j = k
        · subst hjk
          exact .inr ⟨e, by rw [← e]; exact hb⟩
        · exact .inl (.inr (.inr ⟨j, by omega, e, hb⟩))
/-- A way of one point has no other pieces. -/
theorem cut_point {a : Int × Int} (cs : List (Int × Int)) : ∀ k j, j < (cutTo cs (a, a) k).length → gt (cutTo cs (a, a) k) j = (a, a)
  | 0, j, hj => by
    obtain rfl : j = 0 := by simpa [cutTo] using hj
    rfl
  | k + 1, j, hj => by
    have ih := cut_point (a := a) cs k
    simp only [cutTo] at hj ⊢
    generalize cutTo cs (a, a) k = L at *
    cases h : firstH L (pt cs k) with
    | none => rw [split_none h] at hj ⊢; exact ih j hj
    | some i =>
      obtain ⟨hi, hh⟩ := firstH_some h
      rw [split_some h] at hj ⊢
      unfold holdK at hh
      rw [ih i hi] at hh ⊢
      have e := btw_self hh
      rw [gt_set hi, e]
      simp at hj
      split
      · rfl
      · split
        · rfl
        · exact ih j (by omega)

def addP (u v : Int × Int) : Int × Int := (u.1 + v.1, u.2 + v.2)
theorem addP_comm (u v : Int × Int) : addP u v = addP v u := by unfold addP; rw [Int.add_comm u.1, Int.add_comm u.2]
/-- The points at which the model cuts the way. -/
def cutsTo (cs : List (Int × Int)) (a b : Int × Int) : Nat → List (Int × Int)
  | 0 => [a, b]
  | k + 1 => if decide (pt cs k ≠ a) && decide (pt cs k ≠ b) && btwP (pt cs k) a b then cutsTo cs a b k ++ [pt cs k] else cutsTo cs a b k
def freeB (C : List (Int × Int)) (i k : Nat) : Bool := (List.range C.length).all fun j => decide (j = i) || decide (j = k) || !btwP (pt C j) (pt C i) (pt C k)
theorem cutsTo_len (cs : List (Int × Int)) (a b : Int × Int) : ∀ k, 2 ≤ (cutsTo cs a b k).length ∧ (cutsTo cs a b k).length ≤ k + 2
  | 0 => by simp [cutsTo]
  | k + 1 => by
    have := cutsTo_len cs a b k
    simp only [cutsTo]
    split
    · simp; omega
    · omega
theorem cutsTo_mem (cs : List (Int × Int)) (a b : Int × Int) : ∀ k s, s ∈ cutsTo cs a b k ↔ onWay cs a b k s
  | 0, s => by simp [cutsTo, onWay]
  | k + 1, s => by
    have ih := cutsTo_mem cs a b k s
    have e : onWay cs a b (k + 1) s ↔ onWay cs a b k s ∨ (s = pt cs k ∧ btwP s a b = true) := by
      unfold onWay
      constructor
      · rintro (h | h | ⟨j, hj, e, hb⟩)
        · exact .inl (.inl h)
        · exact .inl (.inr (.inl h))
        · by_cases hjk : j = k
          · subst hjk; exact .inr ⟨e, hb⟩
          · exact .inl (.inr (.inr ⟨j, by omega, e, hb⟩))
      · rintro ((h | h | ⟨j, hj, e, hb⟩) | ⟨e, hb⟩)
        · exact .inl h
        · exact .inr (.inl h)
        · exact .inr (.inr ⟨j, by omega, e, hb⟩)
        · exact .inr (.inr ⟨k, by omega, e, hb⟩)
    rw [e, ← ih]
    simp only [cutsTo]
    split
    · rename_i h
      simp only [Bool.and_eq_true, decide_eq_true_eq] at h
      simp only [List.mem_append, List.mem_singleton]
      constructor
      · rintro (h1 | h1)
        · exact .inl h1
        · exact .inr ⟨h1, by rw [h1]; exact h.2⟩
      · rintro (h1 | h1)
        · exact .inl h1
        · exact .inr h1.1
    · rename_i h
      constructor
      · exact .inl
      · rintro (h1 | ⟨e1, h1⟩)
        · exact h1
        · rw [ih]
          rw [← e1, h1] at h
          simp only [Bool.and_true, Bool.and_eq_true, decide_eq_true_eq, not_and, Decidable.not_not] at h
          by_cases ea : s = a
          · exact .inl ea
          · exact .inr (.inl (h ea))
/-- No point stands twice in the list. -/
def Once (C : List (Int × Int)) : Prop := ∀ i, i < C.length → ∀ j, j < C.length → pt C i = pt C j → i = j
theorem pt_append {C : List (Int × Int)} {x : Int × Int} {j : Nat} : pt (C ++ [x]) j = if j < C.length then pt C j else if j = C.length then x else (0, 0) := by
  unfold pt
  rw [List.getD_eq_getElem?_getD, List.getD_eq_getElem?_getD, List.getElem?_append]
  by_cases h1 : j < C.length
  · rw [if_pos h1, if_pos h1]
  · rw [if_neg h1, if_neg h1]
    by_cases h2 : j = C.length
    · subst h2; simp
    · rw [if_neg h2, List.getElem?_eq_none (by simp; omega)]; rfl
theorem pt_mem {C : List (Int × Int)} {j : Nat} (h : j < C.length) : pt C j ∈ C := List.mem_of_getElem? (pt_at h)
theorem mem_pt {C : List (Int × Int)} {s : Int × Int} (h : s ∈ C) : ∃ j, j < C.length ∧ pt C j = s := by
  obtain ⟨k, hk, e⟩ := List.mem_iff_getElem.1 h
  refine ⟨k, hk, ?_⟩
  have := pt_at hk
  rw [List.getElem?_eq_getElem hk, e] at this
  injection this with this
  exact this.symm
theorem once_append {C : List (Int × Int)} {x : Int × Int} (h : Once C) (hx : ¬ x ∈ C) : Once (C ++ [x]) := by
  intro i hi j hj e
  simp at hi hj
  rw [pt_append, pt_append] at e
  by_cases h1 : i < C.length
  · by_cases h2 : j < C.length
    · rw [if_pos h1, if_pos h2] at e
      exact h i h1 j h2 e
    · rw [if_pos h1, if_neg h2, if_pos (by omega)] at e
      exact absurd (e ▸ pt_mem h1) hx
  · by_cases h2 : j < C.length
    · rw [if_neg h1, if_pos h2, if_pos (show i = C.length by omega)] at e
      exact absurd (e ▸ pt_mem h2) hx
    · omega
theorem cutsTo_once {cs : List (Int × Int)} {a b : Int × Int} (hab : a ≠ b) (hc : Once cs) : ∀ k, k ≤ cs.length → Once (cutsTo cs a b k)
  | 0, _ => by
    intro i hi j hj e
    have h2 : (cutsTo cs a b 0).length = 2 := rfl
    have e0 : pt (cutsTo cs a b 0) 0 = a := rfl
    have e1 : pt (cutsTo cs a b 0) 1 = b := rfl
    have hi2 : i = 0 ∨ i = 1 := by omega
    have hj2 : j = 0 ∨ j = 1 := by omega
    rcases hi2 with rfl | rfl <;> rcases hj2 with rfl | rfl
    · rfl
    · rw [e0, e1] at e; exact absurd e hab
    · rw [e0, e1] at e; exact absurd e.symm hab
    · rfl
  | k + 1, hk => by
    have ih := cutsTo_once hab hc k (by omega)
    have hm := cutsTo_mem cs a b k (pt cs k)
    simp only [cutsTo]
    split
    · rename_i h
      simp only [Bool.and_eq_true, decide_eq_true_eq] at h
      refine once_append ih fun hx => ?_
      rcases hm.1 hx with h1 | h1 | ⟨j, hj, h1, _⟩
      · exact h.1.1 h1
      · exact h.1.2 h1
      · have := hc k (by omega) j (by omega) h1
        omega
    · exact ih

/-- The pieces are good just if the free pairs are. -/
theorem pieces_pairs {a b : Int × Int} (hab : a ≠ b) {S : Int × Int → Prop} {L : List ((Int × Int) × (Int × Int))} (I : Inv a b S L) {C : List (Int × Int)} (hC : ∀ s, s ∈ C ↔ S s) (ho : Once C)
    {F : Int × Int → Bool} (hF : ∀ s, S s → F (addP s s) = true) :
    (∀ j, j < L.length → F (addP (gt L j).1 (gt L j).2) = true) ↔ (∀ i, i < C.length → ∀ k, k < i → freeB C i k = true → F (addP (pt C i) (pt C k)) = true) := by
  have bt : ∀ {p u v}, S p → S u → S v → (btwP p u v = true ↔ (tI a b u ≤ tI a b p ∧ tI a b p ≤ tI a b v) ∨ (tI a b v ≤ tI a b p ∧ tI a b p ≤ tI a b u)) :=
    fun h1 h2 h3 => btw_iff hab (I.on _ h1).1 (I.on _ h2).1 (I.on _ h3).1
  have inj : ∀ {p q}, S p → S q → tI a b p = tI a b q → p = q := fun h1 h2 e => line_inj hab (I.on _ h1).1 (I.on _ h2).1 e
  have SC : ∀ {j}, j < C.length → S (pt C j) := fun h => (hC _).1 (pt_mem h)
  constructor
  · intro H
    -- two neighbors x before y: they are a piece
    have key : ∀ x y, S x → S y → tI a b x < tI a b y → (∀ s, S s → tI a b x ≤ tI a b s → tI a b s ≤ tI a b y → s = x ∨ s = y) → F (addP x y) = true := by
      intro x y hx hy hxy hn
      have ox := I.on x hx
      have oy := I.on y hy
      obtain ⟨j, hj, h1, h2⟩ := I.cov (tI a b x) ox.2.1 (by omega)
      have en := I.ends j hj
      have e1 : x = (gt L j).1 := by
        rcases I.empt j hj x hx h1 (by omega) with e | e
        · exact e
        · rw [← e] at h2; omega
      have e2 : (gt L j).2 = y := by
        by_cases h3 : tI a b (gt L j).2 ≤ tI a b y
        · rcases hn _ en.2 (by omega) h3 with e | e
          · rw [e] at h2; omega
          · exact e
        · rcases I.empt j hj y hy (by omega) (by omega) with e | e
          · rw [e, ← e1] at hxy; omega
          · exact e.symm
      have := H j hj
      rw [← e1, e2] at this
      exact this
    intro i hi k hk hfree
    have si := SC hi
    have sk := SC (show k < C.length by omega)
    have near : ∀ s, S s → (tI a b (pt C i) ≤ tI a b s ∧ tI a b s ≤ tI a b (pt C k)) ∨ (tI a b (pt C k) ≤ tI a b s ∧ tI a b s ≤ tI a b (pt C i)) → s = pt C i ∨ s = pt C k := by
      intro s hs hb
      obtain ⟨j, hj, e⟩ := mem_pt ((hC s).2 hs)
      unfold freeB at hfree
      rw [List.all_eq_true] at hfree
      have := hfree j (List.mem_range.2 hj)
      rw [e, (bt hs si sk).2 hb] at this
      simp at this
      rcases this with rfl | rfl
      · exact .inl e.symm
      · exact .inr e.symm
    rcases Int.lt_trichotomy (tI a b (pt C i)) (tI a b (pt C k)) with h | h | h
    · exact key _ _ si sk h (fun s hs h1 h2 => near s hs (.inl ⟨h1, h2⟩))
    · have := ho i hi k (by omega) (inj si sk h)
      omega
    · rw [addP_comm]
      exact key _ _ sk si h (fun s hs h1 h2 => (near s hs (.inr ⟨h1, h2⟩)).symm)
  · intro H j hj
    have en := I.ends j hj
    have od := I.ord j hj
    by_cases e : (gt L j).1 = (gt L j).2
    · rw [← e]; exact hF _ en.1
    · obtain ⟨i1, h1, e1⟩ := mem_pt ((hC _).2 en.1)
      obtain ⟨i2, h2, e2⟩ := mem_pt ((hC _).2 en.2)
      have em := I.empt j hj
      rw [← e1, ← e2] at em od e ⊢
      have s1 := SC h1
      have s2 := SC h2
      have hne : i1 ≠ i2 := fun z => e (by rw [z])
      have fr : ∀ j, j < C.length → (j = i1 ∨ j = i2) ∨ btwP (pt C j) (pt C i1) (pt C i2) = false := by
        intro j hj
        cases hb : btwP (pt C j) (pt C i1) (pt C i2)
        · exact .inr rfl
        · left
          have := (bt (SC hj) s1 s2).1 hb
          rcases em _ (SC hj) (by omega) (by omega) with q | q
          · exact .inl (ho _ hj _ h1 q)
          · exact .inr (ho _ hj _ h2 q)
      rcases Nat.lt_or_gt_of_ne hne with hlt | hlt
      · rw [addP_comm]
        refine H i2 h2 i1 hlt ?_
        unfold freeB
        rw [List.all_eq_true]
        intro j hj
        rcases fr j (List.mem_range.1 hj) with (q | q) | q
        · simp [q]
        · simp [q]
        · have : btwP (pt C j) (pt C i2) (pt C i1) = false := by
            cases hb : btwP (pt C j) (pt C i2) (pt C i1)
            · rfl
            · have hj := List.mem_range.1 hj
              rw [(bt (SC hj) s1 s2).2 ((bt (SC hj) s2 s1).1 hb).symm] at q
              cases q
          simp [this]
      · refine H i1 h1 i2 hlt ?_
        unfold freeB
        rw [List.all_eq_true]
        intro j hj
        rcases fr j (List.mem_range.1 hj) with (q | q) | q
        · simp [q]
        · simp [q]
        · simp [q]
end Go.Proofs.Ytcfoleiooohbhaa.CutsMath

/-
  Plain facts on sights: the landed way to ask (pieces of a doubled way) and the model's (free pairs) agree. No program stands here.
-/
namespace Go.Proofs.Ytcfoleiooohbhaa.SightMath
open PointMath WallMath RoomMath AreaMath PlaceMath FloorMath LineMath CutsMath

def dblP (p : Int × Int) : Int × Int := (2 * p.1, 2 * p.2)
def dblL (cs : List (Int × Int)) : List (Int × Int) := cs.map dblP
theorem dblL_len (cs : List (Int × Int)) : (dblL cs).length = cs.length := by unfold dblL; simp
theorem dblL_pt (cs : List (Int × Int)) (k : Nat) : pt (dblL cs) k = dblP (pt cs k) := by
  unfold pt dblL
  rw [List.getD_eq_getElem?_getD, List.getD_eq_getElem?_getD, List.getElem?_map]
  cases cs[k]? <;> rfl
theorem turn_dbl (a b c : Int × Int) : turnP (dblP a) (dblP b) (dblP c) = 4 * turnP a b c := by
  unfold turnP turnI dblP
  simp only
  grind
theorem mid_dbl (x a b : Int) : midB (2 * x) (2 * a) (2 * b) = midB x a b := by
  unfold midB
  rw [Bool.eq_iff_iff, decide_eq_true_eq, decide_eq_true_eq]
  omega
theorem btw_dbl (p a b : Int × Int) : btwP (dblP p) (dblP a) (dblP b) = btwP p a b := by
  have h := turn_dbl a b p
  unfold turnP at h
  unfold btwP btwB
  rw [h]
  unfold dblP
  simp only
  rw [mid_dbl, mid_dbl]
  congr 2
  rw [Bool.eq_iff_iff, decide_eq_true_eq, decide_eq_true_eq]
  omega
theorem sep_four (s t : Int) : sepB (4 * s) (4 * t) = sepB s t := by
  unfold sepB
  rw [Bool.eq_iff_iff]
  simp only [Bool.or_eq_true, Bool.and_eq_true, decide_eq_true_eq]
  omega
theorem cut_dbl (a b c d : Int × Int) : cutP (dblP a) (dblP b) (dblP c) (dblP d) = cutP a b c d := by
  have h1 := turn_dbl a b c
  have h2 := turn_dbl a b d
  have h3 := turn_dbl c d a
  have h4 := turn_dbl c d b
  unfold turnP at h1 h2 h3 h4
  unfold cutP cutW sepW
  rw [h1, h2, h3, h4, sep_four, sep_four]
theorem cross_dbl (cs : List (Int × Int)) (a b : Int × Int) : crossM (dblL cs) (dblP a) (dblP b) = crossM cs a b := by
  unfold crossM
  rw [dblL_len]
  congr 1
  funext k
  unfold cutK
  rw [dblL_len, dblL_pt, dblL_pt, cut_dbl]
theorem rise_dbl (a b p : Int × Int) : riseS (dblP a) (dblP b) (dblP p) = riseS a b p := by
  unfold riseS
  rw [turn_dbl]
  unfold dblP
  simp only
  rw [Bool.eq_iff_iff]
  simp only [Bool.or_eq_true, Bool.and_eq_true, decide_eq_true_eq]
  omega
theorem par_dbl (cs : List (Int × Int)) (p : Int × Int) : ∀ k, parS (dblL cs) (dblP p) k = parS cs p k
  | 0 => rfl
  | k + 1 => by
    simp only [parS]
    rw [par_dbl cs p k, dblL_len, dblL_pt, dblL_pt, rise_dbl]
theorem onK_dbl (cs : List (Int × Int)) (p : Int × Int) (k : Nat) : onK (dblL cs) (dblP p) k = onK cs p k := by
  unfold onK
  rw [dblL_len, dblL_pt, dblL_pt, btw_dbl]
theorem place_dbl (cs : List (Int × Int)) (p : Int × Int) : placeM (dblL cs) (dblP p) = placeM cs p := by
  unfold placeM onAny
  rw [dblL_len, par_dbl]
  have : (fun k => onK (dblL cs) (dblP p) k) = fun k => onK cs p k := funext fun k => onK_dbl cs p k
  rw [this]

def dblW (q : (Int × Int) × (Int × Int)) : (Int × Int) × (Int × Int) := (dblP q.1, dblP q.2)
theorem gt_dbl (L : List ((Int × Int) × (Int × Int))) (j : Nat) : gt (L.map dblW) j = dblW (gt L j) := by
  unfold gt
  rw [List.getD_eq_getElem?_getD, List.getD_eq_getElem?_getD, List.getElem?_map]
  cases L[j]? <;> rfl
theorem first_dbl (L : List ((Int × Int) × (Int × Int))) (p : Int × Int) : firstH (L.map dblW) (dblP p) = firstH L p := by
  unfold firstH
  rw [List.length_map]
  congr 1
  funext j
  unfold holdK
  rw [gt_dbl]
  exact btw_dbl _ _ _
theorem split_dbl (L : List ((Int × Int) × (Int × Int))) (p : Int × Int) : split (L.map dblW) (dblP p) = (split L p).map dblW := by
  cases h : firstH L p with
  | none => rw [split_none h, split_none (by rw [first_dbl]; exact h)]
  | some k =>
    rw [split_some h, split_some (k := k) (by rw [first_dbl]; exact h), gt_dbl, List.map_append, List.map_set]
    rfl
theorem cutTo_dbl (cs : List (Int × Int)) (a b : Int × Int) : ∀ k, cutTo (dblL cs) (dblP a, dblP b) k = (cutTo cs (a, b) k).map dblW
  | 0 => rfl
  | k + 1 => by
    simp only [cutTo]
    rw [cutTo_dbl cs a b k, dblL_pt, split_dbl]
/-- The middle of a piece, as the landed code counts. -/
def midP (q : (Int × Int) × (Int × Int)) : Int × Int := ((q.1.1 + q.2.1).tdiv 2, (q.1.2 + q.2.2).tdiv 2)
theorem tdiv_two (a b : Int) : (2 * a + 2 * b).tdiv 2 = a + b := by
  rw [← Int.mul_add]
  exact Int.mul_tdiv_cancel_left _ (by omega)
theorem mid_add (q : (Int × Int) × (Int × Int)) : midP (dblW q) = addP q.1 q.2 := by
  unfold midP dblW dblP addP
  simp only
  rw [tdiv_two, tdiv_two]

/-- Is the way free? As the landed code asks. -/
def clearI (cs : List (Int × Int)) (a b : Int × Int) : Bool :=
  decide (crossM cs a b < 0) && (List.range (cutTo cs (a, b) cs.length).length).all fun j => decide (placeM cs (midP (gt (cutTo cs (a, b) cs.length) j)) ≠ 0)
def pairB (cs C : List (Int × Int)) (i k : Nat) : Bool := !freeB C i k || decide (placeM (dblL cs) (addP (pt C i) (pt C k)) ≠ 0)
def pairsB (cs C : List (Int × Int)) : Bool := (List.range C.length).all fun i => (List.range i).all fun k => pairB cs C i k
/-- As the model asks. -/
def seesM (cs : List (Int × Int)) (a b : Int × Int) : Bool := decide (crossM cs a b < 0) && pairsB cs (cutsTo cs a b cs.length)

/-- The corners of a room differ. -/
theorem room_once {cs : List (Int × Int)} (h : roomB cs = true) : Once cs := by
  obtain ⟨h1, h2, h3, _⟩ := roomB_yes h
  have key : ∀ i j, i < j → j < cs.length → pt cs i ≠ pt cs j := by
    intro i j hij hj e
    have hi : i < cs.length := by omega
    have w1 := corner_wall h hi
    have w2 := corner_wall h hj
    by_cases hn : nearB cs.length i j = true
    · unfold nearB at hn
      simp only [Bool.or_eq_true, decide_eq_true_eq] at hn
      have nw : ∀ k, k < cs.length → pt cs k ≠ pt cs ((k + 1) % cs.length) := by
        intro k hk e2
        have := (okW_parts (corner_wall h hk)).2.2
        rw [← e2] at this
        exact this ⟨rfl, rfl⟩
      rcases hn with (hn | hn) | hn
      · omega
      · have := nw j hj
        rw [hn] at this
        exact this e.symm
      · have := nw i hi
        rw [hn] at this
        exact this e
    · have hr := h3 i hi
      unfold roundB at hr
      simp only [Bool.and_eq_true, List.all_eq_true] at hr
      have hm := hr.2 j (List.mem_range.2 hj)
      have hm2 : meetAt cs i j = false := by simpa [hn] using hm
      unfold meetAt meetP at hm2
      rw [meetB_meet2 w1 w2] at hm2
      unfold meet2 at hm2
      simp only [Bool.or_eq_false_iff] at hm2
      have hb := hm2.1.2.1
      have := btw_left (pt cs i) (pt cs ((i + 1) % cs.length))
      rw [e] at this hb
      unfold btwP at this
      rw [this] at hb
      cases hb
  intro i hi j hj e
  rcases Nat.lt_trichotomy i j with g | g | g
  · exact absurd e (key i j g hj)
  · exact g
  · exact absurd e.symm (key j i g hi)

theorem corner_on {cs : List (Int × Int)} {k : Nat} (hk : k < cs.length) : placeM cs (pt cs k) ≠ 0 := by
  rw [placeM_on hk (by unfold onK; exact btw_left _ _)]
  decide
theorem add_dbl (p : Int × Int) : addP p p = dblP p := by
  unfold addP dblP
  exact Prod.ext (by simp only; omega) (by simp only; omega)
theorem pairs_iff (cs C : List (Int × Int)) : pairsB cs C = true ↔ ∀ i, i < C.length → ∀ k, k < i → freeB C i k = true → decide (placeM (dblL cs) (addP (pt C i) (pt C k)) ≠ 0) = true := by
  unfold pairsB pairB
  rw [List.all_eq_true]
  constructor
  · intro h i hi k hk hf
    have h1 := h i (List.mem_range.2 hi)
    rw [List.all_eq_true] at h1
    have h2 := h1 k (List.mem_range.2 hk)
    rw [hf] at h2
    simpa using h2
  · intro h i hi
    rw [List.all_eq_true]
    intro k hk
    cases hf : freeB C i k
    · rfl
    · rw [h i (List.mem_range.1 hi) k (List.mem_range.1 hk) hf]; rfl
/-- The two ways to ask agree. -/
theorem clear_sees {cs : List (Int × Int)} (h : roomB cs = true) {a b : Int × Int} (ha : placeM cs a ≠ 0) (hb : placeM cs b ≠ 0) :
    clearI (dblL cs) (dblP a) (dblP b) = seesM cs a b := by
  unfold clearI seesM
  rw [cross_dbl, dblL_len, cutTo_dbl, List.length_map]
  congr 1
  rw [Bool.eq_iff_iff, pairs_iff]
  have hF : ∀ s, onWay cs a b cs.length s → decide (placeM (dblL cs) (addP s s) ≠ 0) = true := by
    intro s hs
    rw [add_dbl, place_dbl, decide_eq_true_eq]
    rcases hs with rfl | rfl | ⟨j, hj, rfl, _⟩
    · exact ha
    · exact hb
    · exact corner_on hj
  rw [List.all_eq_true]
  simp only [List.mem_range, gt_dbl, mid_add]
  by_cases e : a = b
  · subst e
    have hm : ∀ s, s ∈ cutsTo cs a a cs.length → s = a := by
      intro s hs
      rcases (cutsTo_mem cs a a cs.length s).1 hs with h1 | h1 | ⟨_, _, _, h1⟩
      · exact h1
      · exact h1
      · exact btw_self h1
    constructor
    · intro _ i hi k hk _
      rw [hm _ (pt_mem hi), hm _ (pt_mem (show k < (cutsTo cs a a cs.length).length by omega))]
      exact hF a (.inl rfl)
    · intro _ j hj
      rw [cut_point cs cs.length j hj]
      exact hF a (.inl rfl)
  · exact pieces_pairs (F := fun s => decide (placeM (dblL cs) s ≠ 0)) e (cut_inv e cs cs.length) (cutsTo_mem cs a b cs.length) (cutsTo_once e (room_once h) cs.length (Nat.le_refl _)) hF

def seesB (ps : List (Int × Int)) (ax ay bx bY : Int) : Bool := inB ps ax ay && inB ps bx bY && seesM ps (ax, ay) (bx, bY)
theorem inB_place {ps : List (Int × Int)} {x y : Int} (h : inB ps x y = true) : placeM ps (x, y) ≠ 0 := by
  have hp := inB_parts h
  unfold inB placeI at h
  rw [hp.1, hp.2] at h
  simpa using h

/-- The first k corners, doubled. -/
def bigTo (ps : List (Int × Int)) : Nat → List (Int × Int)
  | 0 => []
  | k + 1 => bigTo ps k ++ [dblP (pt ps k)]
theorem bigTo_len (ps : List (Int × Int)) : ∀ k, (bigTo ps k).length = k
  | 0 => rfl
  | k + 1 => by simp [bigTo, bigTo_len ps k]
theorem pt_take {ps : List (Int × Int)} {k : Nat} (hk : k < ps.length) : ps.take (k + 1) = ps.take k ++ [pt ps k] := by
  rw [List.take_succ_eq_append_getElem hk]
  have := pt_at hk
  rw [List.getElem?_eq_getElem hk] at this
  injection this with this
  rw [this]
theorem bigTo_take (ps : List (Int × Int)) : ∀ k, k ≤ ps.length → bigTo ps k = dblL (ps.take k)
  | 0, _ => rfl
  | k + 1, hk => by
    rw [pt_take (by omega)]
    simp only [bigTo]
    rw [bigTo_take ps k (by omega)]
    simp [dblL]
theorem bigTo_all {ps : List (Int × Int)} {n : Nat} (h : ps.length = n) : bigTo ps n = dblL ps := by
  rw [bigTo_take ps n (by omega), ← h, List.take_length]
/-- Is no other of the first j points between these two? -/
def freeTo (C : List (Int × Int)) (i k : Nat) : Nat → Bool
  | 0 => true
  | j + 1 => freeTo C i k j && (decide (j = i) || decide (j = k) || !btwP (pt C j) (pt C i) (pt C k))
theorem freeTo_iff (C : List (Int × Int)) (i k : Nat) : ∀ n, freeTo C i k n = (List.range n).all fun j => decide (j = i) || decide (j = k) || !btwP (pt C j) (pt C i) (pt C k)
  | 0 => rfl
  | n + 1 => by
    simp only [freeTo]
    rw [freeTo_iff C i k n, List.range_succ, List.all_append]
    simp
theorem freeTo_B (C : List (Int × Int)) (i k : Nat) : freeTo C i k C.length = freeB C i k := freeTo_iff C i k C.length
theorem pairs_at {cs C : List (Int × Int)} {i k : Nat} (hi : i < C.length) (hk : k < i) (h : pairB cs C i k = false) : pairsB cs C = false := by
  unfold pairsB
  rw [List.all_eq_false]
  refine ⟨i, List.mem_range.2 hi, ?_⟩
  rw [Bool.not_eq_true, List.all_eq_false]
  exact ⟨k, List.mem_range.2 hk, by simp [h]⟩
theorem pairs_of {cs C : List (Int × Int)} (h : ∀ i, i < C.length → ∀ k, k < i → pairB cs C i k = true) : pairsB cs C = true := by
  unfold pairsB
  rw [List.all_eq_true]
  intro i hi
  rw [List.all_eq_true]
  exact fun k hk => h i (List.mem_range.1 hi) k (List.mem_range.1 hk)
theorem sees_cut {cs : List (Int × Int)} {a b : Int × Int} {k : Nat} (hk : k < cs.length) (h : cutK cs a b k = true) : seesM cs a b = false := by
  unfold seesM crossM
  have : (0 : Int) ≤ firstI cs.length (cutK cs a b) := by
    unfold firstI
    cases e : (List.range cs.length).find? (cutK cs a b)
    · rw [List.find?_eq_none] at e
      exact absurd h (e k (List.mem_range.2 hk))
    · simp
  rw [show decide (firstI cs.length (cutK cs a b) < 0) = false from decide_eq_false (by omega)]
  rfl
theorem sees_free {cs : List (Int × Int)} {a b : Int × Int} (h : ∀ k, k < cs.length → cutK cs a b k = false) : seesM cs a b = pairsB cs (cutsTo cs a b cs.length) := by
  unfold seesM crossM
  rw [firstI_none h]
  rfl
theorem cuts_ok {cs : List (Int × Int)} {ax ay bx bY : Int} (h : okAll cs = true) (ha : okP ax ay = true) (hb : okP bx bY = true) {k j : Nat} (hk : k ≤ cs.length) (hj : j < (cutsTo cs (ax, ay) (bx, bY) k).length) :
    okP (pt (cutsTo cs (ax, ay) (bx, bY) k) j).1 (pt (cutsTo cs (ax, ay) (bx, bY) k) j).2 = true := by
  rcases (cutsTo_mem cs _ _ k _).1 (pt_mem hj) with e | e | ⟨i, hi, e, _⟩
  · rw [e]; exact ha
  · rw [e]; exact hb
  · rw [e]; exact okAll_at h (by omega)
theorem dbl_small {cs : List (Int × Int)} (h : okAll cs = true) : smAll (dblL cs) := by
  intro k hk
  rw [dblL_len] at hk
  have := okP_yes (okAll_at h hk)
  rw [dblL_pt]
  unfold smP dblP
  simp only
  omega
theorem okP_dbl {x y : Int} (h : okP x y = true) : smP (2 * x) (2 * y) := by
  have := okP_yes h
  unfold smP
  omega
/-- What the model asks of a pair that is free. -/
theorem pair_free {cs C : List (Int × Int)} {i k : Nat} (h : freeB C i k = true) : pairB cs C i k = decide (placeM (dblL cs) (addP (pt C i) (pt C k)) ≠ 0) := by
  unfold pairB; rw [h]; rfl
theorem pair_off {cs C : List (Int × Int)} {i k : Nat} (h : freeB C i k = false) : pairB cs C i k = true := by
  unfold pairB; rw [h]; rfl

theorem rowTo_in {ps : List (Int × Int)} {lx y : Int} : ∀ j p, p ∈ rowTo ps lx y j → lx ≤ p.1 ∧ p.1 < lx + j ∧ p.2 = y ∧ placeM ps p ≠ 0
  | 0, p, hp => by simp [rowTo] at hp
  | j + 1, p, hp => by
    simp only [rowTo] at hp
    split at hp
    · have := rowTo_in j p hp
      omega
    · rename_i h
      rcases List.mem_append.1 hp with h2 | h2
      · have := rowTo_in j p h2
        omega
      · simp at h2
        subst h2
        exact ⟨by simp only; omega, by simp only; omega, rfl, h⟩
theorem floorTo_in {ps : List (Int × Int)} {lx ly : Int} {w : Nat} : ∀ i p, p ∈ floorTo ps lx ly w i → (lx ≤ p.1 ∧ p.1 < lx + w) ∧ (ly ≤ p.2 ∧ p.2 < ly + i) ∧ placeM ps p ≠ 0
  | 0, p, hp => by simp [floorTo] at hp
  | i + 1, p, hp => by
    simp only [floorTo] at hp
    rcases List.mem_append.1 hp with h2 | h2
    · have := floorTo_in i p h2
      omega
    · have := rowTo_in w p h2
      omega
/-- The points of a floor are in the room. -/
theorem floorL_in {ps : List (Int × Int)} {p : Int × Int} (hp : p ∈ floorL ps) : inB ps p.1 p.2 = true := by
  unfold floorL at hp
  cases h : roomB ps
  · rw [h] at hp; simp at hp
  · rw [h] at hp
    simp only [if_true] at hp
    obtain ⟨h3, hok, _, _⟩ := roomB_yes h
    have hb := boxTo_bound hok (by omega) ps.length (Nat.le_refl _)
    have hi := floorTo_in _ p hp
    unfold widthI heightI at hi
    unfold inB placeI
    rw [h, okP_true (by omega) (by omega) (by omega) (by omega)]
    simpa using hi.2.2
theorem corner_in {ps : List (Int × Int)} (h : roomB ps = true) {k : Nat} (hk : k < ps.length) : inB ps (pt ps k).1 (pt ps k).2 = true := by
  unfold inB placeI
  rw [h, okAll_at (roomB_yes h).2.1 hk]
  simpa using corner_on hk
/-- Those of the first k points that are seen from a. -/
def seenTo (ps : List (Int × Int)) (a : Int × Int) (l : List (Int × Int)) : Nat → List (Int × Int)
  | 0 => []
  | k + 1 => if seesM ps a (pt l k) then seenTo ps a l k ++ [pt l k] else seenTo ps a l k
def seenL (ps : List (Int × Int)) (x y : Int) : List (Int × Int) := if inB ps x y then seenTo ps (x, y) (floorL ps) (floorL ps).length else []
theorem seenTo_len (ps : List (Int × Int)) (a : Int × Int) (l : List (Int × Int)) : ∀ k, (seenTo ps a l k).length ≤ k
  | 0 => by simp [seenTo]
  | k + 1 => by
    have := seenTo_len ps a l k
    simp only [seenTo]
    split
    · simp; omega
    · omega
theorem seenL_le (ps : List (Int × Int)) (x y : Int) : (seenL ps x y).length ≤ 1048576 := by
  unfold seenL
  split
  · exact Nat.le_trans (seenTo_len ps (x, y) (floorL ps) _) (floorL_le ps)
  · simp
/-- Those of the first k corners that are seen from a. -/
def cornTo (ps : List (Int × Int)) (a : Int × Int) : Nat → List Int
  | 0 => []
  | k + 1 => if seesM ps a (pt ps k) then cornTo ps a k ++ [(k : Int)] else cornTo ps a k
def cornL (ps : List (Int × Int)) (x y : Int) : List Int := if inB ps x y then cornTo ps (x, y) ps.length else []
theorem cornTo_len (ps : List (Int × Int)) (a : Int × Int) : ∀ k, (cornTo ps a k).length ≤ k
  | 0 => by simp [cornTo]
  | k + 1 => by
    have := cornTo_len ps a k
    simp only [cornTo]
    split
    · simp; omega
    · omega
theorem cornL_le (ps : List (Int × Int)) (x y : Int) : (cornL ps x y).length ≤ 1048576 := by
  unfold cornL
  split
  · rename_i h
    have := (roomB_yes (inB_parts h).1).1
    have := cornTo_len ps (x, y) ps.length
    omega
  · simp
/-- The landed way to ask, for points of the room. -/
theorem clear_in {ps : List (Int × Int)} {ax ay bx bY : Int} (ha : inB ps ax ay = true) (hb : inB ps bx bY = true) : clearI (dblL ps) (2 * ax, 2 * ay) (2 * bx, 2 * bY) = seesM ps (ax, ay) (bx, bY) :=
  clear_sees (inB_parts ha).1 (a := (ax, ay)) (b := (bx, bY)) (inB_place ha) (inB_place hb)
end Go.Proofs.Ytcfoleiooohbhaa.SightMath

/-
  Kernels: what InKernel and KernelPoints answer. A point is in the kernel when it is in the room and no wall has it on its right.
-/
namespace Go.Proofs.Ytcfoleiooohbhaa.KernMath
open PointMath WallMath RoomMath AreaMath PlaceMath FloorMath LineMath CutsMath SightMath

/-- The wall of corner k has the point on its left, or on its line. -/
def leftK (ps : List (Int × Int)) (p : Int × Int) (k : Nat) : Bool := decide (0 ≤ turnP (pt ps k) (pt ps ((k + 1) % ps.length)) p)
def kernM (ps : List (Int × Int)) (p : Int × Int) : Bool := (List.range ps.length).all (leftK ps p)
theorem kernM_not {ps : List (Int × Int)} {p : Int × Int} {k : Nat} (hk : k < ps.length) (h : leftK ps p k = false) : kernM ps p = false := by
  cases e : kernM ps p
  · rfl
  · have := List.all_eq_true.1 e k (List.mem_range.2 hk)
    rw [h] at this
    cases this
theorem kernM_of {ps : List (Int × Int)} {p : Int × Int} (h : ∀ k, k < ps.length → leftK ps p k = true) : kernM ps p = true :=
  List.all_eq_true.2 fun k hk => h k (List.mem_range.1 hk)
def kernB (ps : List (Int × Int)) (x y : Int) : Bool := inB ps x y && kernM ps (x, y)
/-- The points of a list that are in the kernel, of the first k. -/
def kernTo (ps l : List (Int × Int)) : Nat → List (Int × Int)
  | 0 => []
  | k + 1 => if kernB ps (pt l k).1 (pt l k).2 then kernTo ps l k ++ [pt l k] else kernTo ps l k
def kernL (ps : List (Int × Int)) : List (Int × Int) := kernTo ps (floorL ps) (floorL ps).length
theorem kernTo_len (ps l : List (Int × Int)) : ∀ k, (kernTo ps l k).length ≤ k
  | 0 => by simp [kernTo]
  | k + 1 => by
    have := kernTo_len ps l k
    unfold kernTo
    split
    · rw [List.length_append]; simp; omega
    · omega
theorem kernL_le (ps : List (Int × Int)) : (kernL ps).length ≤ 1048576 := by
  have := kernTo_len ps (floorL ps) (floorL ps).length
  have := floorL_le ps
  unfold kernL
  omega

/-- Does a point of the floor see all corners? -/
def seesCornB (ps : List (Int × Int)) (x y : Int) : Bool := inB ps x y && decide ((cornTo ps (x, y) ps.length).length = ps.length)
theorem kern_in {ps : List (Int × Int)} {x y : Int} (h : inB ps x y = true) : kernB ps x y = kernM ps (x, y) := by unfold kernB; rw [h]; rfl

/-- Every point of a list is in the room. -/
def allIn (ps qs : List (Int × Int)) : Bool := roomB ps && (List.range qs.length).all fun k => inB ps (pt qs k).1 (pt qs k).2
theorem allIn_not {ps qs : List (Int × Int)} {k : Nat} (hk : k < qs.length) (h : inB ps (pt qs k).1 (pt qs k).2 = false) : allIn ps qs = false := by
  cases e : allIn ps qs
  · rfl
  · unfold allIn at e
    rw [Bool.and_eq_true] at e
    have := List.all_eq_true.1 e.2 k (List.mem_range.2 hk)
    simp only [h] at this
    cases this
theorem allIn_of {ps qs : List (Int × Int)} (hr : roomB ps = true) (h : ∀ k, k < qs.length → inB ps (pt qs k).1 (pt qs k).2 = true) : allIn ps qs = true := by
  unfold allIn
  rw [hr, Bool.true_and]
  exact List.all_eq_true.2 fun k hk => h k (List.mem_range.1 hk)
theorem allIn_no {ps qs : List (Int × Int)} (hr : roomB ps = false) : allIn ps qs = false := by
  unfold allIn
  rw [hr]; rfl
theorem allIn_at {ps qs : List (Int × Int)} (h : allIn ps qs = true) : roomB ps = true ∧ ∀ k, k < qs.length → inB ps (pt qs k).1 (pt qs k).2 = true := by
  unfold allIn at h
  rw [Bool.and_eq_true] at h
  exact ⟨h.1, fun k hk => List.all_eq_true.1 h.2 k (List.mem_range.2 hk)⟩
theorem inB_of {ps : List (Int × Int)} {x y : Int} (hr : roomB ps = true) (ho : okP x y = true) : inB ps x y = decide (placeM ps (x, y) ≠ 0) := by
  unfold inB placeI
  rw [hr, ho]; rfl
theorem inB_notok {ps : List (Int × Int)} {x y : Int} (ho : okP x y = false) : inB ps x y = false := by
  unfold inB placeI
  rw [ho]; simp

/-- Some guard of the first i sees the point. -/
def anySees (ps gs : List (Int × Int)) (p : Int × Int) : Nat → Bool
  | 0 => false
  | i + 1 => anySees ps gs p i || seesM ps (pt gs i) p
/-- The points of a list that no guard sees, of the first k. -/
def unTo (ps gs l : List (Int × Int)) : Nat → List (Int × Int)
  | 0 => []
  | k + 1 => if anySees ps gs (pt l k) gs.length then unTo ps gs l k else unTo ps gs l k ++ [pt l k]
def unL (ps gs : List (Int × Int)) : List (Int × Int) := if allIn ps gs then unTo ps gs (floorL ps) (floorL ps).length else []
theorem unTo_len (ps gs l : List (Int × Int)) : ∀ k, (unTo ps gs l k).length ≤ k
  | 0 => by simp [unTo]
  | k + 1 => by
    have := unTo_len ps gs l k
    unfold unTo
    split
    · omega
    · rw [List.length_append]; simp; omega
theorem unL_le (ps gs : List (Int × Int)) : (unL ps gs).length ≤ 1048576 := by
  have := unTo_len ps gs (floorL ps) (floorL ps).length
  have := floorL_le ps
  unfold unL
  split
  · omega
  · simp
def seesAllB (ps gs : List (Int × Int)) : Bool := allIn ps gs && decide ((unL ps gs).length = 0)

/-- As many of the points are in the room as there are: all of them. -/
theorem count_le (ps qs : List (Int × Int)) : ∀ k, countTo ps qs k ≤ (k : Int) := fun k => (countTo_bound ps qs k).2
theorem count_all (ps qs : List (Int × Int)) : ∀ k, decide (countTo ps qs k = (k : Int)) = (List.range k).all fun j => inB ps (pt qs j).1 (pt qs j).2
  | 0 => by simp [countTo]
  | k + 1 => by
    have h := count_all ps qs k
    have hb := count_le ps qs k
    have e : countTo ps qs (k + 1) = if inB ps (pt qs k).1 (pt qs k).2 then countTo ps qs k + 1 else countTo ps qs k := rfl
    rw [List.range_succ, List.all_append, ← h, e]
    cases hi : inB ps (pt qs k).1 (pt qs k).2
    · rw [if_neg (by simp), Bool.eq_iff_iff]
      simp [hi]
      try omega
    · rw [if_pos rfl, Bool.eq_iff_iff]
      simp [hi]
      try omega
theorem allIn_count {ps qs : List (Int × Int)} {m : Nat} (hl : qs.length = m) : allIn ps qs = (roomB ps && decide (countTo ps qs m = (m : Int))) := by
  unfold allIn
  rw [hl, count_all]

/-- No earlier point of the list is seen. -/
def hidAt (ps qs : List (Int × Int)) (i : Nat) : Bool := (List.range i).all fun k => !seesM ps (pt qs i) (pt qs k)
def hidM (ps qs : List (Int × Int)) : Bool := (List.range qs.length).all (hidAt ps qs)
def hiddenB (ps qs : List (Int × Int)) : Bool := allIn ps qs && decide (qs.length ≤ 10) && hidM ps qs
theorem hidAt_not {ps qs : List (Int × Int)} {i k : Nat} (hk : k < i) (h : seesM ps (pt qs i) (pt qs k) = true) : hidAt ps qs i = false := by
  cases e : hidAt ps qs i
  · rfl
  · have := List.all_eq_true.1 e k (List.mem_range.2 hk)
    simp only [h] at this
    cases this
theorem hidAt_of {ps qs : List (Int × Int)} {i : Nat} (h : ∀ k, k < i → seesM ps (pt qs i) (pt qs k) = false) : hidAt ps qs i = true :=
  List.all_eq_true.2 fun k hk => by rw [h k (List.mem_range.1 hk)]; rfl
theorem hidM_not {ps qs : List (Int × Int)} {i : Nat} (hi : i < qs.length) (h : hidAt ps qs i = false) : hidM ps qs = false := by
  cases e : hidM ps qs
  · rfl
  · have := List.all_eq_true.1 e i (List.mem_range.2 hi)
    rw [h] at this
    cases this
theorem hidM_of {ps qs : List (Int × Int)} (h : ∀ i, i < qs.length → hidAt ps qs i = true) : hidM ps qs = true :=
  List.all_eq_true.2 fun i hi => h i (List.mem_range.1 hi)
end Go.Proofs.Ytcfoleiooohbhaa.KernMath

/-
  Plain facts on diagonals: a clear way between two corners that passes no third one, and joins no neighbors, has its middle inside. No program stands here.
-/
namespace Go.Proofs.Ytcfoleiooohbhaa.DiagMath
open PointMath WallMath RoomMath AreaMath PlaceMath LineMath CutsMath SightMath

/-- The numbers below n that pass the test, in order. -/
def thatTo (f : Nat → Bool) : Nat → List Int
  | 0 => []
  | k + 1 => if f k then thatTo f k ++ [(k : Int)] else thatTo f k
theorem thatTo_len (f : Nat → Bool) : ∀ k, (thatTo f k).length ≤ k
  | 0 => Nat.le_refl _
  | k + 1 => by
    have h := thatTo_len f k
    unfold thatTo
    split
    · rw [List.length_append]; simp only [List.length_cons, List.length_nil]; omega
    · omega
theorem thatTo_congr {f g : Nat → Bool} : ∀ {n : Nat}, (∀ j, j < n → f j = g j) → thatTo f n = thatTo g n
  | 0, _ => rfl
  | n + 1, h => by
    unfold thatTo
    rw [thatTo_congr (fun j hj => h j (by omega)), h n (by omega)]
theorem thatTo_nil {f : Nat → Bool} : ∀ {n : Nat}, (thatTo f n).length = 0 ↔ ∀ j, j < n → f j = false
  | 0 => by simp [thatTo]
  | n + 1 => by
    unfold thatTo
    have h := thatTo_nil (f := f) (n := n)
    cases hf : f n
    · simp only [Bool.false_eq_true, if_false]
      rw [h]
      constructor
      · intro h1 j hj
        rcases Nat.lt_or_ge j n with h2 | h2
        · exact h1 j h2
        · obtain rfl : j = n := by omega
          exact hf
      · intro h1 j hj; exact h1 j (by omega)
    · simp only [if_true, List.length_append, List.length_cons, List.length_nil]
      constructor
      · intro h1; omega
      · intro h1; rw [h1 n (by omega)] at hf; cases hf
theorem thatTo_succ (f : Nat → Bool) (n : Nat) : (thatTo f (n + 1)).length = (thatTo f n).length + (if f n then 1 else 0) := by
  show (if f n then thatTo f n ++ [(n : Int)] else thatTo f n).length = _
  split <;> simp
theorem thatTo_two {f g : Nat → Bool} {i k : Nat} (hik : i ≠ k) (hi : f i = true) (hk : f k = true) (hg : ∀ j, g j = (f j && decide (j ≠ i) && decide (j ≠ k))) : ∀ n,
    (thatTo f n).length = (thatTo g n).length + (if i < n then 1 else 0) + (if k < n then 1 else 0)
  | 0 => by simp [thatTo]
  | n + 1 => by
    have h := thatTo_two hik hi hk hg n
    rw [thatTo_succ, thatTo_succ, h, hg n]
    by_cases e1 : n = i
    · subst e1
      rw [hi, if_neg (show ¬ n < n by omega), if_pos (show n < n + 1 by omega)]
      simp only [ne_eq, not_true_eq_false, decide_false, Bool.and_false, Bool.false_and, Bool.false_eq_true, if_false, if_true]
      split <;> split <;> omega
    · by_cases e2 : n = k
      · subst e2
        rw [hk, if_neg (show ¬ n < n by omega), if_pos (show n < n + 1 by omega)]
        simp only [ne_eq, not_true_eq_false, decide_false, Bool.and_false, Bool.false_eq_true, if_false, if_true]
        split <;> split <;> omega
      · simp only [ne_eq, e1, e2, not_false_eq_true, decide_true, Bool.and_true]
        split <;> split <;> split <;> split <;> split <;> omega

theorem turn_dbl_mid (p q a b : Int × Int) : turnP (dblP p) (dblP q) (addP a b) = 2 * (turnP p q a + turnP p q b) := by
  unfold turnP turnI dblP addP; grind
theorem line_turn (a b p q : Int × Int) : dI a b * turnP p q a = tI a b p * turnP a b q - tI a b q * turnP a b p := by
  unfold dI tI turnP turnI; grind
/-- Two points of a line, and a third of it. -/
theorem line_three {a b p q : Int × Int} (h : a ≠ b) (hp : turnP a b p = 0) (hq : turnP a b q = 0) : turnP p q a = 0 := by
  have e := line_turn a b p q
  rw [hp, hq, Int.mul_zero, Int.mul_zero, Int.sub_zero] at e
  exact (Int.mul_eq_zero.1 e).resolve_left (by have := dI_pos h; omega)
theorem mid_btw {a b p : Int × Int} (h : dblP p = addP a b) : btwP p a b = true := by
  unfold dblP addP at h
  injection h with h1 h2
  unfold btwP btwB midB
  simp only [Bool.and_eq_true, decide_eq_true_eq]
  refine ⟨⟨?_, by omega⟩, by omega⟩
  have e1 : p.1 - a.1 = b.1 - p.1 := by omega
  have e2 : p.2 - a.2 = b.2 - p.2 := by omega
  unfold turnI
  have e3 : b.1 - a.1 = 2 * (p.1 - a.1) := by omega
  have e4 : b.2 - a.2 = 2 * (p.2 - a.2) := by omega
  rw [e3, e4]; grind
theorem mid_ends {a b : Int × Int} (h : dblP a = addP a b) : a = b := by
  unfold dblP addP at h
  injection h with h1 h2
  exact Prod.ext (by omega) (by omega)
theorem addP_comm' {a b : Int × Int} (h : dblP b = addP a b) : a = b := by
  unfold dblP addP at h
  injection h with h1 h2
  exact Prod.ext (by omega) (by omega)
theorem tI_dbl (a b x : Int × Int) : tI (dblP a) (dblP b) (dblP x) = 4 * tI a b x := by unfold tI dblP; grind
theorem tI_mid (a b : Int × Int) : tI (dblP a) (dblP b) (addP a b) = 2 * dI a b := by unfold tI dI dblP addP; grind
theorem turn_mid (a b : Int × Int) : turnP (dblP a) (dblP b) (addP a b) = 0 := by unfold turnP turnI dblP addP; grind
theorem dbl_ne {a b : Int × Int} (h : a ≠ b) : dblP a ≠ dblP b := by
  intro e
  unfold dblP at e
  injection e with h1 h2
  exact h (Prod.ext (by omega) (by omega))

/-- A corner on a wall is one of its ends. -/
theorem corner_end {cs : List (Int × Int)} (h : roomB cs = true) {i j : Nat} (hi : i < cs.length) (hj : j < cs.length) (ho : onK cs (pt cs i) j = true) : i = j ∨ i = (j + 1) % cs.length := by
  obtain ⟨_, _, h3, _⟩ := roomB_yes h
  have hr := h3 j hj
  unfold roundB at hr
  simp only [Bool.and_eq_true, List.all_eq_true] at hr
  have hm := hr.2 i (List.mem_range.2 hi)
  have w1 := corner_wall h hi
  have w2 := corner_wall h hj
  unfold onK at ho
  cases hn : nearB cs.length j i
  · have hm2 : meetAt cs j i = false := by simpa [hn] using hm
    unfold meetAt meetP at hm2
    rw [meetB_meet2 w2 w1] at hm2
    unfold meet2 at hm2
    simp only [Bool.or_eq_false_iff] at hm2
    unfold btwP at ho
    exfalso
    grind
  · unfold nearB at hn
    simp only [Bool.or_eq_true, decide_eq_true_eq] at hn
    rcases hn with (hn | hn) | hn
    · exact .inl hn
    rotate_left
    · exact .inr hn.symm
    · exfalso
      have hb := h3 i hi
      unfold roundB at hb
      simp only [Bool.and_eq_true, decide_eq_true_eq] at hb
      have hb1 := hb.1
      unfold bendAt at hb1
      rw [hn] at hb1
      have e2 : (i + 2) % cs.length = (j + 1) % cs.length := by rw [← hn, Nat.mod_add_mod]
      rw [e2] at hb1
      have ht := btw_line ho
      apply hb1
      have e3 : turnP (pt cs i) (pt cs j) (pt cs ((j + 1) % cs.length)) = turnP (pt cs j) (pt cs ((j + 1) % cs.length)) (pt cs i) := by unfold turnP turnI; grind
      rw [e3]; exact ht

theorem param_ends {D T g1 g2 : Int} (_h0 : 0 < D) (hT0 : 0 ≤ T) (hT1 : T ≤ D) (he : (D - T) * g1 + T * g2 = 0) (hs : sepB g1 g2 = false) : (T = 0) ∨ (T = D) ∨ (g1 = 0 ∧ g2 = 0) := by
  by_cases h1 : T = 0
  · exact .inl h1
  by_cases h2 : T = D
  · exact .inr (.inl h2)
  refine .inr (.inr ?_)
  have a1 : 0 < D - T := by omega
  have a2 : 0 < T := by omega
  unfold sepB at hs
  simp only [Bool.or_eq_false_iff, Bool.and_eq_false_iff, decide_eq_false_iff_not] at hs
  rcases Int.lt_trichotomy g1 0 with h | h | h
  · have := Int.mul_neg_of_pos_of_neg a1 h
    have h3 : 0 < g2 := by
      rcases Int.lt_or_le 0 g2 with h4 | h4
      · exact h4
      · have := Int.mul_nonpos_of_nonneg_of_nonpos (show 0 ≤ T by omega) h4
        omega
    omega
  · refine ⟨h, ?_⟩
    rw [h, Int.mul_zero, Int.zero_add] at he
    exact (Int.mul_eq_zero.1 he).resolve_left (by omega)
  · have := Int.mul_pos a1 h
    have h3 : g2 < 0 := by
      rcases Int.lt_or_le g2 0 with h4 | h4
      · exact h4
      · have := Int.mul_nonneg (show 0 ≤ T by omega) h4
        omega
    omega

theorem seg_param {m u v a b : Int × Int} (huv : u ≠ v) (hm : btwP m u v = true) :
    0 ≤ tI u v m ∧ tI u v m ≤ dI u v ∧ (dI u v - tI u v m) * turnP a b u + tI u v m * turnP a b v = dI u v * turnP a b m := by
  have h0 := btw_line hm
  have h1 := (btw_iff huv h0 (turn_ends u v).1 (turn_ends u v).2).1 hm
  have h2 := tI_ends huv
  have hd := dI_pos huv
  have e3 : tI u v v = dI u v := rfl
  have hp := line_pt h0
  refine ⟨by omega, by omega, ?_⟩
  unfold turnP turnI
  grind

theorem mid_off_core {A B P Q : Int × Int} (AB : A ≠ B) (PQ : P ≠ Q) (hP : btwP P A B = true → P = A ∨ P = B) (hQ : btwP Q A B = true → Q = A ∨ Q = B)
    (hc : cutP P Q A B = false) (hon : btwP (addP A B) (dblP P) (dblP Q) = true) (fin : ¬(btwP A P Q = true ∧ btwP B P Q = true)) : False := by
  have hline := btw_line hon
  rw [turn_dbl_mid] at hline
  have endP : ∀ P : Int × Int, (btwP P A B = true → P = A ∨ P = B) → dblP P = addP A B → False := by
    intro P hP e
    rcases hP (mid_btw e) with x | x
    · rw [x] at e; exact AB (mid_ends e)
    · rw [x] at e; exact AB (addP_comm' e)
  by_cases fz : turnP P Q A = 0
  · have fB : turnP P Q B = 0 := by omega
    have gP := line_three PQ fz fB
    have s1 : ∀ x : Int × Int, turnP Q P x = -turnP P Q x := fun x => by unfold turnP turnI; grind
    have gQ := line_three (a := Q) (b := P) (p := A) (q := B) (fun e => PQ e.symm) (by rw [s1, fz]; rfl) (by rw [s1, fB]; rfl)
    have iA := btw_iff AB (turn_ends A B).1 gP gQ
    have iB := btw_iff AB (turn_ends A B).2 gP gQ
    have iP := btw_iff AB gP (turn_ends A B).1 (turn_ends A B).2
    have iQ := btw_iff AB gQ (turn_ends A B).1 (turn_ends A B).2
    have iM := (btw_iff (dbl_ne AB) (turn_mid A B) (u := dblP P) (v := dblP Q) (by rw [turn_dbl, gP]; rfl) (by rw [turn_dbl, gQ]; rfl)).1 hon
    rw [tI_mid, tI_dbl, tI_dbl] at iM
    have e1 := tI_ends AB
    have hd := dI_pos AB
    have e2 : tI A B B = dI A B := rfl
    rw [e1.1, e2] at iP iQ
    rw [e1.1] at iA
    rw [e2] at iB
    have kP : 0 ≤ tI A B P → tI A B P ≤ dI A B → tI A B P = 0 ∨ tI A B P = dI A B := by
      intro x1 x2
      rcases hP (iP.2 (.inl ⟨x1, x2⟩)) with x | x
      · rw [x]; exact .inl e1.1
      · rw [x]; exact .inr e2
    have kQ : 0 ≤ tI A B Q → tI A B Q ≤ dI A B → tI A B Q = 0 ∨ tI A B Q = dI A B := by
      intro x1 x2
      rcases hQ (iQ.2 (.inl ⟨x1, x2⟩)) with x | x
      · rw [x]; exact .inl e1.1
      · rw [x]; exact .inr e2
    exact fin ⟨iA.2 (by omega), iB.2 (by omega)⟩
  · have pq := seg_param (a := dblP A) (b := dblP B) (dbl_ne PQ) hon
    rw [turn_mid, Int.mul_zero, turn_dbl, turn_dbl] at pq
    have sA : sepB (turnP P Q A) (turnP P Q B) = true := by
      unfold sepB
      simp only [Bool.or_eq_true, Bool.and_eq_true, decide_eq_true_eq]
      omega
    have sB : sepB (turnP A B P) (turnP A B Q) = false := by
      unfold cutP cutW sepW at hc
      have sA' : sepB (turnI P.1 P.2 Q.1 Q.2 A.1 A.2) (turnI P.1 P.2 Q.1 Q.2 B.1 B.2) = true := sA
      rw [sA', Bool.true_and] at hc
      exact hc
    have hd := dI_pos (dbl_ne PQ)
    rcases param_ends hd pq.1 pq.2.1 pq.2.2 (by rw [sep_four]; exact sB) with x | x | ⟨x1, x2⟩
    · exact endP P hP (line_inj (dbl_ne PQ) (turn_ends _ _).1 (btw_line hon) (by rw [x]; exact (tI_ends (dbl_ne PQ)).1))
    · exact endP Q hQ (line_inj (dbl_ne PQ) (turn_ends _ _).2 (btw_line hon) (by rw [x]; rfl))
    · exact fz (line_three AB (by omega) (by omega))

/-- No wall passes the middle. -/
theorem mid_off {cs : List (Int × Int)} (h : roomB cs = true) {i k : Nat} (hi : i < cs.length) (hk : k < cs.length) (hne : i ≠ k)
    (n1 : (i + 1) % cs.length ≠ k) (n2 : (k + 1) % cs.length ≠ i) (hc : ∀ j, j < cs.length → cutK cs (pt cs i) (pt cs k) j = false)
    (ho : ∀ j, j < cs.length → j ≠ i → j ≠ k → btwP (pt cs j) (pt cs i) (pt cs k) = false) {j : Nat} (hj : j < cs.length) : onK (dblL cs) (addP (pt cs i) (pt cs k)) j = false := by
  cases hon : onK (dblL cs) (addP (pt cs i) (pt cs k)) j
  · rfl
  exfalso
  have once := room_once h
  have hj2 : (j + 1) % cs.length < cs.length := Nat.mod_lt _ (by omega)
  have w2 := corner_wall h hj
  have hc1 := hc j hj
  have AB : pt cs i ≠ pt cs k := fun e => hne (once i hi k hk e)
  have PQ : pt cs j ≠ pt cs ((j + 1) % cs.length) := fun e => (okW_parts w2).2.2 ⟨by rw [← e], by rw [← e]⟩
  have only : ∀ t, t < cs.length → btwP (pt cs t) (pt cs i) (pt cs k) = true → t = i ∨ t = k := by
    intro t ht hb
    by_cases e1 : t = i
    · exact .inl e1
    · by_cases e2 : t = k
      · exact .inr e2
      · rw [ho t ht e1 e2] at hb; cases hb
  have eP := corner_end h hi hj
  have eQ := corner_end h hk hj
  have oP := only j hj
  have oQ := only _ hj2
  have fin : ¬(onK cs (pt cs i) j = true ∧ onK cs (pt cs k) j = true) := by
    intro ⟨x1, x2⟩
    rcases eP x1 with y1 | y1 <;> rcases eQ x2 with y2 | y2
    · exact hne (y1.trans y2.symm)
    · exact n1 (by rw [y1, y2])
    · exact n2 (by rw [y1, y2])
    · exact hne (y1.trans y2.symm)
  unfold onK at hon fin
  rw [dblL_len, dblL_pt, dblL_pt] at hon
  unfold cutK at hc1
  have hP : btwP (pt cs j) (pt cs i) (pt cs k) = true → pt cs j = pt cs i ∨ pt cs j = pt cs k := fun e => (oP e).imp (fun x => by rw [x]) (fun x => by rw [x])
  have hQ : btwP (pt cs ((j + 1) % cs.length)) (pt cs i) (pt cs k) = true → pt cs ((j + 1) % cs.length) = pt cs i ∨ pt cs ((j + 1) % cs.length) = pt cs k := fun e => (oQ e).imp (fun x => by rw [x]) (fun x => by rw [x])
  clear oP oQ only eP eQ once ho hc w2
  generalize pt cs i = A at *
  generalize pt cs k = B at *
  generalize pt cs j = P at *
  generalize pt cs ((j + 1) % cs.length) = Q at *
  exact mid_off_core AB PQ hP hQ hc1 hon fin

/-- As the landed code asks, of two corners. -/
def diagI (cs : List (Int × Int)) (i k : Nat) : Bool :=
  !decide (i = k) && !nbrB cs.length i k && decide ((thatTo (fun j => btwP (pt cs j) (pt cs i) (pt cs k)) cs.length).length = 2) && seesM cs (pt cs i) (pt cs k)
/-- As the model asks. -/
def otherB (cs : List (Int × Int)) (i k : Nat) : Bool := (List.range cs.length).any fun j => decide (j ≠ i) && decide (j ≠ k) && btwP (pt cs j) (pt cs i) (pt cs k)
def diagM (cs : List (Int × Int)) (i k : Nat) : Bool :=
  !decide (i = k) && !decide ((i + 1) % cs.length = k) && !decide ((k + 1) % cs.length = i) && seesM cs (pt cs i) (pt cs k) && !otherB cs i k && decide (placeM (dblL cs) (addP (pt cs i) (pt cs k)) = 2)
theorem crossM_neg {cs : List (Int × Int)} {a b : Int × Int} (h : crossM cs a b < 0) : ∀ j, j < cs.length → cutK cs a b j = false := by
  intro j hj
  cases hc : cutK cs a b j
  · rfl
  exfalso
  unfold crossM firstI at h
  split at h
  · omega
  · rename_i he
    have := List.find?_eq_none.1 he j (List.mem_range.2 hj)
    rw [hc] at this
    exact this rfl
theorem other_iff {cs : List (Int × Int)} {i k : Nat} : otherB cs i k = false ↔ ∀ j, j < cs.length → j ≠ i → j ≠ k → btwP (pt cs j) (pt cs i) (pt cs k) = false := by
  unfold otherB
  rw [List.any_eq_false]
  constructor
  · intro h j hj h1 h2
    have := h j (List.mem_range.2 hj)
    simpa [h1, h2] using this
  · intro h j hj
    have := h j (List.mem_range.1 hj)
    by_cases h1 : j = i
    · simp [h1]
    · by_cases h2 : j = k
      · simp [h2]
      · simp [this h1 h2]
theorem btw_right (u v : Int × Int) : btwP v u v = true := by
  unfold btwP btwB midB turnI
  simp only [Bool.and_eq_true, decide_eq_true_eq]
  refine ⟨⟨by grind, by omega⟩, by omega⟩
theorem two_other {cs : List (Int × Int)} {i k : Nat} (hi : i < cs.length) (hk : k < cs.length) (hne : i ≠ k) :
    decide ((thatTo (fun j => btwP (pt cs j) (pt cs i) (pt cs k)) cs.length).length = 2) = !otherB cs i k := by
  rw [thatTo_two (f := fun j => btwP (pt cs j) (pt cs i) (pt cs k)) (g := fun j => btwP (pt cs j) (pt cs i) (pt cs k) && decide (j ≠ i) && decide (j ≠ k)) hne (btw_left _ _) (btw_right _ _) (fun _ => rfl), if_pos hi, if_pos hk, Bool.eq_iff_iff]
  rw [decide_eq_true_eq, Bool.not_eq_true', other_iff]
  have h0 := thatTo_nil (f := fun j => btwP (pt cs j) (pt cs i) (pt cs k) && decide (j ≠ i) && decide (j ≠ k)) (n := cs.length)
  constructor
  · intro h j hj h1 h2
    have := h0.1 (by omega) j hj
    simpa [h1, h2] using this
  · intro h
    have := h0.2 (fun j hj => by
      have := h j hj
      by_cases h1 : j = i
      · simp [h1]
      · by_cases h2 : j = k
        · simp [h2]
        · simp [this h1 h2])
    omega
theorem nbr_parts (n i k : Nat) : (!nbrB n i k) = (!decide ((i + 1) % n = k) && !decide ((k + 1) % n = i)) := by
  unfold nbrB
  rw [Bool.eq_iff_iff]
  simp
  constructor <;> (intro h; constructor <;> intro e <;> simp_all)
/-- The two ways to ask agree. -/
theorem diag_eq {cs : List (Int × Int)} (h : roomB cs = true) {i k : Nat} (hi : i < cs.length) (hk : k < cs.length) : diagI cs i k = diagM cs i k := by
  unfold diagI diagM
  rw [nbr_parts]
  by_cases hne : i = k
  · simp [hne]
  rw [two_other hi hk hne]
  by_cases n1 : (i + 1) % cs.length = k
  · simp [n1]
  by_cases n2 : (k + 1) % cs.length = i
  · simp [n2]
  cases hs : seesM cs (pt cs i) (pt cs k)
  · simp
  cases ho : otherB cs i k
  rotate_left
  · simp
  have hs2 := hs
  unfold seesM at hs2
  simp only [Bool.and_eq_true, decide_eq_true_eq] at hs2
  have hc := crossM_neg hs2.1
  have ho2 := other_iff.1 ho
  have off := fun j hj => mid_off h hi hk hne n1 n2 hc ho2 (j := j) hj
  have hp : placeM (dblL cs) (addP (pt cs i) (pt cs k)) ≠ 0 := by
    have once := room_once h
    have AB : pt cs i ≠ pt cs k := fun e => hne (once i hi k hk e)
    have hb := (pairs_iff _ _).1 hs2.2
    have hm1 := (cutsTo_mem cs (pt cs i) (pt cs k) cs.length (pt cs i)).2 (.inl rfl)
    have hm2 := (cutsTo_mem cs (pt cs i) (pt cs k) cs.length (pt cs k)).2 (.inr (.inl rfl))
    have hall : ∀ s, s ∈ cutsTo cs (pt cs i) (pt cs k) cs.length → s = pt cs i ∨ s = pt cs k := by
      intro s hs
      rcases (cutsTo_mem _ _ _ _ s).1 hs with x | x | ⟨j, hj, x, hbj⟩
      · exact .inl x
      · exact .inr x
      · by_cases e1 : j = i
        · exact .inl (by rw [x, e1])
        · by_cases e2 : j = k
          · exact .inr (by rw [x, e2])
          · rw [x, ho2 j hj e1 e2] at hbj; cases hbj
    obtain ⟨x, hx, ex⟩ := mem_pt hm1
    obtain ⟨y, hy, ey⟩ := mem_pt hm2
    have hxy : x ≠ y := fun e => AB (by rw [← ex, e]; exact ey)
    have onceC := cutsTo_once AB once cs.length (Nat.le_refl _)
    have hf : ∀ u v, u < (cutsTo cs (pt cs i) (pt cs k) cs.length).length → v < (cutsTo cs (pt cs i) (pt cs k) cs.length).length → u ≠ v → freeB (cutsTo cs (pt cs i) (pt cs k) cs.length) u v = true := by
      intro u v hu hv huv
      unfold freeB
      rw [List.all_eq_true]
      intro j hj
      have hj := List.mem_range.1 hj
      have cu := hall _ (pt_mem hu)
      have cv := hall _ (pt_mem hv)
      have cj := hall _ (pt_mem hj)
      have d1 : ∀ a b, a < (cutsTo cs (pt cs i) (pt cs k) cs.length).length → b < (cutsTo cs (pt cs i) (pt cs k) cs.length).length → pt (cutsTo cs (pt cs i) (pt cs k) cs.length) a = pt (cutsTo cs (pt cs i) (pt cs k) cs.length) b → a = b := fun a b ha hb e => onceC a ha b hb e
      have : j = u ∨ j = v := by
        rcases cu with cu | cu <;> rcases cv with cv | cv <;> rcases cj with cj | cj
        · exact .inl (d1 j u hj hu (by rw [cj, cu]))
        · exact absurd (d1 u v hu hv (by rw [cu, cv])) huv
        · exact .inl (d1 j u hj hu (by rw [cj, cu]))
        · exact .inr (d1 j v hj hv (by rw [cj, cv]))
        · exact .inr (d1 j v hj hv (by rw [cj, cv]))
        · exact .inl (d1 j u hj hu (by rw [cj, cu]))
        · exact absurd (d1 u v hu hv (by rw [cu, cv])) huv
        · exact .inl (d1 j u hj hu (by rw [cj, cu]))
      rcases this with e | e <;> simp [e]
    rcases Nat.lt_or_gt_of_ne hxy with g | g
    · have := hb y hy x g (hf y x hy hx (fun e => hxy e.symm))
      rw [ex, ey, addP_comm] at this
      simpa using this
    · have := hb x hx y g (hf x y hx hy hxy)
      rw [ex, ey] at this
      simpa using this
  have h2 : placeM (dblL cs) (addP (pt cs i) (pt cs k)) = 2 := by
    rw [placeM_off (by rw [dblL_len]; exact off)] at hp ⊢
    split at hp
    · rename_i e; rw [if_pos e]
    · exact absurd rfl hp
  simp [hne, n1, n2, h2]
end Go.Proofs.Ytcfoleiooohbhaa.DiagMath

/-
  The points of the corners that a list of numbers names: plain facts. No program stands here.
-/
namespace Go.Proofs.Ytcfoleiooohbhaa.PtofMath
open Go PointMath RoomMath CutsMath

/-- A number of a list, 0 behind its end. -/
def at0 (zs : List Int) (k : Nat) : Int := zs.getD k 0
theorem at0_at {zs : List Int} {k : Nat} (h : k < zs.length) : zs[k]? = some (at0 zs k) := by
  unfold at0
  rw [List.getD_eq_getElem?_getD, List.getElem?_eq_getElem h]
  rfl
def inN (n : Nat) (z : Int) : Bool := decide (0 ≤ z ∧ z ≤ (n : Int) - 1)
theorem inN_lt (n : Nat) (z : Int) : inN n z = decide (0 ≤ z ∧ z < (n : Int)) := by
  unfold inN
  rw [Bool.eq_iff_iff]
  simp only [decide_eq_true_eq]
  omega
/-- The points of the first k numbers. -/
def ptTo (ps : List (Int × Int)) (zs : List Int) : Nat → List (Int × Int)
  | 0 => []
  | k + 1 => ptTo ps zs k ++ [pt ps (at0 zs k).toNat]
theorem ptTo_len (ps : List (Int × Int)) (zs : List Int) : ∀ k, (ptTo ps zs k).length = k
  | 0 => rfl
  | k + 1 => by show (ptTo ps zs k ++ _).length = _; rw [List.length_append, ptTo_len ps zs k]; rfl
/-- The answer of PointsOf. -/
def ptofL (ps : List (Int × Int)) (zs : List Int) : List (Int × Int) := if roomB ps && zs.all (inN ps.length) then ptTo ps zs zs.length else []
theorem ptofL_le (ps : List (Int × Int)) (zs : List Int) (h : zs.length ≤ 1048576) : (ptofL ps zs).length ≤ 1048576 := by
  unfold ptofL
  split
  · rw [ptTo_len]; exact h
  · exact Nat.zero_le _
theorem ptof_room {ps : List (Int × Int)} {zs : List Int} (h : roomB ps = false) : ptofL ps zs = [] := by unfold ptofL; rw [h]; rfl
theorem ptof_out {ps : List (Int × Int)} {zs : List Int} {k : Nat} (hk : k < zs.length) (h : inN ps.length (at0 zs k) = false) : ptofL ps zs = [] := by
  unfold ptofL
  have : zs.all (inN ps.length) = false := by
    rw [List.all_eq_false]
    exact ⟨_, List.mem_of_getElem? (at0_at hk), by rw [h]; simp⟩
  rw [this, Bool.and_false]; rfl
theorem ptof_end {ps : List (Int × Int)} {zs : List Int} (h : zs.length = 0 ∨ roomB ps = true) (hall : ∀ j, j < zs.length → inN ps.length (at0 zs j) = true) : ptofL ps zs = ptTo ps zs zs.length := by
  unfold ptofL
  rcases h with h | h
  · have : zs = [] := List.length_eq_zero_iff.1 h
    subst this
    cases roomB ps <;> rfl
  · have : zs.all (inN ps.length) = true := by
      rw [List.all_eq_true]
      intro z hz
      obtain ⟨j, hj, e⟩ := List.mem_iff_getElem.1 hz
      have := at0_at hj
      rw [List.getElem?_eq_getElem hj] at this
      injection this with this
      rw [← e, this]
      exact hall j hj
    rw [h, this]; rfl
end Go.Proofs.Ytcfoleiooohbhaa.PtofMath

/-
  Plain facts: who sees is seen, as the model asks; the nearest of several points that see one. No program stands here.
-/
namespace Go.Proofs.Ytcfoleiooohbhaa.NearMath
open PointMath WallMath RoomMath AreaMath PlaceMath FloorMath LineMath CutsMath SightMath KernMath

theorem btw_swap (p a b : Int × Int) : btwP p a b = btwP p b a := by
  unfold btwP btwB
  rw [PointFacts.mid_swap p.1 a.1 b.1, PointFacts.mid_swap p.2 a.2 b.2]
  have e : turnI a.1 a.2 b.1 b.2 p.1 p.2 = 0 ↔ turnI b.1 b.2 a.1 a.2 p.1 p.2 = 0 := by
    have := PointFacts.turn_swap a.1 a.2 b.1 b.2 p.1 p.2
    omega
  rw [decide_eq_decide.2 e]
theorem sep_swap (s t : Int) : sepB s t = sepB t s := by
  unfold sepB
  rw [Bool.eq_iff_iff]; simp; omega
theorem sep_minus (s t : Int) : sepB (-s) (-t) = sepB s t := by
  unfold sepB
  rw [Bool.eq_iff_iff]; simp; omega
theorem cut_swap (ps : List (Int × Int)) (a b : Int × Int) (k : Nat) : cutK ps a b k = cutK ps b a k := by
  unfold cutK cutP cutW sepW
  rw [sep_swap (turnI (pt ps k).1 (pt ps k).2 _ _ a.1 a.2), PointFacts.turn_swap b.1 b.2 a.1 a.2, PointFacts.turn_swap b.1 b.2 a.1 a.2, sep_minus]
theorem cross_iff (ps : List (Int × Int)) (a b : Int × Int) : crossM ps a b < 0 ↔ ∀ k, k < ps.length → cutK ps a b k = false := by
  unfold crossM firstI
  cases h : (List.range ps.length).find? (cutK ps a b) with
  | some j =>
    have h1 := List.find?_some h
    have h2 := List.mem_range.1 (List.mem_of_find?_eq_some h)
    constructor
    · intro h3; simp only at h3; omega
    · intro h3; rw [h3 j h2] at h1; cases h1
  | none =>
    have h1 := List.find?_eq_none.1 h
    refine ⟨fun _ k hk => ?_, fun _ => by decide⟩
    have := h1 k (List.mem_range.2 hk)
    simpa using this
/-- The middles of all pieces, told by the points alone. -/
def allMid (cs C : List (Int × Int)) : Prop := ∀ s, s ∈ C → ∀ t, t ∈ C → s ≠ t → (∀ u, u ∈ C → u ≠ s → u ≠ t → btwP u s t = false) → placeM (dblL cs) (addP s t) ≠ 0
theorem pairs_all {cs C : List (Int × Int)} (ho : Once C) : pairsB cs C = true ↔ allMid cs C := by
  rw [pairs_iff]
  have free : ∀ i k, i < C.length → k < C.length → (freeB C i k = true ↔ ∀ u, u ∈ C → u ≠ pt C i → u ≠ pt C k → btwP u (pt C i) (pt C k) = false) := by
    intro i k hi hk
    unfold freeB
    rw [List.all_eq_true]
    constructor
    · intro h u hu h1 h2
      obtain ⟨j, hj, rfl⟩ := mem_pt hu
      have := h j (List.mem_range.2 hj)
      have e1 : j ≠ i := fun e => h1 (by rw [e])
      have e2 : j ≠ k := fun e => h2 (by rw [e])
      simpa [e1, e2] using this
    · intro h j hj
      have hj := List.mem_range.1 hj
      by_cases e1 : j = i
      · simp [e1]
      · by_cases e2 : j = k
        · simp [e2]
        · have := h (pt C j) (pt_mem hj) (fun e => e1 (ho j hj i hi e)) (fun e => e2 (ho j hj k hk e))
          simp [this]
  constructor
  · intro h s hs t ht hst hf
    obtain ⟨i, hi, rfl⟩ := mem_pt hs
    obtain ⟨k, hk, rfl⟩ := mem_pt ht
    have hik : i ≠ k := fun e => hst (by rw [e])
    rcases Nat.lt_or_gt_of_ne hik with g | g
    · have := h k hk i g ((free k i hk hi).2 (fun u hu h1 h2 => by rw [btw_swap]; exact hf u hu h2 h1))
      rw [addP_comm] at this
      simpa using this
    · have := h i hi k g ((free i k hi hk).2 hf)
      simpa using this
  · intro h i hi k hk hf
    have hk' : k < C.length := by omega
    have := h (pt C i) (pt_mem hi) (pt C k) (pt_mem hk') (fun e => by have := ho i hi k hk' e; omega) ((free i k hi hk').1 hf)
    simpa using this
theorem way_swap {cs : List (Int × Int)} {a b : Int × Int} {k : Nat} {s : Int × Int} : onWay cs a b k s ↔ onWay cs b a k s := by
  unfold onWay
  constructor
  · rintro (h | h | ⟨j, h1, h2, h3⟩)
    · exact .inr (.inl h)
    · exact .inl h
    · exact .inr (.inr ⟨j, h1, h2, by rw [btw_swap]; exact h3⟩)
  · rintro (h | h | ⟨j, h1, h2, h3⟩)
    · exact .inr (.inl h)
    · exact .inl h
    · exact .inr (.inr ⟨j, h1, h2, by rw [btw_swap]; exact h3⟩)
/-- Who sees is seen. -/
theorem sees_swap {cs : List (Int × Int)} (h : roomB cs = true) (a b : Int × Int) : seesM cs a b = seesM cs b a := by
  by_cases e : a = b
  · subst e; rfl
  have once := room_once h
  unfold seesM
  have e1 : decide (crossM cs a b < 0) = decide (crossM cs b a < 0) := decide_eq_decide.2 (by
    rw [cross_iff, cross_iff]
    constructor
    · intro h k hk; rw [cut_swap]; exact h k hk
    · intro h k hk; rw [cut_swap]; exact h k hk)
  have e2 : pairsB cs (cutsTo cs a b cs.length) = pairsB cs (cutsTo cs b a cs.length) := by
    rw [Bool.eq_iff_iff, pairs_all (cutsTo_once e once _ (Nat.le_refl _)), pairs_all (cutsTo_once (fun x => e x.symm) once _ (Nat.le_refl _))]
    have hm : ∀ s, s ∈ cutsTo cs a b cs.length ↔ s ∈ cutsTo cs b a cs.length := fun s => by rw [cutsTo_mem, cutsTo_mem]; exact way_swap
    unfold allMid
    constructor
    · intro h s hs t ht hst hf
      exact h s ((hm s).2 hs) t ((hm t).2 ht) hst (fun u hu => hf u ((hm u).1 hu))
    · intro h s hs t ht hst hf
      exact h s ((hm s).1 hs) t ((hm t).1 ht) hst (fun u hu => hf u ((hm u).2 hu))
  rw [e1, e2]

/-- The nearest of the first k points that see the point. -/
def nearTo (ps gs : List (Int × Int)) (p : Int × Int) : Nat → Int
  | 0 => -1
  | k + 1 => if seesM ps (pt gs k) p && (decide (nearTo ps gs p k < 0) || decide (squareI (pt gs k).1 (pt gs k).2 p.1 p.2 < squareI (pt gs (nearTo ps gs p k).toNat).1 (pt gs (nearTo ps gs p k).toNat).2 p.1 p.2)) then (k : Int) else nearTo ps gs p k
theorem near_bound (ps gs : List (Int × Int)) (p : Int × Int) : ∀ k, -1 ≤ nearTo ps gs p k ∧ nearTo ps gs p k < (k : Int)
  | 0 => by simp [nearTo]
  | k + 1 => by
    have h := near_bound ps gs p k
    unfold nearTo
    split <;> omega
def nearestI (ps gs : List (Int × Int)) (x y : Int) : Int := if allIn ps gs && inB ps x y then nearTo ps gs (x, y) gs.length else -1
theorem square_sym (ax ay bx bY : Int) : squareI ax ay bx bY = squareI bx bY ax ay := by unfold squareI; grind
end Go.Proofs.Ytcfoleiooohbhaa.NearMath

/-
  Plain facts: the points of a list that pass a test. No program stands here.
-/
namespace Go.Proofs.Ytcfoleiooohbhaa.FiltMath
open PointMath WallMath RoomMath AreaMath PlaceMath FloorMath LineMath CutsMath SightMath DiagMath

def filtTo (f : Nat → Bool) (l : List (Int × Int)) : Nat → List (Int × Int)
  | 0 => []
  | k + 1 => if f k then filtTo f l k ++ [pt l k] else filtTo f l k
theorem filtTo_len (f : Nat → Bool) (l : List (Int × Int)) : ∀ k, (filtTo f l k).length ≤ k
  | 0 => Nat.le_refl _
  | k + 1 => by
    have h := filtTo_len f l k
    unfold filtTo
    split
    · rw [List.length_append]; simp only [List.length_cons, List.length_nil]; omega
    · omega
theorem filtTo_congr {f g : Nat → Bool} {l : List (Int × Int)} : ∀ {n : Nat}, (∀ j, j < n → f j = g j) → filtTo f l n = filtTo g l n
  | 0, _ => rfl
  | n + 1, h => by
    unfold filtTo
    rw [filtTo_congr (fun j hj => h j (by omega)), h n (by omega)]
theorem seen_filt (ps : List (Int × Int)) (a : Int × Int) (l : List (Int × Int)) : ∀ n, seenTo ps a l n = filtTo (fun j => seesM ps a (pt l j)) l n
  | 0 => rfl
  | n + 1 => by unfold seenTo filtTo; rw [seen_filt ps a l n]
theorem corn_that (ps : List (Int × Int)) (a : Int × Int) : ∀ n, cornTo ps a n = thatTo (fun j => seesM ps a (pt ps j)) n
  | 0 => rfl
  | n + 1 => by unfold cornTo thatTo; rw [corn_that ps a n]
theorem refl_that (ps : List (Int × Int)) : ∀ n, reflTo ps n = thatTo (reflB ps) n
  | 0 => rfl
  | n + 1 => by unfold reflTo thatTo; rw [refl_that ps n]
theorem filtTo_mem {f : Nat → Bool} {l : List (Int × Int)} : ∀ {n : Nat} {p : Int × Int}, p ∈ filtTo f l n → ∃ j, j < n ∧ pt l j = p ∧ f j = true
  | 0, p, h => by cases h
  | n + 1, p, h => by
    unfold filtTo at h
    cases hf : f n
    · rw [hf] at h
      obtain ⟨j, hj, e⟩ := filtTo_mem (n := n) (by simpa using h)
      exact ⟨j, by omega, e⟩
    · rw [hf] at h
      simp only [if_true, List.mem_append, List.mem_singleton] at h
      rcases h with h | h
      · obtain ⟨j, hj, e⟩ := filtTo_mem (n := n) h
        exact ⟨j, by omega, e⟩
      · exact ⟨n, by omega, h.symm, hf⟩
end Go.Proofs.Ytcfoleiooohbhaa.FiltMath

/-
  Plain facts on a room that begins at another corner. No program stands here.
-/
namespace Go.Proofs.Ytcfoleiooohbhaa.StartMath
open PointMath WallMath RoomMath

def startL (ps : List (Int × Int)) (k : Int) : List (Int × Int) := if roomB ps = true ∧ 0 ≤ k ∧ k < (ps.length : Int) then ps.drop k.toNat ++ ps.take k.toNat else []
/-- The first i corners from corner k on, going round. -/
def startTo (ps : List (Int × Int)) (k : Nat) : Nat → List (Int × Int)
  | 0 => []
  | i + 1 => startTo ps k i ++ [pt ps ((k + i) % ps.length)]
theorem startTo_len (ps : List (Int × Int)) (k : Nat) : ∀ i, (startTo ps k i).length = i
  | 0 => rfl
  | i + 1 => by simp [startTo, startTo_len ps k i]
theorem startTo_at (ps : List (Int × Int)) (k : Nat) : ∀ i j, j < i → (startTo ps k i)[j]? = some (pt ps ((k + j) % ps.length))
  | 0, j, h => by omega
  | i + 1, j, h => by
    have hl := startTo_len ps k i
    simp only [startTo]
    rw [List.getElem?_append, hl]
    by_cases hj : j < i
    · rw [if_pos hj]; exact startTo_at ps k i j hj
    · obtain rfl : j = i := by omega
      rw [if_neg (by omega)]
      simp
theorem startTo_all {ps : List (Int × Int)} {k : Nat} (hk : k < ps.length) : startTo ps k ps.length = ps.drop k ++ ps.take k := by
  apply List.ext_getElem?
  intro j
  rcases Nat.lt_or_ge j ps.length with hj | hj
  · rw [startTo_at ps k _ j hj, List.getElem?_append, List.length_drop]
    by_cases h : j < ps.length - k
    · rw [if_pos h, List.getElem?_drop, Nat.mod_eq_of_lt (by omega), pt_at (by omega)]
    · rw [if_neg h, List.getElem?_take, if_pos (by omega), Nat.mod_eq_sub_mod (by omega), Nat.mod_eq_of_lt (by omega), ← pt_at (by omega)]
      congr 1
      omega
  · rw [List.getElem?_eq_none (by rw [startTo_len]; exact hj), List.getElem?_eq_none (by simp; omega)]
theorem startL_yes {ps : List (Int × Int)} {k : Nat} (h : roomB ps = true) (hk : k < ps.length) : startL ps (k : Int) = ps.drop k ++ ps.take k := by
  unfold startL
  rw [if_pos ⟨h, by omega, by omega⟩]
  rfl
theorem startL_no {ps : List (Int × Int)} {k : Int} (h : roomB ps = false ∨ ¬ (0 ≤ k ∧ k < (ps.length : Int))) : startL ps k = [] := by
  unfold startL
  rw [if_neg]
  rintro ⟨h1, h2⟩
  rcases h with h | h
  · rw [h] at h1; cases h1
  · exact h h2
theorem startL_len (ps : List (Int × Int)) (k : Int) : (startL ps k).length ≤ ps.length := by
  unfold startL
  split
  · simp; omega
  · simp
end Go.Proofs.Ytcfoleiooohbhaa.StartMath
