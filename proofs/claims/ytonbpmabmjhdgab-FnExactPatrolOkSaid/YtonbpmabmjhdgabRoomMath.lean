/-
  Plain facts on rooms: lists of points. No program stands here.
-/
import Derived.Test.YtonbpmabmjhdgabWallMath
namespace Go.Proofs.Ytonbpmabmjhdgab.RoomMath
open PointMath WallMath

/-- Which of n corners has the index k, going round. -/
def ixI (n : Nat) (k : Int) : Nat := ((k.tmod n + n).tmod n).toNat
def cornerI (ps : List (Int × Int)) (k : Int) : Int × Int := if ps.length = 0 ∨ ¬(-1000 ≤ k ∧ k ≤ 1000) then (0, 0) else ps.getD (ixI ps.length k) (0, 0)

theorem ix_tmod {n : Nat} {k : Int} (hn : 0 < n) : -(n : Int) < k.tmod n ∧ k.tmod n < n := by
  have h1 := Int.natAbs_tmod k n
  have h2 := Nat.mod_lt k.natAbs (show 0 < (n : Int).natAbs by omega)
  omega
theorem ix_lt {n : Nat} {k : Int} (hn : 0 < n) : (k.tmod n + n).tmod n = (ixI n k : Int) ∧ ixI n k < n := by
  have h := ix_tmod (k := k) hn
  have e : (k.tmod n + n).tmod n = (k.tmod n + n) % n := Int.tmod_eq_emod_of_nonneg (by omega)
  have h1 := Int.emod_nonneg (k.tmod n + n) (show (n : Int) ≠ 0 by omega)
  have h2 := Int.emod_lt_of_pos (k.tmod n + n) (show (0 : Int) < n by omega)
  unfold ixI
  rw [e]
  omega

/-- The least index of the point, or -1. -/
def findI (ps : List (Int × Int)) (x y : Int) : Int :=
  match ps.findIdx? (fun p => decide (p = (x, y))) with
  | some k => (k : Int)
  | none => -1
theorem findI_at {ps : List (Int × Int)} {x y : Int} {k : Nat} (h1 : ps[k]? = some (x, y)) (h2 : ∀ j, j < k → ps[j]? ≠ some (x, y)) : findI ps x y = (k : Int) := by
  obtain ⟨hl, e⟩ := List.getElem?_eq_some_iff.1 h1
  have : ps.findIdx? (fun p => decide (p = (x, y))) = some k := by
    rw [List.findIdx?_eq_some_iff_getElem]
    refine ⟨hl, by simp [e], fun j hj => ?_⟩
    have := h2 j hj
    rw [List.getElem?_eq_getElem (by omega)] at this
    simpa using this
  unfold findI
  rw [this]
theorem findI_none {ps : List (Int × Int)} {x y : Int} (h : ∀ j, j < ps.length → ps[j]? ≠ some (x, y)) : findI ps x y = -1 := by
  have : ps.findIdx? (fun p => decide (p = (x, y))) = none := by
    rw [List.findIdx?_eq_none_iff]
    intro p hp
    obtain ⟨j, hj, e⟩ := List.mem_iff_getElem.1 hp
    have := h j hj
    rw [List.getElem?_eq_getElem hj, e] at this
    simpa using this
  unfold findI
  rw [this]

def pt (ps : List (Int × Int)) (k : Nat) : Int × Int := ps.getD k (0, 0)
theorem pt_at {ps : List (Int × Int)} {k : Nat} (h : k < ps.length) : ps[k]? = some (pt ps k) := by
  unfold pt
  rw [List.getD_eq_getElem?_getD, List.getElem?_eq_getElem h]
  rfl
def okAll (ps : List (Int × Int)) : Bool := ps.all fun p => okP p.1 p.2
def crossI (p q : Int × Int) : Int := p.1 * q.2 - p.2 * q.1
/-- Twice the area, over the first k corners. -/
def dblTo (ps : List (Int × Int)) : Nat → Int
  | 0 => 0
  | k + 1 => dblTo ps k + crossI (pt ps k) (pt ps ((k + 1) % ps.length))
def turnP (a b c : Int × Int) : Int := turnI a.1 a.2 b.1 b.2 c.1 c.2
def bendAt (ps : List (Int × Int)) (k : Nat) : Int := turnP (pt ps k) (pt ps ((k + 1) % ps.length)) (pt ps ((k + 2) % ps.length))
def meetP (a b c d : Int × Int) : Bool := meetB a.1 a.2 b.1 b.2 c.1 c.2 d.1 d.2
def meetAt (ps : List (Int × Int)) (k i : Nat) : Bool := meetP (pt ps k) (pt ps ((k + 1) % ps.length)) (pt ps i) (pt ps ((i + 1) % ps.length))
def nearB (n k i : Nat) : Bool := decide (i = k) || decide ((i + 1) % n = k) || decide ((k + 1) % n = i)
def roundB (ps : List (Int × Int)) (k : Nat) : Bool := decide (bendAt ps k ≠ 0) && (List.range ps.length).all fun i => nearB ps.length k i || !meetAt ps k i
/-- Is a room valid? -/
def roomB (ps : List (Int × Int)) : Bool :=
  decide (3 ≤ ps.length ∧ ps.length ≤ 10) && okAll ps && ((List.range ps.length).all fun k => roundB ps k) && decide (0 < dblTo ps ps.length)

theorem okAll_at {ps : List (Int × Int)} (h : okAll ps = true) {k : Nat} (hk : k < ps.length) : okP (pt ps k).1 (pt ps k).2 = true :=
  (List.all_eq_true.1 h) _ (List.mem_of_getElem? (pt_at hk))
theorem okAll_of {ps : List (Int × Int)} (h : ∀ k, k < ps.length → okP (pt ps k).1 (pt ps k).2 = true) : okAll ps = true := by
  refine List.all_eq_true.2 fun p hp => ?_
  obtain ⟨k, hk, e⟩ := List.mem_iff_getElem.1 hp
  have := h k hk
  have e2 : pt ps k = p := by
    have := pt_at hk
    rw [List.getElem?_eq_getElem hk, e] at this
    injection this with this
    exact this.symm
  rwa [e2] at this
theorem roomB_short {ps : List (Int × Int)} (h : ¬(3 ≤ ps.length ∧ ps.length ≤ 10)) : roomB ps = false := by
  unfold roomB
  rw [show decide (3 ≤ ps.length ∧ ps.length ≤ 10) = false from decide_eq_false h]
  rfl
theorem roomB_point {ps : List (Int × Int)} {k : Nat} (hk : k < ps.length) (h : okP (pt ps k).1 (pt ps k).2 = false) : roomB ps = false := by
  cases h2 : okAll ps
  · unfold roomB; rw [h2]; simp
  · have := okAll_at h2 hk
    rw [h] at this
    cases this
theorem roomB_round {ps : List (Int × Int)} {k : Nat} (hk : k < ps.length) (h : roundB ps k = false) : roomB ps = false := by
  have : ((List.range ps.length).all fun k => roundB ps k) = false := by
    rw [List.all_eq_false]
    exact ⟨k, List.mem_range.2 hk, by simp [h]⟩
  unfold roomB
  rw [this]
  simp
theorem roundB_bend {ps : List (Int × Int)} {k : Nat} (h : bendAt ps k = 0) : roundB ps k = false := by
  unfold roundB; rw [h]; simp
theorem roundB_meet {ps : List (Int × Int)} {k i : Nat} (hi : i < ps.length) (h1 : nearB ps.length k i = false) (h2 : meetAt ps k i = true) : roundB ps k = false := by
  have : ((List.range ps.length).all fun i => nearB ps.length k i || !meetAt ps k i) = false := by
    rw [List.all_eq_false]
    exact ⟨i, List.mem_range.2 hi, by simp [h1, h2]⟩
  unfold roundB
  rw [this]
  simp
theorem roundB_of {ps : List (Int × Int)} {k : Nat} (h1 : bendAt ps k ≠ 0) (h2 : ∀ i, i < ps.length → nearB ps.length k i = true ∨ meetAt ps k i = false) : roundB ps k = true := by
  unfold roundB
  rw [show decide (bendAt ps k ≠ 0) = true from decide_eq_true h1, Bool.true_and, List.all_eq_true]
  intro i hi
  rcases h2 i (List.mem_range.1 hi) with h | h <;> simp [h]
theorem roomB_last {ps : List (Int × Int)} (h1 : 3 ≤ ps.length ∧ ps.length ≤ 10) (h2 : okAll ps = true) (h3 : ∀ k, k < ps.length → roundB ps k = true) : roomB ps = decide (0 < dblTo ps ps.length) := by
  have : ((List.range ps.length).all fun k => roundB ps k) = true := List.all_eq_true.2 fun k hk => h3 k (List.mem_range.1 hk)
  unfold roomB
  rw [this, h2, show decide (3 ≤ ps.length ∧ ps.length ≤ 10) = true from decide_eq_true h1]
  simp
theorem small_mul {a b : Int} (ha : -40 ≤ a ∧ a ≤ 40) (hb : -40 ≤ b ∧ b ≤ 40) : -1600 ≤ a * b ∧ a * b ≤ 1600 := by
  have h1 : (a * b).natAbs ≤ 40 * 40 := by
    rw [Int.natAbs_mul]
    exact Nat.mul_le_mul (by omega) (by omega)
  omega
theorem dblTo_bound {ps : List (Int × Int)} (h : okAll ps = true) : ∀ k, k ≤ ps.length → -(3200 * (k : Int)) ≤ dblTo ps k ∧ dblTo ps k ≤ 3200 * (k : Int)
  | 0, _ => by simp [dblTo]
  | k + 1, hk => by
    have ih := dblTo_bound h k (by omega)
    have q1 := okP_yes (okAll_at h (k := k) (by omega))
    have q2 := okP_yes (okAll_at h (k := (k + 1) % ps.length) (Nat.mod_lt _ (by omega)))
    have m1 := small_mul (a := (pt ps k).1) (b := (pt ps ((k + 1) % ps.length)).2) (by omega) (by omega)
    have m2 := small_mul (a := (pt ps k).2) (b := (pt ps ((k + 1) % ps.length)).1) (by omega) (by omega)
    simp only [dblTo, crossI]
    omega
theorem succ_emod (n k : Nat) : ((k : Int) + 1) % (n : Int) = (((k + 1) % n : Nat) : Int) := by
  rw [Int.natCast_emod, Int.natCast_add]; rfl
theorem succ2_emod (n k : Nat) : ((k : Int) + 2) % (n : Int) = (((k + 2) % n : Nat) : Int) := by
  rw [Int.natCast_emod, Int.natCast_add]; rfl

theorem ix_succ {n k : Nat} (hn : 0 < n) : ixI n ((k : Int) + 1) = (k + 1) % n := by
  have h1 : ((k : Int) + 1).tmod n = (((k + 1) % n : Nat) : Int) := by rw [Int.tmod_eq_emod_of_nonneg (by omega)]; exact succ_emod n k
  have h2 := Nat.mod_lt (k + 1) hn
  unfold ixI
  rw [h1, Int.tmod_eq_emod_of_nonneg (by omega), Int.add_emod_right]
  rw [Int.emod_eq_of_lt (by omega) (by omega)]
  rfl
theorem ix_pred {n k : Nat} (hn : 2 ≤ n) (hk : k < n) : ixI n ((k : Int) - 1) = (k + (n - 1)) % n := by
  unfold ixI
  rcases Nat.eq_zero_or_pos k with h | h
  · subst h
    have h1 : (((0 : Nat) : Int) - 1).tmod n = -1 := by
      rw [show (((0 : Nat) : Int) - 1) = -(1 : Int) by omega, Int.neg_tmod, Int.tmod_eq_emod_of_nonneg (by omega), Int.emod_eq_of_lt (by omega) (by omega)]
    rw [h1, Int.tmod_eq_emod_of_nonneg (by omega), Int.emod_eq_of_lt (by omega) (by omega), Nat.mod_eq_of_lt (by omega)]
    omega
  · have h1 : ((k : Int) - 1).tmod n = (k : Int) - 1 := by rw [Int.tmod_eq_emod_of_nonneg (by omega), Int.emod_eq_of_lt (by omega) (by omega)]
    rw [h1, Int.tmod_eq_emod_of_nonneg (by omega), Int.add_emod_right, Int.emod_eq_of_lt (by omega) (by omega), show k + (n - 1) = (k - 1) + n by omega, Nat.add_mod_right, Nat.mod_eq_of_lt (by omega)]
    omega

/-- The turn at corner k, seen from the corner before it. -/
def bendBack (ps : List (Int × Int)) (k : Nat) : Int := turnP (pt ps ((k + (ps.length - 1)) % ps.length)) (pt ps k) (pt ps ((k + 1) % ps.length))
def bendsB (ps : List (Int × Int)) : Bool := (List.range ps.length).all fun k => decide (bendBack ps k ≠ 0)
/-- Do walls i < k have a common corner? -/
def nextB (n k i : Nat) : Bool := decide (k - i = 1) || decide (k - i = n - 1)
def farB (ps : List (Int × Int)) : Bool := (List.range ps.length).any fun k => (List.range k).any fun i => !nextB ps.length k i && meetAt ps i k

theorem bendsB_at {ps : List (Int × Int)} {k : Nat} (hk : k < ps.length) (h : bendBack ps k = 0) : bendsB ps = false := by
  unfold bendsB
  rw [List.all_eq_false]
  exact ⟨k, List.mem_range.2 hk, by simp [h]⟩
theorem bendsB_of {ps : List (Int × Int)} (h : ∀ k, k < ps.length → bendBack ps k ≠ 0) : bendsB ps = true :=
  List.all_eq_true.2 fun k hk => by simpa using h k (List.mem_range.1 hk)
theorem farB_at {ps : List (Int × Int)} {k i : Nat} (hk : k < ps.length) (hi : i < k) (h1 : nextB ps.length k i = false) (h2 : meetAt ps i k = true) : farB ps = true := by
  unfold farB
  rw [List.any_eq_true]
  refine ⟨k, List.mem_range.2 hk, ?_⟩
  rw [List.any_eq_true]
  exact ⟨i, List.mem_range.2 hi, by simp [h1, h2]⟩
theorem farB_of {ps : List (Int × Int)} (h : ∀ k, k < ps.length → ∀ i, i < k → nextB ps.length k i = true ∨ meetAt ps i k = false) : farB ps = false := by
  unfold farB
  rw [List.any_eq_false]
  intro k hk
  rw [Bool.not_eq_true, List.any_eq_false]
  intro i hi
  rcases h k (List.mem_range.1 hk) i (List.mem_range.1 hi) with h | h <;> simp [h]

theorem meetP_comm (a b c d : Int × Int) : meetP a b c d = meetP c d a b := by
  unfold meetP meetB crossB
  generalize okW a.1 a.2 b.1 b.2 = x1
  generalize okW c.1 c.2 d.1 d.2 = x2
  generalize sepW a.1 a.2 b.1 b.2 c.1 c.2 d.1 d.2 = x3
  generalize sepW c.1 c.2 d.1 d.2 a.1 a.2 b.1 b.2 = x4
  generalize onB a.1 a.2 b.1 b.2 c.1 c.2 = x5
  generalize onB a.1 a.2 b.1 b.2 d.1 d.2 = x6
  generalize onB c.1 c.2 d.1 d.2 a.1 a.2 = x7
  generalize onB c.1 c.2 d.1 d.2 b.1 b.2 = x8
  revert x1 x2 x3 x4 x5 x6 x7 x8
  decide
theorem meetAt_comm (ps : List (Int × Int)) (k i : Nat) : meetAt ps k i = meetAt ps i k := meetP_comm _ _ _ _

theorem roomB_bends {ps : List (Int × Int)} (h : bendsB ps = false) : roomB ps = false := by
  unfold bendsB at h
  rw [List.all_eq_false] at h
  obtain ⟨k, hk, h⟩ := h
  have hk := List.mem_range.1 hk
  have h0 : bendBack ps k = 0 := by simpa using h
  have hj : (k + (ps.length - 1)) % ps.length < ps.length := Nat.mod_lt _ (by omega)
  have e1 : ((k + (ps.length - 1)) % ps.length + 1) % ps.length = k := by
    rw [Nat.mod_add_mod, show k + (ps.length - 1) + 1 = k + ps.length by omega, Nat.add_mod_right, Nat.mod_eq_of_lt hk]
  have e2 : ((k + (ps.length - 1)) % ps.length + 2) % ps.length = (k + 1) % ps.length := by
    rw [Nat.mod_add_mod, show k + (ps.length - 1) + 2 = k + 1 + ps.length by omega, Nat.add_mod_right]
  refine roomB_round hj (roundB_bend ?_)
  unfold bendAt
  rw [e1, e2]
  exact h0
theorem bends_yes {ps : List (Int × Int)} (h : bendsB ps = true) {j : Nat} (hj : j < ps.length) : bendAt ps j ≠ 0 := by
  have hk : (j + 1) % ps.length < ps.length := Nat.mod_lt _ (by omega)
  have h0 := (List.all_eq_true.1 h) _ (List.mem_range.2 hk)
  have h1 : bendBack ps ((j + 1) % ps.length) ≠ 0 := by simpa using h0
  have e1 : ((j + 1) % ps.length + (ps.length - 1)) % ps.length = j := by
    rw [Nat.mod_add_mod, show j + 1 + (ps.length - 1) = j + ps.length by omega, Nat.add_mod_right, Nat.mod_eq_of_lt hj]
  have e2 : ((j + 1) % ps.length + 1) % ps.length = (j + 2) % ps.length := by rw [Nat.mod_add_mod]
  unfold bendBack at h1
  rw [e1, e2] at h1
  exact h1
theorem near_of_next {n k i : Nat} (hk : k < n) (hi : i < k) : nearB n i k = nextB n k i := by
  have e1 : (i + 1) % n = i + 1 := Nat.mod_eq_of_lt (by omega)
  unfold nearB nextB
  rw [e1, Bool.eq_iff_iff]
  rcases Nat.lt_or_ge (k + 1) n with h | h
  · rw [Nat.mod_eq_of_lt h]; simp; omega
  · rw [show k + 1 = n by omega, Nat.mod_self]; simp; omega
theorem near_comm (n k i : Nat) : nearB n k i = nearB n i k := by
  unfold nearB
  rw [Bool.eq_iff_iff]
  simp
  omega
theorem ix_pred1 {n k : Nat} (hn : 1 ≤ n) (hk : k < n) : ixI n ((k : Int) - 1) = (k + (n - 1)) % n := by
  rcases Nat.lt_or_ge n 2 with h | h
  · obtain rfl : n = 1 := by omega
    obtain rfl : k = 0 := by omega
    decide
  · exact ix_pred h hk
/-- The least index of a corner on one line with its neighbors, or -1. -/
def straightI (ps : List (Int × Int)) : Int :=
  match (List.range ps.length).find? fun k => decide (bendBack ps k = 0) with
  | some k => (k : Int)
  | none => -1
theorem straightI_at {ps : List (Int × Int)} {k : Nat} (hk : k < ps.length) (h : bendBack ps k = 0) (hno : ∀ j, j < k → bendBack ps j ≠ 0) : straightI ps = (k : Int) := by
  unfold straightI
  rw [List.find?_range_eq_some.2 ⟨by simpa using h, List.mem_range.2 hk, fun j hj => by simpa using hno j hj⟩]
theorem straightI_none {ps : List (Int × Int)} (h : ∀ k, k < ps.length → bendBack ps k ≠ 0) : straightI ps = -1 := by
  unfold straightI
  rw [List.find?_range_eq_none.2 fun j hj => by simpa using h j hj]
theorem straightI_cases (ps : List (Int × Int)) : (straightI ps = -1 ∧ ∀ k, k < ps.length → bendBack ps k ≠ 0) ∨ ∃ k : Nat, k < ps.length ∧ straightI ps = (k : Int) ∧ bendBack ps k = 0 ∧ ∀ j, j < k → bendBack ps j ≠ 0 := by
  cases h : (List.range ps.length).find? fun k => decide (bendBack ps k = 0) with
  | none =>
    have h1 := List.find?_range_eq_none.1 h
    have h2 : ∀ k, k < ps.length → bendBack ps k ≠ 0 := fun k hk => by simpa using h1 k hk
    exact .inl ⟨straightI_none h2, h2⟩
  | some k =>
    obtain ⟨h1, h2, h3⟩ := List.find?_range_eq_some.1 h
    have h1 : bendBack ps k = 0 := by simpa using h1
    have h3 : ∀ j, j < k → bendBack ps j ≠ 0 := fun j hj => by simpa using h3 j hj
    exact .inr ⟨k, List.mem_range.1 h2, straightI_at (List.mem_range.1 h2) h1 h3, h1, h3⟩
theorem straight_neg (ps : List (Int × Int)) : decide (straightI ps < 0) = bendsB ps := by
  rcases straightI_cases ps with ⟨h1, h2⟩ | ⟨k, hk, h1, h2, _⟩
  · rw [h1, bendsB_of h2]; rfl
  · rw [h1, bendsB_at hk h2]; simp
/-- Is one of two corners the next one of the other? -/
def nbrB (n i k : Nat) : Bool := decide (k = (i + 1) % n) || decide (i = (k + 1) % n)
theorem nbr_next {n k i : Nat} (hk : k < n) (hi : i < k) : nbrB n i k = nextB n k i := by
  rw [← near_of_next hk hi]
  unfold nearB nbrB
  rw [Bool.eq_iff_iff]
  simp
  omega
theorem roomB_far {ps : List (Int × Int)} (h : farB ps = true) : roomB ps = false := by
  unfold farB at h
  rw [List.any_eq_true] at h
  obtain ⟨k, hk, h⟩ := h
  rw [List.any_eq_true] at h
  obtain ⟨i, hi, h⟩ := h
  have hk := List.mem_range.1 hk
  have hi := List.mem_range.1 hi
  simp at h
  exact roomB_round (k := i) (by omega) (roundB_meet hk (by rw [near_of_next hk hi]; exact h.1) h.2)
theorem roomB_impl {ps : List (Int × Int)} (h1 : 3 ≤ ps.length ∧ ps.length ≤ 10) (h2 : okAll ps = true) (h3 : bendsB ps = true) (h4 : farB ps = false) : roomB ps = decide (0 < dblTo ps ps.length) := by
  refine roomB_last h1 h2 fun k hk => roundB_of (bends_yes h3 hk) fun i hi => ?_
  have far : ∀ k i, k < ps.length → i < k → nextB ps.length k i = true ∨ meetAt ps i k = false := by
    intro k i hk hi
    cases h : nextB ps.length k i
    · cases h5 : meetAt ps i k
      · exact .inr rfl
      · rw [farB_at hk hi h h5] at h4
        cases h4
    · exact .inl rfl
  rcases Nat.lt_trichotomy i k with h | h | h
  · rcases far k i hk h with h' | h'
    · exact .inl (by rw [near_comm, near_of_next hk h]; exact h')
    · exact .inr (by rw [meetAt_comm]; exact h')
  · exact .inl (by simp [nearB, h])
  · rcases far i k hi h with h' | h'
    · exact .inl (by rw [near_of_next hi h]; exact h')
    · exact .inr h'

/-- The wall that begins at corner k, if there is one. -/
def wallI (ps : List (Int × Int)) (k : Int) : (Int × Int) × (Int × Int) :=
  if roomB ps = true ∧ 0 ≤ k ∧ k < (ps.length : Int) then (pt ps k.toNat, pt ps ((k.toNat + 1) % ps.length)) else ((0, 0), (0, 0))
end Go.Proofs.Ytonbpmabmjhdgab.RoomMath
