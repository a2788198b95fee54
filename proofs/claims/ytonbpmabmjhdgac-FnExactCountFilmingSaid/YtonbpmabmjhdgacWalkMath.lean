/-
  Walks, patrols and the gaps of their moments: plain facts. No program stands here.
-/
import Derived.Test.YtonbpmabmjhdgacFacts
namespace Go.Proofs.Ytonbpmabmjhdgac.WalkMath
open PointMath WallMath RoomMath AreaMath PlaceMath FloorMath LineMath CutsMath SightMath KernMath DiagMath PtofMath

/-- The first k points: each sees the one before. -/
def wayTo (ps qs : List (Int × Int)) : Nat → Bool
  | 0 => true
  | k + 1 => wayTo ps qs k && (decide (k = 0) || seesM ps (pt qs (k - 1)) (pt qs k))
theorem wayTo_not {ps qs : List (Int × Int)} {k : Nat} (hk : 0 < k) (h : seesM ps (pt qs (k - 1)) (pt qs k) = false) : ∀ m, k < m → wayTo ps qs m = false
  | 0, hm => by omega
  | m + 1, hm => by
    unfold wayTo
    by_cases e : k = m
    · subst e
      rw [h, show decide (k = 0) = false from decide_eq_false (by omega)]
      simp
    · rw [wayTo_not hk h m (by omega)]; rfl
def walkB (ps qs : List (Int × Int)) : Bool := allIn ps qs && decide (qs.length ≤ 40) && wayTo ps qs qs.length
def patrolB (ps qs : List (Int × Int)) : Bool := decide (1 ≤ qs.length) && walkB ps qs && seesM ps (pt qs 0) (pt qs (qs.length - 1))
theorem walk_parts {ps qs : List (Int × Int)} (h : walkB ps qs = true) : allIn ps qs = true ∧ qs.length ≤ 40 ∧ wayTo ps qs qs.length = true := by
  unfold walkB at h
  simp only [Bool.and_eq_true, decide_eq_true_eq] at h
  exact ⟨h.1.1, h.1.2, h.2⟩
theorem patrol_parts {ps qs : List (Int × Int)} (h : patrolB ps qs = true) : 1 ≤ qs.length ∧ walkB ps qs = true := by
  unfold patrolB at h
  simp only [Bool.and_eq_true, decide_eq_true_eq] at h
  exact h.1
/-- The moments at which a point is seen. -/
def momL (ps qs : List (Int × Int)) (p : Int × Int) : List Int := thatTo (fun k => seesM ps (pt qs k) p) qs.length
def seenOnL (ps qs : List (Int × Int)) (x y : Int) : List Int := if patrolB ps qs && inB ps x y then momL ps qs (x, y) else []
theorem seenOnL_le (ps qs : List (Int × Int)) (x y : Int) (h : qs.length ≤ 1048576) : (seenOnL ps qs x y).length ≤ 1048576 := by
  unfold seenOnL
  split
  · have := thatTo_len (fun k => seesM ps (pt qs k) (x, y)) qs.length
    unfold momL
    omega
  · simp
theorem mom_swap {ps : List (Int × Int)} (h : roomB ps = true) (qs : List (Int × Int)) (p : Int × Int) : momL ps qs p = thatTo (fun k => seesM ps p (pt qs k)) qs.length :=
  thatTo_congr fun _ _ => NearMath.sees_swap h _ _

theorem at0_append_lt {l r : List Int} {k : Nat} (h : k < l.length) : at0 (l ++ r) k = at0 l k := by
  unfold at0
  rw [List.getD_eq_getElem?_getD, List.getD_eq_getElem?_getD, List.getElem?_append_left h]
theorem at0_append_eq (l : List Int) (x : Int) : at0 (l ++ [x]) l.length = x := by
  unfold at0
  rw [List.getD_eq_getElem?_getD, List.getElem?_append_right (Nat.le_refl _)]
  simp
theorem that_in {f : Nat → Bool} : ∀ (n : Nat) {k : Nat}, k < (thatTo f n).length → 0 ≤ at0 (thatTo f n) k ∧ at0 (thatTo f n) k < (n : Int)
  | 0, k, h => by simp [thatTo] at h
  | n + 1, k, h => by
    unfold thatTo at h ⊢
    cases hf : f n
    · rw [hf] at h
      simp only [Bool.false_eq_true, if_false] at h ⊢
      have := that_in n h
      omega
    · rw [hf] at h
      simp only [if_true, List.length_append, List.length_cons, List.length_nil] at h ⊢
      rcases Nat.lt_or_ge k (thatTo f n).length with h1 | h1
      · rw [at0_append_lt h1]
        have := that_in n h1
        omega
      · obtain rfl : k = (thatTo f n).length := by omega
        rw [at0_append_eq]
        omega

/-- The greatest number of moments between two of the first k that follow each other; from the last one to the first one across the end. -/
def gapTo (l : List Int) (n : Int) : Nat → Int
  | 0 => 0
  | k + 1 => if k = 0 then at0 l 0 + n - at0 l (l.length - 1) else max (gapTo l n k) (at0 l k - at0 l (k - 1))
def gapI (l : List Int) (n : Int) : Int := if l.length = 0 then -1 else gapTo l n l.length
def Within (l : List Int) (n : Int) : Prop := ∀ k, k < l.length → 0 ≤ at0 l k ∧ at0 l k < n
theorem gapTo_bound {l : List Int} {n : Int} (h : Within l n) : ∀ k, k < l.length → 1 ≤ gapTo l n (k + 1) ∧ gapTo l n (k + 1) < 2 * n
  | 0, hk => by
    have h0 := h 0 hk
    have h1 := h (l.length - 1) (by omega)
    show 1 ≤ (at0 l 0 + n - at0 l (l.length - 1)) ∧ (at0 l 0 + n - at0 l (l.length - 1)) < 2 * n
    omega
  | k + 1, hk => by
    have ih := gapTo_bound h k (by omega)
    have h0 := h (k + 1) hk
    have h1 := h k (by omega)
    show 1 ≤ max (gapTo l n (k + 1)) (at0 l (k + 1) - at0 l k) ∧ max (gapTo l n (k + 1)) (at0 l (k + 1) - at0 l k) < 2 * n
    omega
theorem gapI_bound {l : List Int} {n : Int} (h : Within l n) (hl : l.length ≠ 0) : 1 ≤ gapI l n ∧ gapI l n < 2 * n := by
  unfold gapI
  rw [if_neg hl]
  have := gapTo_bound h (l.length - 1) (by omega)
  rw [show l.length - 1 + 1 = l.length by omega] at this
  exact this
/-- How the landed loop goes: the moment before, and the greatest gap so far. -/
def lastTo (l : List Int) (n : Int) (k : Nat) : Int := if k = 0 then at0 l (l.length - 1) - n else at0 l (k - 1)
theorem last_bound {l : List Int} {n : Int} (h : Within l n) {k : Nat} (hk : k < l.length) : -n ≤ lastTo l n k ∧ lastTo l n k < n := by
  unfold lastTo
  split
  · have := h (l.length - 1) (by omega)
    omega
  · have := h (k - 1) (by omega)
    omega
theorem gap_step {l : List Int} {n : Int} (h : Within l n) {k : Nat} (hk : k < l.length) : gapTo l n (k + 1) = max (gapTo l n k) (at0 l k - lastTo l n k) ∧ lastTo l n (k + 1) = at0 l k := by
  refine ⟨?_, ?_⟩
  · unfold lastTo
    by_cases e : k = 0
    · subst e
      have := gapTo_bound h 0 hk
      show (at0 l 0 + n - at0 l (l.length - 1)) = max 0 (at0 l 0 - (at0 l (l.length - 1) - n))
      have e2 : gapTo l n (0 + 1) = at0 l 0 + n - at0 l (l.length - 1) := rfl
      omega
    · show (if k = 0 then _ else max (gapTo l n k) (at0 l k - at0 l (k - 1))) = _
      rw [if_neg e, if_neg e]
  · unfold lastTo
    rw [if_neg (by omega)]
    rfl
def gapAt (ps qs : List (Int × Int)) (p : Int × Int) : Int := gapI (momL ps qs p) (qs.length : Int)
theorem mom_within (ps qs : List (Int × Int)) (p : Int × Int) : Within (momL ps qs p) (qs.length : Int) := fun _ hk => that_in _ hk
theorem gapAt_bound (ps qs : List (Int × Int)) (p : Int × Int) : (gapAt ps qs p = -1 ∧ momL ps qs p = []) ∨ (1 ≤ gapAt ps qs p ∧ gapAt ps qs p < 2 * (qs.length : Int) ∧ (momL ps qs p).length ≠ 0) := by
  by_cases h : (momL ps qs p).length = 0
  · exact .inl ⟨by unfold gapAt gapI; rw [if_pos h], List.length_eq_zero_iff.1 h⟩
  · have := gapI_bound (mom_within ps qs p) h
    exact .inr ⟨this.1, this.2, h⟩
/-- The answer of LongestGap. -/
def longI (ps qs : List (Int × Int)) (x y : Int) : Int := gapI (seenOnL ps qs x y) (qs.length : Int)
theorem seenOn_within (ps qs : List (Int × Int)) (x y : Int) : Within (seenOnL ps qs x y) (qs.length : Int) := by
  unfold seenOnL
  split
  · exact mom_within _ _ _
  · intro k hk; simp at hk

/-- The greatest gap of the first k points of a list. -/
def worstTo (ps qs l : List (Int × Int)) : Nat → Int
  | 0 => 0
  | k + 1 => max (worstTo ps qs l k) (gapAt ps qs (pt l k))
def allSeen (ps qs l : List (Int × Int)) : Bool := (List.range l.length).all fun k => decide (0 ≤ gapAt ps qs (pt l k))
def worstI (ps qs : List (Int × Int)) : Int := if patrolB ps qs && allSeen ps qs (floorL ps) then worstTo ps qs (floorL ps) (floorL ps).length else -1
def watchB (ps qs : List (Int × Int)) : Bool := patrolB ps qs && allSeen ps qs (floorL ps)
theorem worstTo_bound (ps qs l : List (Int × Int)) : ∀ k, 0 ≤ worstTo ps qs l k ∧ worstTo ps qs l k ≤ 2 * (qs.length : Int)
  | 0 => by unfold worstTo; omega
  | k + 1 => by
    have ih := worstTo_bound ps qs l k
    have := gapAt_bound ps qs (pt l k)
    unfold worstTo
    omega
theorem allSeen_not {ps qs l : List (Int × Int)} {k : Nat} (hk : k < l.length) (h : gapAt ps qs (pt l k) < 0) : allSeen ps qs l = false := by
  cases e : allSeen ps qs l
  · rfl
  · have := List.all_eq_true.1 e k (List.mem_range.2 hk)
    simp only [decide_eq_true_eq] at this
    omega
theorem allSeen_of {ps qs l : List (Int × Int)} (h : ∀ k, k < l.length → 0 ≤ gapAt ps qs (pt l k)) : allSeen ps qs l = true :=
  List.all_eq_true.2 fun k hk => decide_eq_true (h k (List.mem_range.1 hk))
theorem anySees_false {ps gs : List (Int × Int)} {p : Int × Int} : ∀ {m : Nat}, anySees ps gs p m = false ↔ ∀ k, k < m → seesM ps (pt gs k) p = false
  | 0 => by simp [anySees]
  | m + 1 => by
    unfold anySees
    rw [Bool.or_eq_false_iff, anySees_false (m := m)]
    constructor
    · rintro ⟨h1, h2⟩ k hk
      rcases Nat.lt_or_ge k m with h | h
      · exact h1 k h
      · obtain rfl : k = m := by omega
        exact h2
    · intro h
      exact ⟨fun k hk => h k (by omega), h m (by omega)⟩
theorem gap_any (ps qs : List (Int × Int)) (p : Int × Int) : decide (0 ≤ gapAt ps qs p) = anySees ps qs p qs.length := by
  cases e : anySees ps qs p qs.length
  · have h := anySees_false.1 e
    have h2 : (momL ps qs p).length = 0 := thatTo_nil.2 h
    unfold gapAt gapI
    rw [if_pos h2]; rfl
  · apply decide_eq_true
    have := gapAt_bound ps qs p
    rcases this with h | h
    · exfalso
      have h2 : (momL ps qs p).length = 0 := by rw [h.2]; rfl
      have := anySees_false.2 (thatTo_nil.1 h2)
      rw [this] at e
      cases e
    · omega
theorem unTo_nil (ps gs l : List (Int × Int)) : ∀ k, decide ((unTo ps gs l k).length = 0) = (List.range k).all fun j => anySees ps gs (pt l j) gs.length
  | 0 => by simp [unTo]
  | k + 1 => by
    rw [List.range_succ, List.all_append, ← unTo_nil ps gs l k]
    show decide ((if anySees ps gs (pt l k) gs.length then unTo ps gs l k else unTo ps gs l k ++ [pt l k]).length = 0) = _
    generalize unTo ps gs l k = u
    cases h : anySees ps gs (pt l k) gs.length
    · simp [h]
    · simp [h]
theorem watch_sees {ps qs : List (Int × Int)} (h : patrolB ps qs = true) : seesAllB ps qs = allSeen ps qs (floorL ps) := by
  have h1 := (walk_parts (patrol_parts h).2).1
  unfold seesAllB unL
  rw [h1, if_pos rfl, unTo_nil, Bool.true_and]
  unfold allSeen
  congr 1
  funext k
  exact (gap_any ps qs _).symm

theorem rowTo_mem {ps : List (Int × Int)} {lx y : Int} {i : Nat} (h : placeM ps (lx + i, y) ≠ 0) : ∀ {j : Nat}, i < j → (lx + (i : Int), y) ∈ rowTo ps lx y j
  | 0, hj => by omega
  | j + 1, hj => by
    unfold rowTo
    by_cases e : i = j
    · subst e
      rw [if_neg h]; simp
    · have := rowTo_mem h (j := j) (by omega)
      split
      · exact this
      · exact List.mem_append_left _ this
theorem floorTo_mem {ps : List (Int × Int)} {lx ly : Int} {w i : Nat} {p : Int × Int} (h : p ∈ rowTo ps lx (ly + i) w) : ∀ {j : Nat}, i < j → p ∈ floorTo ps lx ly w j
  | 0, hj => by omega
  | j + 1, hj => by
    unfold floorTo
    by_cases e : i = j
    · subst e
      exact List.mem_append_right _ h
    · exact List.mem_append_left _ (floorTo_mem h (by omega))
theorem boxTo_in (ps : List (Int × Int)) {k : Nat} : ∀ {n : Nat}, k < n → ((boxTo ps n).1.1 ≤ (pt ps k).1 ∧ (pt ps k).1 ≤ (boxTo ps n).2.1) ∧ ((boxTo ps n).1.2 ≤ (pt ps k).2 ∧ (pt ps k).2 ≤ (boxTo ps n).2.2)
  | 0, h => by omega
  | n + 1, h => by
    simp only [boxTo]
    by_cases e : k = n
    · subst e; omega
    · have := boxTo_in ps (k := k) (n := n) (by omega)
      omega
theorem floorL_some {ps : List (Int × Int)} (h : roomB ps = true) : 0 < (floorL ps).length := by
  have hy := roomB_yes h
  have hb := boxTo_in ps (k := 0) (n := ps.length) (by omega)
  have hc := corner_in h (k := 0) (by omega)
  have hk := okAll_at hy.2.1 (k := 0) (by omega)
  rw [inB_of h hk] at hc
  have hp := of_decide_eq_true hc
  obtain ⟨i, hi⟩ : ∃ i : Nat, (pt ps 0).1 = (boxTo ps ps.length).1.1 + i := ⟨((pt ps 0).1 - (boxTo ps ps.length).1.1).toNat, by omega⟩
  obtain ⟨j, hj⟩ : ∃ j : Nat, (pt ps 0).2 = (boxTo ps ps.length).1.2 + j := ⟨((pt ps 0).2 - (boxTo ps ps.length).1.2).toNat, by omega⟩
  rw [hi, hj] at hp
  have m1 := rowTo_mem hp (j := widthI ps) (by unfold widthI; omega)
  have m2 := floorTo_mem m1 (j := heightI ps) (by unfold heightI; omega)
  unfold floorL
  rw [if_pos h]
  exact List.length_pos_of_mem m2
theorem worst_watch (ps qs : List (Int × Int)) : watchB ps qs = decide (0 < worstI ps qs) := by
  unfold worstI watchB
  cases e : (patrolB ps qs && allSeen ps qs (floorL ps))
  · rfl
  · symm
    apply decide_eq_true
    rw [if_pos rfl]
    rw [Bool.and_eq_true] at e
    have hr := (allIn_at (walk_parts (patrol_parts e.1).2).1).1
    have hf := floorL_some hr
    obtain ⟨m, hm⟩ : ∃ m, (floorL ps).length = m + 1 := ⟨(floorL ps).length - 1, by omega⟩
    have h0 := List.all_eq_true.1 e.2 m (List.mem_range.2 (by omega))
    simp only [decide_eq_true_eq] at h0
    have := gapAt_bound ps qs (pt (floorL ps) m)
    have := worstTo_bound ps qs (floorL ps) m
    rw [hm]
    show 0 < max _ _
    omega
end Go.Proofs.Ytonbpmabmjhdgac.WalkMath
