/-
  Witnesses: no corner sees two of them. Counted corner by corner, and taken point by point. No program stands here.
-/
import Derived.Test.YtgampbjdoncdoaaFacts
namespace Go.Proofs.Ytgampbjdoncdoaa.WitMath
open PointMath RoomMath SightMath KernMath

/-- How many of the first j points are seen from a corner. -/
def cntW (ps qs : List (Int × Int)) (k : Nat) : Nat → Nat
  | 0 => 0
  | j + 1 => if seesM ps (pt ps k) (pt qs j) then cntW ps qs k j + 1 else cntW ps qs k j
theorem cntW_le (ps qs : List (Int × Int)) (k : Nat) : ∀ j, cntW ps qs k j ≤ j
  | 0 => Nat.le_refl _
  | j + 1 => by
    have := cntW_le ps qs k j
    unfold cntW
    split <;> omega
theorem cntW_up (ps qs : List (Int × Int)) (k i : Nat) : ∀ d, cntW ps qs k i ≤ cntW ps qs k (i + d)
  | 0 => Nat.le_refl _
  | d + 1 => by
    have := cntW_up ps qs k i d
    have e : cntW ps qs k (i + (d + 1)) = if seesM ps (pt ps k) (pt qs (i + d)) then cntW ps qs k (i + d) + 1 else cntW ps qs k (i + d) := rfl
    rw [e]
    split <;> omega
theorem cntW_mono (ps qs : List (Int × Int)) (k : Nat) {i j : Nat} (h : i ≤ j) : cntW ps qs k i ≤ cntW ps qs k j := by
  have := cntW_up ps qs k i (j - i)
  rwa [show i + (j - i) = j by omega] at this
theorem cntW_yes {ps qs : List (Int × Int)} {k j : Nat} (h : seesM ps (pt ps k) (pt qs j) = true) : cntW ps qs k (j + 1) = cntW ps qs k j + 1 := by
  show (if _ then _ else _) = _
  rw [if_pos h]
theorem cntW_no {ps qs : List (Int × Int)} {k j : Nat} (h : seesM ps (pt ps k) (pt qs j) = false) : cntW ps qs k (j + 1) = cntW ps qs k j := by
  show (if _ then _ else _) = _
  rw [if_neg (by simp [h])]

def witM (ps qs : List (Int × Int)) : Bool := (List.range ps.length).all fun k => decide (cntW ps qs k qs.length ≤ 1)
def witB (ps qs : List (Int × Int)) : Bool := allIn ps qs && decide (qs.length ≤ 10) && witM ps qs
theorem witM_not {ps qs : List (Int × Int)} {k : Nat} (hk : k < ps.length) (h : 1 < cntW ps qs k qs.length) : witM ps qs = false := by
  cases e : witM ps qs
  · rfl
  · have := List.all_eq_true.1 e k (List.mem_range.2 hk)
    simp only [decide_eq_true_eq] at this
    omega
theorem witM_of {ps qs : List (Int × Int)} (h : ∀ k, k < ps.length → cntW ps qs k qs.length ≤ 1) : witM ps qs = true :=
  List.all_eq_true.2 fun k hk => decide_eq_true (h k (List.mem_range.1 hk))

/-- Which corners no point of the first i has taken. -/
def freeW (ps qs : List (Int × Int)) (i : Nat) (x : Int) : Bool := decide (0 ≤ x) && decide (x < (ps.length : Int)) && decide (cntW ps qs x.toNat i = 0)
/-- A set without the first u of a list. -/
def lessW (f : Int → Bool) (l : List Int) : Nat → Int → Bool
  | 0 => f
  | u + 1 => fun x => lessW f l u x && !decide (x = l.getD u 0)
theorem lessW_iff (f : Int → Bool) (l : List Int) : ∀ u, u ≤ l.length → ∀ x, lessW f l u x = (f x && !decide (x ∈ l.take u))
  | 0, _, x => by simp [lessW]
  | u + 1, h, x => by
    have ih := lessW_iff f l u (by omega) x
    have hg : l.getD u 0 = l[u]'(by omega) := by simp [List.getD, List.getElem?_eq_getElem (show u < l.length by omega)]
    show (lessW f l u x && !decide (x = l.getD u 0)) = _
    rw [ih, hg, List.take_succ_eq_append_getElem (by omega), Bool.and_assoc]
    congr 1
    rw [Bool.eq_iff_iff]
    simp only [Bool.and_eq_true, Bool.not_eq_true', decide_eq_false_iff_not, List.mem_append, List.mem_singleton]
    constructor
    · rintro ⟨a, b⟩ c; rcases c with c | c
      · exact a c
      · exact b c
    · intro a; exact ⟨fun c => a (.inl c), fun c => a (.inr c)⟩
theorem lessW_all (f : Int → Bool) (l : List Int) (x : Int) : lessW f l l.length x = (f x && !decide (x ∈ l)) := by
  rw [lessW_iff f l l.length (Nat.le_refl _) x, List.take_length]

theorem mem_corn {ps : List (Int × Int)} {a : Int × Int} {x : Int} : ∀ {n : Nat}, x ∈ cornTo ps a n ↔ ∃ k, k < n ∧ x = (k : Int) ∧ seesM ps a (pt ps k) = true
  | 0 => by simp [cornTo]
  | n + 1 => by
    have ih := @mem_corn ps a x n
    show x ∈ (if _ then _ else _) ↔ _
    cases h : seesM ps a (pt ps n)
    · rw [if_neg (by simp), ih]
      constructor
      · rintro ⟨k, hk, e, hs⟩; exact ⟨k, by omega, e, hs⟩
      · rintro ⟨k, hk, e, hs⟩
        refine ⟨k, ?_, e, hs⟩
        rcases Nat.lt_or_ge k n with h1 | h1
        · exact h1
        · obtain rfl : k = n := by omega
          rw [h] at hs; cases hs
    · rw [if_pos rfl, List.mem_append, ih, List.mem_singleton]
      constructor
      · rintro (⟨k, hk, e, hs⟩ | e)
        · exact ⟨k, by omega, e, hs⟩
        · exact ⟨n, by omega, e, h⟩
      · rintro ⟨k, hk, e, hs⟩
        rcases Nat.lt_or_ge k n with h1 | h1
        · exact .inl ⟨k, h1, e, hs⟩
        · obtain rfl : k = n := by omega
          exact .inr e

/-- Some corner that sees the point has been taken: it sees two. -/
theorem wit_stop {ps qs : List (Int × Int)} (hsw : ∀ a b, seesM ps a b = seesM ps b a) {i : Nat} (hi : i < qs.length) {x : Int}
    (hx : x ∈ cornTo ps (pt qs i) ps.length) (hf : freeW ps qs i x = false) : witM ps qs = false := by
  obtain ⟨k, hk, rfl, hs⟩ := mem_corn.1 hx
  rw [hsw] at hs
  refine witM_not hk ?_
  have h1 := cntW_yes hs
  have h2 := cntW_mono ps qs k (show i + 1 ≤ qs.length by omega)
  have h3 : cntW ps qs k i ≠ 0 := by
    intro e
    unfold freeW at hf
    rw [decide_eq_true (by omega), decide_eq_true (by omega), Int.toNat_natCast, e] at hf
    cases hf
  omega
/-- Not one has: the point takes them, and no corner has seen two. -/
theorem wit_step {ps qs : List (Int × Int)} (hsw : ∀ a b, seesM ps a b = seesM ps b a) {i : Nat}
    (h : ∀ k, k < ps.length → cntW ps qs k i ≤ 1) (hf : ∀ x, x ∈ cornTo ps (pt qs i) ps.length → freeW ps qs i x = true) :
    (∀ k, k < ps.length → cntW ps qs k (i + 1) ≤ 1) ∧ lessW (freeW ps qs i) (cornTo ps (pt qs i) ps.length) (cornTo ps (pt qs i) ps.length).length = freeW ps qs (i + 1) := by
  constructor
  · intro k hk
    cases hs : seesM ps (pt ps k) (pt qs i)
    · rw [cntW_no hs]; exact h k hk
    · have := hf k (mem_corn.2 ⟨k, hk, rfl, by rw [hsw]; exact hs⟩)
      unfold freeW at this
      simp only [Bool.and_eq_true, decide_eq_true_eq, Int.toNat_natCast] at this
      rw [cntW_yes hs]; omega
  · funext x
    rw [lessW_all, Bool.eq_iff_iff]
    unfold freeW
    simp only [Bool.and_eq_true, decide_eq_true_eq, Bool.not_eq_true', decide_eq_false_iff_not]
    by_cases hx : 0 ≤ x ∧ x < (ps.length : Int)
    · obtain ⟨k, rfl⟩ : ∃ k : Nat, x = (k : Int) := ⟨x.toNat, by omega⟩
      have hk : k < ps.length := by omega
      rw [Int.toNat_natCast]
      cases hs : seesM ps (pt ps k) (pt qs i)
      · rw [cntW_no hs]
        constructor
        · rintro ⟨⟨_, a⟩, _⟩; exact ⟨hx, a⟩
        · rintro ⟨_, a⟩
          refine ⟨⟨hx, a⟩, fun hm => ?_⟩
          obtain ⟨j, _, e, hj⟩ := mem_corn.1 hm
          obtain rfl : k = j := by omega
          rw [hsw, hs] at hj; cases hj
      · rw [cntW_yes hs]
        constructor
        · rintro ⟨_, a⟩; exact absurd (mem_corn.2 ⟨k, hk, rfl, by rw [hsw]; exact hs⟩) a
        · rintro ⟨_, a⟩; omega
    · constructor
      · rintro ⟨⟨a, _⟩, _⟩; exact absurd a hx
      · rintro ⟨a, _⟩; exact absurd a hx
theorem freeW_zero (ps qs : List (Int × Int)) (x : Int) : freeW ps qs 0 x = (decide (0 ≤ x) && decide (x < (ps.length : Int))) := by
  unfold freeW cntW; simp
end Go.Proofs.Ytgampbjdoncdoaa.WitMath
