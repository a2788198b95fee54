/-
  What the law on loans asks: plain facts. No program stands here.
-/
import Derived.Test.YtcfoleiooohbhaaDutyMath
namespace Go.Proofs.Ytcfoleiooohbhaa.LoanMath
open Go DiagMath Tup3 DutyMath
theorem mem_that {f : Nat → Bool} : ∀ {n : Nat} {x : Int}, x ∈ thatTo f n ↔ ∃ j : Nat, j < n ∧ x = (j : Int) ∧ f j = true
  | 0, x => by constructor
               · intro h; cases h
               · rintro ⟨j, h, _⟩; omega
  | n + 1, x => by
    have ih := mem_that (f := f) (n := n) (x := x)
    unfold thatTo
    cases hf : f n
    · simp only [Bool.false_eq_true, if_false]
      rw [ih]
      constructor
      · rintro ⟨j, h1, h2⟩; exact ⟨j, by omega, h2⟩
      · rintro ⟨j, h1, h2, h3⟩
        rcases Nat.lt_or_ge j n with h | h
        · exact ⟨j, h, h2, h3⟩
        · obtain rfl : j = n := by omega
          rw [hf] at h3; cases h3
    · simp only [if_true, List.mem_append, List.mem_singleton]
      rw [ih]
      constructor
      · rintro (⟨j, h1, h2⟩ | h)
        · exact ⟨j, by omega, h2⟩
        · exact ⟨n, by omega, h, hf⟩
      · rintro ⟨j, h1, h2, h3⟩
        rcases Nat.lt_or_ge j n with h | h
        · exact .inl ⟨j, h, h2, h3⟩
        · obtain rfl : j = n := by omega
          exact .inr h2
theorem has_that {f : Nat → Bool} {n k : Nat} (hk : k < n) : decide ((k : Int) ∈ thatTo f n) = f k := by
  rw [Bool.eq_iff_iff, decide_eq_true_eq, mem_that]
  constructor
  · rintro ⟨j, h1, h2, h3⟩
    obtain rfl : k = j := by omega
    exact h3
  · intro h; exact ⟨k, hk, rfl, h⟩
theorem loan_parts {l a b g : Int} (h : loanB l a b g = true) : (0 ≤ l ∧ l ≤ 1000) ∧ (0 ≤ g ∧ g ≤ 1000) ∧ (0 ≤ a ∧ a ≤ 100) ∧ (a ≤ b ∧ b ≤ 100) := by
  unfold loanB at h
  simp only [Bool.and_eq_true, decide_eq_true_eq] at h
  exact ⟨h.1.1.1, h.1.1.2, h.1.2, h.2⟩
theorem loan_of {l a b g : Int} (h1 : 0 ≤ l ∧ l ≤ 1000) (h2 : 0 ≤ g ∧ g ≤ 1000) (h3 : 0 ≤ a ∧ a ≤ 100) (h4 : a ≤ b ∧ b ≤ 100) : loanB l a b g = true := by
  unfold loanB; rw [decide_eq_true h1, decide_eq_true h2, decide_eq_true h3, decide_eq_true h4]; rfl
theorem fit_iff {l a b g x h y : Int} (hl : loanB l a b g = true) : breachI l a b g x h y = 0 ↔ x ≤ l ∧ (a ≤ h ∧ h ≤ b) ∧ g ≤ y := by
  unfold breachI
  rw [if_pos hl]
  by_cases h1 : l < x <;> by_cases h2 : a ≤ h ∧ h ≤ b <;> by_cases h3 : y < g <;> simp [h1, h2, h3] <;> omega
theorem strict_self {l a b g : Int} (h : loanB l a b g = true) : strictB l a b g l a b g = true := by
  unfold strictB; rw [h]; simp
/-- What JoinLoans gave, where both loans are valid. -/
theorem join_cases {l a b g l2 a2 b2 g2 : Int} (h1 : loanB l a b g = true) (h2 : loanB l2 a2 b2 g2 = true) :
    ∃ j1 j2 j3 j4 ok, joinV l a b g l2 a2 b2 g2 = .tuple #[.agg #[.int .i64 j1, .int .i64 j2, .int .i64 j3, .int .i64 j4], .bool ok] ∧
      (∀ (hs : List Tu) (k : Nat), ok = true → fitF j1 j2 j3 j4 hs k = (fitF l a b g hs k && fitF l2 a2 b2 g2 hs k)) ∧
      (∀ (hs : List Tu) (k : Nat), ok = false → (fitF l a b g hs k && fitF l2 a2 b2 g2 hs k) = false) ∧
      (ok = true → strictB j1 j2 j3 j4 l a b g = true ∧ strictB j1 j2 j3 j4 l2 a2 b2 g2 = true) := by
  have p1 := loan_parts h1
  have p2 := loan_parts h2
  cases hj : loanB (min l l2) (max a a2) (min b b2) (max g g2)
  · refine ⟨0, 0, 0, 0, false, by unfold joinV; rw [h1, h2, hj]; rfl, fun _ _ h => (by cases h), fun hs k _ => ?_, fun h => (by cases h)⟩
    cases hf : (fitF l a b g hs k && fitF l2 a2 b2 g2 hs k)
    · rfl
    · rw [Bool.and_eq_true] at hf
      unfold fitF at hf
      rw [decide_eq_true_eq, decide_eq_true_eq, fit_iff h1, fit_iff h2] at hf
      rw [loan_of (by omega) (by omega) (by omega) (by omega)] at hj
      cases hj
  · refine ⟨min l l2, max a a2, min b b2, max g g2, true, by unfold joinV; rw [h1, h2, hj]; rfl, fun hs k _ => ?_, fun _ _ h => (by cases h), fun _ => ?_⟩
    · rw [Bool.eq_iff_iff, Bool.and_eq_true]
      unfold fitF
      rw [decide_eq_true_eq, decide_eq_true_eq, decide_eq_true_eq, fit_iff h1, fit_iff h2, fit_iff hj]
      omega
    · unfold strictB
      rw [h1, h2, hj]
      simp only [Bool.and_eq_true, decide_eq_true_eq, Bool.true_and]
      constructor <;> refine ⟨⟨⟨?_, ?_⟩, ?_⟩, ?_⟩ <;> omega
theorem strict_fit {l a b g l2 a2 b2 g2 : Int} (h : strictB l a b g l2 a2 b2 g2 = true) {hs : List Tu} {k : Nat} (hf : fitF l a b g hs k = true) : fitF l2 a2 b2 g2 hs k = true := by
  unfold strictB at h
  simp only [Bool.and_eq_true, decide_eq_true_eq] at h
  obtain ⟨⟨⟨⟨⟨h1, h2⟩, h3⟩, h4⟩, h5⟩, h6⟩ := h
  unfold fitF at hf ⊢
  rw [decide_eq_true_eq] at hf ⊢
  rw [fit_iff h1] at hf
  rw [fit_iff h2]
  omega
end Go.Proofs.Ytcfoleiooohbhaa.LoanMath
