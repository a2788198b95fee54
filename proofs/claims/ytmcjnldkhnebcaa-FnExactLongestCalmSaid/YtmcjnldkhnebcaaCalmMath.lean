/-
  The longest calm between alarms: by the next later moment of each, and by neighbors in a sorted list. No program stands here.
-/
import Derived.Test.YtmcjnldkhnebcaaSuspMath
import Derived.Test.YtmcjnldkhnebcaaFacts
import Derived.Test.YtmcjnldkhnebcaaAlarmMath
namespace Go.Proofs.Ytmcjnldkhnebcaa.CalmMath
open SuspMath DiagMath DutyMath AlarmMath Tup3

/-- The least of the first n numbers that is above a; -1 without one. -/
def nextTo (l : List Int) (a : Int) : Nat → Int
  | 0 => -1
  | n + 1 => if l.getD n 0 > a ∧ (nextTo l a n < 0 ∨ l.getD n 0 < nextTo l a n) then l.getD n 0 else nextTo l a n
def bestTo (l : List Int) : Nat → Int
  | 0 => 0
  | n + 1 => if 0 ≤ nextTo l (l.getD n 0) l.length then max (bestTo l n) (nextTo l (l.getD n 0) l.length - l.getD n 0) else bestTo l n
/-- The greatest step between neighbors, among the first n + 1. -/
def longTo (s : List Int) : Nat → Int
  | 0 => 0
  | n + 1 => max (longTo s n) (s.getD (n + 1) 0 - s.getD n 0)

theorem next_spec (l : List Int) (a : Int) (h0 : ∀ k, k < l.length → 0 ≤ l.getD k 0) (ha : 0 ≤ a) : ∀ n, n ≤ l.length →
    (nextTo l a n = -1 ∧ ∀ k, k < n → l.getD k 0 ≤ a) ∨ (∃ k, k < n ∧ nextTo l a n = l.getD k 0 ∧ a < l.getD k 0 ∧ ∀ j, j < n → a < l.getD j 0 → l.getD k 0 ≤ l.getD j 0)
  | 0, _ => .inl ⟨rfl, fun k hk => absurd hk (by omega)⟩
  | n + 1, hn => by
    have hx := h0 n (by omega)
    have ih := next_spec l a h0 ha n (by omega)
    unfold nextTo
    by_cases hc : l.getD n 0 > a ∧ (nextTo l a n < 0 ∨ l.getD n 0 < nextTo l a n)
    · rw [if_pos hc]
      refine .inr ⟨n, by omega, rfl, hc.1, fun j hj hja => ?_⟩
      rcases Nat.lt_or_ge j n with h | h
      · rcases ih with ⟨_, h2⟩ | ⟨k, hk, e, h3, h4⟩
        · have := h2 j h; omega
        · have h5 := h4 j h hja
          have h6 := h0 k (by omega)
          rcases hc.2 with h7 | h7 <;> omega
      · have : j = n := by omega
        subst this
        exact Int.le_refl _
    · rw [if_neg hc]
      rcases ih with ⟨e, h2⟩ | ⟨k, hk, e, h3, h4⟩
      · refine .inl ⟨e, fun k hk => ?_⟩
        rcases Nat.lt_or_ge k n with h | h
        · exact h2 k h
        · have : k = n := by omega
          subst this
          rcases Int.lt_or_le a (l.getD k 0) with h | h
          · exact absurd ⟨h, .inl (by omega)⟩ hc
          · exact h
      · refine .inr ⟨k, by omega, e, h3, fun j hj hja => ?_⟩
        rcases Nat.lt_or_ge j n with h | h
        · exact h4 j h hja
        · have : j = n := by omega
          subst this
          rcases Int.lt_or_le (l.getD j 0) (l.getD k 0) with h | h
          · exact absurd ⟨hja, .inr (by omega)⟩ hc
          · exact h

theorem best_up (l : List Int) : ∀ n, 0 ≤ bestTo l n ∧ (∀ k, k < n → 0 ≤ nextTo l (l.getD k 0) l.length → nextTo l (l.getD k 0) l.length - l.getD k 0 ≤ bestTo l n) ∧
    (bestTo l n = 0 ∨ ∃ k, k < n ∧ 0 ≤ nextTo l (l.getD k 0) l.length ∧ bestTo l n = nextTo l (l.getD k 0) l.length - l.getD k 0)
  | 0 => ⟨Int.le_refl _, fun k hk => absurd hk (by omega), .inl rfl⟩
  | n + 1 => by
    obtain ⟨h1, h2, h3⟩ := best_up l n
    unfold bestTo
    split
    · next hc =>
      refine ⟨by omega, fun k hk hk2 => ?_, ?_⟩
      · rcases Nat.lt_or_ge k n with h | h
        · have := h2 k h hk2; omega
        · have : k = n := by omega
          subst this
          omega
      · rcases Int.le_total (bestTo l n) (nextTo l (l.getD n 0) l.length - l.getD n 0) with h | h
        · exact .inr ⟨n, by omega, hc, by omega⟩
        · rcases h3 with e | ⟨k, hk, hk2, e⟩
          · exact .inl (by omega)
          · exact .inr ⟨k, by omega, hk2, by omega⟩
    · next hc =>
      refine ⟨h1, fun k hk hk2 => ?_, ?_⟩
      · rcases Nat.lt_or_ge k n with h | h
        · exact h2 k h hk2
        · have : k = n := by omega
          subst this
          exact absurd hk2 hc
      · rcases h3 with e | ⟨k, hk, hk2, e⟩
        · exact .inl e
        · exact .inr ⟨k, by omega, hk2, e⟩
theorem long_up (s : List Int) : ∀ n, 0 ≤ longTo s n ∧ (∀ k, k < n → s.getD (k + 1) 0 - s.getD k 0 ≤ longTo s n) ∧
    (longTo s n = 0 ∨ ∃ k, k < n ∧ longTo s n = s.getD (k + 1) 0 - s.getD k 0)
  | 0 => ⟨Int.le_refl _, fun k hk => absurd hk (by omega), .inl rfl⟩
  | n + 1 => by
    obtain ⟨h1, h2, h3⟩ := long_up s n
    unfold longTo
    refine ⟨by omega, fun k hk => ?_, ?_⟩
    · rcases Nat.lt_or_ge k n with h | h
      · have := h2 k h; omega
      · have : k = n := by omega
        subst this
        omega
    · rcases Int.le_total (longTo s n) (s.getD (n + 1) 0 - s.getD n 0) with h | h
      · exact .inr ⟨n, by omega, by omega⟩
      · rcases h3 with e | ⟨k, hk, e⟩
        · exact .inl (by omega)
        · exact .inr ⟨k, by omega, by omega⟩

theorem mem_getD {l : List Int} {x : Int} : x ∈ l ↔ ∃ k, k < l.length ∧ l.getD k 0 = x := by
  rw [List.mem_iff_getElem]
  constructor
  · rintro ⟨k, hk, e⟩; exact ⟨k, hk, by rw [List.getD_eq_getElem?_getD, List.getElem?_eq_getElem hk]; exact e⟩
  · rintro ⟨k, hk, e⟩; exact ⟨k, hk, by rw [List.getD_eq_getElem?_getD, List.getElem?_eq_getElem hk] at e; exact e⟩
theorem sorted_at (l : List Int) {i j : Nat} (hij : i ≤ j) (hj : j < l.length) : (sorted l).getD i 0 ≤ (sorted l).getD j 0 := by
  have hp := sorted_pw l
  have hl := sorted_length l
  have hj' : j < (sorted l).length := by omega
  rw [List.getD_eq_getElem?_getD, List.getD_eq_getElem?_getD, List.getElem?_eq_getElem hj', List.getElem?_eq_getElem (show i < (sorted l).length by omega)]
  rcases Nat.lt_or_ge i j with h | h
  · exact List.pairwise_iff_getElem.1 hp i j (by omega) hj' h
  · have : i = j := by omega
    subst this
    exact Int.le_refl _

/-- Both ways answer the same. -/
theorem calm_eq (l : List Int) (h0 : ∀ x ∈ l, 0 ≤ x) : bestTo l l.length = longTo (sorted l) (l.length - 1) := by
  have hl := sorted_length l
  have h1 : ∀ k, k < l.length → 0 ≤ l.getD k 0 := fun k hk => h0 _ (mem_getD.2 ⟨k, hk, rfl⟩)
  obtain ⟨b1, b2, b3⟩ := best_up l l.length
  obtain ⟨g1, g2, g3⟩ := long_up (sorted l) (l.length - 1)
  have hns := fun a ha => next_spec l a h1 ha l.length (Nat.le_refl _)
  generalize bestTo l l.length = B at *
  generalize longTo (sorted l) (l.length - 1) = G at *
  refine Int.le_antisymm ?_ ?_
  · rcases b3 with e | ⟨k, hk, hk2, e⟩
    · omega
    · have ha := h1 k hk
      rcases hns (l.getD k 0) ha with ⟨e1, _⟩ | ⟨k2, hk2', e1, h3, h4⟩
      · omega
      · -- the place of the next one in the sorted list
        obtain ⟨i, hi, ei⟩ := mem_getD.1 ((sorted_mem l _).2 (mem_getD.2 ⟨k2, hk2', rfl⟩))
        obtain ⟨i0, hi0, ei0⟩ := mem_getD.1 ((sorted_mem l _).2 (mem_getD.2 ⟨k, hk, rfl⟩))
        -- the last place that holds at most a
        have key : ∀ d, i0 + d = i → ∃ j, j < l.length - 1 ∧ l.getD k 0 ≥ (sorted l).getD j 0 ∧ l.getD k 0 < (sorted l).getD (j + 1) 0 := by
          intro d
          induction d generalizing i0 with
          | zero => intro hd; have : i0 = i := by omega
                    subst this; omega
          | succ d ih =>
            intro hd
            rcases Int.lt_or_le (l.getD k 0) ((sorted l).getD (i0 + 1) 0) with h | h
            · exact ⟨i0, by omega, by omega, h⟩
            · by_cases he : (sorted l).getD (i0 + 1) 0 = l.getD k 0
              · exact ih (i0 + 1) (by omega) he (by omega)
              · have := sorted_at l (show i0 ≤ i0 + 1 by omega) (by omega); omega
        have hlt : i0 < i := by
          rcases Nat.lt_or_ge i0 i with h | h
          · exact h
          · have := sorted_at l h (by omega); omega
        obtain ⟨j, hj, h5, h6⟩ := key (i - i0) (by omega)
        have h7 := g2 j hj
        obtain ⟨j2, hj2, ej2⟩ := mem_getD.1 ((sorted_mem l _).1 (mem_getD.2 ⟨j + 1, by omega, rfl⟩))
        have h8 := h4 j2 hj2 (by omega)
        omega
  · rcases g3 with e | ⟨k, hk, e⟩
    · omega
    · have hs := sorted_at l (show k ≤ k + 1 by omega) (by omega)
      rcases Int.lt_or_le ((sorted l).getD k 0) ((sorted l).getD (k + 1) 0) with h | h
      · obtain ⟨j, hj, ej⟩ := mem_getD.1 ((sorted_mem l _).1 (mem_getD.2 ⟨k, by omega, rfl⟩))
        obtain ⟨j1, hj1, ej1⟩ := mem_getD.1 ((sorted_mem l _).1 (mem_getD.2 ⟨k + 1, by omega, rfl⟩))
        have hb := b2 j hj
        rcases hns (l.getD j 0) (h1 j hj) with ⟨_, e2⟩ | ⟨k2, hk2, e1, h3, h4⟩
        · have := e2 j1 hj1; omega
        · have h5 := h1 k2 hk2
          have h6 := hb (by omega)
          -- the next one stands behind place k
          obtain ⟨i, hi, ei⟩ := mem_getD.1 ((sorted_mem l _).2 (mem_getD.2 ⟨k2, hk2, rfl⟩))
          have hki : k + 1 ≤ i := by
            rcases Nat.lt_or_ge k i with h | h
            · exact h
            · have := sorted_at l h (by omega); omega
          have := sorted_at l hki (by omega)
          omega
      · omega

theorem mem_that {f : Nat → Bool} {x : Int} : ∀ {n : Nat}, x ∈ thatTo f n → ∃ j : Nat, x = (j : Int) ∧ j < n ∧ f j = true
  | 0, h => by simp [thatTo] at h
  | n + 1, h => by
    unfold thatTo at h
    split at h
    · next hf =>
      rw [List.mem_append, List.mem_singleton] at h
      rcases h with h | h
      · obtain ⟨j, e, hj, hf⟩ := mem_that h
        exact ⟨j, e, by omega, hf⟩
      · exact ⟨n, h, by omega, hf⟩
    · obtain ⟨j, e, hj, hf⟩ := mem_that h
      exact ⟨j, e, by omega, hf⟩
/-- The moments of the alarms. -/
def momsL (ps qs : List Tu) : List Int := (alarmsL ps qs).map fun z => (tt qs z.toNat).2.2
theorem moms_length (ps qs : List Tu) : (momsL ps qs).length = (alarmsL ps qs).length := by unfold momsL; rw [List.length_map]
def calmI (ps qs : List Tu) : Int := if qs.length ≤ 40 then bestTo (momsL ps qs) (momsL ps qs).length else 0
theorem alarm_pos {ps qs : List Tu} {j : Nat} (h : alarmF ps qs j = true) : 0 ≤ (tt qs j).2.2 := by
  unfold alarmF raisesB at h
  rw [Bool.and_eq_true] at h
  have h2 := h.2
  unfold raisesT at h2
  rw [Bool.and_eq_true, Bool.and_eq_true, Bool.and_eq_true] at h2
  obtain ⟨⟨⟨h3, h4⟩, _⟩, _⟩ := h2
  have h5 := of_decide_eq_true h4
  have h6 := (zone_parts h3).1
  omega
theorem alarm_at {ps qs : List Tu} {k : Nat} (hk : k < (alarmsL ps qs).length) : ∃ j : Nat, (alarmsL ps qs)[k]? = some (j : Int) ∧ j < qs.length ∧ (momsL ps qs).getD k 0 = (tt qs j).2.2 := by
  obtain ⟨j, e, hj, _⟩ := mem_that (List.getElem_mem hk)
  refine ⟨j, by rw [List.getElem?_eq_getElem hk, e], hj, ?_⟩
  unfold momsL
  rw [List.getD_eq_getElem?_getD, List.getElem?_map, List.getElem?_eq_getElem hk, e]
  rfl
theorem alarm_top {ps qs : List Tu} {j : Nat} (h : alarmF ps qs j = true) : (tt qs j).2.2 ≤ 10000 := by
  unfold alarmF raisesB at h
  rw [Bool.and_eq_true] at h
  have h2 := h.2
  unfold raisesT at h2
  rw [Bool.and_eq_true, Bool.and_eq_true, Bool.and_eq_true] at h2
  obtain ⟨⟨⟨h3, _⟩, h4⟩, _⟩ := h2
  have h5 := of_decide_eq_true h4
  have h6 := (zone_parts h3).2.1
  omega
theorem moms_in (ps qs : List Tu) : ∀ x ∈ momsL ps qs, 0 ≤ x ∧ x ≤ 10000 := by
  intro x hx
  unfold momsL at hx
  rw [List.mem_map] at hx
  obtain ⟨z, hz, e⟩ := hx
  obtain ⟨j, e2, _, hf⟩ := mem_that hz
  subst e2
  rw [← e]
  exact ⟨alarm_pos hf, alarm_top hf⟩
theorem next_in (l : List Int) (a : Int) (h0 : ∀ x ∈ l, 0 ≤ x ∧ x ≤ 10000) (ha : 0 ≤ a) : -1 ≤ nextTo l a l.length ∧ nextTo l a l.length ≤ 10000 := by
  rcases next_spec l a (fun k hk => (h0 _ (mem_getD.2 ⟨k, hk, rfl⟩)).1) ha l.length (Nat.le_refl _) with ⟨e, _⟩ | ⟨k, hk, e, _, _⟩
  · omega
  · have := h0 _ (mem_getD.2 ⟨k, hk, rfl⟩); omega
theorem moms_pos (ps qs : List Tu) : ∀ x ∈ momsL ps qs, 0 ≤ x := by
  intro x hx
  unfold momsL at hx
  rw [List.mem_map] at hx
  obtain ⟨z, hz, e⟩ := hx
  obtain ⟨j, e2, _, hf⟩ := mem_that hz
  subst e2
  rw [← e]
  exact alarm_pos hf
end Go.Proofs.Ytmcjnldkhnebcaa.CalmMath
