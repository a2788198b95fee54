/-
  The suspects: who stood in the hall, sorted, each once; an insertion from the end answers the same. No program stands here.
-/
import Derived.Test.YtkcodmafakjkfaaGreatStockMath
import Derived.Test.YtkcodmafakjkfaaGreatTup4
import Derived.Lib.SlicesCompact
namespace Go.Proofs.YtkcodmafakjkfaaGreat.SuspMath
open Go.Lib

/-- The persons of the first k stays that pass. -/
def pickTo (g : Nat → Int) (f : Nat → Bool) : Nat → List Int
  | 0 => []
  | k + 1 => if f k then pickTo g f k ++ [g k] else pickTo g f k
theorem pickTo_len (g : Nat → Int) (f : Nat → Bool) : ∀ k, (pickTo g f k).length ≤ k
  | 0 => Nat.le_refl _
  | k + 1 => by
    have h := pickTo_len g f k
    unfold pickTo
    split <;> simp <;> omega
def sorted (l : List Int) : List Int := l.mergeSort fun x y => decide (x ≤ y)
def whoL (l : List Int) : List Int := compact (sorted l)

theorem uniq : ∀ (l m : List Int), l.Pairwise (· < ·) → m.Pairwise (· < ·) → (∀ x, x ∈ l ↔ x ∈ m) → l = m
  | [], [], _, _, _ => rfl
  | [], b :: m, _, _, h => by have := (h b).2 (by simp); simp at this
  | a :: l, [], _, _, h => by have := (h a).1 (by simp); simp at this
  | a :: l, b :: m, h1, h2, h => by
    rw [List.pairwise_cons] at h1 h2
    have e : a = b := by
      have ha := (h a).1 (by simp)
      have hb := (h b).2 (by simp)
      rw [List.mem_cons] at ha hb
      rcases ha with ha | ha
      · exact ha
      · rcases hb with hb | hb
        · exact hb.symm
        · have := h2.1 a ha; have := h1.1 b hb; omega
    subst e
    rw [uniq l m h1.2 h2.2 (fun x => by
      constructor
      · intro hx
        have := (h x).1 (List.mem_cons_of_mem _ hx)
        rw [List.mem_cons] at this
        rcases this with rfl | this
        · have := h1.1 x hx; omega
        · exact this
      · intro hx
        have := (h x).2 (List.mem_cons_of_mem _ hx)
        rw [List.mem_cons] at this
        rcases this with rfl | this
        · have := h2.1 x hx; omega
        · exact this)]

theorem compact_sorted (d : Array Int) (hs : ∀ i j, i ≤ j → j < d.size → d[i]! ≤ d[j]!) : ∀ m, m ≤ d.size →
    (compactUpTo d m).Pairwise (· < ·) ∧ (∀ x, x ∈ compactUpTo d m ↔ ∃ j, j < m ∧ d[j]! = x)
  | 0, _ => by simp [compactUpTo]
  | m + 1, hm => by
    obtain ⟨h1, h2⟩ := compact_sorted d hs m (by omega)
    rw [compactUpTo_succ]
    cases hk : keeps d m
    · have hm0 : 0 < m := by
        rcases Nat.eq_zero_or_pos m with h0 | h0
        · subst h0; simp [keeps] at hk
        · exact h0
      have he : d[m]! = d[m - 1]! := by
        by_cases h : d[m]! = d[m - 1]!
        · exact h
        · rw [keeps_pos h] at hk; cases hk
      simp only [Bool.false_eq_true, if_false, List.append_nil]
      refine ⟨h1, fun x => ?_⟩
      rw [h2 x]
      constructor
      · rintro ⟨j, hj, e⟩; exact ⟨j, by omega, e⟩
      · rintro ⟨j, hj, e⟩
        rcases Nat.lt_or_ge j m with h | h
        · exact ⟨j, h, e⟩
        · have : j = m := by omega
          subst this
          exact ⟨j - 1, by omega, by rw [← he]; exact e⟩
    · simp only [if_true]
      refine ⟨?_, fun x => ?_⟩
      · rw [List.pairwise_append]
        refine ⟨h1, List.pairwise_singleton _ _, fun a ha b hb => ?_⟩
        rw [List.mem_singleton] at hb
        subst hb
        obtain ⟨j, hj, e⟩ := (h2 a).1 ha
        rcases Nat.eq_zero_or_pos m with h0 | h0
        · omega
        have hne : d[m]! ≠ d[m - 1]! := by
          intro h
          rw [keeps_neg h0 h] at hk; cases hk
        have l1 := hs j (m - 1) (by omega) (by omega)
        have l2 := hs (m - 1) m (by omega) (by omega)
        omega
      · rw [List.mem_append, List.mem_singleton, h2 x]
        constructor
        · rintro (⟨j, hj, e⟩ | e)
          · exact ⟨j, by omega, e⟩
          · exact ⟨m, by omega, e.symm⟩
        · rintro ⟨j, hj, e⟩
          rcases Nat.lt_or_ge j m with h | h
          · exact .inl ⟨j, h, e⟩
          · have : j = m := by omega
            subst this
            exact .inr e.symm
theorem sorted_pw (l : List Int) : (sorted l).Pairwise (· ≤ ·) := by
  have h := List.pairwise_mergeSort (le := fun x y : Int => decide (x ≤ y)) (by intro a b c; simp; omega) (by intro a b; simp; omega) l
  exact h.imp (by intro a b; simp)
theorem sorted_mem (l : List Int) (x : Int) : x ∈ sorted l ↔ x ∈ l := List.mem_mergeSort
theorem sorted_length (l : List Int) : (sorted l).length = l.length := List.length_mergeSort l
theorem who_spec (l : List Int) : (whoL l).Pairwise (· < ·) ∧ ∀ x, x ∈ whoL l ↔ x ∈ l := by
  have hp := sorted_pw l
  have hm := sorted_mem l
  unfold whoL
  generalize sorted l = s at *
  have h := compact_sorted s.toArray (fun i j hij hj => by
    have hj' : j < s.length := by simpa using hj
    rcases Nat.lt_or_ge i j with h | h
    · have := List.pairwise_iff_getElem.1 hp i j (by omega) hj' h
      simpa [getElem!_pos, hj', show i < s.length by omega] using this
    · have : i = j := by omega
      subst this
      exact Int.le_refl _) s.length (by simp)
  refine ⟨h.1, fun x => ?_⟩
  rw [← hm x]
  refine (h.2 x).trans ?_
  rw [List.mem_iff_getElem]
  constructor
  · rintro ⟨j, hj, e⟩; exact ⟨j, hj, by simpa [getElem!_pos, hj] using e⟩
  · rintro ⟨j, hj, e⟩; exact ⟨j, hj, by simpa [getElem!_pos, hj] using e⟩
theorem who_of {l m : List Int} (h1 : m.Pairwise (· < ·)) (h2 : ∀ x, x ∈ m ↔ x ∈ l) : m = whoL l :=
  uniq _ _ h1 (who_spec l).1 (fun x => (h2 x).trans ((who_spec l).2 x).symm)
theorem compact_le (l : List Int) : (compact l).length ≤ l.length := by
  unfold compact compactUpTo
  rw [List.length_map]
  exact Nat.le_trans (List.length_filter_le _ _) (by simp)
theorem who_le (l : List Int) : (whoL l).length ≤ l.length := by
  have := compact_le (sorted l)
  rw [sorted_length] at this
  exact this
/-- An element put in its place. -/
theorem put_pw {l : List Int} {p : Int} {j : Nat} (h : l.Pairwise (· < ·)) (hb : ∀ x ∈ l.drop j, p < x) (ha : ∀ x ∈ l.take j, x < p) : (l.take j ++ p :: l.drop j).Pairwise (· < ·) := by
  have h0 : (l.take j ++ l.drop j).Pairwise (· < ·) := by rw [List.take_append_drop]; exact h
  rw [List.pairwise_append] at h0 ⊢
  refine ⟨h0.1, List.pairwise_cons.2 ⟨hb, h0.2.1⟩, fun a h1 b h2 => ?_⟩
  rw [List.mem_cons] at h2
  rcases h2 with rfl | h2
  · exact ha a h1
  · exact h0.2.2 a h1 b h2
theorem put_mem (l : List Int) (p : Int) (j : Nat) (x : Int) : x ∈ l.take j ++ p :: l.drop j ↔ x ∈ l ∨ x = p := by
  have h : x ∈ l ↔ x ∈ l.take j ∨ x ∈ l.drop j := by rw [← List.mem_append, List.take_append_drop]
  rw [List.mem_append, List.mem_cons, h]
  constructor
  · rintro (h | h | h)
    · exact .inl (.inl h)
    · exact .inr h
    · exact .inl (.inr h)
  · rintro ((h | h) | h)
    · exact .inl h
    · exact .inr (.inr h)
    · exact .inr (.inl h)
/-- All before a place whose last is below p are below p. -/
theorem before_lt {l : List Int} {p : Int} {j : Nat} (h : l.Pairwise (· < ·)) (hj : j < l.length) (hp : l[j] < p) : ∀ x ∈ l.take (j + 1), x < p := by
  intro x hx
  obtain ⟨i, hi, e⟩ := List.mem_iff_getElem.1 hx
  rw [List.length_take] at hi
  rw [List.getElem_take] at e
  subst e
  rcases Nat.lt_or_ge i j with h1 | h1
  · have := List.pairwise_iff_getElem.1 h i j (by omega) hj h1
    omega
  · have : i = j := by omega
    subst this
    exact hp
/-- One step of the shift. -/
theorem shift_step {l : List Int} {j : Nat} (y : Int) (hj : j < l.length) : (l.take (j + 1) ++ y :: l.drop (j + 1)).set (j + 1) l[j] = l.take j ++ l[j] :: l.drop j := by
  have h1 : l.take (j + 1) = l.take j ++ [l[j]] := by rw [List.take_add_one]; simp [hj]
  have h2 : l.drop j = l[j] :: l.drop (j + 1) := List.drop_eq_getElem_cons hj
  have e : (l.take (j + 1)).length = j + 1 := by rw [List.length_take]; omega
  rw [List.set_append_right _ _ (by omega), e, Nat.sub_self, List.set_cons_zero, h2, h1, List.append_assoc]
  rfl
theorem put_last {l : List Int} {j : Nat} (y p : Int) (hj : j ≤ l.length) : (l.take j ++ y :: l.drop j).set j p = l.take j ++ p :: l.drop j := by
  have e : (l.take j).length = j := by rw [List.length_take]; omega
  rw [List.set_append_right _ _ (by omega), e, Nat.sub_self, List.set_cons_zero]
theorem shift_at {l : List Int} {j : Nat} (y : Int) (hj : j < l.length) : (l.take (j + 1) ++ y :: l.drop (j + 1))[j]? = some l[j] := by
  rw [List.getElem?_append_left (by simp; omega), List.getElem?_take_of_lt (by omega), List.getElem?_eq_getElem hj]

/-- Whether the stay passes. -/
def stayB (hall s m h f t : Int) : Bool := decide (h = hall ∧ f ≤ m ∧ max 0 s ≤ t)
def stayF (qs : List Tup4.Tu) (hall s m : Int) (k : Nat) : Bool := stayB hall s m (Tup4.tt qs k).2.1 (Tup4.tt qs k).2.2.1 (Tup4.tt qs k).2.2.2
def suspL (qs : List Tup4.Tu) (hall : Int) (ps : List TupIIB.Tu) (o : Int) : List Int :=
  if StockMath.missingB ps o then whoL (pickTo (fun k => (Tup4.tt qs k).1) (stayF qs hall (StockMath.seenI ps o) (StockMath.missI ps o)) qs.length) else []
theorem suspL_le (qs : List Tup4.Tu) (hall : Int) (ps : List TupIIB.Tu) (o : Int) (h : qs.length ≤ 1048576) : (suspL qs hall ps o).length ≤ 1048576 := by
  unfold suspL
  split
  · have h1 := who_le (pickTo (fun k => (Tup4.tt qs k).1) (stayF qs hall (StockMath.seenI ps o) (StockMath.missI ps o)) qs.length)
    have h2 := pickTo_len (fun k => (Tup4.tt qs k).1) (stayF qs hall (StockMath.seenI ps o) (StockMath.missI ps o)) qs.length
    omega
  · simp
end Go.Proofs.YtkcodmafakjkfaaGreat.SuspMath
