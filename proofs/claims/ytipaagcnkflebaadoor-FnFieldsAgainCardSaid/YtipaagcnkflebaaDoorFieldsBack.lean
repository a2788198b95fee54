/-
  Plain facts: the fields of a line, each with a space behind it, have the same fields. No program stands here.
-/
import Derived.Test.YtipaagcnkflebaaDoorSplitMath
namespace Go.Proofs.YtipaagcnkflebaaDoor.FieldsBack
open Go.RowKit SplitMath

/-- A field: not empty, no space in it. -/
def Good (f : List UInt8) : Prop := f ≠ [] ∧ ∀ c ∈ f, c ≠ 32
def joined (fs : List (List UInt8)) : List UInt8 := fs.flatMap fun f => f ++ [32]
theorem joined_nil : joined [] = [] := rfl
theorem joined_snoc (fs : List (List UInt8)) (f : List UInt8) : joined (fs ++ [f]) = joined fs ++ f ++ [32] := by simp [joined, List.flatMap_append]

/-- What is complete and what is open behind l: good fields, an open one without a space, all of it bytes of l. -/
theorem run_good (l : List UInt8) : (∀ f ∈ done l, Good f ∧ ∀ c ∈ f, c ∈ l) ∧ (∀ c ∈ cur l, c ≠ 32 ∧ c ∈ l) := by
  generalize hn : l.length = n
  induction n generalizing l with
  | zero =>
    have : l = [] := List.eq_nil_of_length_eq_zero hn
    subst this
    exact ⟨fun f hf => by simp [done_nil] at hf, fun c hc => by simp [cur_nil] at hc⟩
  | succ n ih =>
    have hne : l ≠ [] := by intro e; subst e; simp at hn
    obtain ⟨r, c, rfl⟩ : ∃ r c, l = r ++ [c] := ⟨l.dropLast, l.getLast hne, (List.dropLast_concat_getLast hne).symm⟩
    simp only [List.length_append, List.length_cons, List.length_nil] at hn
    obtain ⟨h1, h2⟩ := ih r (by omega)
    have up : ∀ f ∈ done r, Good f ∧ ∀ x ∈ f, x ∈ r ++ [c] := fun f hf => ⟨(h1 f hf).1, fun x hx => List.mem_append_left _ ((h1 f hf).2 x hx)⟩
    by_cases hc : c = 32
    · subst hc
      by_cases h : cur r = []
      · rw [(step_space_empty h).1, (step_space_empty h).2]
        exact ⟨up, fun x hx => by simp at hx⟩
      · rw [(step_space_full h).1, (step_space_full h).2]
        refine ⟨fun f hf => ?_, fun x hx => by simp at hx⟩
        rcases List.mem_append.1 hf with hf | hf
        · exact up f hf
        · have : f = cur r := by simpa using hf
          subst this
          exact ⟨⟨h, fun x hx => (h2 x hx).1⟩, fun x hx => List.mem_append_left _ (h2 x hx).2⟩
    · rw [(step_other hc).1, (step_other hc).2]
      refine ⟨up, fun x hx => ?_⟩
      rcases List.mem_append.1 hx with hx | hx
      · exact ⟨(h2 x hx).1, List.mem_append_left _ (h2 x hx).2⟩
      · have : x = c := by simpa using hx
        subst this
        exact ⟨hc, by simp⟩
theorem fields_good (l : List UInt8) : ∀ f ∈ fields l, Good f ∧ ∀ c ∈ f, c ∈ l := by
  obtain ⟨h1, h2⟩ := run_good l
  intro f hf
  unfold fields at hf
  split at hf
  · exact h1 f hf
  · rename_i hne
    rcases List.mem_append.1 hf with hf | hf
    · exact h1 f hf
    · have : f = cur l := by simpa using hf
      subst this
      exact ⟨⟨hne, fun x hx => (h2 x hx).1⟩, fun x hx => (h2 x hx).2⟩

/-- Going over one good field, and over the space behind it. -/
theorem run_field : ∀ (f : List UInt8) (d : List (List UInt8)) (o : List UInt8), (∀ c ∈ f, c ≠ 32) → f.foldl st (d, o) = (d, o ++ f)
  | [], d, o, _ => by simp
  | c :: f, d, o, h => by
    rw [List.foldl_cons]
    have hc : c ≠ 32 := h c (by simp)
    have : st (d, o) c = (d, o ++ [c]) := by simp [st, hc]
    rw [this, run_field f d _ (fun x hx => h x (by simp [hx])), List.append_assoc]; rfl
theorem run_joined : ∀ (fs : List (List UInt8)) (d : List (List UInt8)), (∀ f ∈ fs, Good f) → (joined fs).foldl st (d, []) = (d ++ fs, [])
  | [], d, _ => by simp [joined]
  | f :: fs, d, h => by
    have hf := h f (by simp)
    have e : joined (f :: fs) = f ++ ([32] ++ joined fs) := by simp [joined]
    rw [e, List.foldl_append, List.foldl_append, run_field f d [] hf.2, List.nil_append]
    have : [(32 : UInt8)].foldl st (d, f) = (d ++ [f], []) := by simp [st, hf.1]
    rw [this, run_joined fs (d ++ [f]) (fun x hx => h x (by simp [hx])), List.append_assoc]; rfl
theorem fields_joined {fs : List (List UInt8)} (h : ∀ f ∈ fs, Good f) : fields (joined fs) = fs := by
  have hr : run (joined fs) = (fs, []) := by unfold run; rw [run_joined fs [] h]; simp
  have hc : cur (joined fs) = [] := by unfold cur; rw [hr]
  rw [fields_empty hc]
  unfold done
  rw [hr]
theorem ok_joined {fs : List (List UInt8)} (h : ∀ f ∈ fs, ∀ c ∈ f, okByte c = true) : (joined fs).all okByte = true := by
  rw [List.all_eq_true]
  intro c hc
  simp only [joined, List.mem_flatMap] at hc
  obtain ⟨f, hf, hc⟩ := hc
  rcases List.mem_append.1 hc with hc | hc
  · exact h f hf c hc
  · have : c = 32 := by simpa using hc
    subst this; decide

/-- THE PLAIN LAW: up to the limit the joined fields of a good line are a good line with the same fields. -/
theorem again {l : List UInt8} (h : ansB l = true) (hl : (joined (ansF l)).length ≤ 600) : ansB (joined (ansF l)) = true ∧ ansF (joined (ansF l)) = ansF l := by
  have hF := ansF_yes h
  simp only [ansB, Bool.and_eq_true, decide_eq_true_eq] at h
  obtain ⟨⟨h1, h2⟩, h3⟩ := h
  have hg := fields_good l
  have hj : fields (joined (fields l)) = fields l := fields_joined fun f hf => (hg f hf).1
  rw [hF] at hl ⊢
  have hB : ansB (joined (fields l)) = true := ansB_good hl (ok_joined fun f hf c hc => by
    rw [List.all_eq_true] at h2
    exact h2 c ((hg f hf).2 c hc)) (by rw [hj]; exact h3)
  exact ⟨hB, by rw [ansF_yes hB, hj]⟩
/-- No field is longer than the line; there are at most 24. -/
theorem field_len {l : List UInt8} (h : ansB l = true) : ∀ f ∈ ansF l, f.length ≤ 600 := by
  rw [ansF_yes h]
  simp only [ansB, Bool.and_eq_true, decide_eq_true_eq] at h
  intro f hf
  have hs := sizes l
  have h2 : ∀ (k : List UInt8), (∀ g ∈ done k, g.length ≤ k.length) ∧ (cur k).length ≤ k.length := by
    intro k
    generalize hn : k.length = n
    induction n generalizing k with
    | zero =>
      have : k = [] := List.eq_nil_of_length_eq_zero hn
      subst this
      exact ⟨fun g hg => by simp [done_nil] at hg, by simp [cur_nil]⟩
    | succ n ih =>
      have hne : k ≠ [] := by intro e; subst e; simp at hn
      obtain ⟨r, c, rfl⟩ : ∃ r c, k = r ++ [c] := ⟨k.dropLast, k.getLast hne, (List.dropLast_concat_getLast hne).symm⟩
      simp only [List.length_append, List.length_cons, List.length_nil] at hn
      obtain ⟨i1, i2⟩ := ih r (by omega)
      by_cases hc : c = 32
      · subst hc
        by_cases hh : cur r = []
        · rw [(step_space_empty hh).1, (step_space_empty hh).2]
          exact ⟨fun g hg => by have := i1 g hg; omega, by simp⟩
        · rw [(step_space_full hh).1, (step_space_full hh).2]
          refine ⟨fun g hg => ?_, by simp⟩
          rcases List.mem_append.1 hg with hg | hg
          · have := i1 g hg; omega
          · have : g = cur r := by simpa using hg
            subst this; omega
      · rw [(step_other hc).1, (step_other hc).2]
        exact ⟨fun g hg => by have := i1 g hg; omega, by rw [List.length_append]; simp; omega⟩
  obtain ⟨i1, i2⟩ := h2 l
  unfold fields at hf
  split at hf
  · have := i1 f hf; omega
  · rcases List.mem_append.1 hf with hf | hf
    · have := i1 f hf; omega
    · have : f = cur l := by simpa using hf
      subst this; omega
theorem take_joined {fs : List (List UInt8)} {k : Nat} (h : k < fs.length) : joined (fs.take (k + 1)) = joined (fs.take k) ++ fs[k] ++ [32] := by
  rw [List.take_succ_eq_append_getElem h, joined_snoc]
end Go.Proofs.YtipaagcnkflebaaDoor.FieldsBack
