/-
  A plan of loans: plain facts. No program stands here.
-/
import Derived.Test.YtgelkpaiabhklaaDutyMath
import Derived.Test.YtgelkpaiabhklaaTup4
import Derived.Test.YtgelkpaiabhklaaTup3
namespace Go.Proofs.Ytgelkpaiabhklaa.PlanMath
open DutyMath

/-- A list by its indices. -/
def rowL (f : Nat → Int) (m : Nat) : List Int := (List.range m).map f
theorem rowL_len (f : Nat → Int) (m : Nat) : (rowL f m).length = m := by simp [rowL]
theorem rowL_at (f : Nat → Int) {m h : Nat} (hh : h < m) : (rowL f m)[h]? = some (f h) := by
  simp [rowL, hh]
theorem rowL_set {f g : Nat → Int} {m z : Nat} (hg : ∀ h, h ≠ z → g h = f h) : (rowL f m).set z (g z) = rowL g m := by
  apply List.ext_getElem?
  intro i
  rw [List.getElem?_set]
  by_cases e : z = i
  · subst e
    rw [if_pos rfl]
    by_cases hm : z < m
    · rw [if_pos (by rw [rowL_len]; exact hm), rowL_at g hm]
    · rw [if_neg (by rw [rowL_len]; exact hm), List.getElem?_eq_none (by rw [rowL_len]; omega)]
  · rw [if_neg e]
    by_cases hm : i < m
    · rw [rowL_at f hm, rowL_at g hm, hg i (fun h => e h.symm)]
    · rw [List.getElem?_eq_none (by rw [rowL_len]; omega), List.getElem?_eq_none (by rw [rowL_len]; omega)]

/-- How many of the first k loans go to hall h. -/
def cnt (qs : List Int) : Nat → Nat → Nat
  | 0, _ => 0
  | k + 1, h => cnt qs k h + if qs.getD k 0 = (h : Int) then 1 else 0
theorem cnt_le (qs : List Int) (h : Nat) : ∀ k, cnt qs k h ≤ k
  | 0 => Nat.le_refl _
  | k + 1 => by
    have := cnt_le qs h k
    simp only [cnt]
    split <;> omega
theorem cnt_mono (qs : List Int) (h : Nat) {k : Nat} : ∀ {n : Nat}, k ≤ n → cnt qs k h ≤ cnt qs n h
  | 0, hk => by obtain rfl : k = 0 := by omega
                exact Nat.le_refl _
  | n + 1, hk => by
    by_cases e : k = n + 1
    · subst e; exact Nat.le_refl _
    · have := cnt_mono qs h (k := k) (n := n) (by omega)
      simp only [cnt]
      omega
theorem cnt_here {qs : List Int} {k z : Nat} (hz : qs.getD k 0 = (z : Int)) : cnt qs (k + 1) z = cnt qs k z + 1 := by
  show cnt qs k z + (if qs.getD k 0 = (z : Int) then 1 else 0) = _
  rw [hz, if_pos rfl]
theorem cnt_other {qs : List Int} {k z h : Nat} (hz : qs.getD k 0 = (z : Int)) (hh : h ≠ z) : cnt qs (k + 1) h = cnt qs k h := by
  show cnt qs k h + (if qs.getD k 0 = (h : Int) then 1 else 0) = _
  rw [hz, if_neg (by omega)]; rfl
def used (qs : List Int) (k : Nat) (h : Nat) : Int := (cnt qs k h : Int)
def left (ls qs : List Int) (k : Nat) (h : Nat) : Int := ls.getD h 0 - (cnt qs k h : Int)
theorem used_step {qs : List Int} {k z m : Nat} (hz : qs.getD k 0 = (z : Int)) : (rowL (used qs k) m).set z (used qs k z + 1) = rowL (used qs (k + 1)) m := by
  rw [show used qs k z + 1 = used qs (k + 1) z by unfold used; rw [cnt_here hz]; omega]
  exact rowL_set (fun h hh => by unfold used; rw [cnt_other hz hh])
theorem left_step {ls qs : List Int} {k z m : Nat} (hz : qs.getD k 0 = (z : Int)) : (rowL (left ls qs k) m).set z (left ls qs k z - 1) = rowL (left ls qs (k + 1)) m := by
  rw [show left ls qs k z - 1 = left ls qs (k + 1) z by unfold left; rw [cnt_here hz]; omega]
  exact rowL_set (fun h hh => by unfold left; rw [cnt_other hz hh])

def inB (m z : Int) : Bool := decide (0 ≤ z ∧ z ≤ m)
def brK (ps : List Tup4.Tu) (hs : List Tup3.Tu) (k h : Nat) : Int :=
  breachI (Tup4.tt ps k).1 (Tup4.tt ps k).2.1 (Tup4.tt ps k).2.2.1 (Tup4.tt ps k).2.2.2 (Tup3.tt hs h).1 (Tup3.tt hs h).2.1 (Tup3.tt hs h).2.2
def fitK (ps : List Tup4.Tu) (hs : List Tup3.Tu) (qs : List Int) (k : Nat) : Bool :=
  decide (0 ≤ qs.getD k 0 ∧ qs.getD k 0 < (hs.length : Int)) && decide (brK ps hs k (qs.getD k 0).toNat = 0)
def validB (ps : List Tup4.Tu) (hs : List Tup3.Tu) (ls : List Int) : Bool :=
  (List.range ls.length).all (fun k => inB 6 (ls.getD k 0)) && decide (ps.length ≤ 6) && decide (1 ≤ hs.length ∧ hs.length ≤ 5) && decide (ls.length = hs.length)
def planB (ps : List Tup4.Tu) (hs : List Tup3.Tu) (ls qs : List Int) : Bool :=
  validB ps hs ls && decide (qs.length = ps.length) && (List.range qs.length).all (fitK ps hs qs) && (List.range hs.length).all (fun h => decide ((cnt qs qs.length h : Int) ≤ ls.getD h 0))
theorem valid_out {ps : List Tup4.Tu} {hs : List Tup3.Tu} {ls : List Int} (h : validB ps hs ls = true) : (∀ k, k < ls.length → 0 ≤ ls.getD k 0 ∧ ls.getD k 0 ≤ 6) ∧ ps.length ≤ 6 ∧ (1 ≤ hs.length ∧ hs.length ≤ 5) ∧ ls.length = hs.length := by
  unfold validB at h
  simp only [Bool.and_eq_true, decide_eq_true_eq, List.all_eq_true, List.mem_range, inB] at h
  exact ⟨h.1.1.1, h.1.1.2, h.1.2, h.2⟩
theorem plan_invalid {ps : List Tup4.Tu} {hs : List Tup3.Tu} {ls qs : List Int} (h : validB ps hs ls = false) : planB ps hs ls qs = false := by simp [planB, h]
theorem plan_length {ps : List Tup4.Tu} {hs : List Tup3.Tu} {ls qs : List Int} (h : qs.length ≠ ps.length) : planB ps hs ls qs = false := by simp [planB, h]
theorem plan_unfit {ps : List Tup4.Tu} {hs : List Tup3.Tu} {ls qs : List Int} {k : Nat} (hk : k < qs.length) (h : fitK ps hs qs k = false) : planB ps hs ls qs = false := by
  cases e : planB ps hs ls qs
  · rfl
  · exfalso
    unfold planB at e
    simp only [Bool.and_eq_true, List.all_eq_true, List.mem_range] at e
    have := e.1.2 k hk
    rw [h] at this
    cases this
theorem plan_over {ps : List Tup4.Tu} {hs : List Tup3.Tu} {ls qs : List Int} {n z : Nat} (hn : n ≤ qs.length) (hz : z < hs.length) (h : ls.getD z 0 < (cnt qs n z : Int)) : planB ps hs ls qs = false := by
  cases e : planB ps hs ls qs
  · rfl
  · exfalso
    unfold planB at e
    simp only [Bool.and_eq_true, List.all_eq_true, List.mem_range, decide_eq_true_eq] at e
    have h1 := e.2 z hz
    have h2 := cnt_mono qs z hn
    omega
theorem plan_yes {ps : List Tup4.Tu} {hs : List Tup3.Tu} {ls qs : List Int} (hv : validB ps hs ls = true) (hl : qs.length = ps.length) (hf : ∀ k, k < qs.length → fitK ps hs qs k = true) (hc : ∀ h, h < hs.length → (cnt qs qs.length h : Int) ≤ ls.getD h 0) : planB ps hs ls qs = true := by
  unfold planB
  simp only [Bool.and_eq_true, List.all_eq_true, List.mem_range, decide_eq_true_eq]
  exact ⟨⟨⟨hv, hl⟩, hf⟩, hc⟩
theorem left_stays {ls qs : List Int} {k z m : Nat} (hz : qs.getD k 0 = (z : Int)) (h0 : left ls qs k z ≠ 0) (h : ∀ h, h < m → (cnt qs k h : Int) ≤ ls.getD h 0) : ∀ h, h < m → (cnt qs (k + 1) h : Int) ≤ ls.getD h 0 := by
  intro j hj
  have h1 := h j hj
  by_cases e : j = z
  · subst e
    rw [cnt_here hz]
    unfold left at h0
    omega
  · rw [cnt_other hz e]; exact h1
theorem left_zero {ls qs : List Int} {l : Nat} (hl : ls.length = l) : rowL (left ls qs 0) l = ls := by
  apply List.ext_getElem?
  intro i
  by_cases h : i < l
  · rw [rowL_at _ h]
    unfold left
    rw [List.getD_eq_getElem?_getD, List.getElem?_eq_getElem (by omega)]
    simp [cnt]
  · rw [List.getElem?_eq_none (by rw [rowL_len]; omega), List.getElem?_eq_none (by omega)]
theorem valid_any {ps : List Tup4.Tu} {hs : List Tup3.Tu} {ls : List Int} {n m l : Nat} (hp : ps.length = n) (hm : hs.length = m) (hl : ls.length = l) : validB ps hs ls = (decide (n ≤ 6) && decide (1 ≤ m) && decide (m ≤ 5) && decide (l = m) && !(List.range l).any fun k => !inB 6 (ls.getD k 0)) := by
  have h : (List.range l).all (fun k => inB 6 (ls.getD k 0)) = !(List.range l).any fun k => !inB 6 (ls.getD k 0) := by
    rw [Bool.eq_iff_iff]; simp
  unfold validB
  rw [hp, hm, hl, h]
  cases (List.range l).any fun k => !inB 6 (ls.getD k 0) <;> by_cases h1 : 1 ≤ m <;> by_cases h5 : m ≤ 5 <;> simp [h1, h5]
end Go.Proofs.Ytgelkpaiabhklaa.PlanMath
