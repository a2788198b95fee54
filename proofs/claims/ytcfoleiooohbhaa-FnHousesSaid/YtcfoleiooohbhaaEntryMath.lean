/-
  Records of entries: their size, the seals in them. No program stands here.
-/
import Derived.Test.YtcfoleiooohbhaaTupISI
import Derived.Test.YtcfoleiooohbhaaSealMath
namespace Go.Proofs.Ytcfoleiooohbhaa.EntryMath
open TupISI SealMath

def sumTo (l : List Tu) : Nat → Nat
  | 0 => 0
  | k + 1 => sumTo l k + (tt l k).2.1.size
theorem sum_mono (l : List Tu) {j k : Nat} (h : j ≤ k) : sumTo l j ≤ sumTo l k := by
  induction h with
  | refl => exact Nat.le_refl _
  | step h ih => exact Nat.le_trans ih (Nat.le_add_right _ _)
/-- The entries and the bytes of their texts. -/
def total (l : List Tu) : Nat := l.length + sumTo l l.length
theorem le_total {l : List Tu} {n : Nat} (h : l.length = n) : n ≤ total l := by unfold total; omega
def lastI (l : List Tu) : Int := if l.length = 0 then 1 else (tt l (l.length - 1)).2.2
def momentI (l : List Tu) : Int := if l.length = 0 then 0 else (tt l (l.length - 1)).1
/-- The seal ahead of entry number k. -/
def sealAhead (l : List Tu) (k : Nat) : Int := if k = 0 then 1 else (tt l (k - 1)).2.2
/-- Entry number k is not what the seal sealAhead of it demands. -/
def brokenB (l : List Tu) (k : Nat) : Bool :=
  decide (sealI (sealAhead l k) (tt l k).1 (tt l k).2.1 < 0) || decide (sealI (sealAhead l k) (tt l k).1 (tt l k).2.1 ≠ (tt l k).2.2) || (decide (0 < k) && decide ((tt l k).1 < (tt l (k - 1)).1))
def firstI (l : List Tu) : Int :=
  match (List.range l.length).find? (brokenB l) with
  | some k => (k : Int)
  | none => -1
theorem first_at {l : List Tu} {n k : Nat} (hl : l.length = n) (hk : k < n) (h : brokenB l k = true) (h2 : ∀ j, j < k → brokenB l j = false) : firstI l = (k : Int) := by
  unfold firstI
  have : (List.range l.length).find? (brokenB l) = some k := by
    rw [List.find?_range_eq_some]
    exact ⟨h, List.mem_range.2 (by omega), fun j hj => by simp [h2 j hj]⟩
  rw [this]
theorem first_none {l : List Tu} {n : Nat} (hl : l.length = n) (h : ∀ k, k < n → brokenB l k = false) : firstI l = -1 := by
  unfold firstI
  have : (List.range l.length).find? (brokenB l) = none := by
    rw [List.find?_eq_none]
    intro k hk
    simp [h k (by have := List.mem_range.1 hk; omega)]
  rw [this]
theorem first_in (l : List Tu) : -1 ≤ firstI l := by
  unfold firstI
  split <;> omega
def sealedB (l : List Tu) : Bool := decide (l.length ≤ 30) && decide (firstI l = -1)
theorem seal_moment {p m : Int} {s : ByteArray} (h : ¬ sealI p m s < 0) : 0 ≤ m := by
  unfold sealI at h
  split at h
  · rename_i h1
    exact h1.2.1.1
  · omega
theorem tt_take {l : List Tu} {k j : Nat} (h : j < k) : tt (l.take k) j = tt l j := by
  unfold tt
  rw [List.getD_eq_getElem?_getD, List.getD_eq_getElem?_getD, List.getElem?_take, if_pos h]
theorem ts_take {w : World} {b k : Nat} {A : Option Addr} {l : List Tu} (h : TsAt w b A l) : TsAt w b A (l.take k) := by
  intro j hj
  have h1 : j < k ∧ j < l.length := by rw [List.length_take] at hj; omega
  have h2 := h j h1.2
  have e : (l.take k)[j]'hj = l[j]'h1.2 := List.getElem_take
  rw [e]
  exact h2
theorem last_take {l : List Tu} {k : Nat} (h : k ≤ l.length) : lastI (l.take k) = sealAhead l k := by
  unfold lastI sealAhead
  rw [List.length_take, Nat.min_eq_left h]
  split
  · rfl
  · rw [tt_take (by omega)]
theorem moment_take {l : List Tu} {k : Nat} (h : k ≤ l.length) : momentI (l.take k) = if k = 0 then 0 else (tt l (k - 1)).1 := by
  unfold momentI
  rw [List.length_take, Nat.min_eq_left h]
  split
  · rfl
  · rw [tt_take (by omega)]
end Go.Proofs.Ytcfoleiooohbhaa.EntryMath
