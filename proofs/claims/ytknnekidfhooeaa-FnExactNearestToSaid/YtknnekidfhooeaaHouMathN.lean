/-
  The nearest of a list of halls: the first of the least. No program stands here.
-/
import Derived.Test.YtknnekidfhooeaaHouMathC
import Derived.Test.YtknnekidfhooeaaFirstMath
namespace Go.Proofs.Ytknnekidfhooeaa.HouMathN
open Go Go.RowKit HouMath HouMathB HouMathC FirstMath

def nearTo (f : Nat → Int) : Nat → Int
  | 0 => -1
  | k + 1 => if nearTo f k < 0 ∨ f k < f (nearTo f k).toNat then (k : Int) else nearTo f k
def leastTo (f : Nat → Int) : Nat → Int
  | 0 => f 0
  | k + 1 => min (leastTo f k) (f (k + 1))
theorem least_le (f : Nat → Int) : ∀ k i, i ≤ k → leastTo f k ≤ f i
  | 0, i, h => by obtain rfl : i = 0 := by omega
                  exact Int.le_refl _
  | k + 1, i, h => by
    simp only [leastTo]
    rcases Nat.lt_or_ge k i with h1 | h1
    · obtain rfl : i = k + 1 := by omega
      omega
    · have := least_le f k i h1
      omega
theorem near_ok (f : Nat → Int) : ∀ k, ∃ j : Nat, j < k + 1 ∧ nearTo f (k + 1) = (j : Int) ∧ f j = leastTo f k ∧ ∀ i, i < j → leastTo f k < f i
  | 0 => ⟨0, by omega, by simp [nearTo], rfl, fun i hi => absurd hi (by omega)⟩
  | k + 1 => by
    obtain ⟨j, h1, h2, h3, h4⟩ := near_ok f k
    have e : nearTo f (k + 1 + 1) = if nearTo f (k + 1) < 0 ∨ f (k + 1) < f (nearTo f (k + 1)).toNat then ((k + 1 : Nat) : Int) else nearTo f (k + 1) := rfl
    rw [e, h2]
    have h0 : ¬ (j : Int) < 0 := by omega
    have hj : ((j : Int)).toNat = j := by omega
    rw [hj]
    by_cases h : f (k + 1) < f j
    · rw [if_pos (.inr h)]
      refine ⟨k + 1, by omega, rfl, by simp only [leastTo]; omega, fun i hi => ?_⟩
      have := least_le f k i (by omega)
      simp only [leastTo]
      omega
    · rw [if_neg (by rintro (h5 | h5) <;> contradiction)]
      refine ⟨j, by omega, rfl, by simp only [leastTo]; omega, fun i hi => ?_⟩
      have := h4 i hi
      simp only [leastTo]
      omega
theorem near_first (f : Nat → Int) (k : Nat) : firstI (k + 1) (fun i => decide (leastTo f k = f i)) = nearTo f (k + 1) := by
  obtain ⟨j, h1, h2, h3, h4⟩ := near_ok f k
  rw [h2]
  exact firstI_at h1 (decide_eq_true h3.symm) (fun i hi => decide_eq_false (by have := h4 i hi; omega))
theorem near_zero (f : Nat → Int) : nearTo f 0 = -1 := rfl
theorem near_pos (f : Nat → Int) {k : Nat} (h : 0 < k) : ∃ j : Nat, j < k ∧ nearTo f k = (j : Int) := by
  obtain ⟨q, rfl⟩ : ∃ q, k = q + 1 := ⟨k - 1, by omega⟩
  obtain ⟨j, h1, h2, _⟩ := near_ok f q
  exact ⟨j, h1, h2⟩
theorem near_start (f : Nat → Int) {k : Nat} (h : k = 0) : nearTo f (k + 1) = (k : Int) := by subst h; rfl
theorem near_step (f : Nat → Int) {k j : Nat} (h : nearTo f k = (j : Int)) : nearTo f (k + 1) = if f k < f j then (k : Int) else (j : Int) := by
  simp only [nearTo, h]
  have h0 : ¬ (j : Int) < 0 := by omega
  have hj : ((j : Int)).toNat = j := by omega
  rw [hj]
  by_cases h2 : f k < f j
  · rw [if_pos (.inr h2), if_pos h2]
  · rw [if_neg (by rintro (h3 | h3) <;> contradiction), if_neg h2]

/-- How far each of these halls lies. -/
def wayL (D : List Int) (zs : List Int) : List Int := zs.map fun z => D.getD z.toNat 0
theorem wayL_len (D zs : List Int) : (wayL D zs).length = zs.length := by simp [wayL]
theorem wayL_get (D : List Int) {zs : List Int} {k : Nat} (h : k < zs.length) : (wayL D zs).getD k 0 = D.getD (zs.getD k 0).toNat 0 := by
  simp [wayL, List.getD, h]
theorem wayL_snoc (D : List Int) {zs : List Int} {k : Nat} {z : Nat} (h : k < zs.length) (hz : zs.getD k 0 = (z : Int)) : wayL D (zs.take (k + 1)) = wayL D (zs.take k) ++ [D.getD z 0] := by
  have e : zs.take (k + 1) = zs.take k ++ [zs.getD k 0] := by
    rw [List.take_add_one]
    simp [List.getD, h]
  rw [e, hz]
  simp [wayL]
def wayAt (D zs : List Int) (k : Nat) : Int := D.getD (zs.getD k 0).toNat 0
theorem wayAt_of {D zs : List Int} {k z : Nat} (h : zs.getD k 0 = (z : Int)) : wayAt D zs k = D.getD z 0 := by unfold wayAt; rw [h]; rfl
def nearI (H : Int) (ds : List (Int × Int)) (zs : List Int) (x : Int) : Int :=
  if (hallsB H zs && hallOf H ds x) = true then nearTo (wayAt (dist H.toNat ds x.toNat) zs) zs.length else -1
theorem near_no {H : Int} {ds : List (Int × Int)} {zs : List Int} {x : Int} (h : (hallsB H zs && hallOf H ds x) = false) : nearI H ds zs x = -1 := by unfold nearI; rw [h]; rfl
theorem near_yes {N a : Nat} {ds : List (Int × Int)} {zs : List Int} (h : (hallsB N zs && hallOf N ds a) = true) : nearI N ds zs a = nearTo (wayAt (dist N ds a) zs) zs.length := by unfold nearI; rw [if_pos h]; rfl
theorem halls_nat {N : Nat} {zs : List Int} (h : hallsB (N : Int) zs = true) {k : Nat} (hk : k < zs.length) : ∃ z : Nat, z < N ∧ zs.getD k 0 = (z : Int) := by
  have := halls_get h hk
  obtain ⟨z, hz⟩ := Int.eq_ofNat_of_zero_le this.1
  exact ⟨z, by omega, hz⟩
theorem near_firstL {D zs : List Int} {m : Nat} (hm : 0 < m) (hz : zs.length = m) : firstI m (fun i => decide (leastTo (fun k => (wayL D zs).getD k 0) (m - 1) = (wayL D zs).getD i 0)) = nearTo (wayAt D zs) m := by
  obtain ⟨q, rfl⟩ : ∃ q, m = q + 1 := ⟨m - 1, by omega⟩
  rw [Nat.add_sub_cancel]
  have e : ∀ i, i < q + 1 → (wayL D zs).getD i 0 = wayAt D zs i := fun i hi => wayL_get D (by omega)
  have h1 : ∀ j, j ≤ q → leastTo (fun k => (wayL D zs).getD k 0) j = leastTo (wayAt D zs) j := by
    intro j
    induction j with
    | zero => intro _; exact e 0 (by omega)
    | succ j ih => intro hj; simp only [leastTo]; rw [ih (by omega), e (j + 1) (by omega)]
  rw [h1 q (by omega), ← near_first]
  obtain ⟨j, a1, a2, a3, a4⟩ := near_ok (wayAt D zs) q
  rw [near_first, a2]
  exact firstI_at a1 (decide_eq_true (by rw [e j a1, a3])) (fun i hi => decide_eq_false (by rw [e i (by omega)]; have := a4 i hi; omega))
end Go.Proofs.Ytknnekidfhooeaa.HouMathN
