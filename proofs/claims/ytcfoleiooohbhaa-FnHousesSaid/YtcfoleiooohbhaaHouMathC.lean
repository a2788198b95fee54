/-
  Rings of keys, orders of halls, sums of ways. No program stands here.
-/
import Derived.Test.YtcfoleiooohbhaaHouMathB
import Derived.Test.YtcfoleiooohbhaaFacts
import Derived.WalkKit
namespace Go.Proofs.Ytcfoleiooohbhaa.HouMathC
open Go Go.RowKit HouMath HouMathB RoomMath

theorem find_door {ds : List (Int × Int)} (x y : Int) : decide (0 ≤ findI ds x y) = decide ((x, y) ∈ ds) := by
  by_cases h : (x, y) ∈ ds
  · obtain ⟨k, hk, e⟩ := List.mem_iff_getElem.1 h
    rw [decide_eq_true h]
    unfold findI
    cases hf : ds.findIdx? (fun p => decide (p = (x, y))) with
    | some j => simp
    | none =>
      rw [List.findIdx?_eq_none_iff] at hf
      have := hf _ h
      simp at this
  · rw [decide_eq_false h, findI_none (fun j hj e => h (by
      rw [List.getElem?_eq_getElem hj] at e
      injection e with e
      rw [← e]; exact List.getElem_mem hj))]
    rfl
theorem isDoor_mem (ds : List (Int × Int)) (a b : Int) : isDoor ds a b = decide ((min a b, max a b) ∈ ds) := by
  rw [Bool.eq_iff_iff, isDoor_iff, decide_eq_true_eq]

def ringB (H : Int) (ds : List (Int × Int)) (x : Int) : Bool := houseB H ds && decide (0 ≤ x ∧ x ≤ 2 ^ ds.length - 1)
theorem pow_wrap {n : Nat} (h : n ≤ 12) : wrap64 (wrap64 (2 ^ n) - 1) = 2 ^ n - 1 := by
  have : n = 0 ∨ n = 1 ∨ n = 2 ∨ n = 3 ∨ n = 4 ∨ n = 5 ∨ n = 6 ∨ n = 7 ∨ n = 8 ∨ n = 9 ∨ n = 10 ∨ n = 11 ∨ n = 12 := by omega
  rcases this with rfl | rfl | rfl | rfl | rfl | rfl | rfl | rfl | rfl | rfl | rfl | rfl | rfl <;> simp [wrap64]

/-- No hall stands twice. -/
def onceB (zs : List Int) : Bool := (List.range zs.length).all fun k => !(zs.take k).contains (zs.getD k 0)
theorem once_bad {zs : List Int} {k : Nat} (hk : k < zs.length) (h : (zs.take k).contains (zs.getD k 0) = true) : onceB zs = false := by
  unfold onceB
  rw [List.all_eq_false]
  exact ⟨k, List.mem_range.2 hk, by simp only [h]; simp⟩
theorem once_ok {zs : List Int} (h : ∀ k, k < zs.length → (zs.take k).contains (zs.getD k 0) = false) : onceB zs = true := by
  unfold onceB
  rw [List.all_eq_true]
  intro k hk
  rw [h k (List.mem_range.1 hk)]; rfl
def orderB (H : Int) (ds : List (Int × Int)) (zs : List Int) : Bool := houseB H ds && (decide ((zs.length : Int) = H) && (hallsB H zs && onceB zs))

/-- The way of all guards to their halls, one by one. -/
def sumTo (H : Int) (ds : List (Int × Int)) (gs hs : List Int) : Nat → Int
  | 0 => 0
  | k + 1 => sumTo H ds gs hs k + hallDistI H ds (gs.getD k 0) (hs.getD k 0)
def wayI (H : Int) (ds : List (Int × Int)) (gs hs : List Int) : Int :=
  if gs.length ≠ hs.length then -1 else if (List.range hs.length).any (fun k => decide (hallDistI H ds (gs.getD k 0) (hs.getD k 0) < 0)) = true then -1 else sumTo H ds gs hs hs.length
theorem way_len {H : Int} {ds : List (Int × Int)} {gs hs : List Int} (h : gs.length ≠ hs.length) : wayI H ds gs hs = -1 := by unfold wayI; rw [if_pos h]
theorem way_bad {H : Int} {ds : List (Int × Int)} {gs hs : List Int} (h : gs.length = hs.length) {k : Nat} (hk : k < hs.length) (h2 : hallDistI H ds (gs.getD k 0) (hs.getD k 0) < 0) : wayI H ds gs hs = -1 := by
  unfold wayI
  rw [if_neg (by simp [h]), if_pos (List.any_eq_true.2 ⟨k, List.mem_range.2 hk, decide_eq_true h2⟩)]
theorem way_ok {H : Int} {ds : List (Int × Int)} {gs hs : List Int} (h : gs.length = hs.length) (h2 : ∀ k, k < hs.length → ¬ hallDistI H ds (gs.getD k 0) (hs.getD k 0) < 0) : wayI H ds gs hs = sumTo H ds gs hs hs.length := by
  unfold wayI
  rw [if_neg (by simp [h])]
  rw [if_neg (by
    rw [List.any_eq_true]
    rintro ⟨k, hk, h3⟩
    exact h2 k (List.mem_range.1 hk) (of_decide_eq_true h3))]
theorem hallDist_range (H : Int) (ds : List (Int × Int)) (a b : Int) : -1 ≤ hallDistI H ds a b ∧ hallDistI H ds a b ≤ 7 := by
  cases h : (hallOf H ds a && hallOf H ds b)
  · rw [hallDist_no h]; omega
  · have h' := h
    rw [Bool.and_eq_true] at h
    obtain ⟨N, a, rfl, rfl, ha, hf⟩ := hall_nat h.1
    obtain ⟨N', b, hN, rfl, hb, _⟩ := hall_nat h.2
    obtain rfl : N = N' := by omega
    rw [hallDist_yes h']
    have h1 := dist_lo (ds := ds) ha hb
    have h2 := dist_hi (ds := ds) ha hb
    have := hf.h7
    omega
theorem sum_range (H : Int) (ds : List (Int × Int)) (gs hs : List Int) : ∀ k : Nat, -(k : Int) ≤ sumTo H ds gs hs k ∧ sumTo H ds gs hs k ≤ 7 * k
  | 0 => by simp [sumTo]
  | k + 1 => by
    have ih := sum_range H ds gs hs k
    have h := hallDist_range H ds (gs.getD k 0) (hs.getD k 0)
    simp only [sumTo]
    omega
end Go.Proofs.Ytcfoleiooohbhaa.HouMathC
