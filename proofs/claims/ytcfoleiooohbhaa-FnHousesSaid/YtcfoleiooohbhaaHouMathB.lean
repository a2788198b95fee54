/-
  What is asked of houses: their halls, distances, doors, lists of halls. No program stands here.
-/
import Derived.Test.YtcfoleiooohbhaaHouMath
namespace Go.Proofs.Ytcfoleiooohbhaa.HouMathB
open HouMath

/-! Halls of a valid house, and what is asked of them. -/
def inH (H x : Int) : Bool := decide (0 ≤ x) && decide (x < H)
theorem inH_iff {H x : Int} : inH H x = true ↔ 0 ≤ x ∧ x < H := by simp [inH]
theorem inH_le (H x : Int) : decide (0 ≤ x ∧ x ≤ H - 1) = inH H x := by
  rw [Bool.eq_iff_iff, inH_iff]
  simp
  omega
def hallOf (H : Int) (ds : List (Int × Int)) (x : Int) : Bool := houseB H ds && inH H x
/-- A hall of a valid house, in natural numbers. -/
theorem hall_nat {H : Int} {ds : List (Int × Int)} {x : Int} (h : hallOf H ds x = true) : ∃ N k : Nat, H = N ∧ x = k ∧ k < N ∧ HForm N ds := by
  unfold hallOf at h
  rw [Bool.and_eq_true, inH_iff] at h
  obtain ⟨N, rfl⟩ := Int.eq_ofNat_of_zero_le (show 0 ≤ H by omega)
  obtain ⟨k, rfl⟩ := Int.eq_ofNat_of_zero_le h.2.1
  exact ⟨N, k, rfl, rfl, by omega, house_form h.1⟩
/-- The distance of two halls. -/
def hallDistI (H : Int) (ds : List (Int × Int)) (a b : Int) : Int := if (hallOf H ds a && hallOf H ds b) = true then (dist H.toNat ds a.toNat).getD b.toNat 0 else -1
theorem hallDist_no {H : Int} {ds : List (Int × Int)} {a b : Int} (h : (hallOf H ds a && hallOf H ds b) = false) : hallDistI H ds a b = -1 := by unfold hallDistI; rw [h]; rfl
theorem hallDist_yes {N a b : Nat} {ds : List (Int × Int)} (h : (hallOf N ds a && hallOf N ds b) = true) : hallDistI N ds a b = (dist N ds a).getD b 0 := by unfold hallDistI; rw [if_pos h]; rfl
/-- Is there a door? -/
def hasDoorB (H : Int) (ds : List (Int × Int)) (a b : Int) : Bool := houseB H ds && isDoor ds a b
theorem hasDoor_ne {H : Int} {ds : List (Int × Int)} (a b : Int) : hasDoorB H ds a b = ((houseB H ds && decide (a ≠ b)) && isDoor ds a b) := by
  unfold hasDoorB
  cases hb : houseB H ds
  · rfl
  · by_cases hab : a = b
    · subst hab
      rw [isDoor_self (house_form hb)]
      simp
    · simp [hab]
/-- All of a list are halls. -/
def hallsB (H : Int) (zs : List Int) : Bool := zs.all (inH H)
theorem halls_any (H : Int) (zs : List Int) : hallsB H zs = !((List.range zs.length).any fun k => !inH H (zs.getD k 0)) := by
  unfold hallsB
  rw [Bool.eq_iff_iff, List.all_eq_true, Bool.not_eq_true', List.any_eq_false]
  constructor
  · intro h k hk
    have hk := List.mem_range.1 hk
    rw [h (zs.getD k 0) (by rw [List.getD, List.getElem?_eq_getElem hk]; exact List.getElem_mem hk)]
    simp
  · intro h x hx
    obtain ⟨k, hk, rfl⟩ := List.mem_iff_getElem.1 hx
    have := h k (List.mem_range.2 hk)
    rw [List.getD, List.getElem?_eq_getElem hk] at this
    simpa using this
theorem halls_bad {H : Int} {zs : List Int} {k : Nat} (hk : k < zs.length) (h : inH H (zs.getD k 0) = false) : hallsB H zs = false := by
  rw [halls_any]
  have : ((List.range zs.length).any fun k => !inH H (zs.getD k 0)) = true := List.any_eq_true.2 ⟨k, List.mem_range.2 hk, by simpa using h⟩
  rw [this]; rfl
theorem halls_ok {H : Int} {zs : List Int} (h : ∀ k, k < zs.length → inH H (zs.getD k 0) = true) : hallsB H zs = true := by
  rw [halls_any]
  have : ((List.range zs.length).any fun k => !inH H (zs.getD k 0)) = false := List.any_eq_false.2 (fun k hk => by rw [h k (List.mem_range.1 hk)]; simp)
  rw [this]; rfl
theorem halls_get {H : Int} {zs : List Int} (h : hallsB H zs = true) {k : Nat} (hk : k < zs.length) : 0 ≤ zs.getD k 0 ∧ zs.getD k 0 < H := by
  unfold hallsB at h
  rw [List.all_eq_true] at h
  exact inH_iff.1 (h _ (by simp [List.getD, hk]))
end Go.Proofs.Ytcfoleiooohbhaa.HouMathB
