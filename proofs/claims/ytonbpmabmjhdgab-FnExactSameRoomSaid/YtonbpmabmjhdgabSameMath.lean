/-
  Two rooms that are the same but for the corner at which they begin. No program stands here.
-/
import Derived.Test.YtonbpmabmjhdgabFacts
namespace Go.Proofs.Ytonbpmabmjhdgab.SameMath
open PointMath WallMath RoomMath StartMath AreaMath

def rotB (ps qs : List (Int × Int)) (k : Nat) : Bool := decide (ps.drop k ++ ps.take k = qs)
def sameI (ps qs : List (Int × Int)) : Int :=
  if roomB ps && roomB qs then
    match (List.range ps.length).find? fun k => rotB ps qs k with
    | some k => (k : Int)
    | none => -1
  else -1
theorem sameI_no {ps qs : List (Int × Int)} (h : roomB ps = false ∨ roomB qs = false) : sameI ps qs = -1 := by
  unfold sameI
  rcases h with h | h
  · rw [h]; rfl
  · rw [h, Bool.and_false]; rfl
theorem sameI_at {ps qs : List (Int × Int)} {k : Nat} (h1 : roomB ps = true) (h2 : roomB qs = true) (hk : k < ps.length) (h : rotB ps qs k = true) (hno : ∀ j, j < k → rotB ps qs j = false) : sameI ps qs = (k : Int) := by
  unfold sameI
  rw [h1, h2, Bool.and_self, if_pos rfl, List.find?_range_eq_some.2 ⟨h, List.mem_range.2 hk, fun j hj => by simpa using hno j hj⟩]
theorem sameI_none {ps qs : List (Int × Int)} (h1 : roomB ps = true) (h2 : roomB qs = true) (h : ∀ k, k < ps.length → rotB ps qs k = false) : sameI ps qs = -1 := by
  unfold sameI
  rw [h1, h2, Bool.and_self, if_pos rfl, List.find?_range_eq_none.2 fun j hj => by simpa using h j hj]
theorem rot_len {ps qs : List (Int × Int)} {k : Nat} (hk : k ≤ ps.length) (h : ps.length ≠ qs.length) : rotB ps qs k = false := by
  apply decide_eq_false
  intro e
  have := congrArg List.length e
  simp at this
  omega
/-- The first i points of the turned room are those of the other one. -/
def likeTo (ps qs : List (Int × Int)) (k : Nat) : Nat → Bool
  | 0 => true
  | i + 1 => likeTo ps qs k i && decide (pt ps ((k + i) % ps.length) = pt qs i)
theorem likeTo_iff {ps qs : List (Int × Int)} {k : Nat} : ∀ {n : Nat}, likeTo ps qs k n = true ↔ ∀ i, i < n → pt ps ((k + i) % ps.length) = pt qs i
  | 0 => by simp [likeTo]
  | n + 1 => by
    unfold likeTo
    rw [Bool.and_eq_true, likeTo_iff (n := n), decide_eq_true_eq]
    constructor
    · rintro ⟨h1, h2⟩ i hi
      rcases Nat.lt_or_ge i n with h | h
      · exact h1 i h
      · obtain rfl : i = n := by omega
        exact h2
    · intro h
      exact ⟨fun i hi => h i (by omega), h n (by omega)⟩
theorem like_rot {ps qs : List (Int × Int)} {k : Nat} (hk : k < ps.length) (hl : ps.length = qs.length) : likeTo ps qs k ps.length = rotB ps qs k := by
  unfold rotB
  rw [← startTo_all hk, Bool.eq_iff_iff, likeTo_iff, decide_eq_true_eq]
  constructor
  · intro h
    apply List.ext_getElem?
    intro j
    rcases Nat.lt_or_ge j ps.length with hj | hj
    · rw [startTo_at ps k _ j hj, h j hj, pt_at (by omega)]
    · rw [List.getElem?_eq_none (by rw [startTo_len]; exact hj), List.getElem?_eq_none (by omega)]
  · intro h i hi
    have h1 := startTo_at ps k ps.length i hi
    rw [h, pt_at (by omega)] at h1
    injection h1 with h1
    exact h1.symm
end Go.Proofs.Ytonbpmabmjhdgab.SameMath
