/-
  The points of the corners that a list of numbers names: plain facts. No program stands here.
-/
import Derived.Test.YtonbpmabmjhdgabKernMath
namespace Go.Proofs.Ytonbpmabmjhdgab.PtofMath
open Go PointMath RoomMath CutsMath

/-- A number of a list, 0 behind its end. -/
def at0 (zs : List Int) (k : Nat) : Int := zs.getD k 0
theorem at0_at {zs : List Int} {k : Nat} (h : k < zs.length) : zs[k]? = some (at0 zs k) := by
  unfold at0
  rw [List.getD_eq_getElem?_getD, List.getElem?_eq_getElem h]
  rfl
def inN (n : Nat) (z : Int) : Bool := decide (0 ≤ z ∧ z ≤ (n : Int) - 1)
theorem inN_lt (n : Nat) (z : Int) : inN n z = decide (0 ≤ z ∧ z < (n : Int)) := by
  unfold inN
  rw [Bool.eq_iff_iff]
  simp only [decide_eq_true_eq]
  omega
/-- The points of the first k numbers. -/
def ptTo (ps : List (Int × Int)) (zs : List Int) : Nat → List (Int × Int)
  | 0 => []
  | k + 1 => ptTo ps zs k ++ [pt ps (at0 zs k).toNat]
theorem ptTo_len (ps : List (Int × Int)) (zs : List Int) : ∀ k, (ptTo ps zs k).length = k
  | 0 => rfl
  | k + 1 => by show (ptTo ps zs k ++ _).length = _; rw [List.length_append, ptTo_len ps zs k]; rfl
/-- The answer of PointsOf. -/
def ptofL (ps : List (Int × Int)) (zs : List Int) : List (Int × Int) := if roomB ps && zs.all (inN ps.length) then ptTo ps zs zs.length else []
theorem ptofL_le (ps : List (Int × Int)) (zs : List Int) (h : zs.length ≤ 1048576) : (ptofL ps zs).length ≤ 1048576 := by
  unfold ptofL
  split
  · rw [ptTo_len]; exact h
  · exact Nat.zero_le _
theorem ptof_room {ps : List (Int × Int)} {zs : List Int} (h : roomB ps = false) : ptofL ps zs = [] := by unfold ptofL; rw [h]; rfl
theorem ptof_out {ps : List (Int × Int)} {zs : List Int} {k : Nat} (hk : k < zs.length) (h : inN ps.length (at0 zs k) = false) : ptofL ps zs = [] := by
  unfold ptofL
  have : zs.all (inN ps.length) = false := by
    rw [List.all_eq_false]
    exact ⟨_, List.mem_of_getElem? (at0_at hk), by rw [h]; simp⟩
  rw [this, Bool.and_false]; rfl
theorem ptof_end {ps : List (Int × Int)} {zs : List Int} (h : zs.length = 0 ∨ roomB ps = true) (hall : ∀ j, j < zs.length → inN ps.length (at0 zs j) = true) : ptofL ps zs = ptTo ps zs zs.length := by
  unfold ptofL
  rcases h with h | h
  · have : zs = [] := List.length_eq_zero_iff.1 h
    subst this
    cases roomB ps <;> rfl
  · have : zs.all (inN ps.length) = true := by
      rw [List.all_eq_true]
      intro z hz
      obtain ⟨j, hj, e⟩ := List.mem_iff_getElem.1 hz
      have := at0_at hj
      rw [List.getElem?_eq_getElem hj] at this
      injection this with this
      rw [← e, this]
      exact hall j hj
    rw [h, this]; rfl
end Go.Proofs.Ytonbpmabmjhdgab.PtofMath
