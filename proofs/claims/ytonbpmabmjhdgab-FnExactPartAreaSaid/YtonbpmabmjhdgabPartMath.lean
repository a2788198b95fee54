/-
  The area of a part: what the corners that are named add up to. No program stands here.
-/
import Derived.Test.YtonbpmabmjhdgabPtofMath
namespace Go.Proofs.Ytonbpmabmjhdgab.PartMath
open PointMath RoomMath AreaMath PtofMath

def partI (ps : List (Int × Int)) (zs : List Int) : Int := dblTo (ptofL ps zs) (ptofL ps zs).length
theorem ptTo_ok {ps : List (Int × Int)} {zs : List Int} (h : okAll ps = true) (hin : ∀ z ∈ zs, inN ps.length z = true) : ∀ k, k ≤ zs.length → ∀ p ∈ ptTo ps zs k, okP p.1 p.2 = true
  | 0, _, p, hp => by simp [ptTo] at hp
  | k + 1, hk, p, hp => by
    unfold ptTo at hp
    rcases List.mem_append.1 hp with h1 | h1
    · exact ptTo_ok h hin k (by omega) p h1
    · simp only [List.mem_singleton] at h1
      subst h1
      have hz := hin _ (List.mem_of_getElem? (at0_at (zs := zs) (k := k) (by omega)))
      unfold inN at hz
      have := of_decide_eq_true hz
      exact okAll_at h (by omega)
theorem ptof_ok (ps : List (Int × Int)) (zs : List Int) : okAll (ptofL ps zs) = true := by
  unfold ptofL
  split
  · rename_i h
    rw [Bool.and_eq_true, List.all_eq_true] at h
    unfold okAll
    rw [List.all_eq_true]
    exact ptTo_ok (roomB_yes h.1).2.1 h.2 zs.length (Nat.le_refl _)
  · rfl
end Go.Proofs.Ytonbpmabmjhdgab.PartMath
