/-
  Plain facts: the points of a list that pass a test. No program stands here.
-/
import Derived.Test.YtonbpmabmjhdgabDiagMath
namespace Go.Proofs.Ytonbpmabmjhdgab.FiltMath
open PointMath WallMath RoomMath AreaMath PlaceMath FloorMath LineMath CutsMath SightMath DiagMath

def filtTo (f : Nat → Bool) (l : List (Int × Int)) : Nat → List (Int × Int)
  | 0 => []
  | k + 1 => if f k then filtTo f l k ++ [pt l k] else filtTo f l k
theorem filtTo_len (f : Nat → Bool) (l : List (Int × Int)) : ∀ k, (filtTo f l k).length ≤ k
  | 0 => Nat.le_refl _
  | k + 1 => by
    have h := filtTo_len f l k
    unfold filtTo
    split
    · rw [List.length_append]; simp only [List.length_cons, List.length_nil]; omega
    · omega
theorem filtTo_congr {f g : Nat → Bool} {l : List (Int × Int)} : ∀ {n : Nat}, (∀ j, j < n → f j = g j) → filtTo f l n = filtTo g l n
  | 0, _ => rfl
  | n + 1, h => by
    unfold filtTo
    rw [filtTo_congr (fun j hj => h j (by omega)), h n (by omega)]
theorem seen_filt (ps : List (Int × Int)) (a : Int × Int) (l : List (Int × Int)) : ∀ n, seenTo ps a l n = filtTo (fun j => seesM ps a (pt l j)) l n
  | 0 => rfl
  | n + 1 => by unfold seenTo filtTo; rw [seen_filt ps a l n]
theorem corn_that (ps : List (Int × Int)) (a : Int × Int) : ∀ n, cornTo ps a n = thatTo (fun j => seesM ps a (pt ps j)) n
  | 0 => rfl
  | n + 1 => by unfold cornTo thatTo; rw [corn_that ps a n]
theorem refl_that (ps : List (Int × Int)) : ∀ n, reflTo ps n = thatTo (reflB ps) n
  | 0 => rfl
  | n + 1 => by unfold reflTo thatTo; rw [refl_that ps n]
theorem filtTo_mem {f : Nat → Bool} {l : List (Int × Int)} : ∀ {n : Nat} {p : Int × Int}, p ∈ filtTo f l n → ∃ j, j < n ∧ pt l j = p ∧ f j = true
  | 0, p, h => by cases h
  | n + 1, p, h => by
    unfold filtTo at h
    cases hf : f n
    · rw [hf] at h
      obtain ⟨j, hj, e⟩ := filtTo_mem (n := n) (by simpa using h)
      exact ⟨j, by omega, e⟩
    · rw [hf] at h
      simp only [if_true, List.mem_append, List.mem_singleton] at h
      rcases h with h | h
      · obtain ⟨j, hj, e⟩ := filtTo_mem (n := n) h
        exact ⟨j, by omega, e⟩
      · exact ⟨n, by omega, h.symm, hf⟩
end Go.Proofs.Ytonbpmabmjhdgab.FiltMath
