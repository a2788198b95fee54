/-
  Plain facts on rooms: lists of points. No program stands here.
-/
import Derived.Test.YtkhgpdkabhahhabWallMath
namespace Go.Proofs.Ytkhgpdkabhahhab.RoomMath
open PointMath WallMath

/-- Which of n corners has the index k, going round. -/
def ixI (n : Nat) (k : Int) : Nat := ((k.tmod n + n).tmod n).toNat
def cornerI (ps : List (Int × Int)) (k : Int) : Int × Int := if ps.length = 0 ∨ ¬(-1000 ≤ k ∧ k ≤ 1000) then (0, 0) else ps.getD (ixI ps.length k) (0, 0)

theorem ix_tmod {n : Nat} {k : Int} (hn : 0 < n) : -(n : Int) < k.tmod n ∧ k.tmod n < n := by
  have h1 := Int.natAbs_tmod k n
  have h2 := Nat.mod_lt k.natAbs (show 0 < (n : Int).natAbs by omega)
  omega
theorem ix_lt {n : Nat} {k : Int} (hn : 0 < n) : (k.tmod n + n).tmod n = (ixI n k : Int) ∧ ixI n k < n := by
  have h := ix_tmod (k := k) hn
  have e : (k.tmod n + n).tmod n = (k.tmod n + n) % n := Int.tmod_eq_emod_of_nonneg (by omega)
  have h1 := Int.emod_nonneg (k.tmod n + n) (show (n : Int) ≠ 0 by omega)
  have h2 := Int.emod_lt_of_pos (k.tmod n + n) (show (0 : Int) < n by omega)
  unfold ixI
  rw [e]
  omega

/-- The least index of the point, or -1. -/
def findI (ps : List (Int × Int)) (x y : Int) : Int :=
  match ps.findIdx? (fun p => decide (p = (x, y))) with
  | some k => (k : Int)
  | none => -1
theorem findI_at {ps : List (Int × Int)} {x y : Int} {k : Nat} (h1 : ps[k]? = some (x, y)) (h2 : ∀ j, j < k → ps[j]? ≠ some (x, y)) : findI ps x y = (k : Int) := by
  obtain ⟨hl, e⟩ := List.getElem?_eq_some_iff.1 h1
  have : ps.findIdx? (fun p => decide (p = (x, y))) = some k := by
    rw [List.findIdx?_eq_some_iff_getElem]
    refine ⟨hl, by simp [e], fun j hj => ?_⟩
    have := h2 j hj
    rw [List.getElem?_eq_getElem (by omega)] at this
    simpa using this
  unfold findI
  rw [this]
theorem findI_none {ps : List (Int × Int)} {x y : Int} (h : ∀ j, j < ps.length → ps[j]? ≠ some (x, y)) : findI ps x y = -1 := by
  have : ps.findIdx? (fun p => decide (p = (x, y))) = none := by
    rw [List.findIdx?_eq_none_iff]
    intro p hp
    obtain ⟨j, hj, e⟩ := List.mem_iff_getElem.1 hp
    have := h j hj
    rw [List.getElem?_eq_getElem hj, e] at this
    simpa using this
  unfold findI
  rw [this]
end Go.Proofs.Ytkhgpdkabhahhab.RoomMath
