/-
  Plain facts: what the functions on diagonals and ears answer. No program stands here.
-/
import Derived.Test.YtkoogklakacphaaDiagMath
namespace Go.Proofs.Ytkoogklakacphaa.EarMath
open PointMath WallMath RoomMath AreaMath PlaceMath LineMath CutsMath SightMath DiagMath

def isDiagB (ps : List (Int × Int)) (i k : Int) : Bool :=
  roomB ps && decide (0 ≤ i ∧ i < (ps.length : Int)) && decide (0 ≤ k ∧ k < (ps.length : Int)) && diagM ps i.toNat k.toNat
theorem le_lt (k : Int) (n : Nat) : decide (0 ≤ k ∧ k < (n : Int)) = decide (0 ≤ k ∧ k ≤ (n : Int) - 1) := by
  rw [Bool.eq_iff_iff, decide_eq_true_eq, decide_eq_true_eq]; omega
theorem isDiagB_le {ps : List (Int × Int)} {n : Nat} (hl : ps.length = n) {i k : Int} :
    isDiagB ps i k = (roomB ps && decide (0 ≤ i ∧ i ≤ (n : Int) - 1) && decide (0 ≤ k ∧ k ≤ (n : Int) - 1) && diagM ps i.toNat k.toNat) := by
  unfold isDiagB; rw [hl, le_lt, le_lt]
theorem isDiagB_impl {ps : List (Int × Int)} {n : Nat} (hl : ps.length = n) {i k : Int} :
    isDiagB ps i k = (decide (0 ≤ i ∧ i < (n : Int)) && decide (0 ≤ k ∧ k < (n : Int)) && roomB ps && diagM ps i.toNat k.toNat) := by
  unfold isDiagB; rw [hl]
  cases roomB ps <;> simp
/-- Is a corner of a room an ear? -/
def earM (ps : List (Int × Int)) (k : Nat) : Bool := decide (ps.length = 3) || diagM ps ((k + (ps.length - 1)) % ps.length) ((k + 1) % ps.length)
def isEarB (ps : List (Int × Int)) (k : Int) : Bool := roomB ps && decide (0 ≤ k ∧ k < (ps.length : Int)) && earM ps k.toNat
theorem isEarB_le {ps : List (Int × Int)} {n : Nat} (hl : ps.length = n) {k : Int} :
    isEarB ps k = (roomB ps && decide (0 ≤ k ∧ k ≤ (n : Int) - 1) && earM ps k.toNat) := by
  unfold isEarB; rw [hl, le_lt]
theorem isEarB_impl {ps : List (Int × Int)} {n : Nat} (hl : ps.length = n) {k : Int} :
    isEarB ps k = (decide (0 ≤ k ∧ k < (n : Int)) && roomB ps && earM ps k.toNat) := by
  unfold isEarB; rw [hl]
  cases roomB ps <;> simp
/-- The ears of a room. -/
def earsL (ps : List (Int × Int)) : List Int := if roomB ps then thatTo (earM ps) ps.length else []
theorem earsL_le (ps : List (Int × Int)) : (earsL ps).length ≤ 1048576 := by
  unfold earsL
  split
  · rename_i h
    have := thatTo_len (earM ps) ps.length
    have := (roomB_yes h).1
    omega
  · exact Nat.zero_le _
/-- Twice the area that an ear takes away. -/
def earAreaI (ps : List (Int × Int)) (k : Int) : Int := if isEarB ps k then bendBack ps k.toNat else 0
theorem isEarB_yes {ps : List (Int × Int)} {k : Int} (h : isEarB ps k = true) : roomB ps = true ∧ ∃ kk : Nat, k = (kk : Int) ∧ kk < ps.length ∧ earM ps kk = true := by
  unfold isEarB at h
  simp only [Bool.and_eq_true, decide_eq_true_eq] at h
  obtain ⟨⟨h1, h2, h3⟩, h4⟩ := h
  obtain ⟨kk, rfl⟩ := Int.eq_ofNat_of_zero_le h2
  exact ⟨h1, kk, rfl, by omega, h4⟩
end Go.Proofs.Ytkoogklakacphaa.EarMath
