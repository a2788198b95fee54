/-
  Plain facts: what the functions on diagonals and ears answer. No program stands here.
-/
import Derived.Test.YthokeedmccfalaaFacts
namespace Go.Proofs.Ythokeedmccfalaa.EarMath
open PointMath WallMath RoomMath AreaMath PlaceMath LineMath CutsMath SightMath DiagMath

def isDiagB (ps : List (Int × Int)) (i k : Int) : Bool :=
  roomB ps && decide (0 ≤ i ∧ i < (ps.length : Int)) && decide (0 ≤ k ∧ k < (ps.length : Int)) && diagM ps i.toNat k.toNat
theorem le_lt (k : Int) (n : Nat) : decide (0 ≤ k ∧ k < (n : Int)) = decide (0 ≤ k ∧ k ≤ (n : Int) - 1) := by
  rw [Bool.eq_iff_iff, decide_eq_true_eq, decide_eq_true_eq]; omega
theorem isDiagB_le {ps : List (Int × Int)} {n : Nat} (hl : ps.length = n) {i k : Int} :
    isDiagB ps i k = (roomB ps && decide (0 ≤ i ∧ i ≤ (n : Int) - 1) && decide (0 ≤ k ∧ k ≤ (n : Int) - 1) && diagM ps i.toNat k.toNat) := by
  unfold isDiagB; rw [hl, le_lt, le_lt]
theorem isDiagB_impl {ps : List (Int × Int)} {n : Nat} (hl : ps.length = n) {i k : Int} :
    isDiagB ps i k = (decide (0 ≤ i ∧ i < (n : Int)) && decide (0 ≤ k ∧ k < (n : Int)) && roomB ps && diagM ps i.toNat k.toNat) := by
  unfold isDiagB; rw [hl]
  cases roomB ps <;> simp
/-- Do two numbers name a diagonal? -/
def namesB (ps : List (Int × Int)) (zs : List Int) : Bool := decide (zs.length = 2) && isDiagB ps (zs.getD 0 0) (zs.getD 1 0)
def crossDB (ps : List (Int × Int)) (a b : List Int) : Bool :=
  namesB ps a && namesB ps b && cutP (pt ps (a.getD 0 0).toNat) (pt ps (a.getD 1 0).toNat) (pt ps (b.getD 0 0).toNat) (pt ps (b.getD 1 0).toNat)
theorem isDiagB_yes {ps : List (Int × Int)} {i k : Int} (h : isDiagB ps i k = true) : roomB ps = true ∧ ∃ a b : Nat, i = (a : Int) ∧ k = (b : Int) ∧ a < ps.length ∧ b < ps.length ∧ a ≠ b := by
  unfold isDiagB at h
  simp only [Bool.and_eq_true, decide_eq_true_eq] at h
  obtain ⟨⟨⟨h1, h2, h3⟩, h4, h5⟩, h6⟩ := h
  obtain ⟨a, rfl⟩ := Int.eq_ofNat_of_zero_le h2
  obtain ⟨b, rfl⟩ := Int.eq_ofNat_of_zero_le h4
  refine ⟨h1, a, b, rfl, rfl, by omega, by omega, ?_⟩
  intro e
  unfold diagM at h6
  simp [e] at h6
theorem two_at {zs : List Int} (h : zs.length = 2) : zs[0]? = some (zs.getD 0 0) ∧ zs[1]? = some (zs.getD 1 0) := by
  constructor <;> rw [List.getD_eq_getElem?_getD, List.getElem?_eq_getElem (by omega)] <;> rfl
/-- Is a corner of a room an ear? -/
def earM (ps : List (Int × Int)) (k : Nat) : Bool := decide (ps.length = 3) || diagM ps ((k + (ps.length - 1)) % ps.length) ((k + 1) % ps.length)
def isEarB (ps : List (Int × Int)) (k : Int) : Bool := roomB ps && decide (0 ≤ k ∧ k < (ps.length : Int)) && earM ps k.toNat
theorem isEarB_le {ps : List (Int × Int)} {n : Nat} (hl : ps.length = n) {k : Int} :
    isEarB ps k = (roomB ps && decide (0 ≤ k ∧ k ≤ (n : Int) - 1) && earM ps k.toNat) := by
  unfold isEarB; rw [hl, le_lt]
theorem isEarB_impl {ps : List (Int × Int)} {n : Nat} (hl : ps.length = n) {k : Int} :
    isEarB ps k = (decide (0 ≤ k ∧ k < (n : Int)) && roomB ps && earM ps k.toNat) := by
  unfold isEarB; rw [hl]
  cases roomB ps <;> simp
/-- The ears of a room. -/
def earsL (ps : List (Int × Int)) : List Int := if roomB ps then thatTo (earM ps) ps.length else []
theorem earsL_le (ps : List (Int × Int)) : (earsL ps).length ≤ 1048576 := by
  unfold earsL
  split
  · rename_i h
    have := thatTo_len (earM ps) ps.length
    have := (roomB_yes h).1
    omega
  · exact Nat.zero_le _
/-- Twice the area that an ear takes away. -/
def earAreaI (ps : List (Int × Int)) (k : Int) : Int := if isEarB ps k then bendBack ps k.toNat else 0
theorem isEarB_yes {ps : List (Int × Int)} {k : Int} (h : isEarB ps k = true) : roomB ps = true ∧ ∃ kk : Nat, k = (kk : Int) ∧ kk < ps.length ∧ earM ps kk = true := by
  unfold isEarB at h
  simp only [Bool.and_eq_true, decide_eq_true_eq] at h
  obtain ⟨⟨h1, h2, h3⟩, h4⟩ := h
  obtain ⟨kk, rfl⟩ := Int.eq_ofNat_of_zero_le h2
  exact ⟨h1, kk, rfl, by omega, h4⟩
end Go.Proofs.Ythokeedmccfalaa.EarMath
