/-
  Plain facts on the points of a room's floor. No program stands here.
-/
import Derived.Test.YtonbpmabmjhdgabPlaceMath
namespace Go.Proofs.Ytonbpmabmjhdgab.FloorMath
open PointMath WallMath RoomMath AreaMath PlaceMath

/-- The least and the greatest coordinates of the first k corners. -/
def boxTo (ps : List (Int × Int)) : Nat → (Int × Int) × (Int × Int)
  | 0 => (pt ps 0, pt ps 0)
  | k + 1 => ((min (boxTo ps k).1.1 (pt ps k).1, min (boxTo ps k).1.2 (pt ps k).2), (max (boxTo ps k).2.1 (pt ps k).1, max (boxTo ps k).2.2 (pt ps k).2))
theorem boxTo_bound {ps : List (Int × Int)} (h : okAll ps = true) (h0 : 0 < ps.length) : ∀ k, k ≤ ps.length →
    (-40 ≤ (boxTo ps k).1.1 ∧ (boxTo ps k).1.1 ≤ (boxTo ps k).2.1 ∧ (boxTo ps k).2.1 ≤ 40) ∧ (-40 ≤ (boxTo ps k).1.2 ∧ (boxTo ps k).1.2 ≤ (boxTo ps k).2.2 ∧ (boxTo ps k).2.2 ≤ 40)
  | 0, _ => by
    have q := okP_yes (okAll_at h h0)
    simp only [boxTo]
    omega
  | k + 1, hk => by
    have ih := boxTo_bound h h0 k (by omega)
    have q := okP_yes (okAll_at h (k := k) (by omega))
    simp only [boxTo]
    omega
/-- The first j points from (lx, y) on that are in the room. -/
def rowTo (ps : List (Int × Int)) (lx y : Int) : Nat → List (Int × Int)
  | 0 => []
  | j + 1 => if placeM ps (lx + j, y) = 0 then rowTo ps lx y j else rowTo ps lx y j ++ [(lx + j, y)]
/-- The first i rows. -/
def floorTo (ps : List (Int × Int)) (lx ly : Int) (w : Nat) : Nat → List (Int × Int)
  | 0 => []
  | i + 1 => floorTo ps lx ly w i ++ rowTo ps lx (ly + i) w
def widthI (ps : List (Int × Int)) : Nat := ((boxTo ps ps.length).2.1 - (boxTo ps ps.length).1.1 + 1).toNat
def heightI (ps : List (Int × Int)) : Nat := ((boxTo ps ps.length).2.2 - (boxTo ps ps.length).1.2 + 1).toNat
def floorL (ps : List (Int × Int)) : List (Int × Int) :=
  if roomB ps then floorTo ps (boxTo ps ps.length).1.1 (boxTo ps ps.length).1.2 (widthI ps) (heightI ps) else []
theorem rowTo_len (ps : List (Int × Int)) (lx y : Int) : ∀ j, (rowTo ps lx y j).length ≤ j
  | 0 => by simp [rowTo]
  | j + 1 => by
    have := rowTo_len ps lx y j
    simp only [rowTo]
    split
    · omega
    · simp; omega
theorem floorTo_len (ps : List (Int × Int)) (lx ly : Int) (w : Nat) : ∀ i, (floorTo ps lx ly w i).length ≤ i * w
  | 0 => by simp [floorTo]
  | i + 1 => by
    have h1 := floorTo_len ps lx ly w i
    have h2 := rowTo_len ps lx (ly + i) w
    simp only [floorTo, List.length_append, Nat.add_mul]
    omega
theorem floorL_le (ps : List (Int × Int)) : (floorL ps).length ≤ 1048576 := by
  unfold floorL
  cases h : roomB ps
  · simp
  · obtain ⟨h3, hok, _, _⟩ := roomB_yes h
    have hb := boxTo_bound hok (by omega) ps.length (Nat.le_refl _)
    have hl := floorTo_len ps (boxTo ps ps.length).1.1 (boxTo ps ps.length).1.2 (widthI ps) (heightI ps)
    have hw : widthI ps ≤ 81 := by unfold widthI; omega
    have hh : heightI ps ≤ 81 := by unfold heightI; omega
    have := Nat.mul_le_mul hh hw
    simp only [if_true]
    omega
end Go.Proofs.Ytonbpmabmjhdgab.FloorMath
