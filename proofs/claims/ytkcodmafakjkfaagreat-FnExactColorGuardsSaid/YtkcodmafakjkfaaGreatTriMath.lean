/-
  Plain facts: what the functions on triangles of corners answer. No program stands here.
-/
import Derived.Test.YtkcodmafakjkfaaGreatFacts
namespace Go.Proofs.YtkcodmafakjkfaaGreat.TriMath
open PointMath WallMath RoomMath AreaMath

def triB (ps : List (Int × Int)) (a b c : Int) : Bool := roomB ps && decide (0 ≤ a) && decide (a < b) && decide (b < c) && decide (c < (ps.length : Int))
def triAreaI (ps : List (Int × Int)) (a b c : Int) : Int := if triB ps a b c then turnP (pt ps a.toNat) (pt ps b.toNat) (pt ps c.toNat) else 0
/-- Is the point in the triangle that turns left, or on its border? -/
def triIn (a b c p : Int × Int) : Bool := decide (0 ≤ turnP a b p) && decide (0 ≤ turnP b c p) && decide (0 ≤ turnP c a p)
def inTriB (ps : List (Int × Int)) (a b c x y : Int) : Bool := decide (0 < triAreaI ps a b c) && okP x y && triIn (pt ps a.toNat) (pt ps b.toNat) (pt ps c.toNat) (x, y)
theorem triB_yes {ps : List (Int × Int)} {a b c : Int} (h : triB ps a b c = true) : roomB ps = true ∧ ∃ i j k : Nat, a = (i : Int) ∧ b = (j : Int) ∧ c = (k : Int) ∧ i < j ∧ j < k ∧ k < ps.length := by
  unfold triB at h
  simp only [Bool.and_eq_true, decide_eq_true_eq] at h
  obtain ⟨⟨⟨⟨h1, h2⟩, h3⟩, h4⟩, h5⟩ := h
  obtain ⟨i, rfl⟩ := Int.eq_ofNat_of_zero_le h2
  obtain ⟨j, rfl⟩ := Int.eq_ofNat_of_zero_le (show 0 ≤ b by omega)
  obtain ⟨k, rfl⟩ := Int.eq_ofNat_of_zero_le (show 0 ≤ c by omega)
  exact ⟨h1, i, j, k, rfl, rfl, rfl, by omega, by omega, by omega⟩
theorem triArea_pos {ps : List (Int × Int)} {a b c : Int} (h : 0 < triAreaI ps a b c) : triB ps a b c = true := by
  unfold triAreaI at h
  cases e : triB ps a b c
  · rw [e] at h; simp at h
  · rfl
theorem bend_three (a b c : Int × Int) : bendBack [a, b, c] 1 = turnP a b c := by unfold bendBack; simp [pt]
end Go.Proofs.YtkcodmafakjkfaaGreat.TriMath
