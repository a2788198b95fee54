/-
  Plain facts on walls: crossing, meeting, parts. No program stands here.
-/
import Derived.Test.YtkohfbffmljmcacPointFacts
import Derived.Test.YtkohfbffmljmcacRoomMath
import Derived.Test.YtkohfbffmljmcacGcdMath
namespace Go.Proofs.Ytkohfbffmljmcac.WallFacts
open PointMath WallMath GcdMath RoomMath

theorem cross_comm (ax ay bx bY cx cy dx dy : Int) : crossB ax ay bx bY cx cy dx dy = crossB cx cy dx dy ax ay bx bY := by
  unfold crossB
  generalize okW ax ay bx bY = x1
  generalize okW cx cy dx dy = x2
  generalize sepW ax ay bx bY cx cy dx dy = x3
  generalize sepW cx cy dx dy ax ay bx bY = x4
  revert x1 x2 x3 x4
  decide
theorem meet_comm (ax ay bx bY cx cy dx dy : Int) : meetB ax ay bx bY cx cy dx dy = meetB cx cy dx dy ax ay bx bY := meetP_comm (ax, ay) (bx, bY) (cx, cy) (dx, dy)
theorem cross_meet {ax ay bx bY cx cy dx dy : Int} (h : crossB ax ay bx bY cx cy dx dy = true) : meetB ax ay bx bY cx cy dx dy = true := by
  have h2 := h
  unfold crossB at h2
  simp at h2
  unfold meetB
  rw [h, h2.1.1.1, h2.1.1.2]
  rfl
theorem turn_end (ax ay bx bY : Int) : turnI ax ay bx bY bx bY = 0 := by unfold turnI; grind
theorem sep_zero (t : Int) : sepB 0 t = false := by unfold sepB; simp
theorem sep_comm (s t : Int) : sepB s t = sepB t s := by
  unfold sepB
  rw [Bool.eq_iff_iff]; simp; omega
theorem sep_neg (s t : Int) : sepB (-s) (-t) = sepB s t := by
  unfold sepB
  rw [Bool.eq_iff_iff]; simp; omega
theorem joined_cross (ax ay bx bY dx dy : Int) : crossB ax ay bx bY bx bY dx dy = false := by
  unfold crossB sepW
  rw [turn_end, sep_zero]
  simp
theorem on_first {ax ay bx bY : Int} (h : okW ax ay bx bY = true) : onB ax ay bx bY ax ay = true := by
  have p := okW_parts h
  unfold onB
  rw [h, PointFacts.between_self p.1 p.2.1]
  rfl
theorem joined_meet {ax ay bx bY dx dy : Int} (h1 : okW ax ay bx bY = true) (h2 : okW bx bY dx dy = true) : meetB ax ay bx bY bx bY dx dy = true := by
  have p := okW_parts h1
  have e : onB ax ay bx bY bx bY = true := by
    unfold onB
    rw [h1, PointFacts.between_swap, PointFacts.between_self p.2.1 p.1]
    rfl
  unfold meetB
  rw [h1, h2, e]
  simp
theorem ok_rev (ax ay bx bY : Int) : okW bx bY ax ay = okW ax ay bx bY := by
  unfold okW
  rw [Bool.eq_iff_iff]; simp
  grind
theorem turn_rev (ax ay bx bY px py : Int) : turnI bx bY ax ay px py = -turnI ax ay bx bY px py := by unfold turnI; grind
theorem cross_rev (ax ay bx bY cx cy dx dy : Int) : crossB ax ay bx bY dx dy cx cy = crossB ax ay bx bY cx cy dx dy := by
  unfold crossB sepW
  rw [ok_rev cx cy dx dy, turn_rev cx cy dx dy, turn_rev cx cy dx dy, sep_neg, sep_comm (turnI ax ay bx bY dx dy)]

theorem steps_pos {cx cy dx dy : Int} (h : okW cx cy dx dy = true) : stepsI cx cy dx dy = gcdI (dx - cx) (dy - cy) ∧ 1 ≤ gcdI (dx - cx) (dy - cy) ∧ gcdI (dx - cx) (dy - cy) ≤ 80 := by
  have p := okW_parts h
  have q1 := okP_yes p.1
  have q2 := okP_yes p.2.1
  refine ⟨by simp [stepsI, h], ?_, ?_⟩
  · unfold gcdI
    have : 0 < Int.gcd (dx - cx) (dy - cy) := by
      unfold Int.gcd
      rcases Nat.eq_zero_or_pos (dx - cx).natAbs with h0 | h0
      · exact Nat.gcd_pos_of_pos_right _ (by
          rcases Nat.eq_zero_or_pos (dy - cy).natAbs with h1 | h1
          · exact absurd ⟨by omega, by omega⟩ p.2.2
          · exact h1)
      · exact Nat.gcd_pos_of_pos_left _ h0
    omega
  · unfold gcdI Int.gcd
    rcases Nat.eq_zero_or_pos (dx - cx).natAbs with h0 | h0
    · rcases Nat.eq_zero_or_pos (dy - cy).natAbs with h1 | h1
      · exact absurd ⟨by omega, by omega⟩ p.2.2
      · have := Nat.le_of_dvd h1 (Nat.gcd_dvd_right (dx - cx).natAbs (dy - cy).natAbs)
        omega
    · have := Nat.le_of_dvd h0 (Nat.gcd_dvd_left (dx - cx).natAbs (dy - cy).natAbs)
      omega
theorem steps_rev (cx cy dx dy : Int) : stepsI dx dy cx cy = stepsI cx cy dx dy := by
  unfold stepsI gcdI Int.gcd
  rw [ok_rev cx cy dx dy, show (cx - dx).natAbs = (dx - cx).natAbs by omega, show (cy - dy).natAbs = (dy - cy).natAbs by omega]
theorem len_parts {cx cy dx dy : Int} (h : okW cx cy dx dy = true) : (lenI cx cy dx dy).tmod (gcdI (dx - cx) (dy - cy) * gcdI (dx - cx) (dy - cy)) = 0 := by
  have e : lenI cx cy dx dy = squareI cx cy dx dy := by simp [lenI, h]
  obtain ⟨p, hp⟩ : gcdI (dx - cx) (dy - cy) ∣ (dx - cx) := Int.gcd_dvd_left ..
  obtain ⟨q, hq⟩ : gcdI (dx - cx) (dy - cy) ∣ (dy - cy) := Int.gcd_dvd_right ..
  rw [e]
  refine Int.tmod_eq_zero_of_dvd ⟨p * p + q * q, ?_⟩
  generalize gcdI (dx - cx) (dy - cy) = g at *
  unfold squareI
  rw [hp, hq]
  grind
end Go.Proofs.Ytkohfbffmljmcac.WallFacts
