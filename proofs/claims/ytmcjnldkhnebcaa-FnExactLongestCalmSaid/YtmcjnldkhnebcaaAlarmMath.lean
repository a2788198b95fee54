/-
  The kinds' bits of zones. No program stands here.
-/
import Derived.Test.YtmcjnldkhnebcaaDutyMath
namespace Go.Proofs.Ytmcjnldkhnebcaa.AlarmMath
open DutyMath Tup3
theorem raises_no1 {zs : List Tu} {z k m : Int} (h : ¬ (0 ≤ z ∧ z < (zs.length : Int))) : raisesB zs z k m = false := by
  unfold raisesB
  rw [decide_eq_false h]; rfl
theorem raises_no2 {zs : List Tu} {z k m : Int} (h : ¬ (1 ≤ k ∧ k ≤ 3)) : raisesB zs z k m = false := by
  unfold raisesB
  rw [decide_eq_false h]; simp
theorem raises_at {zs : List Tu} {j n : Nat} {k m : Int} (hl : zs.length = n) (h : j < n) (hk : 1 ≤ k ∧ k ≤ 3) : raisesB zs (j : Int) k m = raisesT (tt zs j) k m := by
  unfold raisesB
  rw [decide_eq_true hk, decide_eq_true (show 0 ≤ (j : Int) ∧ (j : Int) < (zs.length : Int) by omega)]
  rfl
theorem bit_1 (c : Int) : bitB c 1 = decide (c / 2 % 2 = 1) := rfl
theorem bit_2 (c : Int) : bitB c 2 = decide (c / 4 % 2 = 1) := rfl
theorem bit_3 (c : Int) : bitB c 3 = decide (c / 8 % 2 = 1) := rfl
theorem and_one {c : Int} (h : 0 ≤ c ∧ c ≤ 15) : bits .and .i64 c 1 = c % 2 := by
  have : ∀ m : Fin 16, bits .and .i64 (m.val : Int) 1 = (m.val : Int) % 2 := by decide +kernel
  obtain ⟨n, rfl⟩ := Int.eq_ofNat_of_zero_le h.1
  exact this ⟨n, by omega⟩
theorem and_bit1 {c : Int} (h : 0 ≤ c ∧ c ≤ 15) : bits .and .i64 c 2 = if c / 2 % 2 = 1 then 2 else 0 := by
  have : ∀ m : Fin 16, bits .and .i64 (m.val : Int) 2 = if (m.val : Int) / 2 % 2 = 1 then 2 else 0 := by decide +kernel
  obtain ⟨n, rfl⟩ := Int.eq_ofNat_of_zero_le h.1
  exact this ⟨n, by omega⟩
theorem and_bit2 {c : Int} (h : 0 ≤ c ∧ c ≤ 15) : bits .and .i64 c 4 = if c / 4 % 2 = 1 then 4 else 0 := by
  have : ∀ m : Fin 16, bits .and .i64 (m.val : Int) 4 = if (m.val : Int) / 4 % 2 = 1 then 4 else 0 := by decide +kernel
  obtain ⟨n, rfl⟩ := Int.eq_ofNat_of_zero_le h.1
  exact this ⟨n, by omega⟩
theorem and_bit3 {c : Int} (h : 0 ≤ c ∧ c ≤ 15) : bits .and .i64 c 8 = if c / 8 % 2 = 1 then 8 else 0 := by
  have : ∀ m : Fin 16, bits .and .i64 (m.val : Int) 8 = if (m.val : Int) / 8 % 2 = 1 then 8 else 0 := by decide +kernel
  obtain ⟨n, rfl⟩ := Int.eq_ofNat_of_zero_le h.1
  exact this ⟨n, by omega⟩
theorem and_zero {c : Int} (h : 0 ≤ c ∧ c ≤ 15) : bits .and .i64 c 0 = 0 := by
  have : ∀ m : Fin 16, bits .and .i64 (m.val : Int) 0 = 0 := by decide +kernel
  obtain ⟨n, rfl⟩ := Int.eq_ofNat_of_zero_le h.1
  exact this ⟨n, by omega⟩
end Go.Proofs.Ytmcjnldkhnebcaa.AlarmMath
