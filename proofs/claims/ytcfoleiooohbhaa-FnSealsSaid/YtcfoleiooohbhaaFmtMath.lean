/-
  Plain facts on decimal digits: taking the last digit off from behind, again and again, gives the numeral. No program stands here.
-/
import Derived.WalkKit
import Derived.Lib.ItoaNum
namespace Go.Proofs.Ytcfoleiooohbhaa.FmtMath
open Go.RowKit Go.Lib

theorem nDigits_le : ∀ (k u : Nat), 0 < k → u < 10 ^ k → nDigits u ≤ k
  | 0, _, h, _ => absurd h (by omega)
  | k + 1, u, _, h => by
    by_cases h1 : u < 10
    · rw [nDigits_small h1]; omega
    · rw [nDigits_big h1]
      have hk : 0 < k := by
        rcases Nat.eq_zero_or_pos k with rfl | hk
        · simp at h; omega
        · exact hk
      have := nDigits_le k (u / 10) hk (by rw [Nat.pow_succ] at h; omega)
      omega

/-- One decimal digit's byte. -/
def dgt (n : Nat) : UInt8 := UInt8.ofNat (48 + n)
theorem dgt_toNat {n : Nat} (h : n < 10) : (dgt n).toNat = 48 + n := by unfold dgt; simp; omega

/-- What is gathered (l) while q is left of m. -/
def RestIs (m q : Nat) (l : List UInt8) : Prop := (q = 0 → l = decDigits m) ∧ (0 < q → decDigits q ++ l = decDigits m)
theorem left_start {m : Nat} (h : 0 < m) : RestIs m m [] := ⟨fun e => by omega, fun _ => by simp⟩
theorem left_step {m q : Nat} {l : List UInt8} (hq : 0 < q) (h : RestIs m q l) : RestIs m (q / 10) (dgt (q % 10) :: l) := by
  have h2 := h.2 hq
  by_cases h1 : q < 10
  · rw [decDigits, dif_pos h1] at h2
    refine ⟨fun _ => ?_, fun h3 => by omega⟩
    rw [← h2, show q % 10 = q by omega]; rfl
  · rw [decDigits, dif_neg h1] at h2
    refine ⟨fun e => by omega, fun _ => ?_⟩
    rw [← h2, List.append_assoc]; rfl
theorem left_len {m q : Nat} {l : List UInt8} (hm : m < 100000000000000000000) (h : RestIs m q l) : l.length ≤ 20 := by
  have hl : (decDigits m).length ≤ 20 := by rw [decDigits_length]; exact nDigits_le 20 m (by omega) hm
  rcases Nat.eq_zero_or_pos q with h0 | h0
  · rw [h.1 h0]; exact hl
  · rw [← h.2 h0, List.length_append] at hl; omega
theorem itoa_pos {n : Int} {m : Nat} (h : n = (m : Int)) : itoa n = decDigits m := by
  unfold itoa; rw [if_neg (by omega), h, Int.toNat_natCast]
theorem itoa_neg {n : Int} {m : Nat} (hm : 0 < m) (h : n = -(m : Int)) : itoa n = 45 :: decDigits m := by
  unfold itoa; rw [if_pos (by omega), h]; simp
theorem string_of {S : ByteArray} {l : List UInt8} (h : S.data.toList = l) : S = ⟨l.toArray⟩ := by
  obtain ⟨⟨x⟩⟩ := S
  subst h; rfl
/-- Two texts that differ, in the walk's own spelling. -/
theorem str_ne {a b : ByteArray} (h : a ≠ b) : (a.toList == b.toList) = false := by
  rw [ByteArray.toList_eq, ByteArray.toList_eq, beq_eq_false_iff_ne]
  intro e
  exact h (by rw [string_of e, string_of (rfl : b.data.toList = b.data.toList)])
end Go.Proofs.Ytcfoleiooohbhaa.FmtMath
