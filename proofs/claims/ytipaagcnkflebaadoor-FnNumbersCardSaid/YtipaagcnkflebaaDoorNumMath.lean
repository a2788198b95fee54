/-
  Plain facts on reading a decimal numeral: the numeral of n reads as n, and nothing else does. No program stands here.
-/
import Derived.Test.YtipaagcnkflebaaDoorFmtMath
import Derived.Lib.AtoiAll
namespace Go.Proofs.YtipaagcnkflebaaDoor.NumMath
open Go.RowKit Go.Lib FmtMath

def digitB (c : UInt8) : Bool := decide (48 ≤ c.toNat ∧ c.toNat ≤ 57)
def val (l : List UInt8) : Nat := l.foldl (fun a c => 10 * a + (c.toNat - 48)) 0
/-- Is l the numeral of a number up to 1000000000? -/
def ansB (l : List UInt8) : Bool := decide (val l ≤ 1000000000) && decide (decDigits (val l) = l)
def ansN (l : List UInt8) : Nat := if ansB l = true then val l else 0

theorem val_snoc (l : List UInt8) (c : UInt8) : val (l ++ [c]) = 10 * val l + (c.toNat - 48) := by simp [val, List.foldl_append]
theorem last_toNat (u : Nat) : (UInt8.ofNat (48 + u % 10)).toNat = 48 + u % 10 := by simp; omega

theorem decDigits_digits (n : Nat) : (decDigits n).all digitB = true := by
  induction n using Nat.strongRecOn with
  | _ n ih =>
    by_cases h : n < 10
    · rw [decDigits, dif_pos h]; simp [digitB]; omega
    · rw [decDigits, dif_neg h, List.all_append, ih (n / 10) (by omega)]; simp [digitB]; omega
theorem val_decDigits (n : Nat) : val (decDigits n) = n := by
  induction n using Nat.strongRecOn with
  | _ n ih =>
    by_cases h : n < 10
    · rw [decDigits, dif_pos h]; simp [val]; omega
    · rw [decDigits, dif_neg h, val_snoc, ih (n / 10) (by omega), last_toNat]; omega
theorem val_lt : ∀ (k : Nat) (l : List UInt8), l.length = k → l.all digitB = true → val l < 10 ^ k
  | 0, l, h, _ => by
    have : l = [] := List.eq_nil_of_length_eq_zero h
    subst this; simp [val]
  | k + 1, l, h, hd => by
    have hne : l ≠ [] := by intro e; subst e; simp at h
    obtain ⟨r, c, rfl⟩ : ∃ r c, l = r ++ [c] := ⟨l.dropLast, l.getLast hne, (List.dropLast_concat_getLast hne).symm⟩
    simp only [List.length_append, List.length_cons, List.length_nil] at h
    rw [List.all_append, Bool.and_eq_true] at hd
    have ih := val_lt k r (by omega) hd.1
    have hc : c.toNat ≤ 57 := by have := hd.2; simp [digitB] at this; omega
    rw [val_snoc, Nat.pow_succ]
    omega

theorem pu_append : ∀ (l r : List UInt8) (a u : Nat), parseUint10 a l = .ok u → parseUint10 a (l ++ r) = parseUint10 u r
  | [], r, a, u, h => by
    simp only [parseUint10] at h
    injection h with h
    subst h; rfl
  | c :: l, r, a, u, h => by
    simp only [parseUint10] at h
    simp only [List.cons_append, parseUint10]
    by_cases h1 : 48 ≤ c.toNat ∧ c.toNat ≤ 57
    · rw [if_pos h1] at h ⊢
      by_cases h2 : 1844674407370955162 ≤ a
      · rw [if_pos h2] at h; cases h
      · rw [if_neg h2] at h ⊢
        by_cases h3 : 18446744073709551616 ≤ a * 10 + (c.toNat - 48)
        · rw [if_pos h3] at h; cases h
        · rw [if_neg h3] at h ⊢
          exact pu_append l r _ u h
    · rw [if_neg h1] at h; cases h
theorem pu_one (a d : Nat) (ha : a < 1844674407370955000) (hd : d < 10) : parseUint10 a [UInt8.ofNat (48 + d)] = .ok (a * 10 + d) := by
  have e : (UInt8.ofNat (48 + d)).toNat = 48 + d := by simp; omega
  simp only [parseUint10, e]
  rw [if_pos (by omega), if_neg (by omega), if_neg (by omega), show 48 + d - 48 = d by omega]
theorem pu_dec (n : Nat) (h : n < 1844674407370955000) : parseUint10 0 (decDigits n) = .ok n := by
  induction n using Nat.strongRecOn with
  | _ n ih =>
    by_cases h1 : n < 10
    · rw [decDigits, dif_pos h1, pu_one 0 n (by omega) h1]; simp
    · rw [decDigits, dif_neg h1, pu_append _ _ _ _ (ih (n / 10) (by omega) (by omega)), pu_one _ _ (by omega) (by omega), show n / 10 * 10 + n % 10 = n by omega]
theorem atoi_dec (n : Nat) (h : n ≤ 1000000000) : atoiAll (decDigits n) = .ok (n : Int) := by
  have hp := pu_dec n (by omega)
  have hd := decDigits_digits n
  rcases e : decDigits n with _ | ⟨c, r⟩
  · have := val_decDigits n
    rw [e] at this
    have h0 : n = 0 := by rw [← this]; rfl
    subst h0
    rw [decDigits_one (by omega)] at e
    cases e
  · rw [e] at hp hd
    have hc : 48 ≤ c.toNat ∧ c.toNat ≤ 57 := by rw [List.all_cons, Bool.and_eq_true] at hd; simpa [digitB] using hd.1
    unfold atoiAll
    simp only
    rw [if_neg (by omega)]
    unfold parseMag
    rw [if_neg (by simp), hp]
    simp only
    rw [if_neg (by omega), if_neg (by omega), if_neg (by omega)]

theorem ansB_iff {l : List UInt8} : ansB l = true ↔ ∃ n : Nat, n ≤ 1000000000 ∧ decDigits n = l := by
  unfold ansB
  rw [Bool.and_eq_true, decide_eq_true_iff, decide_eq_true_iff]
  refine ⟨fun h => ⟨_, h⟩, fun ⟨n, h1, h2⟩ => ?_⟩
  subst h2
  rw [val_decDigits]
  exact ⟨h1, rfl⟩
theorem ansB_no {l : List UInt8} (h : ∀ n : Nat, n ≤ 1000000000 → decDigits n = l → False) : ansB l = false := by
  cases e : ansB l with
  | false => rfl
  | true => obtain ⟨n, h1, h2⟩ := ansB_iff.1 e; exact (h n h1 h2).elim
theorem ansN_no {l : List UInt8} (h : ansB l = false) : ansN l = 0 := by simp [ansN, h]
theorem ansN_yes {l : List UInt8} {n : Nat} (h1 : n ≤ 1000000000) (h2 : decDigits n = l) : ansB l = true ∧ ansN l = n := by
  have h := ansB_iff.2 ⟨n, h1, h2⟩
  refine ⟨h, ?_⟩
  simp [ansN, h]
  rw [← h2, val_decDigits]
/-- Too long, or with a byte that is no digit: no numeral. -/
theorem ansB_long {l : List UInt8} (h : 10 < l.length) : ansB l = false := ansB_no fun n h1 h2 => by
  have := nDigits_le 10 n (by omega) (by omega)
  rw [← decDigits_length, h2] at this
  omega
theorem ansB_bad {l : List UInt8} {c : UInt8} (hc : c ∈ l) (h : digitB c = false) : ansB l = false := ansB_no fun n _ h2 => by
  have := decDigits_digits n
  rw [h2, List.all_eq_true] at this
  rw [this c hc] at h
  cases h
theorem ansB_val {l : List UInt8} (h : 1000000000 < val l ∨ decDigits (val l) ≠ l) : ansB l = false := ansB_no fun n h1 h2 => by
  have := val_decDigits n
  rw [h2] at this
  rcases h with h | h
  · omega
  · rw [this] at h; exact h h2
theorem ansB_atoi_no {l : List UInt8} (h : ∀ v, atoiAll l ≠ .ok v) : ansB l = false := ansB_no fun n h1 h2 => by
  have := atoi_dec n h1
  rw [h2] at this
  exact h _ this
theorem ansB_atoi_out {l : List UInt8} {v : Int} (h : atoiAll l = .ok v) (hv : v < 0 ∨ 1000000000 < v) : ansB l = false := ansB_no fun n h1 h2 => by
  have := atoi_dec n h1
  rw [h2, h] at this
  injection this with this
  omega
end Go.Proofs.YtipaagcnkflebaaDoor.NumMath
