/-
  Plain facts on decoding a hexadecimal text: a digit's value, the bytes of the pairs, and whether every pair is of digits. No program stands here.
-/
import Derived.WalkKit
import Derived.Test.YtipaagcnkflebaaDoorHexMath
namespace Go.Proofs.YtipaagcnkflebaaDoor.DecMath
open Go.RowKit HexMath

/-- A digit's value; -1 where the byte is no lower-case hexadecimal digit. -/
def hv (n : Nat) : Int := if 48 ≤ n ∧ n ≤ 57 then (n : Int) - 48 else if 97 ≤ n ∧ n ≤ 102 then (n : Int) - 87 else -1
theorem hv_lo (n : Nat) : -1 ≤ hv n := by unfold hv; split <;> (try split) <;> omega
theorem hv_hi (n : Nat) : hv n ≤ 15 := by unfold hv; split <;> (try split) <;> omega

/-- Byte i of s, 0 beyond its end. -/
def gb (s : ByteArray) (i : Nat) : Nat := if h : i < s.size then s[i].toNat else 0
theorem gb_at {s : ByteArray} {i : Nat} (h : i < s.size) : gb s i = s[i].toNat := by unfold gb; rw [dif_pos h]

def okPair (s : ByteArray) (j : Nat) : Bool := decide (0 ≤ hv (gb s (2 * j)) ∧ 0 ≤ hv (gb s (2 * j + 1)))
def okTo (s : ByteArray) (m : Nat) : Bool := (List.range m).all (okPair s)
def pairByte (s : ByteArray) (j : Nat) : UInt8 := UInt8.ofNat (16 * hv (gb s (2 * j)) + hv (gb s (2 * j + 1))).toNat
def bytesTo (s : ByteArray) (m : Nat) : List UInt8 := (List.range m).map (pairByte s)

/-- Is s the text of at most 20000 bytes? -/
def ansB (s : ByteArray) : Bool := decide (s.size % 2 = 0) && decide (s.size ≤ 40000) && okTo s (s.size / 2)
def ansS (s : ByteArray) : ByteArray := if ansB s = true then ⟨(bytesTo s (s.size / 2)).toArray⟩ else ⟨#[]⟩

theorem bytesTo_length (s : ByteArray) (m : Nat) : (bytesTo s m).length = m := by simp [bytesTo]
theorem okTo_succ (s : ByteArray) (m : Nat) : okTo s (m + 1) = (okTo s m && okPair s m) := by simp [okTo, List.range_succ, List.all_append]
theorem bytesTo_succ (s : ByteArray) (m : Nat) : bytesTo s (m + 1) = bytesTo s m ++ [pairByte s m] := by simp [bytesTo, List.range_succ]
theorem okTo_mono {s : ByteArray} {a b : Nat} (h : okTo s b = true) (hab : a ≤ b) : okTo s a = true := by
  unfold okTo at h ⊢
  rw [List.all_eq_true] at h ⊢
  exact fun x hx => h x (by simp at hx ⊢; omega)

theorem ansB_bad {s : ByteArray} {m : Nat} (hm : m < s.size / 2) (h : okPair s m = false) : ansB s = false := by
  have : okTo s (s.size / 2) = false := by
    cases e : okTo s (s.size / 2) with
    | false => rfl
    | true => have := okTo_mono e (show m + 1 ≤ s.size / 2 by omega); rw [okTo_succ, h] at this; simp at this
  simp [ansB, this]
theorem ansB_odd {s : ByteArray} (h : s.size % 2 = 1) : ansB s = false := by simp [ansB, h]
theorem ansB_long {s : ByteArray} (h : 40000 < s.size) : ansB s = false := by
  have : decide (s.size ≤ 40000) = false := by simp; omega
  simp [ansB, this]
theorem ansB_good {s : ByteArray} (h : s.size % 2 = 0) (hl : s.size ≤ 40000) (ho : okTo s (s.size / 2) = true) : ansB s = true := by simp [ansB, h, hl, ho]
theorem ansS_no {s : ByteArray} (h : ansB s = false) : ansS s = ⟨#[]⟩ := by simp [ansS, h]
theorem ansS_yes {s : ByteArray} (h : ansB s = true) : ansS s = ⟨(bytesTo s (s.size / 2)).toArray⟩ := by simp [ansS, h]

/-- What one good pair adds to the cells that are owned. -/
theorem dec_step (s : ByteArray) (m : Nat) (x a b : Int) (ha : a = hv (gb s (2 * m))) (hb : b = hv (gb s (2 * m + 1))) (ha0 : 0 ≤ a) (hb0 : 0 ≤ b) (hx : x = 16 * a + b) :
    cellsOf (bytesTo s m) ++ [.int .u8 x] = cellsOf (bytesTo s (m + 1)) := by
  have h1 := hv_hi (gb s (2 * m))
  have h2 := hv_hi (gb s (2 * m + 1))
  rw [bytesTo_succ, cellsOf_append]
  have : (((pairByte s m).toNat : Nat) : Int) = x := by
    unfold pairByte
    rw [← ha, ← hb]
    simp
    omega
  simp [cellsOf, this]
theorem okPair_yes {s : ByteArray} {m : Nat} (h1 : 0 ≤ hv (gb s (2 * m))) (h2 : 0 ≤ hv (gb s (2 * m + 1))) : okPair s m = true := by simp [okPair, h1, h2]
theorem okPair_no {s : ByteArray} {m : Nat} (h : hv (gb s (2 * m)) < 0 ∨ hv (gb s (2 * m + 1)) < 0) : okPair s m = false := by
  simp only [okPair, decide_eq_false_iff_not]
  omega
end Go.Proofs.YtipaagcnkflebaaDoor.DecMath
