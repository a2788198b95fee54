/-
  Plain facts on the hexadecimal text of a list of bytes: its length, what one more byte adds. No program stands here.
-/
import Derived.WalkKit
namespace Go.Proofs.YtipaagcnkflebaaDoor.HexMath
open Go.RowKit

/-- One hexadecimal digit's byte. -/
def hx (n : Nat) : UInt8 := if n < 10 then UInt8.ofNat (48 + n) else UInt8.ofNat (87 + n)
def hexEnc (l : List UInt8) : List UInt8 := l.flatMap fun c => [hx (c.toNat / 16), hx (c.toNat % 16)]
def cellsOf (l : List UInt8) : List Value := l.map fun c => .int .u8 (c.toNat : Int)

theorem hx_toNat {n : Nat} (h : n < 16) : (hx n).toNat = if n < 10 then 48 + n else 87 + n := by
  unfold hx; split <;> simp <;> omega

theorem hexEnc_length (l : List UInt8) : (hexEnc l).length = 2 * l.length := by
  induction l with
  | nil => rfl
  | cons c r ih => simp only [hexEnc, List.flatMap_cons, List.length_append, List.length_cons, List.length_nil] at ih ⊢; omega

theorem hexEnc_snoc (l : List UInt8) (c : UInt8) : hexEnc (l ++ [c]) = hexEnc l ++ [hx (c.toNat / 16), hx (c.toNat % 16)] := by
  simp [hexEnc, List.flatMap_append]

theorem cellsOf_append (l r : List UInt8) : cellsOf (l ++ r) = cellsOf l ++ cellsOf r := by simp [cellsOf]
theorem cellsOf_length (l : List UInt8) : (cellsOf l).length = l.length := by simp [cellsOf]

theorem take_snoc (s : ByteArray) (k : Nat) (h : k < s.size) : s.data.toList.take (k + 1) = s.data.toList.take k ++ [s[k]] := by
  rw [List.take_succ_eq_append_getElem (by simpa using h)]; rfl

/-- What one round of the encoder adds to the cells that are owned. -/
theorem enc_step (s : ByteArray) (k : Nat) (h : k < s.size) (a b : Int) (ha : a = ((hx (s[k].toNat / 16)).toNat : Int)) (hb : b = ((hx (s[k].toNat % 16)).toNat : Int)) :
    cellsOf (hexEnc (s.data.toList.take k)) ++ [.int .u8 a, .int .u8 b] = cellsOf (hexEnc (s.data.toList.take (k + 1))) := by
  rw [take_snoc s k h, hexEnc_snoc, cellsOf_append, ha, hb]; rfl
end Go.Proofs.YtipaagcnkflebaaDoor.HexMath
