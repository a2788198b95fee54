/-
  Plain facts: the hexadecimal text of some bytes decodes to just these bytes. No program stands here.
-/
import Derived.Test.YtipaagcnkflebaaDoorHexMath
import Derived.Test.YtipaagcnkflebaaDoorDecMath
import Derived.Lib.ItoaNum
namespace Go.Proofs.YtipaagcnkflebaaDoor.HexBack
open Go.RowKit HexMath DecMath

theorem hv_hx (n : Nat) (h : n < 16) : hv (hx n).toNat = (n : Int) := by
  have : ∀ m : Fin 16, hv (hx m.val).toNat = (m.val : Int) := by decide +kernel
  exact this ⟨n, h⟩
theorem enc_cons (c : UInt8) (r : List UInt8) : hexEnc (c :: r) = hx (c.toNat / 16) :: hx (c.toNat % 16) :: hexEnc r := rfl
theorem enc_get : ∀ (l : List UInt8) (j : Nat) (h : j < l.length), (hexEnc l)[2 * j]? = some (hx (l[j].toNat / 16)) ∧ (hexEnc l)[2 * j + 1]? = some (hx (l[j].toNat % 16))
  | [], j, h => by simp at h
  | c :: r, 0, _ => by rw [enc_cons]; exact ⟨rfl, rfl⟩
  | c :: r, j + 1, h => by
    rw [enc_cons, show 2 * (j + 1) = 2 * j + 2 by omega]
    have := enc_get r j (by simp at h; omega)
    simpa using this

/-- The text, as a string. -/
def encS (s : ByteArray) : ByteArray := ⟨(hexEnc s.data.toList).toArray⟩
theorem encS_size (s : ByteArray) : (encS s).size = 2 * s.size := by
  show (hexEnc s.data.toList).toArray.size = _
  rw [List.size_toArray, hexEnc_length]; rfl
theorem gb_get {s : ByteArray} {i : Nat} {c : UInt8} (h : s.data.toList[i]? = some c) : gb s i = c.toNat := by
  have hi : i < s.size := by
    have := (List.getElem?_eq_some_iff.1 h).1
    simpa using this
  rw [gb_at hi]
  have := (List.getElem?_eq_some_iff.1 h).2
  rw [← this]; rfl
theorem gb_even (s : ByteArray) (j : Nat) (h : j < s.size) : hv (gb (encS s) (2 * j)) = ((s[j].toNat / 16 : Nat) : Int) := by
  have := (enc_get s.data.toList j (by simpa using h)).1
  rw [gb_get (s := encS s) this, hv_hx _ (by have := (s.data.toList[j]'(by simpa using h)).toNat_lt; omega)]; rfl
theorem gb_odd (s : ByteArray) (j : Nat) (h : j < s.size) : hv (gb (encS s) (2 * j + 1)) = ((s[j].toNat % 16 : Nat) : Int) := by
  have := (enc_get s.data.toList j (by simpa using h)).2
  rw [gb_get (s := encS s) this, hv_hx _ (by omega)]; rfl
theorem pair_back (s : ByteArray) (j : Nat) (h : j < s.size) : pairByte (encS s) j = s[j] := by
  unfold pairByte
  rw [gb_even s j h, gb_odd s j h]
  have hb := s[j].toNat_lt
  have e : (16 * ((s[j].toNat / 16 : Nat) : Int) + ((s[j].toNat % 16 : Nat) : Int)).toNat = s[j].toNat := by omega
  rw [e]
  exact UInt8.ofNat_toNat
theorem back (s : ByteArray) (h : s.size ≤ 20000) : ansB (encS s) = true ∧ ansS (encS s) = s := by
  have hsz := encS_size s
  have hd : (encS s).size / 2 = s.size := by omega
  have ho : okTo (encS s) ((encS s).size / 2) = true := by
    rw [hd]
    unfold okTo
    rw [List.all_eq_true]
    intro j hj
    have hj' : j < s.size := by simpa using hj
    exact okPair_yes (by rw [gb_even s j hj']; omega) (by rw [gb_odd s j hj']; omega)
  have hB := ansB_good (s := encS s) (by omega) (by omega) ho
  refine ⟨hB, ?_⟩
  rw [ansS_yes hB, hd]
  have : bytesTo (encS s) s.size = s.data.toList := by
    apply List.ext_getElem
    · simp [bytesTo]
    · intro j h1 h2
      have hj : j < s.size := by simpa using h2
      simp only [bytesTo, List.getElem_map, List.getElem_range]
      rw [pair_back s j hj]; rfl
  rw [this]
theorem ten : (⟨(Lib.decDigits 10).toArray⟩ : ByteArray) = ⟨#[49, 48]⟩ := by
  rw [Lib.decDigits_two (by omega) (by omega)]; rfl
end Go.Proofs.YtipaagcnkflebaaDoor.HexBack
