/-
  Plain facts on the text of a room. No program stands here.
-/
import Derived.Test.YtgelkpaiabhklaaDoorFacts
import Derived.Test.YtgelkpaiabhklaaDoorPointTextSpec
import Derived.Lib.Join
import Derived.Lib.ItoaLen
namespace Go.Proofs.YtgelkpaiabhklaaDoor.TextMath
open Go Go.RowKit PointMath WallMath RoomMath Lib

/-- The text of corner k, as bytes. -/
def tx (ps : List (Int × Int)) (k : Nat) : List UInt8 := itoa (pt ps k).1 ++ [44] ++ itoa (pt ps k).2
def txTo (ps : List (Int × Int)) : Nat → List (List UInt8)
  | 0 => []
  | k + 1 => txTo ps k ++ [tx ps k]
/-- As the model joins them. -/
def spTo (ps : List (Int × Int)) : Nat → List UInt8
  | 0 => []
  | k + 1 => (if k = 0 then spTo ps k else spTo ps k ++ [32]) ++ tx ps k
def roomText (ps : List (Int × Int)) : ByteArray := if roomB ps then ⟨(Lib.join (txTo ps ps.length) [32]).toArray⟩ else ⟨#[]⟩
theorem txTo_len (ps : List (Int × Int)) : ∀ k, (txTo ps k).length = k
  | 0 => rfl
  | k + 1 => by simp [txTo, txTo_len ps k]
theorem join_snoc (x : List UInt8) (r : List (List UInt8)) (t sep : List UInt8) : Lib.join ((x :: r) ++ [t]) sep = Lib.join (x :: r) sep ++ sep ++ t := by
  rw [List.cons_append, join_cons, join_cons]
  simp [joinTail]
theorem spTo_join (ps : List (Int × Int)) : ∀ k, spTo ps k = Lib.join (txTo ps k) [32]
  | 0 => rfl
  | k + 1 => by
    have ih := spTo_join ps k
    have hl := txTo_len ps k
    simp only [spTo, txTo]
    cases h : txTo ps k with
    | nil =>
      rw [h] at hl
      obtain rfl : k = 0 := by simpa using hl.symm
      rw [if_pos rfl]
      simp [spTo, join_one]
    | cons x r =>
      rw [h] at hl ih
      simp at hl
      rw [if_neg (by omega), ih, join_snoc]
theorem tx_len {ps : List (Int × Int)} {k : Nat} (h : okP (pt ps k).1 (pt ps k).2 = true) : (tx ps k).length ≤ 43 := by
  have := okP_yes h
  have h1 := Lib.itoa_length_le (pt ps k).1 (by omega) (by omega)
  have h2 := Lib.itoa_length_le (pt ps k).2 (by omega) (by omega)
  unfold tx
  simp
  omega
theorem spTo_len {ps : List (Int × Int)} (h : okAll ps = true) : ∀ k, k ≤ ps.length → (spTo ps k).length ≤ 44 * k
  | 0, _ => by simp [spTo]
  | k + 1, hk => by
    have ih := spTo_len h k (by omega)
    have := tx_len (okAll_at h (k := k) (by omega))
    simp only [spTo]
    split
    · simp; omega
    · simp; omega
theorem tx_text {ps : List (Int × Int)} {k : Nat} (h : okP (pt ps k).1 (pt ps k).2 = true) : PointTextSpec.pointText' (pt ps k).1 (pt ps k).2 = ⟨(tx ps k).toArray⟩ := by
  unfold PointTextSpec.pointText' tx
  rw [h]
  rfl
theorem roomB_len {ps : List (Int × Int)} (h : roomB ps = true) : 3 ≤ ps.length ∧ ps.length ≤ 10 := by
  by_cases h2 : 3 ≤ ps.length ∧ ps.length ≤ 10
  · exact h2
  · rw [roomB_short h2] at h; cases h
theorem roomB_ok {ps : List (Int × Int)} (h : roomB ps = true) : okAll ps = true := by
  unfold roomB at h
  simp only [Bool.and_eq_true] at h
  exact h.1.1.2
theorem cat (a b : List UInt8) : (⟨a.toArray⟩ : ByteArray) ++ ⟨b.toArray⟩ = ⟨(a ++ b).toArray⟩ := by
  apply ByteArray.ext
  simp
theorem size_mk (a : List UInt8) : (⟨a.toArray⟩ : ByteArray).size = a.length := by simp [ByteArray.size]
theorem map_data (l : List (List UInt8)) : (l.map fun a => (⟨a.toArray⟩ : ByteArray)).map (·.data.toList) = l := by
  rw [List.map_map]
  have : ((fun x : ByteArray => x.data.toList) ∘ fun a : List UInt8 => (⟨a.toArray⟩ : ByteArray)) = id := by funext a; simp
  rw [this, List.map_id]
end Go.Proofs.YtgelkpaiabhklaaDoor.TextMath
