/-
  Numbers behind a word, each behind a blank: plain facts. No program stands here.
-/
import Derived.Test.YtgelkpaiabhklaaDoorPointTextSpec
import Derived.Test.YtgelkpaiabhklaaDoorGround
import Derived.Lib.ItoaLen
namespace Go.Proofs.YtgelkpaiabhklaaDoor.MtxMath
open Go Go.RowKit Lib Own

/-- The word and the first k numbers, each behind a blank. -/
def tTo (h : List UInt8) (l : List Int) : Nat → List UInt8
  | 0 => h
  | k + 1 => tTo h l k ++ [32] ++ itoa (l.getD k 0)
def inB (m z : Int) : Bool := decide (0 ≤ z ∧ z ≤ m)
def moveT (l : List Int) : ByteArray := if l.all (inB 20) = true then ⟨(tTo [109, 111, 118, 101] l l.length).toArray⟩ else ⟨#[]⟩
theorem moveT_yes {l : List Int} (h : ∀ j, j < l.length → inB 20 (l.getD j 0) = true) : moveT l = ⟨(tTo [109, 111, 118, 101] l l.length).toArray⟩ := by
  unfold moveT
  rw [if_pos]
  rw [List.all_eq_true]
  intro z hz
  obtain ⟨j, hj, rfl⟩ := List.mem_iff_getElem.1 hz
  have := h j hj
  rwa [List.getD_eq_getElem?_getD, List.getElem?_eq_getElem hj] at this
theorem moveT_no {l : List Int} {k : Nat} {z : Int} (hk : l[k]? = some z) (h : inB 20 z = false) : moveT l = ⟨#[]⟩ := by
  unfold moveT
  rw [if_neg]
  intro ha
  have := List.all_eq_true.1 ha z (List.mem_of_getElem? hk)
  rw [h] at this
  cases this
theorem step_left {h : List UInt8} {l : List Int} {k : Nat} {z : Int} (hk : l[k]? = some z) {s t : ByteArray} (hs : (⟨(tTo h l k).toArray⟩ : ByteArray) = s) (ht : (⟨(itoa z).toArray⟩ : ByteArray) = t) :
    (⟨(tTo h l (k + 1)).toArray⟩ : ByteArray) = s ++ ⟨#[32]⟩ ++ t := by
  subst hs ht
  show (⟨(tTo h l k ++ [32] ++ itoa (l.getD k 0)).toArray⟩ : ByteArray) = _
  rw [List.getD_eq_getElem?_getD, hk]
  apply ByteArray.ext
  simp
theorem step_right {h : List UInt8} {l : List Int} {k : Nat} {z : Int} (hk : l[k]? = some z) {s t : ByteArray} (hs : (⟨(tTo h l k).toArray⟩ : ByteArray) = s) (ht : (⟨(itoa z).toArray⟩ : ByteArray) = t) :
    (⟨(tTo h l (k + 1)).toArray⟩ : ByteArray) = s ++ (⟨#[32]⟩ ++ t) := by
  rw [step_left hk hs ht]
  apply ByteArray.ext
  simp
theorem tTo_len {h : List UInt8} {l : List Int} (hb : ∀ j, -9223372036854775808 ≤ l.getD j 0 ∧ l.getD j 0 ≤ 9223372036854775807) : ∀ k, (tTo h l k).length ≤ h.length + 22 * k
  | 0 => by simp [tTo]
  | k + 1 => by
    have := tTo_len hb (h := h) k
    have := itoa_length_le (l.getD k 0) (hb k).1 (hb k).2
    simp only [tTo, List.length_append, List.length_singleton]
    omega
theorem tTo_lenB {h : List UInt8} {l : List Int} {m : Int} (hm : m ≤ 9223372036854775807) : ∀ k, (∀ j, j < k → inB m (l.getD j 0) = true) → (tTo h l k).length ≤ h.length + 22 * k
  | 0, _ => by simp [tTo]
  | k + 1, hb => by
    have h1 := tTo_lenB (h := h) hm k (fun j hj => hb j (by omega))
    have h2 := of_decide_eq_true (hb k (by omega))
    have := itoa_length_le (l.getD k 0) (by omega) (by omega)
    simp only [tTo, List.length_append, List.length_singleton]
    omega
theorem icells_at' {l : List Int} {k : Nat} {z : Int} (h : l[k]? = some z) : (icells l).toArray[k]? = some (.int .i64 z) := by
  rw [List.getElem?_toArray]
  simp [icells, h]
end Go.Proofs.YtgelkpaiabhklaaDoor.MtxMath
