/-
  Digests and seals: plain facts. No program stands here.
-/
import Derived.Test.YtcfoleiooohbhaaFacts
namespace Go.Proofs.Ytcfoleiooohbhaa.SealMath

def digStep (n : Int) (b : UInt8) : Int := (n * 257 + (b.toNat : Int) + 1) % 1000003
/-- The digest behind these bytes. -/
def digs (n : Int) (l : List UInt8) : Int := l.foldl digStep n
def digestI (s : ByteArray) : Int := if s.size ≤ 200 then digs 7 s.data.toList else -1
theorem digStep_in (n : Int) (b : UInt8) : 0 ≤ digStep n b ∧ digStep n b < 1000003 := by
  unfold digStep; omega
theorem digs_in {n : Int} (h : 0 ≤ n ∧ n < 1000003) : ∀ l, 0 ≤ digs n l ∧ digs n l < 1000003 := by
  intro l
  induction l generalizing n with
  | nil => exact h
  | cons b l ih => exact ih (digStep_in n b)
theorem digs_app (n : Int) (l m : List UInt8) : digs n (l ++ m) = digs (digs n l) m := List.foldl_append
theorem digs_take (n : Int) (s : ByteArray) {k : Nat} (h : k < s.size) : digs n (s.data.toList.take (k + 1)) = digStep (digs n (s.data.toList.take k)) s[k] := by
  rw [List.take_add_one, List.getElem?_eq_getElem (show k < s.data.toList.length by simpa using h)]
  rw [digs_app]
  rfl
theorem take_all (s : ByteArray) : s.data.toList.take s.size = s.data.toList := List.take_of_length_le (by simp)
theorem extract_list (s : ByteArray) (b k : Nat) : (s.extract b k).data.toList = (s.data.toList.take k).drop b := by
  rw [ByteArray.data_extract, Array.toList_extract, List.drop_take]
theorem digs_cut (n : Int) (s : ByteArray) {b k : Nat} (h : b ≤ k) : digs (digs n (s.data.toList.take b)) (s.extract b k).data.toList = digs n (s.data.toList.take k) := by
  rw [extract_list, ← digs_app]
  congr 1
  have : s.data.toList.take b = (s.data.toList.take k).take b := by rw [List.take_take, Nat.min_eq_left h]
  rw [this, List.take_append_drop]
theorem digest_in (s : ByteArray) : -1 ≤ digestI s ∧ digestI s < 1000003 := by
  unfold digestI
  split
  · have := digs_in (n := 7) (by omega) s.data.toList; omega
  · omega
theorem digest_neg (s : ByteArray) : digestI s < 0 → digestI s = -1 := by
  unfold digestI
  split
  · have := digs_in (n := 7) (by omega) s.data.toList; omega
  · intro _; rfl
/-- The seal behind a seal. -/
def sealI (p m : Int) (s : ByteArray) : Int :=
  if (0 ≤ p ∧ p ≤ 1000002) ∧ (0 ≤ m ∧ m ≤ 1000000) ∧ 0 ≤ digestI s then (p * 1009 + m * 31 + digestI s) % 1000003 else -1
theorem seal_in (p m : Int) (s : ByteArray) : -1 ≤ sealI p m s ∧ sealI p m s < 1000003 := by
  unfold sealI
  split <;> omega
end Go.Proofs.Ytcfoleiooohbhaa.SealMath
