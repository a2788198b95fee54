/-
  An entry laid behind a sealed record. No program stands here.
-/
import Derived.Test.YtcfoleiooohbhaaEntryMath
namespace Go.Proofs.Ytcfoleiooohbhaa.ApeMath
open Go Go.RowKit TupISI SealMath EntryMath
def okE (l : List Tu) (m : Int) (s : ByteArray) : Bool := sealedB l && !decide (l.length = 30) && !decide (sealI (lastI l) m s < 0) && !decide (m < momentI l)
def apeL (l : List Tu) (m : Int) (s : ByteArray) : List Tu := if okE l m s then l ++ [(m, s, sealI (lastI l) m s)] else l
theorem apeL_no {l : List Tu} {m : Int} {s : ByteArray} (h : okE l m s = false) : apeL l m s = l := by unfold apeL; rw [if_neg (by simp [h])]
theorem apeL_yes {l : List Tu} {m : Int} {s : ByteArray} (h : okE l m s = true) : apeL l m s = l ++ [(m, s, sealI (lastI l) m s)] := by unfold apeL; rw [if_pos h]
theorem ok_sealed {l : List Tu} {m : Int} {s : ByteArray} (h : sealedB l = false) : okE l m s = false := by unfold okE; rw [h]; rfl
theorem ok_full {l : List Tu} {m : Int} {s : ByteArray} (h : l.length = 30) : okE l m s = false := by unfold okE; rw [decide_eq_true h]; simp
theorem ok_seal {l : List Tu} {m : Int} {s : ByteArray} (h : sealI (lastI l) m s < 0) : okE l m s = false := by unfold okE; rw [decide_eq_true h]; simp
theorem ok_early {l : List Tu} {m : Int} {s : ByteArray} (h : m < momentI l) : okE l m s = false := by unfold okE; rw [decide_eq_true h]; simp
theorem ok_yes {l : List Tu} {m : Int} {s : ByteArray} (h1 : sealedB l = true) (h2 : l.length ≠ 30) (h3 : ¬ sealI (lastI l) m s < 0) (h4 : ¬ m < momentI l) : okE l m s = true := by
  unfold okE; rw [h1, decide_eq_false h2, decide_eq_false h3, decide_eq_false h4]; rfl
theorem seal_le {l : List Tu} (h : sealedB l = true) : l.length ≤ 30 := by
  unfold sealedB at h; simp at h; exact h.1
theorem ape_le (l : List Tu) (m : Int) (s : ByteArray) (h : l.length ≤ 1048576) : (apeL l m s).length ≤ 1048576 := by
  cases hk : okE l m s with
  | false => rw [apeL_no hk]; exact h
  | true =>
    rw [apeL_yes hk]
    have h1 : sealedB l = true := by unfold okE at hk; simp at hk; exact hk.1.1.1
    have := seal_le h1
    simp; omega
/-- What AppendEntry gives: the record, or one entry more, in new memory; and whether. -/
def GivesA (T : Go.TypeId) (w : Go.World) (l : List Tu) (b : Bool) (en : Go.Ending) (w' : Go.World) : Prop :=
  ∃ A c, en = .returned (.tuple #[.slice A l.length c, .bool b]) ∧ w'.ownsRow w.heap.size T 3 (.slice A l.length c) l.length (cellsT l) ∧ Below w.heap.size w w'
end Go.Proofs.Ytcfoleiooohbhaa.ApeMath
