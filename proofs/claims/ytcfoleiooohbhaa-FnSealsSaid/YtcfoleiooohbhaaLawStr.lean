/-
  The law's own helpers on slices of texts: they compare, they mark, they look whether the marks are held: as contracts over rows that the call itself made.
-/
import Derived.Test.YtcfoleiooohbhaaFmtMath
import Derived.Test.YtcfoleiooohbhaaSplitMath
import Derived.Test.YtcfoleiooohbhaaHexBase
import Derived.WalkSpells
import Derived.Deep.QuietTactic
import Derived.BigQuiet
import Derived.Deep.RegionHeld3
import Derived.Deep.AppendLies
import Derived.Laws.IdiomStrings
import Derived.Laws.OwnMore
import Derived.Lib.Hide
import Derived.Outline
namespace Go.Proofs.Ytcfoleiooohbhaa.LawStr
open Go.RowKit Go.Lib FmtMath SplitMath HexBase

theorem own_shape {w : World} {b e sz n : Nat} {v : Value} {xs : List Value} (h : w.ownsRow b e sz v n xs) : ∃ A cap, v = .slice A n cap := by
  rcases h.2 with ⟨rfl, rfl⟩ | ⟨g, cap, cu, rfl, _⟩
  · exact ⟨_, _, rfl⟩
  · exact ⟨_, _, rfl⟩
/-- The cell of a row's element. -/
theorem own_cell {w : World} {b e n cap j : Nat} {A : Option Addr} {xs : List Value} {x : Value} (h : w.ownsRow b e 1 (.slice A n cap) n xs) (hj : j < n) (hx : xs[j]? = some x) :
    ∃ g, A = some ⟨g, 0, none⟩ ∧ b ≤ g ∧ g < w.heap.size ∧ w.cell? ⟨g, j, none⟩ = some x ∧ w.frozen? ⟨g, j, none⟩ = false := by
  obtain ⟨g, cap', hv, hb, hlt⟩ := h.form (by omega)
  obtain ⟨rfl, rfl⟩ : A = some ⟨g, 0, none⟩ ∧ cap = cap' := by injection hv with h1 _ h3; exact ⟨h1, h3⟩
  exact ⟨g, rfl, hb, hlt, by rw [h.cellAt j (by omega)]; exact hx, h.frozenAt j⟩
theorem own_below {w w' : World} {b e sz n : Nat} {v : Value} {xs : List Value} (h : w.ownsRow b e sz v n xs) (hb : Below w.heap.size w w') : w'.ownsRow b e sz v n xs := by
  refine h.kept (row := none) ⟨hb.os, hb.tape, hb.output, hb.size, fun k hk _ => hb.block k hk⟩ ?_
  cases hv : v.ownBlock with
  | none => exact .inl rfl
  | some g => exact .inr (by simp)
theorem strCells_at {fs : List (List UInt8)} {j : Nat} (h : j < fs.length) : (strCells fs)[j]? = some (.string ⟨fs[j].toArray⟩) := by
  simp [strCells, List.getElem?_eq_getElem h]

/-- The k-th mark. -/
def mark (k : Nat) : ByteArray := ⟨(109 :: decDigits k).toArray⟩

/-- 'string([]byte{c})': a text of one byte. -/
theorem conv_one (W : World) (c : UInt8) : ∃ C : ByteArray, C.data.toList = [c] ∧
    (convert 22 9 (.slice (some ⟨W.heap.size, 0, none⟩) 1 1)).run Try.prog (W.alloc (.cells #[.int .u8 (c.toNat : Int)] 5)) = .ok (.string C) (W.alloc (.cells #[.int .u8 (c.toNat : Int)] 5)) := by
  refine ⟨⟨[c].toArray⟩, rfl, ?_⟩
  exact run_convert_bytes_back (P := Try.prog) (W.alloc (.cells #[.int .u8 (c.toNat : Int)] 5)) 22 9 5 ⟨W.heap.size, 0, none⟩ 1 [c] Try.underlying22 Try.underlying5 Try.underlying9 (fun j hj => by
    have hj0 : j = 0 := by simpa using hj
    subst hj0
    exact World.news_of_block (heap_alloc_new W (.cells #[.int .u8 (c.toNat : Int)] 5)) 0 _ (by simp))
theorem ret_str {a b : ByteArray} (h : a = b) : Ending.returned (.string a) = .returned (.string b) := by rw [h]

/-- n marks from the k-th on. -/
def marks (k n : Nat) : List Value := (List.range n).map fun j => .string (mark (k + j))
theorem marks_length (k n : Nat) : (marks k n).length = n := by simp [marks]
theorem marks_at {k n j : Nat} (h : j < n) : (marks k n)[j]? = some (.string (mark (k + j))) := by simp [marks, h]
theorem marks_snoc (k n : Nat) : marks k (n + 1) = marks k n ++ [.string (mark (k + n))] := by simp [marks, List.range_succ]
/-- One more element is marked. -/
theorem marks_set {k i n : Nat} {xs : List Value} (hx : xs.length = n) (hi : i < n) : (marks k i ++ xs.drop i).set i (.string (mark (k + i))) = marks k (i + 1) ++ xs.drop (i + 1) := by
  rw [List.set_append_right _ _ (by rw [marks_length]; omega), marks_length, Nat.sub_self, List.drop_eq_getElem_cons (by omega), List.set_cons_zero, marks_snoc, List.append_assoc]; rfl
theorem mark_cell {k i n : Nat} {xs : List Value} (hx : xs.length = n) (hi : i < n) : (marks k i ++ xs.drop i)[i]? = some xs[i] := by
  rw [List.getElem?_append_right (by rw [marks_length]; omega), marks_length, Nat.sub_self, List.drop_eq_getElem_cons (by omega)]; rfl
theorem grown_of_below {w w' : World} (h : Below w.heap.size w w') (row : Option Nat) : w.grownBy w' row := ⟨h.os, h.tape, h.output, h.size, fun k hk _ => h.block k hk⟩
theorem grown_trans {a b c : World} {row : Option Nat} (h : a.grownBy b row) (k : b.grownBy c row) : a.grownBy c row :=
  ⟨k.os.trans h.os, k.tape.trans h.tape, k.output.trans h.output, Nat.le_trans h.size k.size, fun i hi hne => (k.block i (Nat.lt_of_lt_of_le hi h.size) hne).trans (h.block i hi hne)⟩

/-- The row is marked; nothing else is written. -/
def MarkP (w : World) (b : Nat) (v : Value) (k n : Nat) (e : Ending) (w' : World) : Prop :=
  e = .returned (.int .i64 ((k + n : Nat) : Int)) ∧ w'.ownsRow b 9 1 v n (marks k n) ∧ w.grownBy w' v.ownBlock

/-- All marks are held. -/
def HeldP (w : World) (k n : Nat) (e : Ending) (w' : World) : Prop := e = .returned (.int .i64 ((k + n : Nat) : Int)) ∧ Below w.heap.size w w'

/-- An elder row and one that was made later lie in different blocks. -/
theorem own_elder {w w' : World} {b e1 e2 s1 s2 n1 n2 : Nat} {v f : Value} {xs ys : List Value} (h1 : w.ownsRow b e1 s1 v n1 xs) (h2 : w'.ownsRow w.heap.size e2 s2 f n2 ys) : v.ownBlock = none ∨ v.ownBlock ≠ f.ownBlock := by
  cases hv : v.ownBlock with
  | none => exact .inl rfl
  | some g =>
    refine .inr fun e => ?_
    have := (h1.lt g hv).2
    have := (h2.lt g e.symm).1
    omega
end Go.Proofs.Ytcfoleiooohbhaa.LawStr
