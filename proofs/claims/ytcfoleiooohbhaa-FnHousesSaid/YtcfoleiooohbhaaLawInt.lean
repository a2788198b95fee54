/-
  The law's own helpers on slices of numbers and of points: they compare, they mark, they look whether the marks are held: as contracts over rows that the call itself made.
-/
import Derived.Test.YtcfoleiooohbhaaGround
import Derived.Test.YtcfoleiooohbhaaLawRoom
import Derived.Laws.OwnMore
import Derived.Lib.Hide
namespace Go.Proofs.Ytcfoleiooohbhaa.LawInt
open Go.RowKit Go.Lib Own Pts
open PointOk (ret_i64)

/-- n marks from k on. -/
def marks (k n : Nat) : List Value := (List.range n).map fun j => .int .i64 ((k + j : Nat) : Int)
theorem marks_length (k n : Nat) : (marks k n).length = n := by simp [marks]
theorem marks_at {k n j : Nat} (h : j < n) : (marks k n)[j]? = some (.int .i64 ((k + j : Nat) : Int)) := by simp [marks, h]
theorem marks_snoc (k n : Nat) : marks k (n + 1) = marks k n ++ [.int .i64 ((k + n : Nat) : Int)] := by simp [marks, List.range_succ]
/-- One more cell is marked. -/
theorem marks_set {k i n : Nat} {xs : List Value} (hx : xs.length = n) (hi : i < n) : (marks k i ++ xs.drop i).set i (.int .i64 ((k + i : Nat) : Int)) = marks k (i + 1) ++ xs.drop (i + 1) := by
  rw [List.set_append_right _ _ (by rw [marks_length]; omega), marks_length, Nat.sub_self, List.drop_eq_getElem_cons (by omega), List.set_cons_zero, marks_snoc, List.append_assoc]; rfl
theorem mark_cell {k i n : Nat} {xs : List Value} (hx : xs.length = n) (hi : i < n) : (marks k i ++ xs.drop i)[i]? = some xs[i] := by
  rw [List.getElem?_append_right (by rw [marks_length]; omega), marks_length, Nat.sub_self, List.drop_eq_getElem_cons (by omega)]; rfl
/-- A cell of a row whose elements take several cells. -/
theorem own_cellN {w : World} {b e sz n cap j : Nat} {A : Option Addr} {xs : List Value} {x : Value} (h : w.ownsRow b e sz (.slice A n cap) n xs) (h0 : 0 < n) (hj : j < xs.length) (hx : xs[j]? = some x) :
    ∃ g, A = some ⟨g, 0, none⟩ ∧ b ≤ g ∧ g < w.heap.size ∧ w.cell? ⟨g, j, none⟩ = some x ∧ w.frozen? ⟨g, j, none⟩ = false := by
  have hl := h.1
  rcases h.2 with ⟨h', h2⟩ | ⟨g, cap', cu, h', hb, hg, _, _, hs, ht⟩
  · omega
  · injection h' with h1 h2 h3
    subst h1
    refine ⟨g, rfl, hb, (Array.getElem?_eq_some_iff.1 hg).1, ?_, by simp [World.frozen?, hg]⟩
    have c0 := cell_of_row w g j _ _ _ hg
    rw [← ht, List.getElem?_take, if_pos (by omega), Array.getElem?_toList] at hx
    exact c0.trans hx
/-- A row of points as a slice of points in memory. -/
theorem own_pts {w : World} {b e n : Nat} {v : Value} {ps : List (Int × Int)} (h : w.ownsRow b e 2 v n (cellsP ps)) : ∃ A cap, v = .slice A n cap ∧ ps.length = n ∧ PtsAt w w.heap.size A ps := by
  obtain ⟨A, cap, rfl⟩ := own_shape h
  have hl := h.1
  rw [cellsP_length] at hl
  refine ⟨A, cap, rfl, by omega, fun j hj => ?_⟩
  obtain ⟨e0, e1⟩ := cellsP_at ps j hj
  obtain ⟨g, rfl, _, hg, c0, _⟩ := own_cellN h (by omega) (by rw [cellsP_length]; omega) e0
  obtain ⟨g2, e2, _, _, c1, _⟩ := own_cellN h (by omega) (by rw [cellsP_length]; omega) e1
  injection e2 with e2
  injection e2 with e2
  subst e2
  exact ⟨_, rfl, hg, by rw [add_head]; exact c0, by rw [add_head]; exact c1⟩

/-- The row is marked; nothing else is written. -/
def MarkP (w : World) (b e sz : Nat) (v : Value) (k n : Nat) (en : Ending) (w' : World) : Prop :=
  en = .returned (.int .i64 ((k + n * sz : Nat) : Int)) ∧ w'.ownsRow b e sz v n (marks k (n * sz)) ∧ w.grownBy w' v.ownBlock

/-- All marks are held. -/
def HeldP (w : World) (k n : Nat) (e : Ending) (w' : World) : Prop := e = .returned (.int .i64 ((k + n : Nat) : Int)) ∧ Below w.heap.size w w'

theorem own_of_row {w : World} {g n b : Nat} {T : TypeId} {ps : List (Int × Int)} (h : Row w g T ps) (hl : ps.length = n) (hn : n ≤ 1048576) (hb : b ≤ g) : w.ownsRow b T 2 (.slice (some ⟨g, 0, none⟩) n n) n (cellsP ps) :=
  ⟨by rw [cellsP_length, hl], .inr ⟨g, n, _, rfl, hb, h, Nat.le_refl _, by unfold maxLen; omega, by simp [cellsP_length, hl], List.take_of_length_le (by simp [cellsP_length, hl])⟩⟩

end Go.Proofs.Ytcfoleiooohbhaa.LawInt
