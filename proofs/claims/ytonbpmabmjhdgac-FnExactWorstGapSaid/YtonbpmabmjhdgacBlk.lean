/-
  Blocks of a call's own, whole: what they hold, what stays, what a store leaves. No program stands here.
-/
import Derived.Test.YtonbpmabmjhdgacPointOk
namespace Go.Proofs.Ytonbpmabmjhdgac.Blk
open Go.RowKit PointOk

theorem set_own {w : World} {cb : Nat} {cs : Array Value} {t : TypeId} {fr : Nat × Nat} (h : w.heap[cb]? = some (.cells cs t fr)) (k : Nat) (v : Value) :
    (w.setCell ⟨cb, k, none⟩ v).heap[cb]? = some (.cells (cs.setIfInBounds k v) t fr) := by
  simp [World.setCell, Array.getElem?_modify, h]
/-- A block of the call's own, not frozen. -/
def Holds (w : World) (k : Nat) (cs : Array Value) (T : TypeId) : Prop := w.heap[k]? = some (.cells cs T (0, 0))
theorem Holds.below {w w' : World} {k : Nat} {cs : Array Value} {T : TypeId} (h : Holds w k cs T) (hb : Below w.heap.size w w') (hk : k < w.heap.size) : Holds w' k cs T := (hb.block k hk).trans h
theorem Holds.later {w w' : World} {k : Nat} {cs : Array Value} {T : TypeId} (h : Holds w k cs T) (hb : Below w.heap.size w w') : Holds w' k cs T := h.below hb (Array.getElem?_eq_some_iff.1 h).1
theorem Holds.new (w : World) (cs : Array Value) (T : TypeId) : Holds (w.alloc (Obj.cells cs T)) w.heap.size cs T := heap_alloc_new w _
theorem Holds.lt {w : World} {k : Nat} {cs : Array Value} {T : TypeId} (h : Holds w k cs T) : k < w.heap.size := (Array.getElem?_eq_some_iff.1 h).1
theorem Holds.alloc {w : World} {k : Nat} {cs : Array Value} {T : TypeId} (h : Holds w k cs T) (o : Obj) : Holds (w.alloc o) k cs T := h.later (below1 w o)
theorem Holds.box (w : World) (cs : Array Value) (T : TypeId) {k : Nat} (hk : k = w.heap.size) : Holds (w.alloc (Obj.cells cs T)) k cs T := by subst hk; exact Holds.new w cs T
theorem Holds.far {w : World} {k : Nat} {cs : Array Value} {T : TypeId} (h : Holds w k cs T) (p : Addr) (v : Value) (hne : k ≠ p.block) : Holds (w.setCell p v) k cs T := (Below.heap_setCell w p v k hne).trans h
theorem Holds.four {w : World} {k : Nat} {a b c d : Value} {T : TypeId} (h : Holds w k #[a, b, c, d] T) :
    (w.cell? ⟨k, 0, none⟩ = some a ∧ w.cell? ⟨k, 1, none⟩ = some b ∧ w.cell? ⟨k, 2, none⟩ = some c ∧ w.cell? ⟨k, 3, none⟩ = some d) ∧
    w.frozen? ⟨k, 0, none⟩ = false ∧ w.frozen? ⟨k, 1, none⟩ = false ∧ w.frozen? ⟨k, 2, none⟩ = false ∧ w.frozen? ⟨k, 3, none⟩ = false := by
  have c0 := cell_of_row w k 0 _ _ _ h
  have c1 := cell_of_row w k 1 _ _ _ h
  have c2 := cell_of_row w k 2 _ _ _ h
  have c3 := cell_of_row w k 3 _ _ _ h
  unfold Holds at h
  simp at c0 c1 c2 c3
  exact ⟨⟨c0, c1, c2, c3⟩, by simp [World.frozen?, h], by simp [World.frozen?, h], by simp [World.frozen?, h], by simp [World.frozen?, h]⟩
theorem Holds.three {w : World} {k : Nat} {a b c : Value} {T : TypeId} (h : Holds w k #[a, b, c] T) : w.cell? ⟨k, 0, none⟩ = some a ∧ w.cell? ⟨k, 1, none⟩ = some b ∧ w.cell? ⟨k, 2, none⟩ = some c := by
  have c0 := cell_of_row w k 0 _ _ _ h
  have c1 := cell_of_row w k 1 _ _ _ h
  have c2 := cell_of_row w k 2 _ _ _ h
  exact ⟨c0, c1, c2⟩
theorem Holds.one {w : World} {k : Nat} {a : Value} {T : TypeId} (h : Holds w k #[a] T) : w.cell? ⟨k, 0, none⟩ = some a ∧ w.frozen? ⟨k, 0, none⟩ = false := by
  have c0 := cell_of_row w k 0 _ _ _ h
  unfold Holds at h
  simp at c0
  exact ⟨c0, by simp [World.frozen?, h]⟩
theorem Holds.two {w : World} {k : Nat} {a b : Value} {T : TypeId} (h : Holds w k #[a, b] T) :
    (w.cell? ⟨k, 0, none⟩ = some a ∧ w.cell? ⟨k, 1, none⟩ = some b) ∧ w.frozen? ⟨k, 0, none⟩ = false ∧ w.frozen? ⟨k, 1, none⟩ = false := by
  have c0 := cell_of_row w k 0 _ _ _ h
  have c1 := cell_of_row w k 1 _ _ _ h
  unfold Holds at h
  simp at c0 c1
  exact ⟨⟨c0, c1⟩, by simp [World.frozen?, h], by simp [World.frozen?, h]⟩
end Go.Proofs.Ytonbpmabmjhdgac.Blk
