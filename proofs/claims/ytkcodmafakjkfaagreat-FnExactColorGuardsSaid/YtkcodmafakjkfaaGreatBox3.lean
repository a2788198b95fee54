/-
  A struct of three integers, boxed.
-/
import Derived.Test.YtkcodmafakjkfaaGreatGround
namespace Go.Proofs.YtkcodmafakjkfaaGreat.Box3
open Go.RowKit
open PointOk
def Box (w : World) (k : Nat) (a b c : Int) : Prop :=
  w.cell? ⟨k, 0, none⟩ = some (.int .i64 a) ∧ w.cell? ⟨k, 1, none⟩ = some (.int .i64 b) ∧ w.cell? ⟨k, 2, none⟩ = some (.int .i64 c)
theorem Box.later {w w' : World} {k : Nat} {a b c : Int} (h : Box w k a b c) (hb : Below w.heap.size w w') : Box w' k a b c :=
  ⟨cell_later hb h.1, cell_later hb h.2.1, cell_later hb h.2.2⟩
theorem Box.alloc {w : World} {k : Nat} {a b c : Int} (h : Box w k a b c) (o : Obj) : Box (w.alloc o) k a b c := h.later (below1 w o)
theorem box1 (w : World) (a b c : Int) (T : TypeId) {k : Nat} (hk : k = w.heap.size) : Box (w.alloc (.cells #[.int .i64 a, .int .i64 b, .int .i64 c] T)) k a b c := by
  subst hk
  have hn := heap_alloc_new w (.cells #[.int .i64 a, .int .i64 b, .int .i64 c] T)
  exact ⟨World.news_of_block hn 0 _ (by simp), World.news_of_block hn 1 _ (by simp), World.news_of_block hn 2 _ (by simp)⟩
end Go.Proofs.YtkcodmafakjkfaaGreat.Box3
