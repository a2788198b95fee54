/-
  A box of the call's own that holds a house; a house that comes in by value. No program stands here.
-/
import Derived.Test.YtcfoleiooohbhaaGround
namespace Go.Proofs.Ytcfoleiooohbhaa.HouBox
open Go.RowKit PointOk Blk

def BoxH (w : World) (k : Nat) (H : Int) (A : Option Addr) (n cap : Nat) : Prop := w.cell? ⟨k, 0, none⟩ = some (.int .i64 H) ∧ w.cell? ⟨k, 1, none⟩ = some (.slice A n cap)
theorem BoxH.later {w w' : World} {k n cap : Nat} {H : Int} {A : Option Addr} (h : BoxH w k H A n cap) (hb : Below w.heap.size w w') : BoxH w' k H A n cap := ⟨cell_later hb h.1, cell_later hb h.2⟩
theorem BoxH.alloc {w : World} {k n cap : Nat} {H : Int} {A : Option Addr} (h : BoxH w k H A n cap) (o : Obj) : BoxH (w.alloc o) k H A n cap := h.later (below1 w o)
theorem boxH (w : World) (H : Int) (A : Option Addr) (n cap : Nat) (T : TypeId) {k : Nat} (hk : k = w.heap.size) : BoxH (w.alloc (.cells #[.int .i64 H, .slice A n cap] T)) k H A n cap := by
  subst hk
  obtain ⟨h, _⟩ := (Holds.new w #[.int .i64 H, .slice A n cap] T).two
  exact h
end Go.Proofs.Ytcfoleiooohbhaa.HouBox
