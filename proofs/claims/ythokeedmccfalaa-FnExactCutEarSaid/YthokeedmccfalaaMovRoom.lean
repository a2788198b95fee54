/-
  What the landed MoveRoom does, as a contract: the room in new memory and whether it may stand; no old cell is written.
-/
import Derived.Test.YthokeedmccfalaaMovImpl
namespace Go.Proofs.Ythokeedmccfalaa.MovRoom
open Go.RowKit Own PointMath WallMath RoomMath Pts Blk AreaMath TurnrMath MovMath RoomRes
open PointOk (ret_bool ret_i64 below1 below2 below3)

/-- A room of these corners in memory of its own, and a word on it. -/
def GivesRB (T : TypeId) (w : World) (l : List (Int × Int)) (b : Bool) (en : Ending) (w' : World) : Prop :=
  ∃ A c, en = .returned (.tuple #[.agg #[.slice A l.length c], .bool b]) ∧ w'.ownsRow w.heap.size T 2 (.slice A l.length c) l.length (cellsP l) ∧ Below w.heap.size w w'
theorem own_pts {w : World} {b T n c : Nat} {A : Option Addr} {ps : List (Int × Int)} (h : w.ownsRow b T 2 (.slice A n c) n (cellsP ps)) (hl : ps.length = n) : PtsAt w w.heap.size A ps := by
  intro j hj
  obtain ⟨g, c', hv, hb, hlt⟩ := h.form (by omega)
  obtain ⟨rfl, rfl⟩ : A = some ⟨g, 0, none⟩ ∧ c = c' := by injection hv with h1 _ h3; exact ⟨h1, h3⟩
  obtain ⟨e0, e1⟩ := cellsP_at ps j hj
  exact ⟨_, rfl, hlt, by rw [add_head]; exact (h.cellAt (j * 2) (by omega)).trans e0, by rw [add_head]; exact (h.cellAt (j * 2 + 1) (by omega)).trans e1⟩

end Go.Proofs.Ythokeedmccfalaa.MovRoom

