/-
  A room that comes back in memory of the call's own. No program stands here.
-/
import Derived.Test.YtcfoleiooohbhaaGround
namespace Go.Proofs.Ytcfoleiooohbhaa.RoomRes
open Go Go.RowKit Own Pts Blk

/-- A room came back in new memory. -/
def GivesR (T : TypeId) (w : World) (l : List (Int × Int)) (en : Ending) (w' : World) : Prop :=
  ∃ A c, en = .returned (.agg #[.slice A l.length c]) ∧ w'.ownsRow w.heap.size T 2 (.slice A l.length c) l.length (cellsP l) ∧ Below w.heap.size w w'
theorem cellsP_app : ∀ (ps qs : List (Int × Int)), cellsP (ps ++ qs) = cellsP ps ++ cellsP qs
  | [], _ => rfl
  | p :: ps, qs => by simp [cellsP, cellsP_app ps qs]
/-- A store into one block. -/
theorem grown_set (w : World) (b o : Nat) (v : Value) : w.grownBy (w.setCell ⟨b, o, none⟩ v) (some b) :=
  ⟨rfl, rfl, rfl, by simp [World.setCell], fun j _ hne => Below.heap_setCell w ⟨b, o, none⟩ v j (fun e => hne (by rw [e]))⟩
theorem below_set (w : World) (x b o : Nat) (v : Value) (h : x ≤ b) : Below x w (w.setCell ⟨b, o, none⟩ v) := (Below.refl _ _).setCell (p := ⟨b, o, none⟩) h _
theorem own_set {w : World} {B e sz n : Nat} {v : Value} {xs : List Value} (h : w.ownsRow B e sz v n xs) (b o : Nat) (u : Value) (hb : b < B) : (w.setCell ⟨b, o, none⟩ u).ownsRow B e sz v n xs :=
  kept_ne h (grown_set w b o u) (fun g hg => by have := (h.lt g hg).1; omega)
end Go.Proofs.Ytcfoleiooohbhaa.RoomRes
