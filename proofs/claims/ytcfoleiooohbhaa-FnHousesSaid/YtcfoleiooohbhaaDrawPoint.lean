/-
  Points that the model draws, as contracts: a point with small coordinates; three of them.
-/
import Derived.Test.YtcfoleiooohbhaaDrawBig
import Derived.Test.YtcfoleiooohbhaaGround
import Derived.Deep.RegionHeld3
namespace Go.Proofs.Ytcfoleiooohbhaa.DrawPoint
open Go.RowKit Draw PointMath PointOk

/-- A block of the call's own is written: nothing else is. -/
theorem grown_own {w w' : World} {row : Option Nat} (h : w.grownBy w' row) (p : Addr) (hp : w.heap.size ≤ p.block) (v : Value) : w.grownBy (w'.setCell p v) row :=
  ⟨h.os, h.tape, h.output, by simpa [World.setCell] using h.size, fun i hi hne => (Below.heap_setCell w' p v i (by intro e; omega)).trans (h.block i hi hne)⟩
theorem grown_from {w w' w2 : World} {row : Option Nat} (o : Obj) (h : (w.alloc o).grownBy w' row) (h2 : w'.grownBy w2 row) : w.grownBy w2 row := by
  have h0 : w.grownBy w row := ⟨rfl, rfl, rfl, Nat.le_refl _, fun _ _ _ => rfl⟩
  exact grown_trans (grown_alloc h0 o) (grown_trans h h2)
theorem own_row (w' : World) (p : Addr) (v : Value) : w'.grownBy (w'.setCell p v) (some p.block) :=
  ⟨rfl, rfl, rfl, by simp [World.setCell], fun i _ hne => Below.heap_setCell w' p v i (by rintro rfl; exact hne rfl)⟩
theorem st_own {w' : World} {cb : Nat} {A : Option Addr} {n cap : Nat} (hs : St w' cb A n cap) (p : Addr) (v : Value) (hp : cb < p.block) : St (w'.setCell p v) cb A n cap :=
  hs.kept (own_row w' p v) (fun g e => by injection e with e; omega)

theorem far_cell {w : World} {p c : Addr} {u v : Value} (h : w.cell? c = some v) (hne : c.block ≠ p.block) : (w.setCell p u).cell? c = some v :=
  (World.cell?_of_block (w := w) (Below.heap_setCell w p u c.block hne)).trans h
theorem code_more {w w' : World} {A : Option Addr} {n : Nat} (hc : Draw.Code w w.heap.size A n) (hb : Below w.heap.size w w') : Draw.Code w' w'.heap.size A n := by
  intro j hj
  obtain ⟨ad, x, h1, h2, h3, h4, h5⟩ := hc j hj
  exact ⟨ad, x, h1, Nat.lt_of_lt_of_le h2 hb.size, h3, h4, (hb.cell (by rw [block_add]; exact h2)).trans h5⟩

end Go.Proofs.Ytcfoleiooohbhaa.DrawPoint
