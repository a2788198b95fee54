/-
  The law's own copies of points: slices and rooms, as contracts.
-/
import Derived.Test.YtagokcbldkbdmaaGround
import Derived.OwnWalk
namespace Go.Proofs.Ytagokcbldkbdmaa.LawRoom
open Go.RowKit PointOk Blk Pts

theorem infoP : (Try.prog.info? 105).map (fun i => (i.zero, i.size, i.bytes)) = some (some (.agg #[.int .i64 0, .int .i64 0]), 2, 16) := by kernel_rfl

theorem zeros (n : Nat) : (madeCells #[.int .i64 0, .int .i64 0] (n * 2)).toList = cellsP (List.replicate n (0, 0)) := by
  apply List.ext_getElem
  · simp [madeCells, cellsP_zeros]
  · intro i h1 h2
    have e : i % 2 = 0 ∨ i % 2 = 1 := by omega
    simp only [cellsP_zeros]
    rcases e with e | e <;> simp [madeCells, e]

theorem eqPoint_same (x y : Int) (w : World) :
    Calls Try.prog 132 #[.agg #[.int .i64 x, .int .i64 y], .agg #[.int .i64 x, .int .i64 y]] w fun e w' => e = .returned (.bool true) ∧ Below w.heap.size w w' := by
  go_enter Try.func132, Try.ntmps132
  go_wp2_with fail
  go_ret
  exact ⟨rfl, below2 _ _ _⟩

end Go.Proofs.Ytagokcbldkbdmaa.LawRoom

