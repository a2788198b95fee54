/-
  The law's own copies of points: slices and rooms, as contracts.
-/
import Derived.Test.YtcfoleiooohbhaaGround
import Derived.OwnWalk
namespace Go.Proofs.Ytcfoleiooohbhaa.LawRoom
open Go.RowKit PointOk Blk Pts

theorem zeros (n : Nat) : (madeCells #[.int .i64 0, .int .i64 0] (n * 2)).toList = cellsP (List.replicate n (0, 0)) := by
  apply List.ext_getElem
  · simp [madeCells, cellsP_zeros]
  · intro i h1 h2
    have e : i % 2 = 0 ∨ i % 2 = 1 := by omega
    simp only [cellsP_zeros]
    rcases e with e | e <;> simp [madeCells, e]

end Go.Proofs.Ytcfoleiooohbhaa.LawRoom

