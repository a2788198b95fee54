/-
  What the model says of whole houses and their halls, as contracts.
-/
import Derived.Test.YtcfoleiooohbhaaHouDspec
namespace Go.Proofs.Ytcfoleiooohbhaa.HouVspec
open Go.RowKit Pts Blk HouMath HouBox HouMem
open Go.Proofs.Ytcfoleiooohbhaa.Own (icells icells_length icells_at)
open PointOk (ret_bool ret_i64 below1 below2 below3)

theorem dist_cell {w : World} {g H : Nat} {D : List Int} (h : Holds w g (icells D).toArray 3) (hD : D.length = H) {k : Nat} (hk : k < H) : w.cell? ⟨g, k, none⟩ = some (.int .i64 (D.getD k 0)) := by
  rw [cell_of_row w g k _ _ _ h, List.getElem?_toArray, icells_at (by omega)]
  simp [List.getD, show k < D.length by omega]

/-- A hall of a valid house. -/
def hasB (H : Int) (ds : List (Int × Int)) (x : Int) : Bool := houseB H ds && decide (0 ≤ x ∧ x ≤ H - 1)
end Go.Proofs.Ytcfoleiooohbhaa.HouVspec

