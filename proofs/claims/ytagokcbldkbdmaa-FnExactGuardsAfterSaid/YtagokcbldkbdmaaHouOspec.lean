/-
  What the model says of the halls behind a hall's doors, as a contract.
-/
import Derived.Test.YtagokcbldkbdmaaHouWspec
import Derived.Test.YtagokcbldkbdmaaHouMathD
namespace Go.Proofs.Ytagokcbldkbdmaa.HouOspec
open Go.RowKit Pts Blk HouMath HouMathB HouMathD HouSeq HouBox HouMem Ints
open Go.Proofs.Ytagokcbldkbdmaa.Own (icells icells_length icells_at icells_snoc own_shape own_cell own_below own_base own_empty GivesI)
open PointOk (ret_bool ret_i64 below1 below2 below3)

theorem infoI : (Try.prog.info? 3).map (fun i => (i.zero, i.size, i.bytes)) = some (some (.int .i64 0), 1, 8) := by kernel_rfl

end Go.Proofs.Ytagokcbldkbdmaa.HouOspec

