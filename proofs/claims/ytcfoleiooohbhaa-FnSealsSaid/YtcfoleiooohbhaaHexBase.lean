/-
  What the texts on bytes lean on in this translation: the row of the table of types for a byte; endings that are equal.
-/
import Derived.Test.YtcfoleiooohbhaaChecked
import Derived.WalkKit
import Derived.ProofKit
namespace Go.Proofs.Ytcfoleiooohbhaa.HexBase
open Go.RowKit
theorem infoB : (Try.prog.info? 5).map (fun i => (i.zero, i.size, i.bytes)) = some (some (.int .u8 0), 1, 1) := by kernel_rfl
theorem ret_u8 {a b : Int} (h : a = b) : Ending.returned (.int .u8 a) = .returned (.int .u8 b) := by rw [h]
theorem ret_i64 {a b : Int} (h : a = b) : Ending.returned (.int .i64 a) = .returned (.int .i64 b) := by rw [h]
theorem ret_sb {x y : ByteArray} {a b : Bool} (hx : y = x) (hb : b = a) : Ending.returned (.tuple #[.string x, .bool a]) = .returned (.tuple #[.string y, .bool b]) := by rw [hx, hb]
end Go.Proofs.Ytcfoleiooohbhaa.HexBase
