/-
  slices.Grow of the nil list of points, as the landed code reaches it: a new block with room for them.
-/
import Derived.Test.YtlnbahaoiilegaaLawRoom
import Derived.Lib.AppendZerosOnto
import Derived.Lib.SliceRun
import Derived.Lib.Walk
namespace Go.Proofs.Ytlnbahaoiilegaa.Grow
open Go.RowKit PointOk Blk Pts

end Go.Proofs.Ytlnbahaoiilegaa.Grow
