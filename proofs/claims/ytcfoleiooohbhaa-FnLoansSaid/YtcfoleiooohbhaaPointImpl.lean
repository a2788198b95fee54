/-
  What the landed functions on points do, as contracts: what each answers; new memory alone is written.
-/
import Derived.Test.YtcfoleiooohbhaaPointOkImpl
import Derived.WalkLawsBesides
import Derived.Lib.MinMax
namespace Go.Proofs.Ytcfoleiooohbhaa.PointImpl
open Go.RowKit PointMath PointOkImpl
open PointOk (ret_bool ret_i64 below1 below2 below3 Box box1 Box.later Box.alloc)

end Go.Proofs.Ytcfoleiooohbhaa.PointImpl

