/-
  What the landed test on points does, and the landed steps and crosses, as contracts; new memory alone is written.
-/
import Derived.Test.YtcfoleiooohbhaaGround
import Derived.WalkLawsBesides
namespace Go.Proofs.Ytcfoleiooohbhaa.PointOkImpl
open Go.RowKit PointMath
open PointOk (ret_bool ret_i64 below1 below2 below3)

end Go.Proofs.Ytcfoleiooohbhaa.PointOkImpl
