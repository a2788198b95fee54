/-
  What the model's functions on points do, as contracts: what each answers; new memory alone is written.
-/
import Derived.Test.YtmcjnldkhnebcaaGround
import Derived.WalkLawsBesides
import Derived.Lib.MinMax
namespace Go.Proofs.Ytmcjnldkhnebcaa.PointSpec
open Go.RowKit PointMath PointOk

end Go.Proofs.Ytmcjnldkhnebcaa.PointSpec

