/-
  What the model's distances are: the same as the landed text's, breadth first.
-/
import Derived.Test.YtcfoleiooohbhaaHouSpec
import Derived.Test.YtcfoleiooohbhaaHouMem
import Derived.Maps.AppendAt
import Derived.Laws.OwnMore
namespace Go.Proofs.Ytcfoleiooohbhaa.HouDspec
open Go.RowKit Pts Blk HouMath HouBox HouMem
open Go.Proofs.Ytcfoleiooohbhaa.Own (icells icells_length icells_at own_below kept_ne own_cell)
open PointOk (ret_bool ret_i64 below1 below2 below3)

/-- A list of halls as numbers. -/
def nl (l : List Nat) : List Int := l.map fun (x : Nat) => (x : Int)
theorem nl_len (l : List Nat) : (nl l).length = l.length := by simp [nl]
theorem nl_snoc (l : List Nat) (x : Nat) : icells (nl (l ++ [x])) = icells (nl l) ++ [.int .i64 (x : Int)] := by simp [nl, icells]
theorem nl_at {l : List Nat} {k : Nat} (h : k < l.length) : (icells (nl l))[k]? = some (.int .i64 ((l.getD k 0 : Nat) : Int)) := by simp [nl, icells, List.getD, h]

end Go.Proofs.Ytcfoleiooohbhaa.HouDspec

