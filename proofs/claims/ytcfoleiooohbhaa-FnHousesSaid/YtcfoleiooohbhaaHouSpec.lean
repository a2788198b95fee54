/-
  What the model's functions on houses do, as contracts: doors, the right form, distances, valid houses.
-/
import Derived.Test.YtcfoleiooohbhaaHouBox
import Derived.Test.YtcfoleiooohbhaaHouMath
import Derived.Test.YtcfoleiooohbhaaGround
import Derived.Lib.MinMax
import Derived.Laws.OwnMore
import Derived.OwnWalk
import Derived.Deep.RegionHeld3
namespace Go.Proofs.Ytcfoleiooohbhaa.HouSpec
open Go.RowKit Pts Blk HouMath HouBox
open Go.Proofs.Ytcfoleiooohbhaa.Own (icells icells_length icells_at)
open PointOk (ret_bool ret_i64 below1 below2 below3)

def hit (ds : List (Int × Int)) (a b : Int) (k : Nat) : Bool := decide ((dr ds k).1 = min a b) && decide ((dr ds k).2 = max a b)
theorem door_yes {ds : List (Int × Int)} {a b : Int} {k : Nat} (hk : k < ds.length) (h : hit ds a b k = true) : isDoor ds a b = true := by
  unfold isDoor
  rw [List.any_eq_true]
  refine ⟨ds[k], List.getElem_mem hk, ?_⟩
  unfold hit at h
  rw [dr_get hk] at h
  exact h
theorem door_no {ds : List (Int × Int)} {a b : Int} (h : ∀ k, k < ds.length → hit ds a b k = false) : isDoor ds a b = false := by
  unfold isDoor
  rw [List.any_eq_false]
  intro d hd
  obtain ⟨k, hk, rfl⟩ := List.mem_iff_getElem.1 hd
  have := h k hk
  unfold hit at this
  rw [dr_get hk] at this
  simp [this]

end Go.Proofs.Ytcfoleiooohbhaa.HouSpec

