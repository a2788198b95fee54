/-
  The law's copy of a triangle, as a contract.
-/
import Derived.Test.YtkoogklakacphaaBox3
import Derived.WalkKit
namespace Go.Proofs.Ytkoogklakacphaa.LawTriangle
open Go.RowKit
open PointOk (below3)
theorem toTriangle (x y z : Int) (w : World) : Calls Try.prog 42 #[.agg #[.int .i64 x, .int .i64 y, .int .i64 z]] w fun e w' => e = .returned (.agg #[.int .i64 x, .int .i64 y, .int .i64 z]) ∧ Below w.heap.size w w' := by
  go_enter Try.func42, Try.ntmps42
  go_wp2_with fail
  refine bodyPost_ret (v := .agg #[.int .i64 x, .int .i64 y, .int .i64 z]) (by simp [results, Try.results42, go_sem]) rfl ⟨rfl, ?_⟩
  exact below3 _ _ _ _
end Go.Proofs.Ytkoogklakacphaa.LawTriangle
