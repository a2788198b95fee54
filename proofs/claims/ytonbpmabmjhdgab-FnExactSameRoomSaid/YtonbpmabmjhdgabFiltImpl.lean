/-
  What the landed filtered does with a test that is handed over, as a contract: the points that pass it, in new memory.
-/
import Derived.Test.YtonbpmabmjhdgabThatImpl
import Derived.Test.YtonbpmabmjhdgabFacts
import Derived.Test.YtonbpmabmjhdgabLawInt
namespace Go.Proofs.Ytonbpmabmjhdgab.FiltImpl
open Go.RowKit Own PointMath WallMath RoomMath Pts Blk DiagMath FiltMath
open PointOk (ret_bool ret_i64 below1 below2 below3)

theorem infoP : (Try.prog.info? 56).map (fun i => (i.zero, i.size, i.bytes)) = some (some (.agg #[.int .i64 0, .int .i64 0]), 2, 16) := by kernel_rfl
theorem cellsP_app : ∀ (ps qs : List (Int × Int)), cellsP (ps ++ qs) = cellsP ps ++ cellsP qs
  | [], _ => rfl
  | p :: ps, qs => by simp [cellsP, cellsP_app ps qs]
/-- A row of points, as a slice of points in memory. -/
theorem pts_own {w : World} {b e n c : Nat} {A : Option Addr} {ps : List (Int × Int)} (h : w.ownsRow b e 2 (.slice A n c) n (cellsP ps)) : PtsAt w w.heap.size A ps := by
  obtain ⟨A2, c2, e2, _, hp⟩ := LawInt.own_pts h
  injection e2 with e2 e3 e4
  subst e2
  exact hp

end Go.Proofs.Ytonbpmabmjhdgab.FiltImpl

