/-
  A camera turned by a quarter: plain facts. No program stands here.
-/
import Derived.Test.YtonbpmabmjhdgaaTrackMath
namespace Go.Proofs.Ytonbpmabmjhdgaa.TurncMath
open PointMath TrackMath

def turnX (ax ay _px py : Int) : Int := ax - (py - ay)
def turnY (ax ay px _py : Int) : Int := ay + px - ax
/-- The camera is one, and so it is when it is turned. -/
def tcB (ax ay rx ry lx ly q : Int) : Bool := camB ax ay rx ry lx ly q && camB ax ay (turnX ax ay rx ry) (turnY ax ay rx ry) (turnX ax ay lx ly) (turnY ax ay lx ly) q
def sel (b : Bool) (x y : Int) : Int := if b then x else y
/-- What TurnCamera answers: a camera, and whether it was turned. -/
def tcV (ax ay rx ry lx ly q : Int) : Value :=
  .tuple #[.agg #[.int .i64 ax, .int .i64 ay, .int .i64 (sel (tcB ax ay rx ry lx ly q) (turnX ax ay rx ry) rx), .int .i64 (sel (tcB ax ay rx ry lx ly q) (turnY ax ay rx ry) ry), .int .i64 (sel (tcB ax ay rx ry lx ly q) (turnX ax ay lx ly) lx), .int .i64 (sel (tcB ax ay rx ry lx ly q) (turnY ax ay lx ly) ly), .int .i64 q], .bool (tcB ax ay rx ry lx ly q)]
theorem tc_no {ax ay rx ry lx ly q : Int} (h : tcB ax ay rx ry lx ly q = false) : tcV ax ay rx ry lx ly q = .tuple #[.agg #[.int .i64 ax, .int .i64 ay, .int .i64 rx, .int .i64 ry, .int .i64 lx, .int .i64 ly, .int .i64 q], .bool false] := by
  unfold tcV; rw [h]; rfl
theorem tc_yes {ax ay rx ry lx ly q : Int} (h : tcB ax ay rx ry lx ly q = true) : tcV ax ay rx ry lx ly q = .tuple #[.agg #[.int .i64 ax, .int .i64 ay, .int .i64 (turnX ax ay rx ry), .int .i64 (turnY ax ay rx ry), .int .i64 (turnX ax ay lx ly), .int .i64 (turnY ax ay lx ly), .int .i64 q], .bool true] := by
  unfold tcV; rw [h]; rfl
theorem tc_no1 {ax ay rx ry lx ly q : Int} (h : camB ax ay rx ry lx ly q = false) : tcB ax ay rx ry lx ly q = false := by unfold tcB; rw [h]; rfl
end Go.Proofs.Ytonbpmabmjhdgaa.TurncMath
