/-
  A room that is moved has no more corners. No program stands here.
-/
import Derived.Test.YtgelkpaiabhklaaMovMath
namespace Go.Proofs.Ytgelkpaiabhklaa.MovMath
open PointMath WallMath RoomMath TurnrMath
theorem mov_len (dx dy : Int) (ps : List (Int × Int)) : (if movOk dx dy ps then movL dx dy ps else []).length ≤ ps.length := by
  split
  · unfold movL
    rw [mvTo_len]; exact Nat.le_refl _
  · simp
end Go.Proofs.Ytgelkpaiabhklaa.MovMath
