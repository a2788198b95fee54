/-
  Plain facts on rooms: lists of points. No program stands here.
-/
import Derived.Test.YtkhgpdkabhahhabWallMath
namespace Go.Proofs.Ytkhgpdkabhahhab.RoomMath
open PointMath WallMath

/-- Which of n corners has the index k, going round. -/
def ixI (n : Nat) (k : Int) : Nat := ((k.tmod n + n).tmod n).toNat
def cornerI (ps : List (Int × Int)) (k : Int) : Int × Int := if ps.length = 0 ∨ ¬(-1000 ≤ k ∧ k ≤ 1000) then (0, 0) else ps.getD (ixI ps.length k) (0, 0)

theorem ix_tmod {n : Nat} {k : Int} (hn : 0 < n) : -(n : Int) < k.tmod n ∧ k.tmod n < n := by
  have h1 := Int.natAbs_tmod k n
  have h2 := Nat.mod_lt k.natAbs (show 0 < (n : Int).natAbs by omega)
  omega
theorem ix_lt {n : Nat} {k : Int} (hn : 0 < n) : (k.tmod n + n).tmod n = (ixI n k : Int) ∧ ixI n k < n := by
  have h := ix_tmod (k := k) hn
  have e : (k.tmod n + n).tmod n = (k.tmod n + n) % n := Int.tmod_eq_emod_of_nonneg (by omega)
  have h1 := Int.emod_nonneg (k.tmod n + n) (show (n : Int) ≠ 0 by omega)
  have h2 := Int.emod_lt_of_pos (k.tmod n + n) (show (0 : Int) < n by omega)
  unfold ixI
  rw [e]
  omega
end Go.Proofs.Ytkhgpdkabhahhab.RoomMath
