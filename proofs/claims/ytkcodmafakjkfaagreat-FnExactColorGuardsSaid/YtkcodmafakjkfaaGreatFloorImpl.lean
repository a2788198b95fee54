/-
  What the landed FloorPoints does, as a contract: the points of the floor in new memory; no old cell is written.
-/
import Derived.Test.YtkcodmafakjkfaaGreatPlaceImpl
import Derived.Test.YtkcodmafakjkfaaGreatFacts
import Derived.Test.YtkcodmafakjkfaaGreatGround
namespace Go.Proofs.YtkcodmafakjkfaaGreat.FloorImpl
open Go.RowKit Own PointMath WallMath RoomMath Pts Blk AreaMath PlaceMath FloorMath
open PointOk (ret_bool ret_i64 below1 below2 below3)

theorem infoP : (Tryz.prog.info? 40).map (fun i => (i.zero, i.size, i.bytes)) = some (some (.agg #[.int .i64 0, .int .i64 0]), 2, 16) := by kernel_rfl
/-- The first point of the slice at ad, its address spelt plainly. -/
def PtHere (w : World) (ad : Addr) (x y : Int) : Prop := w.cell? ad = some (.int .i64 x) ∧ w.cell? ⟨ad.block, ad.off + 1, none⟩ = some (.int .i64 y)
theorem PtHere.later {w w' : World} {b : Nat} {ad : Addr} {x y : Int} (h : PtHere w ad x y) (ha : ad.block < b) (hb : Below b w w') : PtHere w' ad x y :=
  ⟨(hb.cell ha).trans h.1, (hb.cell (p := ⟨ad.block, ad.off + 1, none⟩) ha).trans h.2⟩
theorem here {w : World} {ad : Addr} {x y : Int} (h : PtAt w ad 0 x y) : PtHere w ad x y := by
  have e : ad.add (0 * 2) = ad := by simp [Addr.add]
  unfold PtAt at h
  rw [e] at h
  exact h
theorem cellsP_app : ∀ (ps qs : List (Int × Int)), cellsP (ps ++ qs) = cellsP ps ++ cellsP qs
  | [], _ => rfl
  | p :: ps, qs => by simp [cellsP, cellsP_app ps qs]

end Go.Proofs.YtkcodmafakjkfaaGreat.FloorImpl

