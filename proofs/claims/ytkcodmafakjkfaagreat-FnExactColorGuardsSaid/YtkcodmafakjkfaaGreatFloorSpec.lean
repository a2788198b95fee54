/-
  What the model's FloorPoints does, as a contract: the points of the floor in new memory; no old cell is written.
-/
import Derived.Test.YtkcodmafakjkfaaGreatPlaceSpec
import Derived.Test.YtkcodmafakjkfaaGreatFacts
import Derived.Test.YtkcodmafakjkfaaGreatGround
import Derived.BigRegion
namespace Go.Proofs.YtkcodmafakjkfaaGreat.FloorSpec
open Go.RowKit Own PointMath WallMath RoomMath Pts Blk AreaMath PlaceMath FloorMath
open PointOk (ret_bool ret_i64 below1 below2 below3)

theorem infoP : (Tryz.prog.info? 40).map (fun i => (i.zero, i.size, i.bytes)) = some (some (.agg #[.int .i64 0, .int .i64 0]), 2, 16) := by kernel_rfl
theorem cellsP_app : ∀ (ps qs : List (Int × Int)), cellsP (ps ++ qs) = cellsP ps ++ cellsP qs
  | [], _ => rfl
  | p :: ps, qs => by simp [cellsP, cellsP_app ps qs]

/-- What lies in memory while the box is sought. -/
structure FT (w : World) (K : Nat) (A : Option Addr) (n cap : Nat) (ps : List (Int × Int)) (lx ly hx hy : Int) (W : World) : Prop where
  room : W.cell? ⟨w.heap.size, 0, none⟩ = some (.slice A n cap)
  pts : PtsAt W w.heap.size A ps
  nil : Holds W (w.heap.size + 1) #[] 40
  low : Holds W K #[.int .i64 lx, .int .i64 ly] 40
  high : Holds W (K + 1) #[.int .i64 hx, .int .i64 hy] 40
  size : K + 2 ≤ W.heap.size
  kk : w.heap.size + 2 ≤ K
  bel : Below w.heap.size w W
theorem FT.set {w : World} {K : Nat} {A : Option Addr} {n cap : Nat} {ps : List (Int × Int)} {lx ly hx hy : Int} {W : World} (h : FT w K A n cap ps lx ly hx hy W) (x : Int) :
    FT w K A n cap ps x ly hx hy (W.setCell ⟨K, 0, none⟩ (.int .i64 x)) ∧ FT w K A n cap ps lx x hx hy (W.setCell ⟨K, 1, none⟩ (.int .i64 x)) ∧
    FT w K A n cap ps lx ly x hy (W.setCell ⟨K + 1, 0, none⟩ (.int .i64 x)) ∧ FT w K A n cap ps lx ly hx x (W.setCell ⟨K + 1, 1, none⟩ (.int .i64 x)) := by
  have hk := h.kk
  have b : ∀ (p : Addr), w.heap.size + 2 ≤ p.block → Below (w.heap.size + 2) W (W.setCell p (.int .i64 x)) := fun p hp => (Below.refl _ _).setCell hp _
  have k : ∀ (p : Addr), w.heap.size + 2 ≤ p.block → (W.setCell p (.int .i64 x)).cell? ⟨w.heap.size, 0, none⟩ = some (.slice A n cap) ∧ PtsAt (W.setCell p (.int .i64 x)) w.heap.size A ps ∧ Holds (W.setCell p (.int .i64 x)) (w.heap.size + 1) #[] 40 ∧ K + 2 ≤ (W.setCell p (.int .i64 x)).heap.size ∧ Below w.heap.size w (W.setCell p (.int .i64 x)) := fun p hp =>
    ⟨((b p hp).cell (by show w.heap.size < _; omega)).trans h.room, h.pts.later ((b p hp).mono (by omega)), ((b p hp).block _ (by omega)).trans h.nil, Nat.le_trans h.size (b p hp).size, h.bel.trans ((b p hp).mono (by omega))⟩
  refine ⟨?_, ?_, ?_, ?_⟩
  · obtain ⟨k1, k2, k3, k4, k5⟩ := k ⟨K, 0, none⟩ hk
    exact ⟨k1, k2, k3, Blk.set_own h.low 0 _, h.high.far _ _ (by simp), k4, hk, k5⟩
  · obtain ⟨k1, k2, k3, k4, k5⟩ := k ⟨K, 1, none⟩ hk
    exact ⟨k1, k2, k3, Blk.set_own h.low 1 _, h.high.far _ _ (by simp), k4, hk, k5⟩
  · obtain ⟨k1, k2, k3, k4, k5⟩ := k ⟨K + 1, 0, none⟩ (by show _ ≤ K + 1; omega)
    exact ⟨k1, k2, k3, h.low.far _ _ (by simp), Blk.set_own h.high 0 _, k4, hk, k5⟩
  · obtain ⟨k1, k2, k3, k4, k5⟩ := k ⟨K + 1, 1, none⟩ (by show _ ≤ K + 1; omega)
    exact ⟨k1, k2, k3, h.low.far _ _ (by simp), Blk.set_own h.high 1 _, k4, hk, k5⟩
theorem FT.drew {w : World} {K : Nat} {A : Option Addr} {n cap : Nat} {ps : List (Int × Int)} {lx ly hx hy : Int} {W : World} (h : FT w K A n cap ps lx ly hx hy W) : FT w K A n cap ps lx ly hx hy W.drew :=
  ⟨h.room, h.pts, h.nil, h.low, h.high, h.size, h.kk, h.bel.drew⟩

end Go.Proofs.YtkcodmafakjkfaaGreat.FloorSpec

