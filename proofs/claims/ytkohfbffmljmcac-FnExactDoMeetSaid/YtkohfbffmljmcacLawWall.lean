/-
  The law's own copy of a wall, as a contract.
-/
import Derived.Test.YtkohfbffmljmcacLawPoint
import Derived.Test.YtkohfbffmljmcacBlk
namespace Go.Proofs.Ytkohfbffmljmcac.LawWall
open Go.RowKit PointOk Blk

theorem toWall (x y u v : Int) (w : World) : Calls Try.prog 26 #[.agg #[.int .i64 x, .int .i64 y, .int .i64 u, .int .i64 v]] w fun e w' => e = .returned (.agg #[.int .i64 x, .int .i64 y, .int .i64 u, .int .i64 v]) ∧ Below w.heap.size w w' := by
  have hb := below3 w (Obj.cells #[.int .i64 x, .int .i64 y, .int .i64 u, .int .i64 v] 42) (Obj.cells #[.int .i64 0, .int .i64 0, .int .i64 0, .int .i64 0] 35) (Obj.cells #[.int .i64 0, .int .i64 0, .int .i64 0, .int .i64 0] 35)
  have B0 : Holds (((w.alloc (Obj.cells #[.int .i64 x, .int .i64 y, .int .i64 u, .int .i64 v] 42)).alloc (Obj.cells #[.int .i64 0, .int .i64 0, .int .i64 0, .int .i64 0] 35)).alloc (Obj.cells #[.int .i64 0, .int .i64 0, .int .i64 0, .int .i64 0] 35)) w.heap.size #[.int .i64 x, .int .i64 y, .int .i64 u, .int .i64 v] 42 := ((Holds.new w _ _).below (below1 _ _) (by simp)).below (below1 _ _) (by simp; omega)
  have B1 : Holds (((w.alloc (Obj.cells #[.int .i64 x, .int .i64 y, .int .i64 u, .int .i64 v] 42)).alloc (Obj.cells #[.int .i64 0, .int .i64 0, .int .i64 0, .int .i64 0] 35)).alloc (Obj.cells #[.int .i64 0, .int .i64 0, .int .i64 0, .int .i64 0] 35)) (w.heap.size + 1) #[.int .i64 0, .int .i64 0, .int .i64 0, .int .i64 0] 35 := by
    have := (Holds.new (w.alloc (Obj.cells #[.int .i64 x, .int .i64 y, .int .i64 u, .int .i64 v] 42)) #[.int .i64 0, .int .i64 0, .int .i64 0, .int .i64 0] 35).below (below1 _ (Obj.cells #[.int .i64 0, .int .i64 0, .int .i64 0, .int .i64 0] 35)) (by simp)
    simpa using this
  have B2 : Holds (((w.alloc (Obj.cells #[.int .i64 x, .int .i64 y, .int .i64 u, .int .i64 v] 42)).alloc (Obj.cells #[.int .i64 0, .int .i64 0, .int .i64 0, .int .i64 0] 35)).alloc (Obj.cells #[.int .i64 0, .int .i64 0, .int .i64 0, .int .i64 0] 35)) (w.heap.size + 1 + 1) #[.int .i64 0, .int .i64 0, .int .i64 0, .int .i64 0] 35 := by
    have := Holds.new ((w.alloc (Obj.cells #[.int .i64 x, .int .i64 y, .int .i64 u, .int .i64 v] 42)).alloc (Obj.cells #[.int .i64 0, .int .i64 0, .int .i64 0, .int .i64 0] 35)) #[.int .i64 0, .int .i64 0, .int .i64 0, .int .i64 0] 35
    simpa using this
  have hz : (((w.alloc (Obj.cells #[.int .i64 x, .int .i64 y, .int .i64 u, .int .i64 v] 42)).alloc (Obj.cells #[.int .i64 0, .int .i64 0, .int .i64 0, .int .i64 0] 35)).alloc (Obj.cells #[.int .i64 0, .int .i64 0, .int .i64 0, .int .i64 0] 35)).heap.size = w.heap.size + 3 := by simp
  go_enter Try.func26, Try.ntmps26
  go_wp2_with fail
  generalize (((w.alloc (Obj.cells #[.int .i64 x, .int .i64 y, .int .i64 u, .int .i64 v] 42)).alloc (Obj.cells #[.int .i64 0, .int .i64 0, .int .i64 0, .int .i64 0] 35)).alloc (Obj.cells #[.int .i64 0, .int .i64 0, .int .i64 0, .int .i64 0] 35)) = W0 at *
  refine (LawPoint.toPoint x y _).mono ?_
  rintro e w1 ⟨rfl, h1⟩
  replace B0 := B0.below h1 (by omega)
  replace B1 := B1.below h1 (by omega)
  replace B2 := B2.below h1 (by omega)
  replace hb := hb.trans (h1.mono hb.size)
  replace hz := Nat.le_trans (Nat.le_of_eq hz.symm) h1.size
  clear h1
  obtain ⟨⟨a0, a1, a2, a3⟩, _⟩ := B0.four
  obtain ⟨_, f0, f1, f2, f3⟩ := B2.four
  go_wp2_with fail
  have C2 : Holds ((w1.setCell ⟨w.heap.size + 1 + 1, 0, none⟩ (.int .i64 x)).setCell ⟨w.heap.size + 1 + 1, 1, none⟩ (.int .i64 y)) (w.heap.size + 1 + 1) #[.int .i64 x, .int .i64 y, .int .i64 0, .int .i64 0] 35 := set_own (set_own B2 0 (.int .i64 x)) 1 (.int .i64 y)
  have C1 := (B1.far ⟨w.heap.size + 1 + 1, 0, none⟩ (.int .i64 x) (show ¬ w.heap.size + 1 = w.heap.size + 1 + 1 by omega)).far ⟨w.heap.size + 1 + 1, 1, none⟩ (.int .i64 y) (show ¬ w.heap.size + 1 = w.heap.size + 1 + 1 by omega)
  replace hb := (hb.setCell (p := ⟨w.heap.size + 1 + 1, 0, none⟩) (show w.heap.size ≤ w.heap.size + 1 + 1 by omega) (.int .i64 x)).setCell (p := ⟨w.heap.size + 1 + 1, 1, none⟩) (show w.heap.size ≤ w.heap.size + 1 + 1 by omega) (.int .i64 y)
  replace hz : w.heap.size + 3 ≤ ((w1.setCell ⟨w.heap.size + 1 + 1, 0, none⟩ (.int .i64 x)).setCell ⟨w.heap.size + 1 + 1, 1, none⟩ (.int .i64 y)).heap.size := by simpa [World.setCell] using hz
  clear B0 B1 B2 a0 a1 a2 a3 f0 f1 f2 f3
  generalize ((w1.setCell ⟨w.heap.size + 1 + 1, 0, none⟩ (.int .i64 x)).setCell ⟨w.heap.size + 1 + 1, 1, none⟩ (.int .i64 y)) = W1 at *
  refine (LawPoint.toPoint u v _).mono ?_
  rintro e w2 ⟨rfl, h1⟩
  replace C1 := C1.below h1 (by omega)
  replace C2 := C2.below h1 (by omega)
  replace hb := hb.trans (h1.mono hb.size)
  clear h1 hz
  obtain ⟨⟨a0, a1, a2, a3⟩, f0, f1, f2, f3⟩ := C2.four
  have D2 : Holds ((w2.setCell ⟨w.heap.size + 1 + 1, 2, none⟩ (.int .i64 u)).setCell ⟨w.heap.size + 1 + 1, 3, none⟩ (.int .i64 v)) (w.heap.size + 1 + 1) #[.int .i64 x, .int .i64 y, .int .i64 u, .int .i64 v] 35 := set_own (set_own C2 2 (.int .i64 u)) 3 (.int .i64 v)
  have D1 := (C1.far ⟨w.heap.size + 1 + 1, 2, none⟩ (.int .i64 u) (show ¬ w.heap.size + 1 = w.heap.size + 1 + 1 by omega)).far ⟨w.heap.size + 1 + 1, 3, none⟩ (.int .i64 v) (show ¬ w.heap.size + 1 = w.heap.size + 1 + 1 by omega)
  replace hb := (hb.setCell (p := ⟨w.heap.size + 1 + 1, 2, none⟩) (show w.heap.size ≤ w.heap.size + 1 + 1 by omega) (.int .i64 u)).setCell (p := ⟨w.heap.size + 1 + 1, 3, none⟩) (show w.heap.size ≤ w.heap.size + 1 + 1 by omega) (.int .i64 v)
  obtain ⟨⟨b0, b1, b2, b3⟩, _⟩ := D2.four
  obtain ⟨_, g0, g1, g2, g3⟩ := D1.four
  go_wp2_with fail
  have E1 := set_own (set_own (set_own (set_own D1 0 (.int .i64 x)) 1 (.int .i64 y)) 2 (.int .i64 u)) 3 (.int .i64 v)
  obtain ⟨⟨c0, c1, c2, c3⟩, _⟩ := Holds.four E1
  refine bodyPost_ret (v := .agg #[.int .i64 x, .int .i64 y, .int .i64 u, .int .i64 v]) (by simp [results, Try.results26, go_sem, c0, c1, c2, c3]) rfl ⟨rfl, ?_⟩
  exact (((hb.setCell (p := ⟨w.heap.size + 1, 0, none⟩) (show w.heap.size ≤ w.heap.size + 1 by omega) (.int .i64 x)).setCell (p := ⟨w.heap.size + 1, 1, none⟩) (show w.heap.size ≤ w.heap.size + 1 by omega) (.int .i64 y)).setCell (p := ⟨w.heap.size + 1, 2, none⟩) (show w.heap.size ≤ w.heap.size + 1 by omega) (.int .i64 u)).setCell (p := ⟨w.heap.size + 1, 3, none⟩) (show w.heap.size ≤ w.heap.size + 1 by omega) (.int .i64 v)
end Go.Proofs.Ytkohfbffmljmcac.LawWall
