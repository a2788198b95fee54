/-
  The law's own copy of a Camera, and of a slice of them, as contracts.
-/
import Derived.Test.YthokeedmccfalaaGround
import Derived.Test.YthokeedmccfalaaLawRoom
import Derived.Test.YthokeedmccfalaaTup7
import Derived.Test.YthokeedmccfalaaLawInt
namespace Go.Proofs.Ythokeedmccfalaa.LawCamera
open Go.RowKit PointOk Blk Tup7 Go.Lib Own LawInt

theorem facts {w : World} {k : Nat} {v0 v1 v2 v3 v4 v5 v6 : Value} {T : TypeId} (h : Holds w k #[v0, v1, v2, v3, v4, v5, v6] T) :
    (w.cell? ⟨k, 0, none⟩ = some v0 ∧ w.cell? ⟨k, 1, none⟩ = some v1 ∧ w.cell? ⟨k, 2, none⟩ = some v2 ∧ w.cell? ⟨k, 3, none⟩ = some v3 ∧ w.cell? ⟨k, 4, none⟩ = some v4 ∧ w.cell? ⟨k, 5, none⟩ = some v5 ∧ w.cell? ⟨k, 6, none⟩ = some v6) ∧ w.frozen? ⟨k, 0, none⟩ = false ∧ w.frozen? ⟨k, 1, none⟩ = false ∧ w.frozen? ⟨k, 2, none⟩ = false ∧ w.frozen? ⟨k, 3, none⟩ = false ∧ w.frozen? ⟨k, 4, none⟩ = false ∧ w.frozen? ⟨k, 5, none⟩ = false ∧ w.frozen? ⟨k, 6, none⟩ = false := by
  have c0 := cell_of_row w k 0 _ _ _ h
  have c1 := cell_of_row w k 1 _ _ _ h
  have c2 := cell_of_row w k 2 _ _ _ h
  have c3 := cell_of_row w k 3 _ _ _ h
  have c4 := cell_of_row w k 4 _ _ _ h
  have c5 := cell_of_row w k 5 _ _ _ h
  have c6 := cell_of_row w k 6 _ _ _ h
  unfold Holds at h
  simp at c0 c1 c2 c3 c4 c5 c6
  exact ⟨⟨c0, c1, c2, c3, c4, c5, c6⟩, by simp [World.frozen?, h], by simp [World.frozen?, h], by simp [World.frozen?, h], by simp [World.frozen?, h], by simp [World.frozen?, h], by simp [World.frozen?, h], by simp [World.frozen?, h]⟩

set_option maxHeartbeats 800000 in
theorem toCamera (z0 z1 z2 z3 z4 z5 z6 : Int) (w : World) : Calls Try.prog 25 #[.agg #[.int .i64 z0, .int .i64 z1, .int .i64 z2, .int .i64 z3, .int .i64 z4, .int .i64 z5, .int .i64 z6]] w fun e w' => e = .returned (.agg #[.int .i64 z0, .int .i64 z1, .int .i64 z2, .int .i64 z3, .int .i64 z4, .int .i64 z5, .int .i64 z6]) ∧ Below w.heap.size w w' := by
  have hb := below3 w (Obj.cells #[.int .i64 z0, .int .i64 z1, .int .i64 z2, .int .i64 z3, .int .i64 z4, .int .i64 z5, .int .i64 z6] 47) (Obj.cells #[.int .i64 0, .int .i64 0, .int .i64 0, .int .i64 0, .int .i64 0, .int .i64 0, .int .i64 0] 51) (Obj.cells #[.int .i64 0, .int .i64 0, .int .i64 0, .int .i64 0, .int .i64 0, .int .i64 0, .int .i64 0] 51)
  have B0 : Holds (((w.alloc (Obj.cells #[.int .i64 z0, .int .i64 z1, .int .i64 z2, .int .i64 z3, .int .i64 z4, .int .i64 z5, .int .i64 z6] 47)).alloc (Obj.cells #[.int .i64 0, .int .i64 0, .int .i64 0, .int .i64 0, .int .i64 0, .int .i64 0, .int .i64 0] 51)).alloc (Obj.cells #[.int .i64 0, .int .i64 0, .int .i64 0, .int .i64 0, .int .i64 0, .int .i64 0, .int .i64 0] 51)) w.heap.size #[.int .i64 z0, .int .i64 z1, .int .i64 z2, .int .i64 z3, .int .i64 z4, .int .i64 z5, .int .i64 z6] 47 := ((Holds.new w _ _).below (below1 _ _) (by simp)).below (below1 _ _) (by simp; omega)
  have B1 : Holds (((w.alloc (Obj.cells #[.int .i64 z0, .int .i64 z1, .int .i64 z2, .int .i64 z3, .int .i64 z4, .int .i64 z5, .int .i64 z6] 47)).alloc (Obj.cells #[.int .i64 0, .int .i64 0, .int .i64 0, .int .i64 0, .int .i64 0, .int .i64 0, .int .i64 0] 51)).alloc (Obj.cells #[.int .i64 0, .int .i64 0, .int .i64 0, .int .i64 0, .int .i64 0, .int .i64 0, .int .i64 0] 51)) (w.heap.size + 1) #[.int .i64 0, .int .i64 0, .int .i64 0, .int .i64 0, .int .i64 0, .int .i64 0, .int .i64 0] 51 := by
    have := (Holds.new (w.alloc (Obj.cells #[.int .i64 z0, .int .i64 z1, .int .i64 z2, .int .i64 z3, .int .i64 z4, .int .i64 z5, .int .i64 z6] 47)) #[.int .i64 0, .int .i64 0, .int .i64 0, .int .i64 0, .int .i64 0, .int .i64 0, .int .i64 0] 51).below (below1 _ (Obj.cells #[.int .i64 0, .int .i64 0, .int .i64 0, .int .i64 0, .int .i64 0, .int .i64 0, .int .i64 0] 51)) (by simp)
    simpa using this
  have B2 : Holds (((w.alloc (Obj.cells #[.int .i64 z0, .int .i64 z1, .int .i64 z2, .int .i64 z3, .int .i64 z4, .int .i64 z5, .int .i64 z6] 47)).alloc (Obj.cells #[.int .i64 0, .int .i64 0, .int .i64 0, .int .i64 0, .int .i64 0, .int .i64 0, .int .i64 0] 51)).alloc (Obj.cells #[.int .i64 0, .int .i64 0, .int .i64 0, .int .i64 0, .int .i64 0, .int .i64 0, .int .i64 0] 51)) (w.heap.size + 1 + 1) #[.int .i64 0, .int .i64 0, .int .i64 0, .int .i64 0, .int .i64 0, .int .i64 0, .int .i64 0] 51 := by
    have := Holds.new ((w.alloc (Obj.cells #[.int .i64 z0, .int .i64 z1, .int .i64 z2, .int .i64 z3, .int .i64 z4, .int .i64 z5, .int .i64 z6] 47)).alloc (Obj.cells #[.int .i64 0, .int .i64 0, .int .i64 0, .int .i64 0, .int .i64 0, .int .i64 0, .int .i64 0] 51)) #[.int .i64 0, .int .i64 0, .int .i64 0, .int .i64 0, .int .i64 0, .int .i64 0, .int .i64 0] 51
    simpa using this
  have hz : w.heap.size + 3 ≤ (((w.alloc (Obj.cells #[.int .i64 z0, .int .i64 z1, .int .i64 z2, .int .i64 z3, .int .i64 z4, .int .i64 z5, .int .i64 z6] 47)).alloc (Obj.cells #[.int .i64 0, .int .i64 0, .int .i64 0, .int .i64 0, .int .i64 0, .int .i64 0, .int .i64 0] 51)).alloc (Obj.cells #[.int .i64 0, .int .i64 0, .int .i64 0, .int .i64 0, .int .i64 0, .int .i64 0, .int .i64 0] 51)).heap.size := by simp
  go_enter Try.func25, Try.ntmps25
  go_wp2_with fail
  generalize (((w.alloc (Obj.cells #[.int .i64 z0, .int .i64 z1, .int .i64 z2, .int .i64 z3, .int .i64 z4, .int .i64 z5, .int .i64 z6] 47)).alloc (Obj.cells #[.int .i64 0, .int .i64 0, .int .i64 0, .int .i64 0, .int .i64 0, .int .i64 0, .int .i64 0] 51)).alloc (Obj.cells #[.int .i64 0, .int .i64 0, .int .i64 0, .int .i64 0, .int .i64 0, .int .i64 0, .int .i64 0] 51)) = W0_ at *
  refine (LawPoint.toPoint z0 z1 _).mono ?_
  rintro e w1 ⟨rfl, h1⟩
  replace B0 := B0.below h1 (by omega)
  replace B1 := B1.below h1 (by omega)
  replace B2 := B2.below h1 (by omega)
  replace hb := hb.trans (h1.mono hb.size)
  replace hz := Nat.le_trans hz h1.size
  clear h1
  obtain ⟨⟨_, _, _, _, _, _, _⟩, _⟩ := facts B0
  obtain ⟨_, _, _, _, _, _, _, _⟩ := facts B2
  go_wp2_with fail
  have C2 : Holds ((w1.setCell ⟨w.heap.size + 1 + 1, 0, none⟩ (.int .i64 z0)).setCell ⟨w.heap.size + 1 + 1, 1, none⟩ (.int .i64 z1)) (w.heap.size + 1 + 1) #[.int .i64 z0, .int .i64 z1, .int .i64 0, .int .i64 0, .int .i64 0, .int .i64 0, .int .i64 0] 51 := (set_own (set_own B2 0 (.int .i64 z0)) 1 (.int .i64 z1))
  have C1 := ((((B1).far ⟨w.heap.size + 1 + 1, 0, none⟩ (.int .i64 z0) (show ¬ w.heap.size + 1 = w.heap.size + 1 + 1 by omega))).far ⟨w.heap.size + 1 + 1, 1, none⟩ (.int .i64 z1) (show ¬ w.heap.size + 1 = w.heap.size + 1 + 1 by omega))
  have C0 := ((((B0).far ⟨w.heap.size + 1 + 1, 0, none⟩ (.int .i64 z0) (show ¬ w.heap.size = w.heap.size + 1 + 1 by omega))).far ⟨w.heap.size + 1 + 1, 1, none⟩ (.int .i64 z1) (show ¬ w.heap.size = w.heap.size + 1 + 1 by omega))
  replace hb := ((hb.setCell (p := ⟨w.heap.size + 1 + 1, 0, none⟩) (show w.heap.size ≤ w.heap.size + 1 + 1 by omega) (.int .i64 z0)).setCell (p := ⟨w.heap.size + 1 + 1, 1, none⟩) (show w.heap.size ≤ w.heap.size + 1 + 1 by omega) (.int .i64 z1))
  replace hz : w.heap.size + 3 ≤ ((w1.setCell ⟨w.heap.size + 1 + 1, 0, none⟩ (.int .i64 z0)).setCell ⟨w.heap.size + 1 + 1, 1, none⟩ (.int .i64 z1)).heap.size := by simpa [World.setCell] using hz
  clear B0 B1 B2
  generalize ((w1.setCell ⟨w.heap.size + 1 + 1, 0, none⟩ (.int .i64 z0)).setCell ⟨w.heap.size + 1 + 1, 1, none⟩ (.int .i64 z1)) = W1_ at *
  have B0 := C0
  have B1 := C1
  have B2 := C2
  clear C0 C1 C2
  refine (LawPoint.toPoint z2 z3 _).mono ?_
  rintro e w2 ⟨rfl, h1⟩
  replace B0 := B0.below h1 (by omega)
  replace B1 := B1.below h1 (by omega)
  replace B2 := B2.below h1 (by omega)
  replace hb := hb.trans (h1.mono hb.size)
  replace hz := Nat.le_trans hz h1.size
  clear h1
  obtain ⟨⟨_, _, _, _, _, _, _⟩, _⟩ := facts B0
  obtain ⟨_, _, _, _, _, _, _, _⟩ := facts B2
  go_wp2_with fail
  have C2 : Holds ((w2.setCell ⟨w.heap.size + 1 + 1, 2, none⟩ (.int .i64 z2)).setCell ⟨w.heap.size + 1 + 1, 3, none⟩ (.int .i64 z3)) (w.heap.size + 1 + 1) #[.int .i64 z0, .int .i64 z1, .int .i64 z2, .int .i64 z3, .int .i64 0, .int .i64 0, .int .i64 0] 51 := (set_own (set_own B2 2 (.int .i64 z2)) 3 (.int .i64 z3))
  have C1 := ((((B1).far ⟨w.heap.size + 1 + 1, 2, none⟩ (.int .i64 z2) (show ¬ w.heap.size + 1 = w.heap.size + 1 + 1 by omega))).far ⟨w.heap.size + 1 + 1, 3, none⟩ (.int .i64 z3) (show ¬ w.heap.size + 1 = w.heap.size + 1 + 1 by omega))
  have C0 := ((((B0).far ⟨w.heap.size + 1 + 1, 2, none⟩ (.int .i64 z2) (show ¬ w.heap.size = w.heap.size + 1 + 1 by omega))).far ⟨w.heap.size + 1 + 1, 3, none⟩ (.int .i64 z3) (show ¬ w.heap.size = w.heap.size + 1 + 1 by omega))
  replace hb := ((hb.setCell (p := ⟨w.heap.size + 1 + 1, 2, none⟩) (show w.heap.size ≤ w.heap.size + 1 + 1 by omega) (.int .i64 z2)).setCell (p := ⟨w.heap.size + 1 + 1, 3, none⟩) (show w.heap.size ≤ w.heap.size + 1 + 1 by omega) (.int .i64 z3))
  replace hz : w.heap.size + 3 ≤ ((w2.setCell ⟨w.heap.size + 1 + 1, 2, none⟩ (.int .i64 z2)).setCell ⟨w.heap.size + 1 + 1, 3, none⟩ (.int .i64 z3)).heap.size := by simpa [World.setCell] using hz
  clear B0 B1 B2
  generalize ((w2.setCell ⟨w.heap.size + 1 + 1, 2, none⟩ (.int .i64 z2)).setCell ⟨w.heap.size + 1 + 1, 3, none⟩ (.int .i64 z3)) = W2_ at *
  have B0 := C0
  have B1 := C1
  have B2 := C2
  clear C0 C1 C2
  refine (LawPoint.toPoint z4 z5 _).mono ?_
  rintro e w3 ⟨rfl, h1⟩
  replace B0 := B0.below h1 (by omega)
  replace B1 := B1.below h1 (by omega)
  replace B2 := B2.below h1 (by omega)
  replace hb := hb.trans (h1.mono hb.size)
  replace hz := Nat.le_trans hz h1.size
  clear h1
  obtain ⟨⟨_, _, _, _, _, _, _⟩, _⟩ := facts B0
  obtain ⟨_, _, _, _, _, _, _, _⟩ := facts B2
  have C2 : Holds (((w3.setCell ⟨w.heap.size + 1 + 1, 4, none⟩ (.int .i64 z4)).setCell ⟨w.heap.size + 1 + 1, 5, none⟩ (.int .i64 z5)).setCell ⟨w.heap.size + 1 + 1, 6, none⟩ (.int .i64 z6)) (w.heap.size + 1 + 1) #[.int .i64 z0, .int .i64 z1, .int .i64 z2, .int .i64 z3, .int .i64 z4, .int .i64 z5, .int .i64 z6] 51 := (set_own (set_own (set_own B2 4 (.int .i64 z4)) 5 (.int .i64 z5)) 6 (.int .i64 z6))
  have C1 := ((((((B1).far ⟨w.heap.size + 1 + 1, 4, none⟩ (.int .i64 z4) (show ¬ w.heap.size + 1 = w.heap.size + 1 + 1 by omega))).far ⟨w.heap.size + 1 + 1, 5, none⟩ (.int .i64 z5) (show ¬ w.heap.size + 1 = w.heap.size + 1 + 1 by omega))).far ⟨w.heap.size + 1 + 1, 6, none⟩ (.int .i64 z6) (show ¬ w.heap.size + 1 = w.heap.size + 1 + 1 by omega))
  have C0 := ((((((B0).far ⟨w.heap.size + 1 + 1, 4, none⟩ (.int .i64 z4) (show ¬ w.heap.size = w.heap.size + 1 + 1 by omega))).far ⟨w.heap.size + 1 + 1, 5, none⟩ (.int .i64 z5) (show ¬ w.heap.size = w.heap.size + 1 + 1 by omega))).far ⟨w.heap.size + 1 + 1, 6, none⟩ (.int .i64 z6) (show ¬ w.heap.size = w.heap.size + 1 + 1 by omega))
  replace hb := (((hb.setCell (p := ⟨w.heap.size + 1 + 1, 4, none⟩) (show w.heap.size ≤ w.heap.size + 1 + 1 by omega) (.int .i64 z4)).setCell (p := ⟨w.heap.size + 1 + 1, 5, none⟩) (show w.heap.size ≤ w.heap.size + 1 + 1 by omega) (.int .i64 z5)).setCell (p := ⟨w.heap.size + 1 + 1, 6, none⟩) (show w.heap.size ≤ w.heap.size + 1 + 1 by omega) (.int .i64 z6))
  replace hz : w.heap.size + 3 ≤ (((w3.setCell ⟨w.heap.size + 1 + 1, 4, none⟩ (.int .i64 z4)).setCell ⟨w.heap.size + 1 + 1, 5, none⟩ (.int .i64 z5)).setCell ⟨w.heap.size + 1 + 1, 6, none⟩ (.int .i64 z6)).heap.size := by simpa [World.setCell] using hz
  clear B0 B1 B2
  obtain ⟨⟨b0_, b1_, b2_, b3_, b4_, b5_, b6_⟩, _⟩ := facts C2
  obtain ⟨_, g0_, g1_, g2_, g3_, g4_, g5_, g6_⟩ := facts C1
  go_wp2_with fail
  have E1 := (set_own (set_own (set_own (set_own (set_own (set_own (set_own C1 0 (.int .i64 z0)) 1 (.int .i64 z1)) 2 (.int .i64 z2)) 3 (.int .i64 z3)) 4 (.int .i64 z4)) 5 (.int .i64 z5)) 6 (.int .i64 z6))
  obtain ⟨⟨c0_, c1_, c2_, c3_, c4_, c5_, c6_⟩, _⟩ := facts E1
  refine bodyPost_ret (v := .agg #[.int .i64 z0, .int .i64 z1, .int .i64 z2, .int .i64 z3, .int .i64 z4, .int .i64 z5, .int .i64 z6]) (by simp [results, Try.results25, go_sem, c0_, c1_, c2_, c3_, c4_, c5_, c6_]) rfl ⟨rfl, ?_⟩
  exact (((((((hb.setCell (p := ⟨w.heap.size + 1, 0, none⟩) (show w.heap.size ≤ w.heap.size + 1 by omega) (.int .i64 z0)).setCell (p := ⟨w.heap.size + 1, 1, none⟩) (show w.heap.size ≤ w.heap.size + 1 by omega) (.int .i64 z1)).setCell (p := ⟨w.heap.size + 1, 2, none⟩) (show w.heap.size ≤ w.heap.size + 1 by omega) (.int .i64 z2)).setCell (p := ⟨w.heap.size + 1, 3, none⟩) (show w.heap.size ≤ w.heap.size + 1 by omega) (.int .i64 z3)).setCell (p := ⟨w.heap.size + 1, 4, none⟩) (show w.heap.size ≤ w.heap.size + 1 by omega) (.int .i64 z4)).setCell (p := ⟨w.heap.size + 1, 5, none⟩) (show w.heap.size ≤ w.heap.size + 1 by omega) (.int .i64 z5)).setCell (p := ⟨w.heap.size + 1, 6, none⟩) (show w.heap.size ≤ w.heap.size + 1 by omega) (.int .i64 z6))

theorem infoCamera : (Try.prog.info? 51).map (fun i => (i.zero, i.size, i.bytes)) = some (some (.agg #[.int .i64 0, .int .i64 0, .int .i64 0, .int .i64 0, .int .i64 0, .int .i64 0, .int .i64 0]), 7, 56) := by kernel_rfl
theorem own_of_row {w : World} {g n b : Nat} {T : TypeId} {ps : List Tu} (h : Row w g T ps) (hl : ps.length = n) (hn : n ≤ 1048576) (hb : b ≤ g) : w.ownsRow b T 7 (.slice (some ⟨g, 0, none⟩) n n) n (cellsT ps) :=
  ⟨by rw [cellsT_length, hl], .inr ⟨g, n, _, rfl, hb, h, Nat.le_refl _, by unfold maxLen; omega, by simp [cellsT_length, hl], List.take_of_length_le (by simp [cellsT_length, hl])⟩⟩

end Go.Proofs.Ythokeedmccfalaa.LawCamera

