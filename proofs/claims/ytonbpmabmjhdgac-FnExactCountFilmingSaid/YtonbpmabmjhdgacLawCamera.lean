/-
  The law's own copy of a Camera, and of a slice of them, as contracts.
-/
import Derived.Test.YtonbpmabmjhdgacGround
import Derived.Test.YtonbpmabmjhdgacLawRoom
import Derived.Test.YtonbpmabmjhdgacTup7
import Derived.Test.YtonbpmabmjhdgacLawInt
namespace Go.Proofs.Ytonbpmabmjhdgac.LawCamera
open Go.RowKit PointOk Blk Tup7 Go.Lib Own LawInt

theorem facts {w : World} {k : Nat} {v0 v1 v2 v3 v4 v5 v6 : Value} {T : TypeId} (h : Holds w k #[v0, v1, v2, v3, v4, v5, v6] T) :
    (w.cell? ⟨k, 0, none⟩ = some v0 ∧ w.cell? ⟨k, 1, none⟩ = some v1 ∧ w.cell? ⟨k, 2, none⟩ = some v2 ∧ w.cell? ⟨k, 3, none⟩ = some v3 ∧ w.cell? ⟨k, 4, none⟩ = some v4 ∧ w.cell? ⟨k, 5, none⟩ = some v5 ∧ w.cell? ⟨k, 6, none⟩ = some v6) ∧ w.frozen? ⟨k, 0, none⟩ = false ∧ w.frozen? ⟨k, 1, none⟩ = false ∧ w.frozen? ⟨k, 2, none⟩ = false ∧ w.frozen? ⟨k, 3, none⟩ = false ∧ w.frozen? ⟨k, 4, none⟩ = false ∧ w.frozen? ⟨k, 5, none⟩ = false ∧ w.frozen? ⟨k, 6, none⟩ = false := by
  have c0 := cell_of_row w k 0 _ _ _ h
  have c1 := cell_of_row w k 1 _ _ _ h
  have c2 := cell_of_row w k 2 _ _ _ h
  have c3 := cell_of_row w k 3 _ _ _ h
  have c4 := cell_of_row w k 4 _ _ _ h
  have c5 := cell_of_row w k 5 _ _ _ h
  have c6 := cell_of_row w k 6 _ _ _ h
  unfold Holds at h
  simp at c0 c1 c2 c3 c4 c5 c6
  exact ⟨⟨c0, c1, c2, c3, c4, c5, c6⟩, by simp [World.frozen?, h], by simp [World.frozen?, h], by simp [World.frozen?, h], by simp [World.frozen?, h], by simp [World.frozen?, h], by simp [World.frozen?, h], by simp [World.frozen?, h]⟩

set_option maxHeartbeats 800000 in
theorem toCamera (z0 z1 z2 z3 z4 z5 z6 : Int) (w : World) : Calls Try.prog 26 #[.agg #[.int .i64 z0, .int .i64 z1, .int .i64 z2, .int .i64 z3, .int .i64 z4, .int .i64 z5, .int .i64 z6]] w fun e w' => e = .returned (.agg #[.int .i64 z0, .int .i64 z1, .int .i64 z2, .int .i64 z3, .int .i64 z4, .int .i64 z5, .int .i64 z6]) ∧ Below w.heap.size w w' := by
  have hb := below3 w (Obj.cells #[.int .i64 z0, .int .i64 z1, .int .i64 z2, .int .i64 z3, .int .i64 z4, .int .i64 z5, .int .i64 z6] 40) (Obj.cells #[.int .i64 0, .int .i64 0, .int .i64 0, .int .i64 0, .int .i64 0, .int .i64 0, .int .i64 0] 44) (Obj.cells #[.int .i64 0, .int .i64 0, .int .i64 0, .int .i64 0, .int .i64 0, .int .i64 0, .int .i64 0] 44)
  have B0 : Holds (((w.alloc (Obj.cells #[.int .i64 z0, .int .i64 z1, .int .i64 z2, .int .i64 z3, .int .i64 z4, .int .i64 z5, .int .i64 z6] 40)).alloc (Obj.cells #[.int .i64 0, .int .i64 0, .int .i64 0, .int .i64 0, .int .i64 0, .int .i64 0, .int .i64 0] 44)).alloc (Obj.cells #[.int .i64 0, .int .i64 0, .int .i64 0, .int .i64 0, .int .i64 0, .int .i64 0, .int .i64 0] 44)) w.heap.size #[.int .i64 z0, .int .i64 z1, .int .i64 z2, .int .i64 z3, .int .i64 z4, .int .i64 z5, .int .i64 z6] 40 := ((Holds.new w _ _).below (below1 _ _) (by simp)).below (below1 _ _) (by simp; omega)
  have B1 : Holds (((w.alloc (Obj.cells #[.int .i64 z0, .int .i64 z1, .int .i64 z2, .int .i64 z3, .int .i64 z4, .int .i64 z5, .int .i64 z6] 40)).alloc (Obj.cells #[.int .i64 0, .int .i64 0, .int .i64 0, .int .i64 0, .int .i64 0, .int .i64 0, .int .i64 0] 44)).alloc (Obj.cells #[.int .i64 0, .int .i64 0, .int .i64 0, .int .i64 0, .int .i64 0, .int .i64 0, .int .i64 0] 44)) (w.heap.size + 1) #[.int .i64 0, .int .i64 0, .int .i64 0, .int .i64 0, .int .i64 0, .int .i64 0, .int .i64 0] 44 := by
    have := (Holds.new (w.alloc (Obj.cells #[.int .i64 z0, .int .i64 z1, .int .i64 z2, .int .i64 z3, .int .i64 z4, .int .i64 z5, .int .i64 z6] 40)) #[.int .i64 0, .int .i64 0, .int .i64 0, .int .i64 0, .int .i64 0, .int .i64 0, .int .i64 0] 44).below (below1 _ (Obj.cells #[.int .i64 0, .int .i64 0, .int .i64 0, .int .i64 0, .int .i64 0, .int .i64 0, .int .i64 0] 44)) (by simp)
    simpa using this
  have B2 : Holds (((w.alloc (Obj.cells #[.int .i64 z0, .int .i64 z1, .int .i64 z2, .int .i64 z3, .int .i64 z4, .int .i64 z5, .int .i64 z6] 40)).alloc (Obj.cells #[.int .i64 0, .int .i64 0, .int .i64 0, .int .i64 0, .int .i64 0, .int .i64 0, .int .i64 0] 44)).alloc (Obj.cells #[.int .i64 0, .int .i64 0, .int .i64 0, .int .i64 0, .int .i64 0, .int .i64 0, .int .i64 0] 44)) (w.heap.size + 1 + 1) #[.int .i64 0, .int .i64 0, .int .i64 0, .int .i64 0, .int .i64 0, .int .i64 0, .int .i64 0] 44 := by
    have := Holds.new ((w.alloc (Obj.cells #[.int .i64 z0, .int .i64 z1, .int .i64 z2, .int .i64 z3, .int .i64 z4, .int .i64 z5, .int .i64 z6] 40)).alloc (Obj.cells #[.int .i64 0, .int .i64 0, .int .i64 0, .int .i64 0, .int .i64 0, .int .i64 0, .int .i64 0] 44)) #[.int .i64 0, .int .i64 0, .int .i64 0, .int .i64 0, .int .i64 0, .int .i64 0, .int .i64 0] 44
    simpa using this
  have hz : w.heap.size + 3 ≤ (((w.alloc (Obj.cells #[.int .i64 z0, .int .i64 z1, .int .i64 z2, .int .i64 z3, .int .i64 z4, .int .i64 z5, .int .i64 z6] 40)).alloc (Obj.cells #[.int .i64 0, .int .i64 0, .int .i64 0, .int .i64 0, .int .i64 0, .int .i64 0, .int .i64 0] 44)).alloc (Obj.cells #[.int .i64 0, .int .i64 0, .int .i64 0, .int .i64 0, .int .i64 0, .int .i64 0, .int .i64 0] 44)).heap.size := by simp
  go_enter Try.func26, Try.ntmps26
  go_wp2_with fail
  generalize (((w.alloc (Obj.cells #[.int .i64 z0, .int .i64 z1, .int .i64 z2, .int .i64 z3, .int .i64 z4, .int .i64 z5, .int .i64 z6] 40)).alloc (Obj.cells #[.int .i64 0, .int .i64 0, .int .i64 0, .int .i64 0, .int .i64 0, .int .i64 0, .int .i64 0] 44)).alloc (Obj.cells #[.int .i64 0, .int .i64 0, .int .i64 0, .int .i64 0, .int .i64 0, .int .i64 0, .int .i64 0] 44)) = W0_ at *
  refine (LawPoint.toPoint z0 z1 _).mono ?_
  rintro e w1 ⟨rfl, h1⟩
  replace B0 := B0.below h1 (by omega)
  replace B1 := B1.below h1 (by omega)
  replace B2 := B2.below h1 (by omega)
  replace hb := hb.trans (h1.mono hb.size)
  replace hz := Nat.le_trans hz h1.size
  clear h1
  obtain ⟨⟨_, _, _, _, _, _, _⟩, _⟩ := facts B0
  obtain ⟨_, _, _, _, _, _, _, _⟩ := facts B2
  go_wp2_with fail
  have C2 : Holds ((w1.setCell ⟨w.heap.size + 1 + 1, 0, none⟩ (.int .i64 z0)).setCell ⟨w.heap.size + 1 + 1, 1, none⟩ (.int .i64 z1)) (w.heap.size + 1 + 1) #[.int .i64 z0, .int .i64 z1, .int .i64 0, .int .i64 0, .int .i64 0, .int .i64 0, .int .i64 0] 44 := (set_own (set_own B2 0 (.int .i64 z0)) 1 (.int .i64 z1))
  have C1 := ((((B1).far ⟨w.heap.size + 1 + 1, 0, none⟩ (.int .i64 z0) (show ¬ w.heap.size + 1 = w.heap.size + 1 + 1 by omega))).far ⟨w.heap.size + 1 + 1, 1, none⟩ (.int .i64 z1) (show ¬ w.heap.size + 1 = w.heap.size + 1 + 1 by omega))
  have C0 := ((((B0).far ⟨w.heap.size + 1 + 1, 0, none⟩ (.int .i64 z0) (show ¬ w.heap.size = w.heap.size + 1 + 1 by omega))).far ⟨w.heap.size + 1 + 1, 1, none⟩ (.int .i64 z1) (show ¬ w.heap.size = w.heap.size + 1 + 1 by omega))
  replace hb := ((hb.setCell (p := ⟨w.heap.size + 1 + 1, 0, none⟩) (show w.heap.size ≤ w.heap.size + 1 + 1 by omega) (.int .i64 z0)).setCell (p := ⟨w.heap.size + 1 + 1, 1, none⟩) (show w.heap.size ≤ w.heap.size + 1 + 1 by omega) (.int .i64 z1))
  replace hz : w.heap.size + 3 ≤ ((w1.setCell ⟨w.heap.size + 1 + 1, 0, none⟩ (.int .i64 z0)).setCell ⟨w.heap.size + 1 + 1, 1, none⟩ (.int .i64 z1)).heap.size := by simpa [World.setCell] using hz
  clear B0 B1 B2
  generalize ((w1.setCell ⟨w.heap.size + 1 + 1, 0, none⟩ (.int .i64 z0)).setCell ⟨w.heap.size + 1 + 1, 1, none⟩ (.int .i64 z1)) = W1_ at *
  have B0 := C0
  have B1 := C1
  have B2 := C2
  clear C0 C1 C2
  refine (LawPoint.toPoint z2 z3 _).mono ?_
  rintro e w2 ⟨rfl, h1⟩
  replace B0 := B0.below h1 (by omega)
  replace B1 := B1.below h1 (by omega)
  replace B2 := B2.below h1 (by omega)
  replace hb := hb.trans (h1.mono hb.size)
  replace hz := Nat.le_trans hz h1.size
  clear h1
  obtain ⟨⟨_, _, _, _, _, _, _⟩, _⟩ := facts B0
  obtain ⟨_, _, _, _, _, _, _, _⟩ := facts B2
  go_wp2_with fail
  have C2 : Holds ((w2.setCell ⟨w.heap.size + 1 + 1, 2, none⟩ (.int .i64 z2)).setCell ⟨w.heap.size + 1 + 1, 3, none⟩ (.int .i64 z3)) (w.heap.size + 1 + 1) #[.int .i64 z0, .int .i64 z1, .int .i64 z2, .int .i64 z3, .int .i64 0, .int .i64 0, .int .i64 0] 44 := (set_own (set_own B2 2 (.int .i64 z2)) 3 (.int .i64 z3))
  have C1 := ((((B1).far ⟨w.heap.size + 1 + 1, 2, none⟩ (.int .i64 z2) (show ¬ w.heap.size + 1 = w.heap.size + 1 + 1 by omega))).far ⟨w.heap.size + 1 + 1, 3, none⟩ (.int .i64 z3) (show ¬ w.heap.size + 1 = w.heap.size + 1 + 1 by omega))
  have C0 := ((((B0).far ⟨w.heap.size + 1 + 1, 2, none⟩ (.int .i64 z2) (show ¬ w.heap.size = w.heap.size + 1 + 1 by omega))).far ⟨w.heap.size + 1 + 1, 3, none⟩ (.int .i64 z3) (show ¬ w.heap.size = w.heap.size + 1 + 1 by omega))
  replace hb := ((hb.setCell (p := ⟨w.heap.size + 1 + 1, 2, none⟩) (show w.heap.size ≤ w.heap.size + 1 + 1 by omega) (.int .i64 z2)).setCell (p := ⟨w.heap.size + 1 + 1, 3, none⟩) (show w.heap.size ≤ w.heap.size + 1 + 1 by omega) (.int .i64 z3))
  replace hz : w.heap.size + 3 ≤ ((w2.setCell ⟨w.heap.size + 1 + 1, 2, none⟩ (.int .i64 z2)).setCell ⟨w.heap.size + 1 + 1, 3, none⟩ (.int .i64 z3)).heap.size := by simpa [World.setCell] using hz
  clear B0 B1 B2
  generalize ((w2.setCell ⟨w.heap.size + 1 + 1, 2, none⟩ (.int .i64 z2)).setCell ⟨w.heap.size + 1 + 1, 3, none⟩ (.int .i64 z3)) = W2_ at *
  have B0 := C0
  have B1 := C1
  have B2 := C2
  clear C0 C1 C2
  refine (LawPoint.toPoint z4 z5 _).mono ?_
  rintro e w3 ⟨rfl, h1⟩
  replace B0 := B0.below h1 (by omega)
  replace B1 := B1.below h1 (by omega)
  replace B2 := B2.below h1 (by omega)
  replace hb := hb.trans (h1.mono hb.size)
  replace hz := Nat.le_trans hz h1.size
  clear h1
  obtain ⟨⟨_, _, _, _, _, _, _⟩, _⟩ := facts B0
  obtain ⟨_, _, _, _, _, _, _, _⟩ := facts B2
  have C2 : Holds (((w3.setCell ⟨w.heap.size + 1 + 1, 4, none⟩ (.int .i64 z4)).setCell ⟨w.heap.size + 1 + 1, 5, none⟩ (.int .i64 z5)).setCell ⟨w.heap.size + 1 + 1, 6, none⟩ (.int .i64 z6)) (w.heap.size + 1 + 1) #[.int .i64 z0, .int .i64 z1, .int .i64 z2, .int .i64 z3, .int .i64 z4, .int .i64 z5, .int .i64 z6] 44 := (set_own (set_own (set_own B2 4 (.int .i64 z4)) 5 (.int .i64 z5)) 6 (.int .i64 z6))
  have C1 := ((((((B1).far ⟨w.heap.size + 1 + 1, 4, none⟩ (.int .i64 z4) (show ¬ w.heap.size + 1 = w.heap.size + 1 + 1 by omega))).far ⟨w.heap.size + 1 + 1, 5, none⟩ (.int .i64 z5) (show ¬ w.heap.size + 1 = w.heap.size + 1 + 1 by omega))).far ⟨w.heap.size + 1 + 1, 6, none⟩ (.int .i64 z6) (show ¬ w.heap.size + 1 = w.heap.size + 1 + 1 by omega))
  have C0 := ((((((B0).far ⟨w.heap.size + 1 + 1, 4, none⟩ (.int .i64 z4) (show ¬ w.heap.size = w.heap.size + 1 + 1 by omega))).far ⟨w.heap.size + 1 + 1, 5, none⟩ (.int .i64 z5) (show ¬ w.heap.size = w.heap.size + 1 + 1 by omega))).far ⟨w.heap.size + 1 + 1, 6, none⟩ (.int .i64 z6) (show ¬ w.heap.size = w.heap.size + 1 + 1 by omega))
  replace hb := (((hb.setCell (p := ⟨w.heap.size + 1 + 1, 4, none⟩) (show w.heap.size ≤ w.heap.size + 1 + 1 by omega) (.int .i64 z4)).setCell (p := ⟨w.heap.size + 1 + 1, 5, none⟩) (show w.heap.size ≤ w.heap.size + 1 + 1 by omega) (.int .i64 z5)).setCell (p := ⟨w.heap.size + 1 + 1, 6, none⟩) (show w.heap.size ≤ w.heap.size + 1 + 1 by omega) (.int .i64 z6))
  replace hz : w.heap.size + 3 ≤ (((w3.setCell ⟨w.heap.size + 1 + 1, 4, none⟩ (.int .i64 z4)).setCell ⟨w.heap.size + 1 + 1, 5, none⟩ (.int .i64 z5)).setCell ⟨w.heap.size + 1 + 1, 6, none⟩ (.int .i64 z6)).heap.size := by simpa [World.setCell] using hz
  clear B0 B1 B2
  obtain ⟨⟨b0_, b1_, b2_, b3_, b4_, b5_, b6_⟩, _⟩ := facts C2
  obtain ⟨_, g0_, g1_, g2_, g3_, g4_, g5_, g6_⟩ := facts C1
  go_wp2_with fail
  have E1 := (set_own (set_own (set_own (set_own (set_own (set_own (set_own C1 0 (.int .i64 z0)) 1 (.int .i64 z1)) 2 (.int .i64 z2)) 3 (.int .i64 z3)) 4 (.int .i64 z4)) 5 (.int .i64 z5)) 6 (.int .i64 z6))
  obtain ⟨⟨c0_, c1_, c2_, c3_, c4_, c5_, c6_⟩, _⟩ := facts E1
  refine bodyPost_ret (v := .agg #[.int .i64 z0, .int .i64 z1, .int .i64 z2, .int .i64 z3, .int .i64 z4, .int .i64 z5, .int .i64 z6]) (by simp [results, Try.results26, go_sem, c0_, c1_, c2_, c3_, c4_, c5_, c6_]) rfl ⟨rfl, ?_⟩
  exact (((((((hb.setCell (p := ⟨w.heap.size + 1, 0, none⟩) (show w.heap.size ≤ w.heap.size + 1 by omega) (.int .i64 z0)).setCell (p := ⟨w.heap.size + 1, 1, none⟩) (show w.heap.size ≤ w.heap.size + 1 by omega) (.int .i64 z1)).setCell (p := ⟨w.heap.size + 1, 2, none⟩) (show w.heap.size ≤ w.heap.size + 1 by omega) (.int .i64 z2)).setCell (p := ⟨w.heap.size + 1, 3, none⟩) (show w.heap.size ≤ w.heap.size + 1 by omega) (.int .i64 z3)).setCell (p := ⟨w.heap.size + 1, 4, none⟩) (show w.heap.size ≤ w.heap.size + 1 by omega) (.int .i64 z4)).setCell (p := ⟨w.heap.size + 1, 5, none⟩) (show w.heap.size ≤ w.heap.size + 1 by omega) (.int .i64 z5)).setCell (p := ⟨w.heap.size + 1, 6, none⟩) (show w.heap.size ≤ w.heap.size + 1 by omega) (.int .i64 z6))

theorem infoCamera : (Try.prog.info? 44).map (fun i => (i.zero, i.size, i.bytes)) = some (some (.agg #[.int .i64 0, .int .i64 0, .int .i64 0, .int .i64 0, .int .i64 0, .int .i64 0, .int .i64 0]), 7, 56) := by kernel_rfl
set_option maxHeartbeats 800000 in
theorem toCameraS (A : Option Addr) (ps : List Tu) (n cap : Nat) (w : World) (hl : ps.length = n) (hn : n ≤ 1048576) (hp : TsAt w w.heap.size A ps) :
    Calls Try.prog 36 #[.slice A n cap] w fun e w' => ∃ g, e = .returned (.slice (some ⟨g, 0, none⟩) n n) ∧ Row w' g 44 ps ∧ w.heap.size ≤ g ∧ g < w'.heap.size ∧ Below w.heap.size w w' := by
  obtain ⟨i0, hi, hz0, hz1, hz2⟩ := info_parts infoCamera
  go_enter Try.func36, Try.ntmps36
  go_wp2_with (at_make; go_must (refine wpList_make_full _ rfl _ _ 55 rfl w.heap.size 44 i0 (.agg #[.int .i64 0, .int .i64 0, .int .i64 0, .int .i64 0, .int .i64 0, .int .i64 0, .int .i64 0]) 7 Try.underlying55 hi hz0 hz1 _ _ _ _ n rfl rfl (by omega) (by omega) ?b2 ?b3 (Nat.le_refl _) ?_))
  case b2 => rw [hz2]; omega
  case b3 => unfold maxLen; omega
  intro w0 hown0 hgr0
  have hb0 : Below w.heap.size w w0 := Below.grown (Below.refl _ _) hgr0 (Nat.le_refl _) (fun g' hg' => by cases hg')
  rw [zeros n] at hown0
  obtain ⟨R0, _, hlt0⟩ := Row.of_owns hown0
  replace hp := hp.later hb0
  clear hown0 hgr0
  go_wp2_with fail
  obtain ⟨g, hg⟩ : ∃ g, w.heap.size = g := ⟨_, rfl⟩
  rw [hg] at hp hb0 R0 hlt0 ⊢
  go_loopw [4] (fun i wr => ∃ (k : Nat) (qs : List Tu), k ≤ n ∧ i = .int .i64 k ∧ qs.length = n ∧ Hid (∀ j, j < k → qs[j]? = ps[j]?) ∧ Row wr g 44 qs ∧ TsAt wr g A ps ∧ g < wr.heap.size ∧ Below g w wr)
    (fun i _ => n - (intOf i).toNat)
  case atStart => exact ⟨0, List.replicate n (0, 0, 0, 0, 0, 0, 0), Nat.zero_le _, rfl, by simp, Lib.hid (fun j hj => absurd hj (by omega)), R0, hp, hlt0, hb0⟩
  case round =>
    clear R0 hp hb0 hlt0
    obtain ⟨k, qs, hk, rfl, hq, hsame, R, hp, hlt, hb⟩ := hrel
    by_cases hkn : k < n
    · obtain ⟨ad, rfl, hbl, c0, c1, c2, c3, c4, c5, c6⟩ := hp k (by omega)
      have hk1 : (k : Int) < (n : Int) := by omega
      obtain ⟨p, hpk⟩ : ∃ p, ps[k]'(by omega) = p := ⟨_, rfl⟩
      have HP : Hid (ps[k]? = some p) := Lib.hid (by rw [List.getElem?_eq_getElem (by omega), hpk])
      rw [hpk] at c0 c1 c2 c3 c4 c5 c6
      have HQ := Lib.hid hq
      have HL := Lib.hid hl
      clear hq hl hpk
      obtain ⟨z0, z1, z2, z3, z4, z5, z6⟩ := p
      go_wp2_with fail
      refine (toCamera z0 z1 z2 z3 z4 z5 z6 _).mono ?_
      rintro e w1 ⟨rfl, hb1⟩
      replace R := R.below hb1 hlt
      replace hp := hp.later (hb1.mono (Nat.le_of_lt hlt))
      replace hb := hb.trans (hb1.mono (Nat.le_of_lt hlt))
      replace hlt := Nat.lt_of_lt_of_le hlt hb1.size
      clear hb1
      obtain ⟨⟨d0, d1, d2, d3, d4, d5, d6⟩, f0, f1, f2, f3, f4, f5, f6⟩ := R.facts k (by rw [HQ.out]; exact hkn)
      have R2 := Lib.hid (R.set k z0 z1 z2 z3 z4 z5 z6)
      have hb2 := Lib.hid (((((((hb.setCell (p := ⟨g, k * 7, none⟩) (Nat.le_refl _) (.int .i64 z0)).setCell (p := ⟨g, k * 7 + 1, none⟩) (Nat.le_refl _) (.int .i64 z1)).setCell (p := ⟨g, k * 7 + 2, none⟩) (Nat.le_refl _) (.int .i64 z2)).setCell (p := ⟨g, k * 7 + 3, none⟩) (Nat.le_refl _) (.int .i64 z3)).setCell (p := ⟨g, k * 7 + 4, none⟩) (Nat.le_refl _) (.int .i64 z4)).setCell (p := ⟨g, k * 7 + 5, none⟩) (Nat.le_refl _) (.int .i64 z5)).setCell (p := ⟨g, k * 7 + 6, none⟩) (Nat.le_refl _) (.int .i64 z6))
      clear R hb
      go_wp2_with fail
      refine ⟨⟨k + 1, qs.set k (z0, z1, z2, z3, z4, z5, z6), by omega, by go_num, by rw [List.length_set]; exact HQ.out, Lib.hid ?_, R2.out, hp.later ((((((((Below.refl g w1).setCell (p := ⟨g, k * 7, none⟩) (Nat.le_refl _) (.int .i64 z0)).setCell (p := ⟨g, k * 7 + 1, none⟩) (Nat.le_refl _) (.int .i64 z1)).setCell (p := ⟨g, k * 7 + 2, none⟩) (Nat.le_refl _) (.int .i64 z2)).setCell (p := ⟨g, k * 7 + 3, none⟩) (Nat.le_refl _) (.int .i64 z3)).setCell (p := ⟨g, k * 7 + 4, none⟩) (Nat.le_refl _) (.int .i64 z4)).setCell (p := ⟨g, k * 7 + 5, none⟩) (Nat.le_refl _) (.int .i64 z5)).setCell (p := ⟨g, k * 7 + 6, none⟩) (Nat.le_refl _) (.int .i64 z6)), by simpa [World.setCell] using hlt, hb2.out⟩, by simp [intOf]; omega⟩
      intro j hj
      rcases Nat.lt_or_ge j k with h | h
      · rw [List.getElem?_set_ne (by omega)]; exact hsame.out j h
      · obtain rfl : j = k := by omega
        rw [HP.out, List.getElem?_set_self (by rw [HQ.out]; exact hkn)]
    · obtain rfl : k = n := by omega
      obtain rfl : qs = ps := by
        apply List.ext_getElem?
        intro j
        rcases Nat.lt_or_ge j k with h | h
        · exact hsame.out j h
        · rw [List.getElem?_eq_none (by omega), List.getElem?_eq_none (by omega)]
      have HL := Lib.hid hl
      clear hl hq hp
      go_wp2_with fail
      go_ret
      exact ⟨g, rfl, R, Nat.le_refl _, hlt, hb⟩

theorem szCameraSL (A : Option Addr) (n cap : Nat) (L : Int) (hn : n ≤ 9223372036854775807) (hL : 0 ≤ L ∧ L ≤ 1048576) (w : World) :
    Calls Try.prog 34 #[.slice A n cap, .int .i64 L] w fun e w' => e = .returned (.int .i64 (if (n : Int) ≤ L then L - (n : Int) else -1)) ∧ w = w' := by
  have u1 : IntKind.i64.wrap (L - (n : Int)) = L - (n : Int) := IntWalk.i64_in _ (by omega)
  by_cases h : (n : Int) ≤ L
  · simp only [h, if_true]
    have h2 : ¬ (L - (n : Int) < 0) := by omega
    go_enter Try.func34, Try.ntmps34
    go_wp2_with fail
    go_ret
    exact ⟨rfl, rfl⟩
  · simp only [h, if_false]
    have h2 : (L - (n : Int) < 0) := by omega
    go_enter Try.func34, Try.ntmps34
    go_wp2_with fail
    go_ret
    exact ⟨rfl, rfl⟩

set_option maxHeartbeats 800000 in
theorem eqCamera_same (z0 z1 z2 z3 z4 z5 z6 : Int) (w : World) :
    Calls Try.prog 82 #[.agg #[.int .i64 z0, .int .i64 z1, .int .i64 z2, .int .i64 z3, .int .i64 z4, .int .i64 z5, .int .i64 z6], .agg #[.int .i64 z0, .int .i64 z1, .int .i64 z2, .int .i64 z3, .int .i64 z4, .int .i64 z5, .int .i64 z6]] w fun e w' => e = .returned (.bool true) ∧ Below w.heap.size w w' := by
  go_enter Try.func82, Try.ntmps82
  go_wp2_with fail
  have X0 := (Tup7.box1 w z0 z1 z2 z3 z4 z5 z6 44 (k := w.heap.size) (by simp)).alloc (Obj.cells #[.int .i64 z0, .int .i64 z1, .int .i64 z2, .int .i64 z3, .int .i64 z4, .int .i64 z5, .int .i64 z6] 44)
  have X1 := Tup7.box1 (w.alloc (Obj.cells #[.int .i64 z0, .int .i64 z1, .int .i64 z2, .int .i64 z3, .int .i64 z4, .int .i64 z5, .int .i64 z6] 44)) z0 z1 z2 z3 z4 z5 z6 44 (k := w.heap.size + 1) (by simp)
  have b0 := PointOk.below2 w (Obj.cells #[.int .i64 z0, .int .i64 z1, .int .i64 z2, .int .i64 z3, .int .i64 z4, .int .i64 z5, .int .i64 z6] 44) (Obj.cells #[.int .i64 z0, .int .i64 z1, .int .i64 z2, .int .i64 z3, .int .i64 z4, .int .i64 z5, .int .i64 z6] 44)
  have HO : ∀ W W' : World, (Tup7.Box W (w.heap.size) z0 z1 z2 z3 z4 z5 z6 ∧ Tup7.Box W (w.heap.size + 1) z0 z1 z2 z3 z4 z5 z6 ∧ Below w.heap.size w W) → Below W.heap.size W W' → (Tup7.Box W' (w.heap.size) z0 z1 z2 z3 z4 z5 z6 ∧ Tup7.Box W' (w.heap.size + 1) z0 z1 z2 z3 z4 z5 z6 ∧ Below w.heap.size w W') := fun W W' ⟨h0, h1, hb⟩ h => ⟨h0.later h, h1.later h, hb.trans (h.mono hb.size)⟩
  have hz0_ : Hid ((((w.alloc (Obj.cells #[.int .i64 z0, .int .i64 z1, .int .i64 z2, .int .i64 z3, .int .i64 z4, .int .i64 z5, .int .i64 z6] 44)).alloc (Obj.cells #[.int .i64 z0, .int .i64 z1, .int .i64 z2, .int .i64 z3, .int .i64 z4, .int .i64 z5, .int .i64 z6] 44))).heap.size = w.heap.size + 1 + 1) := Lib.hid (by simp)
  generalize ((w.alloc (Obj.cells #[.int .i64 z0, .int .i64 z1, .int .i64 z2, .int .i64 z3, .int .i64 z4, .int .i64 z5, .int .i64 z6] 44)).alloc (Obj.cells #[.int .i64 z0, .int .i64 z1, .int .i64 z2, .int .i64 z3, .int .i64 z4, .int .i64 z5, .int .i64 z6] 44)) = w0 at X0 X1 b0 hz0_ ⊢
  have S0 := (⟨X0, X1, b0⟩ : Tup7.Box w0 (w.heap.size) z0 z1 z2 z3 z4 z5 z6 ∧ Tup7.Box w0 (w.heap.size + 1) z0 z1 z2 z3 z4 z5 z6 ∧ Below w.heap.size w w0)
  clear X0 X1 b0
  obtain ⟨⟨_, _, _, _, _, _, _⟩, ⟨_, _, _, _, _, _, _⟩, _⟩ := id S0
  refine (LawRoom.eqPoint_same z0 z1 _).mono ?_
  rintro e w1 ⟨rfl, hb_⟩
  replace S0 := HO _ _ S0 hb_
  clear hb_
  obtain ⟨⟨_, _, _, _, _, _, _⟩, ⟨_, _, _, _, _, _, _⟩, _⟩ := id S0
  go_wp2_with fail
  refine (LawRoom.eqPoint_same z2 z3 _).mono ?_
  rintro e w2 ⟨rfl, hb_⟩
  replace S0 := HO _ _ S0 hb_
  clear hb_
  obtain ⟨⟨_, _, _, _, _, _, _⟩, ⟨_, _, _, _, _, _, _⟩, _⟩ := id S0
  go_wp2_with fail
  refine (LawRoom.eqPoint_same z4 z5 _).mono ?_
  rintro e w3 ⟨rfl, hb_⟩
  replace S0 := HO _ _ S0 hb_
  clear hb_
  obtain ⟨⟨_, _, _, _, _, _, _⟩, ⟨_, _, _, _, _, _, _⟩, _⟩ := id S0
  go_wp2_with fail
  go_ret
  exact ⟨rfl, S0.2.2⟩

set_option maxHeartbeats 800000 in
theorem eqCameraS_same (A B : Option Addr) (ps : List Tu) (n ca cb : Nat) (w : World) (hl : ps.length = n) (hn : n ≤ 1048576) (hA : TsAt w w.heap.size A ps) (hB : TsAt w w.heap.size B ps) :
    Calls Try.prog 38 #[.slice A n ca, .slice B n cb] w fun e w' => e = .returned (.bool true) ∧ Below w.heap.size w w' := by
  go_enter Try.func38, Try.ntmps38
  go_wp2_with fail
  go_loopw [5] (fun i wr => ∃ k : Nat, k ≤ n ∧ i = .int .i64 k ∧ TsAt wr w.heap.size A ps ∧ TsAt wr w.heap.size B ps ∧ Below w.heap.size w wr)
    (fun i _ => n - (intOf i).toNat)
  case atStart => exact ⟨0, Nat.zero_le _, rfl, hA, hB, Below.refl _ _⟩
  case round =>
    clear hA hB
    obtain ⟨k, hk, rfl, hA, hB, hb⟩ := hrel
    by_cases hkn : k < n
    · obtain ⟨p, hpk⟩ : ∃ p, ps[k]'(by omega) = p := ⟨_, rfl⟩
      obtain ⟨ad, eA, bA, pA⟩ := hA.at_ k (by omega)
      obtain ⟨ae, eB, bB, pB⟩ := hB.at_ k (by omega)
      rw [hpk] at pA pB
      subst eA eB
      obtain ⟨z0, z1, z2, z3, z4, z5, z6⟩ := p
      have hk1 : (k : Int) < (n : Int) := by omega
      have HL := Lib.hid hl
      clear hl hpk
      have HO : ∀ W W' : World, (TsAt W w.heap.size (some ad) ps ∧ TsAt W w.heap.size (some ae) ps ∧ TAt W ad k z0 z1 z2 z3 z4 z5 z6 ∧ TAt W ae k z0 z1 z2 z3 z4 z5 z6 ∧ Below w.heap.size w W) → Below W.heap.size W W' → (TsAt W' w.heap.size (some ad) ps ∧ TsAt W' w.heap.size (some ae) ps ∧ TAt W' ad k z0 z1 z2 z3 z4 z5 z6 ∧ TAt W' ae k z0 z1 z2 z3 z4 z5 z6 ∧ Below w.heap.size w W') := fun W W' ⟨x0, x1, x2, x3, hb⟩ h => ⟨x0.later (h.mono hb.size), x1.later (h.mono hb.size), x2.later bA (h.mono hb.size), x3.later bB (h.mono hb.size), hb.trans (h.mono hb.size)⟩
      have S0 : TsAt wr w.heap.size (some ad) ps ∧ TsAt wr w.heap.size (some ae) ps ∧ TAt wr ad k z0 z1 z2 z3 z4 z5 z6 ∧ TAt wr ae k z0 z1 z2 z3 z4 z5 z6 ∧ Below w.heap.size w wr := ⟨hA, hB, pA, pB, hb⟩
      clear hA hB pA pB hb
      obtain ⟨_, _, ⟨_, _, _, _, _, _, _⟩, ⟨_, _, _, _, _, _, _⟩, _⟩ := id S0
      go_wp2_with fail
      refine Settle.region (fun W => TsAt W w.heap.size (some ad) ps ∧ TsAt W w.heap.size (some ae) ps ∧ TAt W ad k z0 z1 z2 z3 z4 z5 z6 ∧ TAt W ae k z0 z1 z2 z3 z4 z5 z6 ∧ Below w.heap.size w W) (by kernel_rfl) (by kernel_rfl) (by kernel_rfl) (by kernel_rfl) (HO _ _ S0 ((Below.refl _ _).drew)) ?_
      clear S0
      repeat (first
        | (refine Settle.Settles.off (by rfl) ?_; simp only [Act.put, List.setIfInBounds_toArray, List.set_cons_zero, List.set_cons_succ])
        | (refine Settle.Settles.quiet (v := ?_) (by rfl) ?_ ?_
           rotate_left
           · (intro W hS; obtain ⟨_, _, ⟨_, _, _, _, _, _, _⟩, ⟨_, _, _, _, _, _, _⟩, _⟩ := hS; go_simp; with_reducible rfl)
           simp only [Act.put, List.setIfInBounds_toArray, List.set_cons_zero, List.set_cons_succ])
        | (refine Settle.Settles.call (v := ?_) (f := ?_) (args := ?_) (by rfl) ?_ ?_ ?_
           rotate_left 3
           · (intro W; go_simp; refine ⟨?_, ?_⟩ <;> with_reducible rfl)
           · (intro W hS; first | (go_at_call 82; (with_reducible refine (eqCamera_same z0 z1 z2 z3 z4 z5 z6 _).mono ?_); rintro e W1 ⟨rfl, hb⟩; refine ⟨?_, HO _ _ hS hb⟩; with_reducible rfl))
           simp only [Act.put, List.setIfInBounds_toArray, List.set_cons_zero, List.set_cons_succ]))
      refine Settle.Settles.nil ?_
      intro wr S0
      obtain ⟨_, _, ⟨_, _, _, _, _, _, _⟩, ⟨_, _, _, _, _, _, _⟩, _⟩ := id S0
      go_wp2_with fail
      exact ⟨⟨k + 1, by omega, by go_num, S0.1, S0.2.1, S0.2.2.2.2⟩, by simp [intOf]; omega⟩
    · obtain rfl : k = n := by omega
      clear hA hB
      go_wp2_with fail
      go_ret
      exact ⟨rfl, hb⟩

theorem own_of_row {w : World} {g n b : Nat} {T : TypeId} {ps : List Tu} (h : Row w g T ps) (hl : ps.length = n) (hn : n ≤ 1048576) (hb : b ≤ g) : w.ownsRow b T 7 (.slice (some ⟨g, 0, none⟩) n n) n (cellsT ps) :=
  ⟨by rw [cellsT_length, hl], .inr ⟨g, n, _, rfl, hb, h, Nat.le_refl _, by unfold maxLen; omega, by simp [cellsT_length, hl], List.take_of_length_le (by simp [cellsT_length, hl])⟩⟩

end Go.Proofs.Ytonbpmabmjhdgac.LawCamera

