/-
  Points that the model draws, as contracts: a point with small coordinates; three of them.
-/
import Derived.Test.YtkohfbffmljmcacDrawBig
import Derived.Test.YtkohfbffmljmcacPointOk
import Derived.Deep.RegionHeld3
namespace Go.Proofs.Ytkohfbffmljmcac.DrawPoint
open Go.RowKit Draw PointMath PointOk

/-- A drawn point: both coordinates from -2 to 6. -/
def Small (x y : Int) : Prop := -2 ≤ x ∧ x ≤ 6 ∧ -2 ≤ y ∧ y ≤ 6
theorem Small.ok {x y : Int} (h : Small x y) : okP x y = true := by
  unfold Small at h
  exact okP_true (by omega) (by omega) (by omega) (by omega)

/-- A block of the call's own is written: nothing else is. -/
theorem grown_own {w w' : World} {row : Option Nat} (h : w.grownBy w' row) (p : Addr) (hp : w.heap.size ≤ p.block) (v : Value) : w.grownBy (w'.setCell p v) row :=
  ⟨h.os, h.tape, h.output, by simpa [World.setCell] using h.size, fun i hi hne => (Below.heap_setCell w' p v i (by intro e; omega)).trans (h.block i hi hne)⟩
theorem grown_from {w w' w2 : World} {row : Option Nat} (o : Obj) (h : (w.alloc o).grownBy w' row) (h2 : w'.grownBy w2 row) : w.grownBy w2 row := by
  have h0 : w.grownBy w row := ⟨rfl, rfl, rfl, Nat.le_refl _, fun _ _ _ => rfl⟩
  exact grown_trans (grown_alloc h0 o) (grown_trans h h2)
theorem own_row (w' : World) (p : Addr) (v : Value) : w'.grownBy (w'.setCell p v) (some p.block) :=
  ⟨rfl, rfl, rfl, by simp [World.setCell], fun i _ hne => Below.heap_setCell w' p v i (by rintro rfl; exact hne rfl)⟩
theorem st_own {w' : World} {cb : Nat} {A : Option Addr} {n cap : Nat} (hs : St w' cb A n cap) (p : Addr) (v : Value) (hp : cb < p.block) : St (w'.setCell p v) cb A n cap :=
  hs.kept (own_row w' p v) (fun g e => by injection e with e; omega)

theorem point (w : World) (cb : Nat) (A : Option Addr) (n cap : Nat) (hs : St w cb A n cap) :
    Calls Try.prog 30 #[.pointer (some ⟨cb, 0, none⟩)] w fun e w' => ∃ x y, Small x y ∧ e = .returned (.agg #[.int .i64 x, .int .i64 y]) ∧ St w' cb A n cap ∧ w.grownBy w' (some cb) := by
  have hcb := hs.lt
  go_enter Try.func30, Try.ntmps30
  go_wp2_with fail
  have hl0 := heap_alloc_new w (Obj.cells #[.int .i64 0, .int .i64 0] 25)
  refine (below _ cb A n cap (hs.alloc _) 9 (by omega)).mono ?_
  rintro e w1 ⟨x, ⟨hx0, hx1⟩, rfl, hs1, hg1⟩
  have hl1 : w1.heap[w.heap.size]? = some (Obj.cells #[.int .i64 0, .int .i64 0] 25 (0, 0)) := (hg1.block _ (by simp) (by intro e; injection e with e; omega)).trans hl0
  have c1 := cell_of_row w1 w.heap.size 0 _ _ _ hl1
  have f1 : w1.frozen? ⟨w.heap.size, 0, none⟩ = false := by simp [World.frozen?, hl1]
  simp at c1
  go_wp2_with fail
  refine (below _ cb A n cap hs1 9 (by omega)).mono ?_
  rintro e w2 ⟨y, ⟨hy0, hy1⟩, rfl, hs2, hg2⟩
  have hsz : w.heap.size < w1.heap.size := by have := hg1.size; simp at this; omega
  have hl2 : w2.heap[w.heap.size]? = some (Obj.cells #[.int .i64 0, .int .i64 0] 25 (0, 0)) := (hg2.block _ hsz (by intro e; injection e with e; omega)).trans hl1
  have c1 := cell_of_row w2 w.heap.size 0 _ _ _ hl2
  have c2 := cell_of_row w2 w.heap.size 1 _ _ _ hl2
  have f1 : w2.frozen? ⟨w.heap.size, 0, none⟩ = false := by simp [World.frozen?, hl2]
  have f2 : w2.frozen? ⟨w.heap.size, 1, none⟩ = false := by simp [World.frozen?, hl2]
  simp at c1 c2
  go_wp2_with fail
  have hl3 := heap_set_own (heap_set_own hl2 0 (.int .i64 (x - 2))) 1 (.int .i64 (y - 2))
  have d0 := cell_of_row _ w.heap.size 0 _ _ _ hl3
  have d1 := cell_of_row _ w.heap.size 1 _ _ _ hl3
  simp at d0 d1
  refine bodyPost_ret (v := .agg #[.int .i64 (x - 2), .int .i64 (y - 2)]) (by simp [results, Try.results30, go_sem, d0, d1]) rfl ⟨x - 2, y - 2, ⟨by omega, by omega, by omega, by omega⟩, rfl, ?_, ?_⟩
  · exact st_own (st_own hs2 _ _ hcb) _ _ hcb
  · exact grown_own (grown_own (grown_from _ hg1 hg2) _ (Nat.le_refl _) _) _ (Nat.le_refl _) _

/-- A block that holds two numbers, not frozen. -/
def Two (w : World) (k : Nat) (x y : Int) : Prop := w.heap[k]? = some (.cells #[.int .i64 x, .int .i64 y] 25 (0, 0))
theorem Two.facts {w : World} {k : Nat} {x y : Int} (h : Two w k x y) : w.cell? ⟨k, 0, none⟩ = some (.int .i64 x) ∧ w.cell? ⟨k, 1, none⟩ = some (.int .i64 y) ∧ w.frozen? ⟨k, 0, none⟩ = false ∧ w.frozen? ⟨k, 1, none⟩ = false := by
  have c0 := cell_of_row w k 0 _ _ _ h
  have c1 := cell_of_row w k 1 _ _ _ h
  unfold Two at h
  simp at c0 c1
  exact ⟨c0, c1, by simp [World.frozen?, h], by simp [World.frozen?, h]⟩
theorem Two.grown {w w' : World} {k cb : Nat} {x y : Int} (h : Two w k x y) (hg : w.grownBy w' (some cb)) (hk : k < w.heap.size) (hne : k ≠ cb) : Two w' k x y :=
  (hg.block k hk (by intro e; injection e with e; exact hne e)).trans h
theorem Two.below {w w' : World} {k : Nat} {x y : Int} (h : Two w k x y) (hb : Below w.heap.size w w') (hk : k < w.heap.size) : Two w' k x y := (hb.block k hk).trans h
theorem Two.new (w : World) : Two (w.alloc (Obj.cells #[.int .i64 0, .int .i64 0] 25)) w.heap.size 0 0 := heap_alloc_new w _
theorem Two.far {w : World} {k : Nat} {x y : Int} (h : Two w k x y) (p : Addr) (v : Value) (hne : k ≠ p.block) : Two (w.setCell p v) k x y := (Below.heap_setCell w p v k hne).trans h
theorem Two.set {w : World} {k : Nat} {a b : Int} (h : Two w k a b) (x y : Int) : Two ((w.setCell ⟨k, 0, none⟩ (.int .i64 x)).setCell ⟨k, 1, none⟩ (.int .i64 y)) k x y :=
  heap_set_own (heap_set_own h 0 (.int .i64 x)) 1 (.int .i64 y)
theorem far_cell {w : World} {p c : Addr} {u v : Value} (h : w.cell? c = some v) (hne : c.block ≠ p.block) : (w.setCell p u).cell? c = some v :=
  (World.cell?_of_block (w := w) (Below.heap_setCell w p u c.block hne)).trans h
theorem code_more {w w' : World} {A : Option Addr} {n : Nat} (hc : Draw.Code w w.heap.size A n) (hb : Below w.heap.size w w') : Draw.Code w' w'.heap.size A n := by
  intro j hj
  obtain ⟨ad, x, h1, h2, h3, h4, h5⟩ := hc j hj
  exact ⟨ad, x, h1, Nat.lt_of_lt_of_le h2 hb.size, h3, h4, (hb.cell (by rw [block_add]; exact h2)).trans h5⟩

set_option maxRecDepth 100000 in
set_option maxHeartbeats 200000 in
theorem drawPoints (w : World) (A : Option Addr) (n cap : Nat) (hn : n ≤ 1048576) (hcode : Draw.Code w w.heap.size A n) :
    Calls Try.prog 11 #[.slice A n cap] w fun e w' => ∃ ax ay bx bY cx cy, Small ax ay ∧ Small bx bY ∧ Small cx cy ∧
      e = .returned (.tuple #[.agg #[.int .i64 ax, .int .i64 ay], .agg #[.int .i64 bx, .int .i64 bY], .agg #[.int .i64 cx, .int .i64 cy]]) ∧ Below w.heap.size w w' := by
  have hb0 := below3 w (Obj.cells #[.int .i64 0, .int .i64 0] 25) (Obj.cells #[.int .i64 0, .int .i64 0] 25) (Obj.cells #[.int .i64 0, .int .i64 0] 25)
  have HC := Lib.hid (code_more hcode hb0)
  have T0 : Two (((w.alloc (Obj.cells #[.int .i64 0, .int .i64 0] 25)).alloc (Obj.cells #[.int .i64 0, .int .i64 0] 25)).alloc (Obj.cells #[.int .i64 0, .int .i64 0] 25)) w.heap.size 0 0 := ((Two.new w).below (below1 _ _) (by simp)).below (below1 _ _) (by simp; omega)
  have T1 : Two (((w.alloc (Obj.cells #[.int .i64 0, .int .i64 0] 25)).alloc (Obj.cells #[.int .i64 0, .int .i64 0] 25)).alloc (Obj.cells #[.int .i64 0, .int .i64 0] 25)) (w.heap.size + 1) 0 0 := by
    have := (Two.new (w.alloc (Obj.cells #[.int .i64 0, .int .i64 0] 25))).below (below1 _ (Obj.cells #[.int .i64 0, .int .i64 0] 25)) (by simp)
    simpa using this
  have T2 : Two (((w.alloc (Obj.cells #[.int .i64 0, .int .i64 0] 25)).alloc (Obj.cells #[.int .i64 0, .int .i64 0] 25)).alloc (Obj.cells #[.int .i64 0, .int .i64 0] 25)) (w.heap.size + 1 + 1) 0 0 := by
    have := Two.new ((w.alloc (Obj.cells #[.int .i64 0, .int .i64 0] 25)).alloc (Obj.cells #[.int .i64 0, .int .i64 0] 25))
    simpa using this
  have hsz0 : (((w.alloc (Obj.cells #[.int .i64 0, .int .i64 0] 25)).alloc (Obj.cells #[.int .i64 0, .int .i64 0] 25)).alloc (Obj.cells #[.int .i64 0, .int .i64 0] 25)).heap.size = w.heap.size + 3 := by simp
  clear hcode
  go_enter Try.func11, Try.ntmps11
  go_wp2_with fail
  generalize (((w.alloc (Obj.cells #[.int .i64 0, .int .i64 0] 25)).alloc (Obj.cells #[.int .i64 0, .int .i64 0] 25)).alloc (Obj.cells #[.int .i64 0, .int .i64 0] 25)) = W0 at *
  refine (newCur _ A n cap hn HC.out).mono ?_
  rintro e w1 ⟨rfl, hs1, hb1⟩
  replace T0 := T0.below hb1 (by omega)
  replace T1 := T1.below hb1 (by omega)
  replace T2 := T2.below hb1 (by omega)
  have hb01 := hb0.trans (hb1.mono hb0.size)
  have hz1 := hs1.lt
  rw [hsz0] at hs1 hz1 ⊢
  clear HC hb1 hb0 hsz0
  go_wp2_with fail
  refine (point _ _ A n cap hs1).mono ?_
  rintro e w2 ⟨ax, ay, ha, rfl, hs2, hg2⟩
  replace T0 := T0.grown hg2 (by omega) (by omega)
  replace T1 := T1.grown hg2 (by omega) (by omega)
  replace T2 := T2.grown hg2 (by omega) (by omega)
  have hb02 := hb01.grown hg2 (by omega) (fun k e => by injection e with e; omega)
  have hz2 := hs2.lt
  clear hs1 hg2 hb01 hz1
  go_wp2_with fail
  have T3 : Two (w2.alloc (Obj.cells #[.int .i64 ax, .int .i64 ay] 25)) w2.heap.size ax ay := heap_alloc_new _ _
  have hal := below1 w2 (Obj.cells #[.int .i64 ax, .int .i64 ay] 25)
  have hza : (w2.alloc (Obj.cells #[.int .i64 ax, .int .i64 ay] 25)).heap.size = w2.heap.size + 1 := by simp
  replace hs2 := hs2.alloc (Obj.cells #[.int .i64 ax, .int .i64 ay] 25)
  replace T0 := T0.below hal (by omega)
  replace T1 := T1.below hal (by omega)
  replace T2 := T2.below hal (by omega)
  have hbx2 := hb02.trans (hal.mono hb02.size)
  generalize (w2.alloc (Obj.cells #[.int .i64 ax, .int .i64 ay] 25)) = V2 at *
  obtain ⟨g2, hgz2⟩ : ∃ g, w2.heap.size = g := ⟨_, rfl⟩
  rw [hgz2] at T3 hza hz2 ⊢
  clear hal hb02 hgz2
  refine (point _ _ A n cap hs2).mono ?_
  rintro e w3 ⟨bx, bY, hb, rfl, hs3, hg3⟩
  replace T0 := T0.grown hg3 (by omega) (by omega)
  replace T1 := T1.grown hg3 (by omega) (by omega)
  replace T2 := T2.grown hg3 (by omega) (by omega)
  replace T3 := T3.grown hg3 (by omega) (by omega)
  have hb03 := hbx2.grown hg3 (by omega) (fun k e => by injection e with e; omega)
  have hz3 := hs3.lt
  have hz30 := hg3.size
  clear hs2 hg3 hbx2
  go_wp2_with fail
  have T4 : Two (w3.alloc (Obj.cells #[.int .i64 bx, .int .i64 bY] 25)) w3.heap.size bx bY := heap_alloc_new _ _
  have hal := below1 w3 (Obj.cells #[.int .i64 bx, .int .i64 bY] 25)
  have hza : (w3.alloc (Obj.cells #[.int .i64 bx, .int .i64 bY] 25)).heap.size = w3.heap.size + 1 := by simp
  replace hs3 := hs3.alloc (Obj.cells #[.int .i64 bx, .int .i64 bY] 25)
  replace T0 := T0.below hal (by omega)
  replace T1 := T1.below hal (by omega)
  replace T2 := T2.below hal (by omega)
  replace T3 := T3.below hal (by omega)
  have hbx3 := hb03.trans (hal.mono hb03.size)
  generalize (w3.alloc (Obj.cells #[.int .i64 bx, .int .i64 bY] 25)) = V3 at *
  obtain ⟨g3, hgz3⟩ : ∃ g, w3.heap.size = g := ⟨_, rfl⟩
  rw [hgz3] at T4 hza hz3 hz30 ⊢
  clear hal hb03 hgz3
  have n20 : ¬ g2 = w.heap.size := by omega
  have n21 : ¬ g2 = w.heap.size + 1 := by omega
  have n22 : ¬ g2 = w.heap.size + 1 + 1 := by omega
  have n30 : ¬ g3 = w.heap.size := by omega
  have n31 : ¬ g3 = w.heap.size + 1 := by omega
  have n32 : ¬ g3 = w.heap.size + 1 + 1 := by omega
  have HS3 := T3.facts
  have HS4 := T4.facts
  have HS : V3.drew.cell? ⟨g2, 0, none⟩ = some (.int .i64 ax) ∧ V3.drew.cell? ⟨g2, 1, none⟩ = some (.int .i64 ay) ∧ V3.drew.cell? ⟨g3, 0, none⟩ = some (.int .i64 bx) ∧ V3.drew.cell? ⟨g3, 1, none⟩ = some (.int .i64 bY) := ⟨HS3.1, HS3.2.1, HS4.1, HS4.2.1⟩
  have HP : ∀ W : World, W = V3.drew → ∀ (e : Ending) (w4 : World), (∃ cx cy, Small cx cy ∧ e = .returned (.agg #[.int .i64 cx, .int .i64 cy]) ∧ St w4 (w.heap.size + 3) A n cap ∧ W.grownBy w4 (some (w.heap.size + 3))) → ∃ cx cy, Small cx cy ∧ e = .returned (.agg #[.int .i64 cx, .int .i64 cy]) ∧ Two w4 w.heap.size 0 0 ∧ Two w4 (w.heap.size + 1) 0 0 ∧ Two w4 (w.heap.size + 1 + 1) 0 0 ∧ Two w4 g2 ax ay ∧ Two w4 g3 bx bY ∧ Below w.heap.size w w4 := by
    rintro W rfl e w4 ⟨cx, cy, hc, he, hs4, hg4⟩
    have hd : V3.drew.heap.size = V3.heap.size := rfl
    exact ⟨cx, cy, hc, he, Two.grown (w := V3.drew) T0 hg4 (by rw [hd]; omega) (by omega), Two.grown (w := V3.drew) T1 hg4 (by rw [hd]; omega) (by omega), Two.grown (w := V3.drew) T2 hg4 (by rw [hd]; omega) (by omega), Two.grown (w := V3.drew) T3 hg4 (by rw [hd]; omega) (by omega), Two.grown (w := V3.drew) T4 hg4 (by rw [hd]; omega) (by omega), (hbx3.drew).grown hg4 (by rw [hd]; omega) (fun k e => by injection e with e; omega)⟩
  have QP : Hid (Calls Try.prog 30 #[.pointer (some ⟨w.heap.size + 3, 0, none⟩)] V3.drew fun e w4 => ∃ cx cy, Small cx cy ∧ e = .returned (.agg #[.int .i64 cx, .int .i64 cy]) ∧ Two w4 w.heap.size 0 0 ∧ Two w4 (w.heap.size + 1) 0 0 ∧ Two w4 (w.heap.size + 1 + 1) 0 0 ∧ Two w4 g2 ax ay ∧ Two w4 g3 bx bY ∧ Below w.heap.size w w4) :=
    Lib.hid ((point V3.drew _ A n cap (hs3.kept (row := none) ⟨rfl, rfl, rfl, Nat.le_refl _, fun _ _ _ => rfl⟩ (fun g e => by cases e))).mono (fun e w' h => HP _ rfl e w' h))
  clear HP T0 T1 T2 T3 T4 HS3 HS4 hbx3 hs3
  have HF : ∀ (W : World) (k : Nat), ¬ g2 = k → ¬ g3 = k → (W.cell? ⟨g2, 0, none⟩ = some (.int .i64 ax) ∧ W.cell? ⟨g2, 1, none⟩ = some (.int .i64 ay) ∧ W.cell? ⟨g3, 0, none⟩ = some (.int .i64 bx) ∧ W.cell? ⟨g3, 1, none⟩ = some (.int .i64 bY)) → ∀ x y, (((W.setCell ⟨k, 0, none⟩ x).setCell ⟨k, 1, none⟩ y).cell? ⟨g2, 0, none⟩ = some (.int .i64 ax) ∧ ((W.setCell ⟨k, 0, none⟩ x).setCell ⟨k, 1, none⟩ y).cell? ⟨g2, 1, none⟩ = some (.int .i64 ay) ∧ ((W.setCell ⟨k, 0, none⟩ x).setCell ⟨k, 1, none⟩ y).cell? ⟨g3, 0, none⟩ = some (.int .i64 bx) ∧ ((W.setCell ⟨k, 0, none⟩ x).setCell ⟨k, 1, none⟩ y).cell? ⟨g3, 1, none⟩ = some (.int .i64 bY)) := by
    rintro W k h2 h3 ⟨s1, s2, s3, s4⟩ x y
    exact ⟨far_cell (far_cell s1 h2) h2, far_cell (far_cell s2 h2) h2, far_cell (far_cell s3 h3) h3, far_cell (far_cell s4 h3) h3⟩
  go_region_held3 (fun w' => w'.cell? ⟨g2, 0, none⟩ = some (.int .i64 ax) ∧ w'.cell? ⟨g2, 1, none⟩ = some (.int .i64 ay) ∧ w'.cell? ⟨g3, 0, none⟩ = some (.int .i64 bx) ∧ w'.cell? ⟨g3, 1, none⟩ = some (.int .i64 bY)) (first | (with_reducible exact HF _ _ (by assumption) (by assumption) (by assumption) _ _) | (with_reducible assumption) | (with_reducible exact HS)) (first | (go_at_call 30; refine (QP.out).mono ?_; rintro e w4 ⟨cx, cy, hc, rfl, T0, T1, T2, T3, T4, hb4⟩; have F0 := T0.facts; have F1 := T1.facts; have F2 := T2.facts; have F3 := T3.facts; have F4 := T4.facts; have HS5 : w4.cell? ⟨g2, 0, none⟩ = some (.int .i64 ax) ∧ w4.cell? ⟨g2, 1, none⟩ = some (.int .i64 ay) ∧ w4.cell? ⟨g3, 0, none⟩ = some (.int .i64 bx) ∧ w4.cell? ⟨g3, 1, none⟩ = some (.int .i64 bY) := ⟨F3.1, F3.2.1, F4.1, F4.2.1⟩))
  clear F0 F1 F2 F3 F4 HS5 HS QP HF n20 n21 n22 n30 n31 n32
  have U0 := (Two.far (Two.far (Two.far (Two.far (T0.set ax ay) ⟨w.heap.size + 1, 0, none⟩ (.int .i64 bx) (show ¬ w.heap.size = w.heap.size + 1 by omega)) ⟨w.heap.size + 1, 1, none⟩ (.int .i64 bY) (show ¬ w.heap.size = w.heap.size + 1 by omega)) ⟨w.heap.size + 1 + 1, 0, none⟩ (.int .i64 cx) (show ¬ w.heap.size = w.heap.size + 1 + 1 by omega)) ⟨w.heap.size + 1 + 1, 1, none⟩ (.int .i64 cy) (show ¬ w.heap.size = w.heap.size + 1 + 1 by omega))
  have U1 := (Two.far (Two.far ((Two.far (Two.far T1 ⟨w.heap.size, 0, none⟩ (.int .i64 ax) (show ¬ w.heap.size + 1 = w.heap.size by omega)) ⟨w.heap.size, 1, none⟩ (.int .i64 ay) (show ¬ w.heap.size + 1 = w.heap.size by omega)).set bx bY) ⟨w.heap.size + 1 + 1, 0, none⟩ (.int .i64 cx) (show ¬ w.heap.size + 1 = w.heap.size + 1 + 1 by omega)) ⟨w.heap.size + 1 + 1, 1, none⟩ (.int .i64 cy) (show ¬ w.heap.size + 1 = w.heap.size + 1 + 1 by omega))
  have U2 := ((Two.far (Two.far (Two.far (Two.far T2 ⟨w.heap.size, 0, none⟩ (.int .i64 ax) (show ¬ w.heap.size + 1 + 1 = w.heap.size by omega)) ⟨w.heap.size, 1, none⟩ (.int .i64 ay) (show ¬ w.heap.size + 1 + 1 = w.heap.size by omega)) ⟨w.heap.size + 1, 0, none⟩ (.int .i64 bx) (show ¬ w.heap.size + 1 + 1 = w.heap.size + 1 by omega)) ⟨w.heap.size + 1, 1, none⟩ (.int .i64 bY) (show ¬ w.heap.size + 1 + 1 = w.heap.size + 1 by omega)).set cx cy)
  have UB := ((((((hb4.setCell (p := ⟨w.heap.size, 0, none⟩) (show w.heap.size ≤ w.heap.size by omega) (.int .i64 ax)).setCell (p := ⟨w.heap.size, 1, none⟩) (show w.heap.size ≤ w.heap.size by omega) (.int .i64 ay)).setCell (p := ⟨w.heap.size + 1, 0, none⟩) (show w.heap.size ≤ w.heap.size + 1 by omega) (.int .i64 bx)).setCell (p := ⟨w.heap.size + 1, 1, none⟩) (show w.heap.size ≤ w.heap.size + 1 by omega) (.int .i64 bY)).setCell (p := ⟨w.heap.size + 1 + 1, 0, none⟩) (show w.heap.size ≤ w.heap.size + 1 + 1 by omega) (.int .i64 cx)).setCell (p := ⟨w.heap.size + 1 + 1, 1, none⟩) (show w.heap.size ≤ w.heap.size + 1 + 1 by omega) (.int .i64 cy))
  obtain ⟨a0, a1, _⟩ := U0.facts
  obtain ⟨b0, b1, _⟩ := U1.facts
  obtain ⟨c0, c1, _⟩ := U2.facts
  go_wp2_with fail
  refine bodyPost_ret (v := .tuple #[.agg #[.int .i64 ax, .int .i64 ay], .agg #[.int .i64 bx, .int .i64 bY], .agg #[.int .i64 cx, .int .i64 cy]]) (by simp [results, Try.results11, go_sem, a0, a1, b0, b1, c0, c1]) rfl ⟨ax, ay, bx, bY, cx, cy, ha, hb, hc, rfl, UB⟩
end Go.Proofs.Ytkohfbffmljmcac.DrawPoint
