/-
  How the landed code finds the next ear of a room and sorts its corners, as contracts: what each answers; no old cell is written.
-/
import Derived.Test.YtkcodmafakjkfaaGreatDiagImpl
import Derived.Test.YtkcodmafakjkfaaGreatTriImpl
import Derived.Test.YtkcodmafakjkfaaGreatSuspSort
import Derived.Test.YtkcodmafakjkfaaGreatTreeMath
import Derived.Test.YtkcodmafakjkfaaGreatGround
namespace Go.Proofs.YtkcodmafakjkfaaGreat.TrisImpl
open Go.RowKit Own PointMath WallMath RoomMath Pts Blk AreaMath PlaceMath FloorMath LineMath CutsMath SightMath DiagMath TriMath SuspMath TrisMath TreeMath Ints
open PointOk (ret_bool ret_i64 below1 below2 below3)

theorem facts3 {w : World} {k : Nat} {v0 v1 v2 : Value} {T : TypeId} (h : Holds w k #[v0, v1, v2] T) :
    (w.cell? ⟨k, 0, none⟩ = some v0 ∧ w.cell? ⟨k, 1, none⟩ = some v1 ∧ w.cell? ⟨k, 2, none⟩ = some v2) ∧ w.frozen? ⟨k, 0, none⟩ = false ∧ w.frozen? ⟨k, 1, none⟩ = false ∧ w.frozen? ⟨k, 2, none⟩ = false := by
  have c0 := cell_of_row w k 0 _ _ _ h
  have c1 := cell_of_row w k 1 _ _ _ h
  have c2 := cell_of_row w k 2 _ _ _ h
  unfold Holds at h
  simp at c0 c1 c2
  exact ⟨⟨c0, c1, c2⟩, by simp [World.frozen?, h], by simp [World.frozen?, h], by simp [World.frozen?, h]⟩
theorem indexAroundI (A : Option Addr) (n cap : Nat) (k : Int) (h0 : 0 < n) (hn : n ≤ 1048576) (w : World) :
    Calls Tryz.prog 95 #[.slice A n cap, .int .i64 k] w fun e w' => e = .returned (.int .i64 (ixI n k)) ∧ w = w' := by
  have hz : ¬ ((n : Int) = 0) := by omega
  have hm := ix_tmod (n := n) (k := k) (by omega)
  obtain ⟨hx1, hx2⟩ := ix_lt (n := n) (k := k) (by omega)
  obtain ⟨r, hr⟩ : ∃ r, k.tmod n = r := ⟨_, rfl⟩
  rw [hr] at hx1 hm
  generalize ixI n k = m at *
  have u1 : IntKind.i64.wrap (r + n) = r + n := IntWalk.i64_in _ (by omega)
  go_enter Tryz.func95, Tryz.ntmps95
  go_wp2_with fail
  go_ret
  exact ⟨rfl, rfl⟩
theorem pv_ix {m k : Nat} (h : 2 ≤ m) (hk : k < m) : ixI m ((k : Int) - 1) = pvN m k := by
  rw [ix_pred h hk]; unfold pvN; congr 1; omega
theorem nx_ix {m k : Nat} (h : 0 < m) : ixI m ((k : Int) + 1) = nxN m k := ix_succ h

set_option maxRecDepth 100000 in
set_option maxHeartbeats 3200000 in
theorem triangleAt (n : Nat) (A : Option Addr) (m cap k : Nat) (w : World) (l : List Nat) (hl : l.length = m) (h3 : 3 ≤ m) (hm : m ≤ 1048576) (hk : k < m) (ha : Asc n l) (hq : IntsAt w w.heap.size A (li l)) :
    Calls Tryz.prog 63 #[.slice A m cap, .int .i64 (k : Int)] w fun e w' => e = .returned (.agg #[.int .i64 (triAt l k).1, .int .i64 (triAt l k).2.1, .int .i64 (triAt l k).2.2]) ∧ Below w.heap.size w w' := by
  obtain ⟨a, b, c, et, hab, hbc, _, hr⟩ := rot ha (by omega) (show k < l.length by omega)
  rw [et]
  have hp1 : pvN m k < m := Nat.mod_lt _ (by omega)
  have hn1 : nxN m k < m := Nat.mod_lt _ (by omega)
  have p0 := li_at (l := l) (k := pvN m k) (by omega)
  have p1 := li_at (l := l) (k := k) (by omega)
  have p2 := li_at (l := l) (k := nxN m k) (by omega)
  have HS : Hid (sorted [((ix l (pvN m k) : Nat) : Int), ((ix l k : Nat) : Int), ((ix l (nxN m k) : Nat) : Int)] = [(a : Int), (b : Int), (c : Int)]) := Lib.hid (by
    unfold pvx nxx at hr
    rw [hl] at hr
    apply sorted3 <;> omega)
  have QA : Hid (∀ w, _) := Lib.hid fun w => indexAroundI A m cap ((k : Int) - 1) (by omega) hm w
  have QB : Hid (∀ w, _) := Lib.hid fun w => indexAroundI A m cap ((k : Int) + 1) (by omega) hm w
  rw [pv_ix (by omega) hk] at QA
  rw [nx_ix (by omega)] at QB
  generalize ((ix l (pvN m k) : Nat) : Int) = x at *
  generalize ((ix l k : Nat) : Int) = y at *
  generalize ((ix l (nxN m k) : Nat) : Int) = z at *
  generalize pvN m k = i at *
  generalize nxN m k = j at *
  obtain ⟨ad, eA, bA, pA⟩ := hq.get p0
  obtain ⟨ad2, eA2, _, pB⟩ := hq.get p1
  rw [eA] at eA2
  injection eA2 with eA2
  subst eA2
  obtain ⟨ad2, eA2, _, pC⟩ := hq.get p2
  rw [eA] at eA2
  injection eA2 with eA2
  subst eA2
  subst eA
  have hi1 : (i : Int) < (m : Int) := by omega
  have hi0 : (0 : Int) ≤ (i : Int) := by omega
  have hj1 : (j : Int) < (m : Int) := by omega
  have hj0 : (0 : Int) ≤ (j : Int) := by omega
  have hk1 : (k : Int) < (m : Int) := by omega
  have hk0 : (0 : Int) ≤ (k : Int) := by omega
  have u1 : IntKind.i64.wrap ((k : Int) - 1) = (k : Int) - 1 := IntWalk.i64_in _ (by omega)
  have u2 : IntKind.i64.wrap ((k : Int) + 1) = (k : Int) + 1 := IntWalk.i64_in _ (by omega)
  clear hl hq p0 p1 p2 ha et hr hab hbc
  go_enter Tryz.func63, Tryz.ntmps63
  go_wp2_with fail
  have X0 := Blk.Holds.box w #[.int .i64 0, .int .i64 0, .int .i64 0] 65 (k := w.heap.size) (by simp)
  have b0 := PointOk.below1 w (Obj.cells #[.int .i64 0, .int .i64 0, .int .i64 0] 65)
  have HO : ∀ W W' : World, (Blk.Holds W (w.heap.size) #[.int .i64 0, .int .i64 0, .int .i64 0] 65 ∧ IntAt W ad i x ∧ IntAt W ad k y ∧ IntAt W ad j z ∧ Below w.heap.size w W) → Below W.heap.size W W' → (Blk.Holds W' (w.heap.size) #[.int .i64 0, .int .i64 0, .int .i64 0] 65 ∧ IntAt W' ad i x ∧ IntAt W' ad k y ∧ IntAt W' ad j z ∧ Below w.heap.size w W') := fun W W' ⟨h0, x0, x1, x2, hb⟩ h => ⟨h0.later h, x0.later bA (h.mono hb.size), x1.later bA (h.mono hb.size), x2.later bA (h.mono hb.size), hb.trans (h.mono hb.size)⟩
  have hz0_ : Hid (((w.alloc (Obj.cells #[.int .i64 0, .int .i64 0, .int .i64 0] 65))).heap.size = w.heap.size + 1) := Lib.hid (by simp)
  have Y0 : IntAt ((w.alloc (Obj.cells #[.int .i64 0, .int .i64 0, .int .i64 0] 65))) ad i x := pA.later bA b0
  have Y1 : IntAt ((w.alloc (Obj.cells #[.int .i64 0, .int .i64 0, .int .i64 0] 65))) ad k y := pB.later bA b0
  have Y2 : IntAt ((w.alloc (Obj.cells #[.int .i64 0, .int .i64 0, .int .i64 0] 65))) ad j z := pC.later bA b0
  generalize (w.alloc (Obj.cells #[.int .i64 0, .int .i64 0, .int .i64 0] 65)) = w0 at X0 Y0 Y1 Y2 b0 hz0_ ⊢
  have S0 := (⟨X0, Y0, Y1, Y2, b0⟩ : Blk.Holds w0 (w.heap.size) #[.int .i64 0, .int .i64 0, .int .i64 0] 65 ∧ IntAt w0 ad i x ∧ IntAt w0 ad k y ∧ IntAt w0 ad j z ∧ Below w.heap.size w w0)
  clear X0 Y0 Y1 Y2 b0
  obtain ⟨_, ⟨_, _⟩, ⟨_, _⟩, ⟨_, _⟩, _⟩ := id S0
  refine Settle.regionTails (fun W => Blk.Holds W (w.heap.size) #[.int .i64 0, .int .i64 0, .int .i64 0] 65 ∧ IntAt W ad i x ∧ IntAt W ad k y ∧ IntAt W ad j z ∧ Below w.heap.size w W) 18 (by kernel_rfl) (by kernel_rfl) (of_decide_eq_true (by kernel_rfl)) (by kernel_rfl) (by kernel_rfl) (by kernel_rfl) (by kernel_rfl) (HO _ _ S0 ((Below.refl _ _).drew)) ?_
  simp only [List.take_succ_cons, List.take_zero, List.drop_succ_cons, List.drop_zero]
  clear S0
  repeat (first
    | (refine Settle.Settles.off (by rfl) ?_; simp only [Act.put, List.setIfInBounds_toArray, List.set_cons_zero, List.set_cons_succ])
    | (refine Settle.Settles.quiet (v := ?_) (by rfl) ?_ ?_
       rotate_left
       · (intro W hS; obtain ⟨_, ⟨_, _⟩, ⟨_, _⟩, ⟨_, _⟩, _⟩ := hS; go_simp; with_reducible rfl)
       simp only [Act.put, List.setIfInBounds_toArray, List.set_cons_zero, List.set_cons_succ])
    | (refine Settle.Settles.call (v := ?_) (f := ?_) (args := ?_) (by rfl) ?_ ?_ ?_
       rotate_left 3
       · (intro W; go_simp; refine ⟨?_, ?_⟩ <;> with_reducible rfl)
       · (intro W hS; first | (go_at_call 95; (with_reducible refine (QA.out _).mono ?_); rintro e W1 ⟨rfl, rfl⟩; refine ⟨?_, hS⟩; with_reducible rfl) | (go_at_call 95; (with_reducible refine (QB.out _).mono ?_); rintro e W1 ⟨rfl, rfl⟩; refine ⟨?_, hS⟩; with_reducible rfl))
       simp only [Act.put, List.setIfInBounds_toArray, List.set_cons_zero, List.set_cons_succ]))
  refine Settle.Settles.nil ?_
  intro wr S0 K_ hK_
  obtain ⟨_, ⟨_, _⟩, ⟨_, _⟩, ⟨_, _⟩, _⟩ := id S0
  have hnew := Blk.Holds.new wr #[.int .i64 x, .int .i64 y, .int .i64 z] 3
  have hlt0 := Holds.lt S0.1
  have hown : (wr.alloc (Obj.cells #[.int .i64 x, .int .i64 y, .int .i64 z] 3)).ownsRow (w.heap.size + 1) 3 1 (.slice (some ⟨wr.heap.size, 0, none⟩) 3 3) 3 (icells [x, y, z]) :=
    ⟨by simp [icells], .inr ⟨wr.heap.size, 3, _, rfl, by omega, hnew, Nat.le_refl _, by decide, by simp, by simp [icells]⟩⟩
  have hown := Lib.hid hown
  have S1 := HO _ _ S0 (below1 wr (Obj.cells #[.int .i64 x, .int .i64 y, .int .i64 z] 3))
  have hs1 : w.heap.size + 1 ≤ (wr.alloc (Obj.cells #[.int .i64 x, .int .i64 y, .int .i64 z] 3)).heap.size := by simp; omega
  clear hnew S0 hlt0
  go_wp2_with fail
  generalize wr.alloc (Obj.cells #[.int .i64 x, .int .i64 y, .int .i64 z] 3) = w2 at *
  generalize wr.heap.size = g0 at *
  refine (SuspSort.sort_own hown.out (by omega)).mono ?_
  rintro e w3 ⟨rfl, ho3, hg3⟩
  have hb3 : Below (w.heap.size + 1) w2 w3 := (Below.refl _ _).grown hg3 hs1 (fun k hk => (hown.out.lt k hk).1)
  rw [HS.out] at ho3
  have X0 : Holds w3 w.heap.size #[.int .i64 0, .int .i64 0, .int .i64 0] 65 := (hb3.block w.heap.size (by omega)).trans S1.1
  have hbw : Below w.heap.size w w3 := S1.2.2.2.2.trans (hb3.mono (by omega))
  obtain ⟨g1, e1, _, _, c0, _⟩ := own_cell ho3 (j := 0) (by omega) (x := .int .i64 (a : Int)) rfl
  injection e1 with e1
  injection e1 with e1
  obtain ⟨g2, e2, _, _, c1, _⟩ := own_cell ho3 (j := 1) (by omega) (x := .int .i64 (b : Int)) rfl
  injection e2 with e2
  injection e2 with e2
  obtain ⟨g3, e3, _, _, c2, _⟩ := own_cell ho3 (j := 2) (by omega) (x := .int .i64 (c : Int)) rfl
  injection e3 with e3
  injection e3 with e3
  rw [← e1] at c0
  rw [← e2] at c1
  rw [← e3] at c2
  clear S1 hb3 hown ho3 hg3 e1 e2 e3 HS hs1 HO QA QB
  have HO : ∀ W W' : World, (Holds W w.heap.size #[.int .i64 0, .int .i64 0, .int .i64 0] 65 ∧ W.cell? ⟨g0, 0, none⟩ = some (.int .i64 (a : Int)) ∧ W.cell? ⟨g0, 1, none⟩ = some (.int .i64 (b : Int)) ∧ W.cell? ⟨g0, 2, none⟩ = some (.int .i64 (c : Int)) ∧ Below w.heap.size w W) → Below W.heap.size W W' → (Holds W' w.heap.size #[.int .i64 0, .int .i64 0, .int .i64 0] 65 ∧ W'.cell? ⟨g0, 0, none⟩ = some (.int .i64 (a : Int)) ∧ W'.cell? ⟨g0, 1, none⟩ = some (.int .i64 (b : Int)) ∧ W'.cell? ⟨g0, 2, none⟩ = some (.int .i64 (c : Int)) ∧ Below w.heap.size w W') := fun W W' ⟨x0, x1, x2, x3, hb⟩ h => ⟨x0.later h, cell_later h x1, cell_later h x2, cell_later h x3, hb.trans (h.mono hb.size)⟩
  have S0 : Holds w3 w.heap.size #[.int .i64 0, .int .i64 0, .int .i64 0] 65 ∧ w3.cell? ⟨g0, 0, none⟩ = some (.int .i64 (a : Int)) ∧ w3.cell? ⟨g0, 1, none⟩ = some (.int .i64 (b : Int)) ∧ w3.cell? ⟨g0, 2, none⟩ = some (.int .i64 (c : Int)) ∧ Below w.heap.size w w3 := ⟨X0, c0, c1, c2, hbw⟩
  clear X0 c0 c1 c2 hbw
  obtain ⟨_, _, _, _, _⟩ := id S0
  go_wp2_with fail
  refine Settle.regionTails (fun W => Holds W w.heap.size #[.int .i64 0, .int .i64 0, .int .i64 0] 65 ∧ W.cell? ⟨g0, 0, none⟩ = some (.int .i64 (a : Int)) ∧ W.cell? ⟨g0, 1, none⟩ = some (.int .i64 (b : Int)) ∧ W.cell? ⟨g0, 2, none⟩ = some (.int .i64 (c : Int)) ∧ Below w.heap.size w W) 9 (by kernel_rfl) (by kernel_rfl) (of_decide_eq_true (by kernel_rfl)) (by kernel_rfl) (by kernel_rfl) (by kernel_rfl) (by kernel_rfl) (HO _ _ S0 ((Below.refl _ _).drew)) ?_
  simp only [List.take_succ_cons, List.take_zero, List.drop_succ_cons, List.drop_zero]
  clear S0
  repeat (first
    | (refine Settle.Settles.off (by rfl) ?_; simp only [Act.put, List.setIfInBounds_toArray, List.set_cons_zero, List.set_cons_succ])
    | (refine Settle.Settles.quiet (v := ?_) (by rfl) ?_ ?_
       rotate_left
       · (intro W hS; obtain ⟨_, _, _, _, _⟩ := hS; go_simp; with_reducible rfl)
       simp only [Act.put, List.setIfInBounds_toArray, List.set_cons_zero, List.set_cons_succ])
    | (refine Settle.Settles.call (v := ?_) (f := ?_) (args := ?_) (by rfl) ?_ ?_ ?_
       rotate_left 3
       · (intro W; go_simp; refine ⟨?_, ?_⟩ <;> with_reducible rfl)
       · (intro W hS; fail)
       simp only [Act.put, List.setIfInBounds_toArray, List.set_cons_zero, List.set_cons_succ]))
  refine Settle.Settles.nil ?_
  intro wr S0 K_ hK_
  obtain ⟨_, _, _, _, _⟩ := id S0
  obtain ⟨⟨_, _, _⟩, _, _, _⟩ := facts3 S0.1
  go_wp2_with fail
  have E_ := Blk.set_own (Blk.set_own (Blk.set_own S0.1 0 (.int .i64 (a : Int))) 1 (.int .i64 (b : Int))) 2 (.int .i64 (c : Int))
  obtain ⟨⟨r0_, r1_, r2_⟩, _⟩ := facts3 E_
  refine bodyPost_ret (v := .agg #[.int .i64 (a : Int), .int .i64 (b : Int), .int .i64 (c : Int)]) (by simp [results, Tryz.results63, go_sem, r0_, r1_, r2_]) rfl ⟨rfl, ?_⟩
  exact ((S0.2.2.2.2.setCell (p := ⟨w.heap.size, 0, none⟩) (Nat.le_refl _) _).setCell (p := ⟨w.heap.size, 1, none⟩) (Nat.le_refl _) _).setCell (p := ⟨w.heap.size, 2, none⟩) (Nat.le_refl _) _
end Go.Proofs.YtkcodmafakjkfaaGreat.TrisImpl

