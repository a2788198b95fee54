/-
  Which triangles share a side, as the model asks, as contracts: what each function answers; new memory alone is written.
-/
import Derived.Test.YtkcodmafakjkfaaGreatEarsM
import Derived.Test.YtkcodmafakjkfaaGreatAppOne
namespace Go.Proofs.YtkcodmafakjkfaaGreat.TreeSpec
open Go.RowKit Own PointMath WallMath RoomMath Pts Blk AreaMath PlaceMath FloorMath LineMath CutsMath SightMath DiagMath TriMath TrisMath TreeMath Ints Tup3 TriRow
open PointOk (ret_bool ret_i64 below1 below2 below3)

def cntT (t : Tu) (l : List Int) : Nat → Int
  | 0 => 0
  | i + 1 => cntT t l i + TreeMath.one (hasT t (l.getD i 0))
theorem cnt_common (s t : Tu) : cntT t [s.1, s.2.1, s.2.2] 3 = common s t := by
  unfold common
  simp [cntT]
theorem cnt_in (t : Tu) (l : List Int) : ∀ i, 0 ≤ cntT t l i ∧ cntT t l i ≤ i
  | 0 => by simp [cntT]
  | i + 1 => by
    have := cnt_in t l i
    unfold cntT TreeMath.one
    split <;> omega
theorem ts_own {w : World} {b e n cap : Nat} {A : Option Addr} {ps : List Tu} (h : w.ownsRow b e 3 (.slice A n cap) n (cellsT ps)) : TsAt w w.heap.size A ps := by
  have hl := h.1
  rw [cellsT_length] at hl
  intro j hj
  obtain ⟨e0, e1, e2⟩ := cellsT_at ps j hj
  obtain ⟨g, rfl, _, hg, c0, _⟩ := LawInt.own_cellN h (by omega) (by rw [cellsT_length]; omega) e0
  obtain ⟨g1, x1, _, _, c1, _⟩ := LawInt.own_cellN h (by omega) (by rw [cellsT_length]; omega) e1
  injection x1 with x1
  injection x1 with x1
  subst x1
  obtain ⟨g2, x2, _, _, c2, _⟩ := LawInt.own_cellN h (by omega) (by rw [cellsT_length]; omega) e2
  injection x2 with x2
  injection x2 with x2
  subst x2
  exact ⟨_, rfl, hg, by rw [Pts.add_head]; exact c0, by rw [Pts.add_head]; exact c1, by rw [Pts.add_head]; exact c2⟩

set_option maxRecDepth 100000 in
set_option maxHeartbeats 6400000 in
theorem l20Common (a b c x y z : Int) (w : World) :
    Calls Tryz.prog 81 #[.agg #[.int .i64 a, .int .i64 b, .int .i64 c], .agg #[.int .i64 x, .int .i64 y, .int .i64 z]] w fun e w' => e = .returned (.int .i64 (common (a, b, c) (x, y, z))) ∧ Below w.heap.size w w' := by
  obtain ⟨r, hr⟩ : ∃ r, common (a, b, c) (x, y, z) = r := ⟨_, rfl⟩
  have HR := Lib.hid hr
  rw [hr]
  clear hr
  have HE : Hid (cntT (x, y, z) [a, b, c] 3 = r) := Lib.hid (by rw [← HR.out]; exact cnt_common (a, b, c) (x, y, z))
  clear HR
  go_enter Tryz.func81, Tryz.ntmps81
  go_wp2_with fail
  have X0 := (Box3.box1 w a b c 65 (k := w.heap.size) (by simp)).alloc (Obj.cells #[.int .i64 x, .int .i64 y, .int .i64 z] 65)
  have X1 := Box3.box1 (w.alloc (Obj.cells #[.int .i64 a, .int .i64 b, .int .i64 c] 65)) x y z 65 (k := w.heap.size + 1) (by simp)
  have b0 := PointOk.below2 w (Obj.cells #[.int .i64 a, .int .i64 b, .int .i64 c] 65) (Obj.cells #[.int .i64 x, .int .i64 y, .int .i64 z] 65)
  have HO : ∀ W W' : World, (Box3.Box W (w.heap.size) a b c ∧ Box3.Box W (w.heap.size + 1) x y z ∧ Below w.heap.size w W) → Below W.heap.size W W' → (Box3.Box W' (w.heap.size) a b c ∧ Box3.Box W' (w.heap.size + 1) x y z ∧ Below w.heap.size w W') := fun W W' ⟨h0, h1, hb⟩ h => ⟨h0.later h, h1.later h, hb.trans (h.mono hb.size)⟩
  have hz0_ : Hid ((((w.alloc (Obj.cells #[.int .i64 a, .int .i64 b, .int .i64 c] 65)).alloc (Obj.cells #[.int .i64 x, .int .i64 y, .int .i64 z] 65))).heap.size = w.heap.size + 1 + 1) := Lib.hid (by simp)
  generalize ((w.alloc (Obj.cells #[.int .i64 a, .int .i64 b, .int .i64 c] 65)).alloc (Obj.cells #[.int .i64 x, .int .i64 y, .int .i64 z] 65)) = w0 at X0 X1 b0 hz0_ ⊢
  have S0 := (⟨X0, X1, b0⟩ : Box3.Box w0 (w.heap.size) a b c ∧ Box3.Box w0 (w.heap.size + 1) x y z ∧ Below w.heap.size w w0)
  clear X0 X1 b0
  obtain ⟨⟨_, _, _⟩, ⟨_, _, _⟩, _⟩ := id S0
  have hz1 : w.heap.size + 1 + 1 ≤ w0.heap.size := by have := hz0_.out; omega
  have hnew := Blk.Holds.new w0 #[.int .i64 a, .int .i64 b, .int .i64 c] 3
  have hown : (w0.alloc (Obj.cells #[.int .i64 a, .int .i64 b, .int .i64 c] 3)).ownsRow (w.heap.size) 3 1 (.slice (some ⟨w0.heap.size, 0, none⟩) 3 3) 3 (icells [a, b, c]) :=
    ⟨by simp [icells], .inr ⟨w0.heap.size, 3, _, rfl, by omega, hnew, Nat.le_refl _, by decide, by simp, by simp [icells]⟩⟩
  rw [hz0_.out] at hown
  have hown := Lib.hid hown
  replace S0 := HO _ _ S0 (below1 w0 (Obj.cells #[.int .i64 a, .int .i64 b, .int .i64 c] 3))
  clear hnew hz1
  generalize w0.alloc (Obj.cells #[.int .i64 a, .int .i64 b, .int .i64 c] 3) = w1 at *
  obtain ⟨⟨_, _, _⟩, ⟨_, _, _⟩, _⟩ := id S0
  have HO : ∀ W W' : World, (Box3.Box W w.heap.size a b c ∧ Box3.Box W (w.heap.size + 1) x y z ∧ Hid (W.ownsRow (w.heap.size) 3 1 (.slice (some ⟨w.heap.size + 1 + 1, 0, none⟩) 3 3) 3 (icells [a, b, c])) ∧ Below w.heap.size w W) → Below W.heap.size W W' → (Box3.Box W' w.heap.size a b c ∧ Box3.Box W' (w.heap.size + 1) x y z ∧ Hid (W'.ownsRow (w.heap.size) 3 1 (.slice (some ⟨w.heap.size + 1 + 1, 0, none⟩) 3 3) 3 (icells [a, b, c])) ∧ Below w.heap.size w W') := fun W W' ⟨x0, x1, x2, hb⟩ h => ⟨x0.later h, x1.later h, Lib.hid (own_below (x2).out h), hb.trans (h.mono hb.size)⟩
  replace S0 : Box3.Box w1 w.heap.size a b c ∧ Box3.Box w1 (w.heap.size + 1) x y z ∧ Hid (w1.ownsRow (w.heap.size) 3 1 (.slice (some ⟨w.heap.size + 1 + 1, 0, none⟩) 3 3) 3 (icells [a, b, c])) ∧ Below w.heap.size w w1 := ⟨S0.1, S0.2.1, hown, S0.2.2⟩
  clear hown
  obtain ⟨⟨_, _, _⟩, ⟨_, _, _⟩, _, _⟩ := id S0
  go_loopw [5, 7] (fun v q wr => ∃ i : Nat, i ≤ 3 ∧ q = .int .i64 i ∧ v = .int .i64 (cntT (x, y, z) [a, b, c] i) ∧ (Box3.Box wr w.heap.size a b c ∧ Box3.Box wr (w.heap.size + 1) x y z ∧ Hid (wr.ownsRow (w.heap.size) 3 1 (.slice (some ⟨w.heap.size + 1 + 1, 0, none⟩) 3 3) 3 (icells [a, b, c])) ∧ Below w.heap.size w wr))
    (fun _ q _ => 3 - (intOf q).toNat)
  case atStart => exact ⟨0, Nat.zero_le _, rfl, rfl, S0⟩
  case round =>
    clear S0
    obtain ⟨i, hi, rfl, rfl, S0⟩ := hrel
    obtain ⟨⟨_, _, _⟩, ⟨_, _, _⟩, _, _⟩ := id S0
    by_cases hlt : i < 3
    rotate_left
    · obtain rfl : i = 3 := by omega
      rw [HE.out]
      have hg : ¬ (3 : Int) < 3 := by omega
      clear HE
      go_wp2_with fail
      go_ret
      exact ⟨rfl, S0.2.2.2⟩
    have i0 : (0 : Int) ≤ (i : Int) := by omega
    have i1 : (i : Int) < 3 := by omega
    have p0 : [a, b, c][i]? = some ([a, b, c].getD i 0) := by rw [List.getD_eq_getElem?_getD, List.getElem?_eq_getElem (by simpa using hlt)]; rfl
    have HC : Hid (cntT (x, y, z) [a, b, c] (i + 1) = cntT (x, y, z) [a, b, c] i + TreeMath.one (hasT (x, y, z) ([a, b, c].getD i 0))) := Lib.hid rfl
    have hcn := cnt_in (x, y, z) [a, b, c] i
    obtain ⟨v, hv⟩ : ∃ v, [a, b, c].getD i 0 = v := ⟨_, rfl⟩
    rw [hv] at p0 HC
    have pI := (row_cell S0.2.2.1.out hlt p0).1
    have HH : Hid (hasT (x, y, z) v = (decide (v = x) || decide (v = y) || decide (v = z))) := Lib.hid rfl
    generalize hasT (x, y, z) v = hb at *
    have u1 : IntKind.i64.wrap (cntT (x, y, z) [a, b, c] i + 1) = cntT (x, y, z) [a, b, c] i + 1 := IntWalk.i64_in _ (by omega)
    clear p0 hv HE
    have HO : ∀ W W' : World, (Box3.Box W w.heap.size a b c ∧ Box3.Box W (w.heap.size + 1) x y z ∧ Hid (W.ownsRow (w.heap.size) 3 1 (.slice (some ⟨w.heap.size + 1 + 1, 0, none⟩) 3 3) 3 (icells [a, b, c])) ∧ W.cell? ⟨w.heap.size + 1 + 1, i, none⟩ = some (.int .i64 v) ∧ Below w.heap.size w W) → Below W.heap.size W W' → (Box3.Box W' w.heap.size a b c ∧ Box3.Box W' (w.heap.size + 1) x y z ∧ Hid (W'.ownsRow (w.heap.size) 3 1 (.slice (some ⟨w.heap.size + 1 + 1, 0, none⟩) 3 3) 3 (icells [a, b, c])) ∧ W'.cell? ⟨w.heap.size + 1 + 1, i, none⟩ = some (.int .i64 v) ∧ Below w.heap.size w W') := fun W W' ⟨x0, x1, x2, x3, hb⟩ h => ⟨x0.later h, x1.later h, Lib.hid (own_below (x2).out h), cell_later h x3, hb.trans (h.mono hb.size)⟩
    replace S0 : Box3.Box wr w.heap.size a b c ∧ Box3.Box wr (w.heap.size + 1) x y z ∧ Hid (wr.ownsRow (w.heap.size) 3 1 (.slice (some ⟨w.heap.size + 1 + 1, 0, none⟩) 3 3) 3 (icells [a, b, c])) ∧ wr.cell? ⟨w.heap.size + 1 + 1, i, none⟩ = some (.int .i64 v) ∧ Below w.heap.size w wr := ⟨S0.1, S0.2.1, S0.2.2.1, pI, S0.2.2.2⟩
    clear pI
    obtain ⟨⟨_, _, _⟩, ⟨_, _, _⟩, _, _, _⟩ := id S0
    have fin : ∀ (hb' : Bool) (c' : Int), hb = hb' → c' = cntT (x, y, z) [a, b, c] i + TreeMath.one hb' → c' = cntT (x, y, z) [a, b, c] (i + 1) := fun hb' c' h1 h2 => by rw [h2, HC.out, h1]
    have fin := Lib.hid fin
    generalize cntT (x, y, z) [a, b, c] i = ci at *
    by_cases e1 : v = x
    · have g1 : (v == x) = true := by simpa using e1
      have hc2 := Lib.hid (fin.out true (ci + 1) (by rw [HH.out, decide_eq_true e1]; rfl) rfl)
      clear HC HH hcn e1 fin
      go_wp2_with fail
      refine Settle.region (fun W => Box3.Box W w.heap.size a b c ∧ Box3.Box W (w.heap.size + 1) x y z ∧ Hid (W.ownsRow (w.heap.size) 3 1 (.slice (some ⟨w.heap.size + 1 + 1, 0, none⟩) 3 3) 3 (icells [a, b, c])) ∧ W.cell? ⟨w.heap.size + 1 + 1, i, none⟩ = some (.int .i64 v) ∧ Below w.heap.size w W) (by kernel_rfl) (by kernel_rfl) (by kernel_rfl) (by kernel_rfl) (HO _ _ S0 ((Below.refl _ _).drew)) ?_
      clear S0
      repeat (first
        | (refine Settle.Settles.off (by rfl) ?_; simp only [Act.put, List.setIfInBounds_toArray, List.set_cons_zero, List.set_cons_succ])
        | (refine Settle.Settles.quiet (v := ?_) (by rfl) ?_ ?_
           rotate_left
           · (intro W hS; obtain ⟨⟨_, _, _⟩, ⟨_, _, _⟩, _, _, _⟩ := hS; go_simp; with_reducible rfl)
           simp only [Act.put, List.setIfInBounds_toArray, List.set_cons_zero, List.set_cons_succ])
        | (refine Settle.Settles.call (v := ?_) (f := ?_) (args := ?_) (by rfl) ?_ ?_ ?_
           rotate_left 3
           · (intro W; go_simp; refine ⟨?_, ?_⟩ <;> with_reducible rfl)
           · (intro W hS; fail)
           simp only [Act.put, List.setIfInBounds_toArray, List.set_cons_zero, List.set_cons_succ]))
      refine Settle.Settles.nil ?_
      intro wr S0
      obtain ⟨⟨_, _, _⟩, ⟨_, _, _⟩, _, _, _⟩ := id S0
      go_wp2_with fail
      first
        | exact ⟨⟨i + 1, by omega, by go_num, by rw [hc2.out], S0.1, S0.2.1, S0.2.2.1, S0.2.2.2.2⟩, by simp [intOf]; omega⟩
        | (go_roundw <;> first | exact ⟨i + 1, by omega, by go_num, by rw [hc2.out], S0.1, S0.2.1, S0.2.2.1, S0.2.2.2.2⟩ | (simp [intOf]; omega))
    have g1 : (v == x) = false := by simpa using e1
    by_cases e2 : v = y
    · have g2 : (v == y) = true := by simpa using e2
      have hc2 := Lib.hid (fin.out true (ci + 1) (by rw [HH.out, decide_eq_true e2]; simp) rfl)
      clear HC HH hcn e1 e2 fin
      go_wp2_with fail
      refine Settle.region (fun W => Box3.Box W w.heap.size a b c ∧ Box3.Box W (w.heap.size + 1) x y z ∧ Hid (W.ownsRow (w.heap.size) 3 1 (.slice (some ⟨w.heap.size + 1 + 1, 0, none⟩) 3 3) 3 (icells [a, b, c])) ∧ W.cell? ⟨w.heap.size + 1 + 1, i, none⟩ = some (.int .i64 v) ∧ Below w.heap.size w W) (by kernel_rfl) (by kernel_rfl) (by kernel_rfl) (by kernel_rfl) (HO _ _ S0 ((Below.refl _ _).drew)) ?_
      clear S0
      repeat (first
        | (refine Settle.Settles.off (by rfl) ?_; simp only [Act.put, List.setIfInBounds_toArray, List.set_cons_zero, List.set_cons_succ])
        | (refine Settle.Settles.quiet (v := ?_) (by rfl) ?_ ?_
           rotate_left
           · (intro W hS; obtain ⟨⟨_, _, _⟩, ⟨_, _, _⟩, _, _, _⟩ := hS; go_simp; with_reducible rfl)
           simp only [Act.put, List.setIfInBounds_toArray, List.set_cons_zero, List.set_cons_succ])
        | (refine Settle.Settles.call (v := ?_) (f := ?_) (args := ?_) (by rfl) ?_ ?_ ?_
           rotate_left 3
           · (intro W; go_simp; refine ⟨?_, ?_⟩ <;> with_reducible rfl)
           · (intro W hS; fail)
           simp only [Act.put, List.setIfInBounds_toArray, List.set_cons_zero, List.set_cons_succ]))
      refine Settle.Settles.nil ?_
      intro wr S0
      obtain ⟨⟨_, _, _⟩, ⟨_, _, _⟩, _, _, _⟩ := id S0
      go_wp2_with fail
      first
        | exact ⟨⟨i + 1, by omega, by go_num, by rw [hc2.out], S0.1, S0.2.1, S0.2.2.1, S0.2.2.2.2⟩, by simp [intOf]; omega⟩
        | (go_roundw <;> first | exact ⟨i + 1, by omega, by go_num, by rw [hc2.out], S0.1, S0.2.1, S0.2.2.1, S0.2.2.2.2⟩ | (simp [intOf]; omega))
    have g2 : (v == y) = false := by simpa using e2
    by_cases e3 : v = z
    · have g3 : (v == z) = true := by simpa using e3
      have hc2 := Lib.hid (fin.out true (ci + 1) (by rw [HH.out, decide_eq_true e3]; simp) rfl)
      clear HC HH hcn e1 e2 e3 fin
      go_wp2_with fail
      refine Settle.region (fun W => Box3.Box W w.heap.size a b c ∧ Box3.Box W (w.heap.size + 1) x y z ∧ Hid (W.ownsRow (w.heap.size) 3 1 (.slice (some ⟨w.heap.size + 1 + 1, 0, none⟩) 3 3) 3 (icells [a, b, c])) ∧ W.cell? ⟨w.heap.size + 1 + 1, i, none⟩ = some (.int .i64 v) ∧ Below w.heap.size w W) (by kernel_rfl) (by kernel_rfl) (by kernel_rfl) (by kernel_rfl) (HO _ _ S0 ((Below.refl _ _).drew)) ?_
      clear S0
      repeat (first
        | (refine Settle.Settles.off (by rfl) ?_; simp only [Act.put, List.setIfInBounds_toArray, List.set_cons_zero, List.set_cons_succ])
        | (refine Settle.Settles.quiet (v := ?_) (by rfl) ?_ ?_
           rotate_left
           · (intro W hS; obtain ⟨⟨_, _, _⟩, ⟨_, _, _⟩, _, _, _⟩ := hS; go_simp; with_reducible rfl)
           simp only [Act.put, List.setIfInBounds_toArray, List.set_cons_zero, List.set_cons_succ])
        | (refine Settle.Settles.call (v := ?_) (f := ?_) (args := ?_) (by rfl) ?_ ?_ ?_
           rotate_left 3
           · (intro W; go_simp; refine ⟨?_, ?_⟩ <;> with_reducible rfl)
           · (intro W hS; fail)
           simp only [Act.put, List.setIfInBounds_toArray, List.set_cons_zero, List.set_cons_succ]))
      refine Settle.Settles.nil ?_
      intro wr S0
      obtain ⟨⟨_, _, _⟩, ⟨_, _, _⟩, _, _, _⟩ := id S0
      go_wp2_with fail
      first
        | exact ⟨⟨i + 1, by omega, by go_num, by rw [hc2.out], S0.1, S0.2.1, S0.2.2.1, S0.2.2.2.2⟩, by simp [intOf]; omega⟩
        | (go_roundw <;> first | exact ⟨i + 1, by omega, by go_num, by rw [hc2.out], S0.1, S0.2.1, S0.2.2.1, S0.2.2.2.2⟩ | (simp [intOf]; omega))
    have g3 : (v == z) = false := by simpa using e3
    have hc2 := Lib.hid (fin.out false ci (by rw [HH.out, decide_eq_false e1, decide_eq_false e2, decide_eq_false e3]; rfl) (by simp [TreeMath.one]))
    clear HC HH hcn e1 e2 e3 fin
    go_wp2_with fail
    refine Settle.region (fun W => Box3.Box W w.heap.size a b c ∧ Box3.Box W (w.heap.size + 1) x y z ∧ Hid (W.ownsRow (w.heap.size) 3 1 (.slice (some ⟨w.heap.size + 1 + 1, 0, none⟩) 3 3) 3 (icells [a, b, c])) ∧ W.cell? ⟨w.heap.size + 1 + 1, i, none⟩ = some (.int .i64 v) ∧ Below w.heap.size w W) (by kernel_rfl) (by kernel_rfl) (by kernel_rfl) (by kernel_rfl) (HO _ _ S0 ((Below.refl _ _).drew)) ?_
    clear S0
    repeat (first
      | (refine Settle.Settles.off (by rfl) ?_; simp only [Act.put, List.setIfInBounds_toArray, List.set_cons_zero, List.set_cons_succ])
      | (refine Settle.Settles.quiet (v := ?_) (by rfl) ?_ ?_
         rotate_left
         · (intro W hS; obtain ⟨⟨_, _, _⟩, ⟨_, _, _⟩, _, _, _⟩ := hS; go_simp; with_reducible rfl)
         simp only [Act.put, List.setIfInBounds_toArray, List.set_cons_zero, List.set_cons_succ])
      | (refine Settle.Settles.call (v := ?_) (f := ?_) (args := ?_) (by rfl) ?_ ?_ ?_
         rotate_left 3
         · (intro W; go_simp; refine ⟨?_, ?_⟩ <;> with_reducible rfl)
         · (intro W hS; fail)
         simp only [Act.put, List.setIfInBounds_toArray, List.set_cons_zero, List.set_cons_succ]))
    refine Settle.Settles.nil ?_
    intro wr S0
    obtain ⟨⟨_, _, _⟩, ⟨_, _, _⟩, _, _, _⟩ := id S0
    go_wp2_with fail
    first
      | exact ⟨⟨i + 1, by omega, by go_num, by rw [hc2.out], S0.1, S0.2.1, S0.2.2.1, S0.2.2.2.2⟩, by simp [intOf]; omega⟩
      | (go_roundw <;> first | exact ⟨i + 1, by omega, by go_num, by rw [hc2.out], S0.1, S0.2.1, S0.2.2.1, S0.2.2.2.2⟩ | (simp [intOf]; omega))
end Go.Proofs.YtkcodmafakjkfaaGreat.TreeSpec

