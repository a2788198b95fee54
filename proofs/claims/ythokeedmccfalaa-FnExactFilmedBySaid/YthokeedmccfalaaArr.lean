/-
  An array of eleven walls in a block of the call's own: its cells, what a store leaves, how it is read and written whole. No program stands here.
-/
import Derived.Test.YthokeedmccfalaaGround
import Derived.Test.YthokeedmccfalaaFacts
import Derived.Laws.Rows
import Derived.Laws.Tables
import Derived.Deep.MidRow
namespace Go.Proofs.Ythokeedmccfalaa.Arr
open Go Go.RowKit PointOk Blk CutsMath

theorem wpList_load_whole {P : Program} {ops : Array Oper} {rest : List Oper} {op : Oper} {a : Act} {w : World} {Q : Exit → Act → World → Prop} (hgd : op.guard = none) (t : TypeId) (x : Operand) (ho : op.op = .load t x)
    (g : Nat) (hx : a.eval x = .pointer (some ⟨g, 0, none⟩)) (c : Array Value) (hc : Holds w g c t) (n : Nat) (e : TypeId) (hu : P.underlying t = some (.array n e)) (hi : (P.info? t).map (·.size) = some c.size)
    (h : wpList P ops Q rest (a.put op.dst (.agg c)) w) : wpList P ops Q (op :: rest) a w :=
  wpList_plain hgd fun _ hK => by
    unfold Oper.wp execOp
    simp only [ho, hx, Instr.loadAt, Instr.sureAddr, Sem.run_bind, Sem.run_pure, Result.andThen_ok, run_loadVar_row w g t t c (0, 0) _ hc hu rfl hi]
    exact hK _ _ h
theorem wpList_store_whole {P : Program} {ops : Array Oper} {rest : List Oper} {op : Oper} {a : Act} {w : World} {Q : Exit → Act → World → Prop} (hgd : op.guard = none) (t : TypeId) (x y : Operand) (ho : op.op = .store t x y)
    (g : Nat) (hx : a.eval x = .pointer (some ⟨g, 0, none⟩)) (c' : Array Value) (hy : a.eval y = .agg c') (c : Array Value) (hc : Holds w g c t) (hi : (P.info? t).map (·.size) = some c'.size) (hs : c.size = c'.size) (h1 : c'.all (·.oneCell') = true)
    (h : wpList P ops Q rest (a.put op.dst undef) (w.setRow g c')) : wpList P ops Q (op :: rest) a w :=
  wpList_plain hgd fun _ hK => by
    unfold Oper.wp execOp
    simp only [ho, hx, hy, Instr.storeAt, Instr.sureAddr, Sem.run_bind, Sem.run_pure, Result.andThen_ok, run_storeVar_row w g t t c c' hc hi hs h1]
    exact hK _ _ h
theorem setRow_holds {w : World} {g : Nat} {c c' : Array Value} {t : TypeId} (h : Holds w g c t) : Holds (w.setRow g c') g c' t := by
  unfold Holds at *
  simp [World.setRow, Array.getElem?_modify, h]
theorem setRow_below {w : World} {b g : Nat} (c' : Array Value) (h : b ≤ g) : Below b w (w.setRow g c') := by
  refine ⟨rfl, rfl, rfl, by simp [World.setRow], fun k hk => ?_⟩
  simp only [World.setRow, Array.getElem?_modify]
  rw [if_neg (by omega)]

/-- The cells of an array of eleven walls. -/
def cellsW (q : (Int × Int) × (Int × Int)) : List Value := [.int .i64 q.1.1, .int .i64 q.1.2, .int .i64 q.2.1, .int .i64 q.2.2]
def rowsW (L : List ((Int × Int) × (Int × Int))) : Nat → List Value
  | 0 => []
  | n + 1 => rowsW L n ++ cellsW (gt L n)
def arrL (L : List ((Int × Int) × (Int × Int))) : Array Value := (rowsW L 11).toArray
theorem rowsW_len (L : List ((Int × Int) × (Int × Int))) : ∀ n, (rowsW L n).length = n * 4
  | 0 => rfl
  | n + 1 => by simp [rowsW, rowsW_len L n, cellsW]; omega
theorem rowsW_at (L : List ((Int × Int) × (Int × Int))) : ∀ (n j : Nat), j < n → (rowsW L n)[j * 4]? = some (.int .i64 (gt L j).1.1) ∧ (rowsW L n)[j * 4 + 1]? = some (.int .i64 (gt L j).1.2) ∧ (rowsW L n)[j * 4 + 2]? = some (.int .i64 (gt L j).2.1) ∧ (rowsW L n)[j * 4 + 3]? = some (.int .i64 (gt L j).2.2)
  | 0, j, h => by omega
  | n + 1, j, h => by
    have hl := rowsW_len L n
    simp only [rowsW, List.getElem?_append, hl]
    by_cases hj : j < n
    · rw [if_pos (by omega), if_pos (by omega), if_pos (by omega), if_pos (by omega)]
      exact rowsW_at L n j hj
    · obtain rfl : j = n := by omega
      rw [if_neg (by omega), if_neg (by omega), if_neg (by omega), if_neg (by omega)]
      simp [cellsW, show j * 4 + 1 - j * 4 = 1 by omega, show j * 4 + 2 - j * 4 = 2 by omega, show j * 4 + 3 - j * 4 = 3 by omega]
theorem arrL_size (L : List ((Int × Int) × (Int × Int))) : (arrL L).size = 44 := by simp [arrL, rowsW_len]
theorem rowsW_one (L : List ((Int × Int) × (Int × Int))) : ∀ (n : Nat) (v : Value), v ∈ rowsW L n → v.oneCell' = true
  | 0, v, h => by simp [rowsW] at h
  | n + 1, v, h => by
    simp only [rowsW, List.mem_append] at h
    rcases h with h | h
    · exact rowsW_one L n v h
    · simp [cellsW] at h
      rcases h with rfl | rfl | rfl | rfl <;> rfl
theorem arrL_one (L : List ((Int × Int) × (Int × Int))) : (arrL L).all (·.oneCell') = true := all_oneCell_toArray (rowsW_one L 11)
theorem rowsW_set (L L' : List ((Int × Int) × (Int × Int))) (i : Nat) (x : (Int × Int) × (Int × Int)) (h : ∀ j, gt L' j = if j = i then x else gt L j) : ∀ n, i < n →
    ((((rowsW L n).set (i * 4) (.int .i64 x.1.1)).set (i * 4 + 1) (.int .i64 x.1.2)).set (i * 4 + 2) (.int .i64 x.2.1)).set (i * 4 + 3) (.int .i64 x.2.2) = rowsW L' n
  | 0, hi => by omega
  | n + 1, hi => by
    have hl := rowsW_len L n
    by_cases hin : i < n
    · simp only [rowsW]
      rw [List.set_append_left _ _ (by omega), List.set_append_left _ _ (by simp; omega), List.set_append_left _ _ (by simp; omega), List.set_append_left _ _ (by simp; omega), rowsW_set L L' i x h n hin, h n, if_neg (by omega)]
    · obtain rfl : i = n := by omega
      have same : ∀ m, m ≤ i → rowsW L' m = rowsW L m := by
        intro m
        induction m with
        | zero => intro _; rfl
        | succ m ih => intro hm; simp only [rowsW]; rw [ih (by omega), h m, if_neg (by omega)]
      simp only [rowsW]
      rw [List.set_append_right _ _ (by omega), List.set_append_right _ _ (by omega), List.set_append_right _ _ (by omega), List.set_append_right _ _ (by omega), same i (Nat.le_refl _), h i, if_pos rfl, hl]
      simp [cellsW, show i * 4 + 1 - i * 4 = 1 by omega, show i * 4 + 2 - i * 4 = 2 by omega, show i * 4 + 3 - i * 4 = 3 by omega]
/-- Four cells in a row of an array. -/
def FourAt (w : World) (g k : Nat) (q : (Int × Int) × (Int × Int)) : Prop :=
  (w.cell? ⟨g, k * 4, none⟩ = some (.int .i64 q.1.1) ∧ w.cell? ⟨g, k * 4 + 1, none⟩ = some (.int .i64 q.1.2) ∧ w.cell? ⟨g, k * 4 + 2, none⟩ = some (.int .i64 q.2.1) ∧ w.cell? ⟨g, k * 4 + 3, none⟩ = some (.int .i64 q.2.2)) ∧
  w.frozen? ⟨g, k * 4, none⟩ = false ∧ w.frozen? ⟨g, k * 4 + 1, none⟩ = false ∧ w.frozen? ⟨g, k * 4 + 2, none⟩ = false ∧ w.frozen? ⟨g, k * 4 + 3, none⟩ = false
theorem four_atN {w : World} {g n : Nat} {L : List ((Int × Int) × (Int × Int))} {T : TypeId} (h : Holds w g (rowsW L n).toArray T) {k : Nat} (hk : k < n) : FourAt w g k (gt L k) := by
  obtain ⟨e0, e1, e2, e3⟩ := rowsW_at L n k hk
  have c0 := cell_of_row w g (k * 4) _ _ _ h
  have c1 := cell_of_row w g (k * 4 + 1) _ _ _ h
  have c2 := cell_of_row w g (k * 4 + 2) _ _ _ h
  have c3 := cell_of_row w g (k * 4 + 3) _ _ _ h
  rw [List.getElem?_toArray] at c0 c1 c2 c3
  unfold Holds at h
  exact ⟨⟨c0.trans e0, c1.trans e1, c2.trans e2, c3.trans e3⟩, by simp [World.frozen?, h], by simp [World.frozen?, h], by simp [World.frozen?, h], by simp [World.frozen?, h]⟩
theorem four_at {w : World} {g : Nat} {L : List ((Int × Int) × (Int × Int))} {T : TypeId} (h : Holds w g (arrL L) T) {k : Nat} (hk : k < 11) : FourAt w g k (gt L k) := four_atN h hk
theorem set_fourN {w : World} {g n : Nat} {L L' : List ((Int × Int) × (Int × Int))} {T : TypeId} (h : Holds w g (rowsW L n).toArray T) {i : Nat} (hi : i < n) (x : (Int × Int) × (Int × Int)) (hL : ∀ j, gt L' j = if j = i then x else gt L j) :
    Holds ((((w.setCell ⟨g, i * 4, none⟩ (.int .i64 x.1.1)).setCell ⟨g, i * 4 + 1, none⟩ (.int .i64 x.1.2)).setCell ⟨g, i * 4 + 2, none⟩ (.int .i64 x.2.1)).setCell ⟨g, i * 4 + 3, none⟩ (.int .i64 x.2.2)) g (rowsW L' n).toArray T := by
  have := set_own (set_own (set_own (set_own h (i * 4) (.int .i64 x.1.1)) (i * 4 + 1) (.int .i64 x.1.2)) (i * 4 + 2) (.int .i64 x.2.1)) (i * 4 + 3) (.int .i64 x.2.2)
  rw [List.setIfInBounds_toArray, List.setIfInBounds_toArray, List.setIfInBounds_toArray, List.setIfInBounds_toArray, rowsW_set L L' i x hL n hi] at this
  exact this
/-- What a store of one wall leaves. -/
theorem set_four {w : World} {g : Nat} {L L' : List ((Int × Int) × (Int × Int))} {T : TypeId} (h : Holds w g (arrL L) T) {i : Nat} (hi : i < 11) (x : (Int × Int) × (Int × Int)) (hL : ∀ j, gt L' j = if j = i then x else gt L j) :
    Holds ((((w.setCell ⟨g, i * 4, none⟩ (.int .i64 x.1.1)).setCell ⟨g, i * 4 + 1, none⟩ (.int .i64 x.1.2)).setCell ⟨g, i * 4 + 2, none⟩ (.int .i64 x.2.1)).setCell ⟨g, i * 4 + 3, none⟩ (.int .i64 x.2.2)) g (arrL L') T := set_fourN h hi x hL
theorem set_same {l : List Value} {m : Nat} {v : Value} (h : l[m]? = some v) : l.set m v = l := by
  apply List.ext_getElem?
  intro j
  rw [List.getElem?_set]
  split
  · rename_i hm
    subst hm
    rw [h, if_pos (List.getElem?_eq_some_iff.1 h).1]
  · rfl
theorem set_twoN {w : World} {g n : Nat} {L L' : List ((Int × Int) × (Int × Int))} {T : TypeId} (h : Holds w g (rowsW L n).toArray T) {i : Nat} (hi : i < n) (p : Int × Int) (hL : ∀ j, gt L' j = if j = i then ((gt L i).1, p) else gt L j) :
    Holds ((w.setCell ⟨g, i * 4 + 2, none⟩ (.int .i64 p.1)).setCell ⟨g, i * 4 + 3, none⟩ (.int .i64 p.2)) g (rowsW L' n).toArray T := by
  have := set_own (set_own h (i * 4 + 2) (.int .i64 p.1)) (i * 4 + 3) (.int .i64 p.2)
  obtain ⟨e0, e1, _, _⟩ := rowsW_at L n i hi
  have r := rowsW_set L L' i ((gt L i).1, p) hL n hi
  simp only at r
  rw [set_same e0, set_same e1] at r
  rw [List.setIfInBounds_toArray, List.setIfInBounds_toArray, r] at this
  exact this
/-- What a store of a wall's second end leaves. -/
theorem set_two {w : World} {g : Nat} {L L' : List ((Int × Int) × (Int × Int))} {T : TypeId} (h : Holds w g (arrL L) T) {i : Nat} (hi : i < 11) (p : Int × Int) (hL : ∀ j, gt L' j = if j = i then ((gt L i).1, p) else gt L j) :
    Holds ((w.setCell ⟨g, i * 4 + 2, none⟩ (.int .i64 p.1)).setCell ⟨g, i * 4 + 3, none⟩ (.int .i64 p.2)) g (arrL L') T := set_twoN h hi p hL
theorem gt_append {L : List ((Int × Int) × (Int × Int))} {x : (Int × Int) × (Int × Int)} (j : Nat) : gt (L ++ [x]) j = if j = L.length then x else gt L j := by
  unfold gt
  rw [List.getD_eq_getElem?_getD, List.getD_eq_getElem?_getD, List.getElem?_append]
  by_cases h1 : j < L.length
  · rw [if_pos h1, if_neg (by omega)]
  · rw [if_neg h1]
    by_cases h2 : j = L.length
    · subst h2; simp
    · rw [if_neg h2, List.getElem?_eq_none (by simp; omega), List.getElem?_eq_none (by omega)]
theorem gt_split {L : List ((Int × Int) × (Int × Int))} {p : Int × Int} {k : Nat} (h : firstH L p = some k) (j : Nat) : gt (split L p) j = if j = k then ((gt (L ++ [(p, (gt L k).2)]) k).1, p) else gt (L ++ [(p, (gt L k).2)]) j := by
  have hk := (firstH_some h).1
  rw [split_some h, gt_set hk, gt_append, gt_append, if_neg (show ¬ k = L.length by omega)]

/-- Four numbers in a row of an array, at index k; they may be written. -/
def FourC (w : World) (g k : Nat) (a b c d : Int) : Prop :=
  w.cell? ⟨g, k * 4, none⟩ = some (.int .i64 a) ∧ w.cell? ⟨g, k * 4 + 1, none⟩ = some (.int .i64 b) ∧ w.cell? ⟨g, k * 4 + 2, none⟩ = some (.int .i64 c) ∧ w.cell? ⟨g, k * 4 + 3, none⟩ = some (.int .i64 d)
def FourF (w : World) (g k : Nat) : Prop :=
  w.frozen? ⟨g, k * 4, none⟩ = false ∧ w.frozen? ⟨g, k * 4 + 1, none⟩ = false ∧ w.frozen? ⟨g, k * 4 + 2, none⟩ = false ∧ w.frozen? ⟨g, k * 4 + 3, none⟩ = false
theorem fourC {w : World} {g : Nat} {L : List ((Int × Int) × (Int × Int))} {T : TypeId} (h : Holds w g (arrL L) T) {k : Nat} (hk : k < 11) {a b c d : Int} (hq : gt L k = ((a, b), (c, d))) : FourC w g k a b c d := by
  have := (four_at h hk).1
  rw [hq] at this
  exact this
theorem fourF {w : World} {g : Nat} {L : List ((Int × Int) × (Int × Int))} {T : TypeId} (h : Holds w g (arrL L) T) {k : Nat} (hk : k < 11) : FourF w g k := (four_at h hk).2
/-- Whatever holds of the world is all that is known of it. -/
theorem wp_at {P : Program} {c : Code} {Q : Exit → Act → World → Prop} {a : Act} {S : World → Prop} {W : World} (hS : S W) (h : ∀ v, S v → c.wp P Q a v) : c.wp P Q a W := h W hS
/-- The three blocks with which the cutting begins. -/
theorem begins (w : World) (A : Option Addr) (ps : List (Int × Int)) (hp : Pts.PtsAt w w.heap.size A ps) (c1 : Array Value) (t1 t : TypeId) (L : List ((Int × Int) × (Int × Int))) :
    Pts.PtsAt ((((w.alloc (.cells c1 t1)).alloc (.cells (arrL []) t)).alloc (.cells (arrL []) t)).setRow (w.heap.size + 1 + 1) (arrL L)) w.heap.size A ps ∧
    Holds ((((w.alloc (.cells c1 t1)).alloc (.cells (arrL []) t)).alloc (.cells (arrL []) t)).setRow (w.heap.size + 1 + 1) (arrL L)) (w.heap.size + 1) (arrL []) t ∧
    w.heap.size + 3 ≤ ((((w.alloc (.cells c1 t1)).alloc (.cells (arrL []) t)).alloc (.cells (arrL []) t)).setRow (w.heap.size + 1 + 1) (arrL L)).heap.size ∧
    Below w.heap.size w ((((w.alloc (.cells c1 t1)).alloc (.cells (arrL []) t)).alloc (.cells (arrL []) t)).setRow (w.heap.size + 1 + 1) (arrL L)) ∧
    Holds ((((w.alloc (.cells c1 t1)).alloc (.cells (arrL []) t)).alloc (.cells (arrL []) t)).setRow (w.heap.size + 1 + 1) (arrL L)) (w.heap.size + 2) (arrL L) t := by
  have b3 := below3 w (.cells c1 t1) (.cells (arrL []) t) (.cells (arrL []) t)
  have b4 := setRow_below (w := ((w.alloc (.cells c1 t1)).alloc (.cells (arrL []) t)).alloc (.cells (arrL []) t)) (b := w.heap.size + 2) (g := w.heap.size + 1 + 1) (arrL L) (by omega)
  have h1 := (Holds.box (w.alloc (.cells c1 t1)) (arrL []) t (k := w.heap.size + 1) (by simp)).alloc (.cells (arrL []) t)
  have h2 := Holds.box ((w.alloc (.cells c1 t1)).alloc (.cells (arrL []) t)) (arrL []) t (k := w.heap.size + 1 + 1) (by simp)
  have hz : (((w.alloc (.cells c1 t1)).alloc (.cells (arrL []) t)).alloc (.cells (arrL []) t)).heap.size = w.heap.size + 3 := by simp
  have b5 := b3.trans (b4.mono (by omega))
  exact ⟨hp.later b5, (b4.block _ (by omega)).trans h1, by rw [← hz]; exact b4.size, b5, setRow_holds h2⟩
theorem cut_small {cs : List (Int × Int)} {w : (Int × Int) × (Int × Int)} (h : PlaceMath.smAll cs) (ha : PointMath.smP w.1.1 w.1.2) (hb : PointMath.smP w.2.1 w.2.2) : ∀ k, k ≤ cs.length → ∀ j, PointMath.smP (gt (cutTo cs w k) j).1.1 (gt (cutTo cs w k) j).1.2 ∧ PointMath.smP (gt (cutTo cs w k) j).2.1 (gt (cutTo cs w k) j).2.2
  | 0, _, j => by
    have z : PointMath.smP 0 0 := by unfold PointMath.smP; omega
    cases j with
    | zero => exact ⟨ha, hb⟩
    | succ j => exact ⟨z, z⟩
  | k + 1, hk, j => by
    have ih := cut_small h ha hb k (by omega)
    simp only [cutTo]
    generalize cutTo cs w k = L at *
    cases e : firstH L (RoomMath.pt cs k) with
    | none => rw [split_none e]; exact ih j
    | some i =>
      have hp := h k (by omega)
      rw [gt_split e]
      split
      · refine ⟨?_, hp⟩
        rw [gt_append]
        split
        · exact hp
        · exact (ih i).1
      · rw [gt_append]
        split
        · exact ⟨hp, (ih i).2⟩
        · exact ih j
theorem cut_all {F : Int × Int → Prop} {cs : List (Int × Int)} {w : (Int × Int) × (Int × Int)} (hz : F (0, 0)) (h : ∀ k, k < cs.length → F (RoomMath.pt cs k)) (ha : F w.1) (hb : F w.2) : ∀ k, k ≤ cs.length → ∀ j, F (gt (cutTo cs w k) j).1 ∧ F (gt (cutTo cs w k) j).2
  | 0, _, j => by
    cases j with
    | zero => exact ⟨ha, hb⟩
    | succ j => exact ⟨hz, hz⟩
  | k + 1, hk, j => by
    have ih := cut_all hz h ha hb k (by omega)
    simp only [cutTo]
    generalize cutTo cs w k = L at *
    cases e : firstH L (RoomMath.pt cs k) with
    | none => rw [split_none e]; exact ih j
    | some i =>
      have hp := h k (by omega)
      rw [gt_split e]
      split
      · refine ⟨?_, hp⟩
        rw [gt_append]
        split
        · exact hp
        · exact (ih i).1
      · rw [gt_append]
        split
        · exact ⟨hp, (ih i).2⟩
        · exact ih j
/-- A new array, written whole. -/
theorem new_array (w : World) (t : TypeId) (L : List ((Int × Int) × (Int × Int))) :
    Below w.heap.size w ((w.alloc (.cells (arrL []) t)).setRow w.heap.size (arrL L)) ∧ Holds ((w.alloc (.cells (arrL []) t)).setRow w.heap.size (arrL L)) w.heap.size (arrL L) t ∧ w.heap.size < ((w.alloc (.cells (arrL []) t)).setRow w.heap.size (arrL L)).heap.size := by
  have h := setRow_holds (c' := arrL L) (Holds.new w (arrL []) t)
  exact ⟨(below1 w _).trans (setRow_below _ (Nat.le_refl _)), h, h.lt⟩
end Go.Proofs.Ythokeedmccfalaa.Arr
