/-
  What the landed ColorsOf does, as a contract, with the iterator that it goes by.
-/
import Derived.RangeFuncNested
import Derived.RangeFuncBound
import Derived.RangeFuncCalls
import Derived.RangeFuncLeaves
import Derived.RangeFuncBox
import Derived.Shelf.Abstract
import Derived.Shelf.RegionOpen
import Derived.WalkKit
import Derived.OwnWalkIn
import Derived.TacticsInMore
import Derived.LoopNIn
import Derived.LoopIn
import Derived.Test.YtkcodmafakjkfaaGreatProg
import Derived.Test.YtkcodmafakjkfaaGreatGround
import Derived.Test.YtkcodmafakjkfaaGreatTup3
import Derived.Test.YtkcodmafakjkfaaGreatTreeLand
import Derived.Test.YtkcodmafakjkfaaGreatAreColMath
import Derived.Test.YtkcodmafakjkfaaGreatColA
import Derived.Test.YtkcodmafakjkfaaGreatAppOne
import Derived.Test.YtkcodmafakjkfaaGreatRoomRes
import Derived.Deep.RegionHeld3
import Derived.Laws.Cover3

/-
  What the iterator of slices.Backward over triangles does: it hands them to the loop from the last one to the first one; the loop's body may write one map.
-/
namespace Go.Proofs.YtkcodmafakjkfaaGreat.ColBack
open Go.RowKit Go.Shelf PointOk Blk Pts Tup3
attribute [local go_sem] Oper.semAt_some

/-- What a round keeps: whatever lay below n₀, but for the map. -/
def Kq (n₀ bm : Nat) (W W' : World) : Prop := W.heap.size ≤ W'.heap.size ∧ ∀ k, k < n₀ → k ≠ bm → W'.heap[k]? = W.heap[k]?
theorem Kq.refl (n₀ bm : Nat) (W : World) : Kq n₀ bm W W := ⟨Nat.le_refl _, fun _ _ _ => rfl⟩
theorem Kq.t {n₀ bm : Nat} {A B C : World} (h : Kq n₀ bm A B) (k : Kq n₀ bm B C) : Kq n₀ bm A C := ⟨Nat.le_trans h.1 k.1, fun i hi hne => (k.2 i hi hne).trans (h.2 i hi hne)⟩
theorem Kq.b {n₀ bm : Nat} {w : World} (hn : n₀ ≤ w.heap.size) (W : World) (l : Nat) (o o' : Obj) (hl : w.heap.size ≤ l) (_ : W.heap[l]? = some o) (_ : o.isCells = false) (_ : o.isWalk = false) : Kq n₀ bm W (W.putObj l o') :=
  ⟨(grownBy_putObj' W l o').size, fun k hk _ => World.putObj_heap_other (by omega)⟩
theorem Kq.grown {n₀ bm : Nat} {W W' : World} (h : W.grownBy W' (some bm)) (hn : n₀ ≤ W.heap.size) : Kq n₀ bm W W' :=
  ⟨h.size, fun k hk hne => h.block k (by omega) (fun e => hne (Option.some.inj e))⟩
theorem Kq.cell {n₀ bm : Nat} {W W' : World} (h : Kq n₀ bm W W') {p : Addr} (hp : p.block < n₀) (hne : p.block ≠ bm) : W'.cell? p = W.cell? p := World.cell?_of_block (w := W) (h.2 p.block hp hne)
theorem Kq.ts {n₀ bm : Nat} {W W' : World} {A : Option Addr} {L : List Tu} (h : Kq n₀ bm W W') (hT : TsAt W n₀ A L) (hne : ∀ ad, A = some ad → ad.block ≠ bm) : TsAt W' n₀ A L := by
  intro j hj
  obtain ⟨ad, h1, h2, h3, h4, h5⟩ := hT j hj
  have hb : (ad.add (j * 3)).block = ad.block := block_add _ _
  have e1 : (ad.add (j * 3)).block < n₀ := by rw [hb]; exact h2
  have e2 : (ad.add (j * 3)).block ≠ bm := by rw [hb]; exact hne ad h1
  exact ⟨ad, h1, h2, (h.cell e1 e2).trans h3, (h.cell (by exact e1) (by exact e2)).trans h4, (h.cell (by exact e1) (by exact e2)).trans h5⟩

/-- The numbers from q down to k. -/
def downs (q k : Nat) : List Nat := (List.range' k (q - k)).reverse
theorem downs_top (q : Nat) : downs q q = [] := by simp [downs]
theorem downs_step {q k : Nat} (h : k < q) : downs q k = downs q (k + 1) ++ [k] := by
  unfold downs
  rw [show q - k = (q - (k + 1)) + 1 by omega, List.range'_succ, List.reverse_cons]
theorem downs_len (q k : Nat) : (downs q k).length = q - k := by simp [downs]
def nums {q : Nat} (l : List (Fin q)) : List Nat := l.map fun y => y.val
theorem nums_snoc {q : Nat} (l : List (Fin q)) (y : Fin q) : nums (l ++ [y]) = nums l ++ [y.val] := by simp [nums]
theorem nums_len {q : Nat} (l : List (Fin q)) : (nums l).length = l.length := by simp [nums]
/-- What the loop is handed at number k. -/
def enc (L : List Tu) (q : Nat) (y : Fin q) : Array Value := #[.int .i64 (y.val : Int), .agg #[.int .i64 (tt L y.val).1, .int .i64 (tt L y.val).2.1, .int .i64 (tt L y.val).2.2]]

set_option maxRecDepth 100000 in
set_option maxHeartbeats 1600000 in
theorem backward_in (m : Nat) (hm : 1 ≤ m) (l Bb n₀ bm q cap : Nat) (A : Option Addr) (L : List Tu) (hq : q ≤ L.length) (hq2 : q ≤ 11) (J Jx : List (Fin q) → World → Prop) (W : World)
    (hY : ∀ pre x W1, J pre W1 → pre.length < 12 → YieldAt Fence.wide (m - 1) Tryz.prog l (enc L q x) W1 fun e W' =>
      (e = .returned (.bool true) ∧ J (pre ++ [x]) W' ∧ Kq n₀ bm W1 W') ∨ (e = .returned (.bool false) ∧ Jx (pre ++ [x]) W'))
    (h0 : J [] W) (hB : Holds W Bb #[.slice A q cap] 26) (hBn : Bb < n₀) (hBm : Bb ≠ bm) (hT : TsAt W n₀ A L) (hA : ∀ ad, A = some ad → ad.block ≠ bm) :
    CallsIn Fence.wide m Tryz.prog 106 #[.func (.yield l) #[] #[], .pointer (some ⟨Bb, 0, none⟩)] W fun e W' => (∃ v, e = .returned v) ∧
      ((∃ xs, nums xs = downs q 0 ∧ J xs W') ∨ (∃ pre, True ∧ Jx pre W')) := by
  obtain ⟨cB, _⟩ := hB.one
  have HY := Lib.hid hY
  clear hY hB
  have uq : IntKind.i64.wrap ((q : Int) - 1) = (q : Int) - 1 := IntWalk.i64_in _ (by omega)
  refine callsIn_of_wp Tryz.func106 rfl trivial ?_ rfl
  simp only [Tryz.ntmps106, List.size_toArray, List.length_cons, List.length_nil, Nat.reduceAdd, Nat.reduceSub, Array.replicate_succ, Array.replicate_zero, List.push_toArray, List.append_toArray, List.nil_append, List.cons_append]
  gi_wp2
  gi_loopw [3] (fun i wr => ∃ (k : Nat) (pre : List (Fin q)), k ≤ q ∧ i = .int .i64 ((k : Int) - 1) ∧ Hid (nums pre = downs q k) ∧ J pre wr ∧ Kq n₀ bm W wr)
    (fun i _ => (intOf i + 1).toNat)
  case atStart => exact ⟨q, [], Nat.le_refl _, rfl, Lib.hid (by rw [downs_top]; rfl), h0, Kq.refl _ _ _⟩
  case round =>
    clear h0
    obtain ⟨k, pre, hk, rfl, hpre, hJ, hK⟩ := hrel
    have c1 : wr.cell? ⟨Bb, 0, none⟩ = some (.slice A q cap) := (hK.cell (p := ⟨Bb, 0, none⟩) hBn hBm).trans cB
    by_cases hk0 : k = 0
    · subst hk0
      have hg : ¬ (0 : Int) ≤ ((0 : Nat) : Int) - 1 := by omega
      clear uq
      gi_wp2
      go_end0
      exact ⟨⟨_, rfl⟩, .inl ⟨pre, hpre.out, hJ⟩⟩
    obtain ⟨j, rfl⟩ : ∃ j, k = j + 1 := ⟨k - 1, by omega⟩
    have ej : (((j + 1 : Nat) : Int) - 1) = (j : Int) := by omega
    rw [ej]
    have j0 : (0 : Int) ≤ (j : Int) := by omega
    have j1 : (j : Int) < (q : Int) := by omega
    have uj : IntKind.i64.wrap ((j : Int) - 1) = (j : Int) - 1 := IntWalk.i64_in _ (by omega)
    have p0 := tt_at (ps := L) (k := j) (by omega)
    have hlen : pre.length < 12 := by rw [← nums_len, hpre.out, downs_len]; omega
    have hS : Hid (∀ y : Fin q, y.val = j → nums (pre ++ [y]) = downs q j) := Lib.hid (fun y hy => by rw [nums_snoc, hpre.out, hy]; exact (downs_step (by omega)).symm)
    obtain ⟨y, hy⟩ : ∃ y : Fin q, y.val = j := ⟨⟨j, by omega⟩, rfl⟩
    obtain ⟨fn, tmps, assign, body, hyy, hR⟩ := HY.out pre y wr hJ hlen
    unfold enc at hyy
    rw [hy] at hyy
    obtain ⟨a, b, c, hx⟩ : ∃ a b c, tt L j = (a, b, c) := ⟨_, _, _, rfl⟩
    rw [hx] at p0 hyy
    dsimp only at hyy
    obtain ⟨ad, rfl, bA, pA⟩ := (hK.ts hT hA).get p0
    obtain ⟨q0, q1, q2⟩ := pA
    clear hpre p0 uq HY hx
    gi_wp2
    refine hR.mono ?_
    rintro e W3 (⟨rfl, hJ3, hk3⟩ | ⟨rfl, hJx3⟩)
    · have hK3 := hK.t hk3
      clear q0 q1 q2 c1
      gi_wp2
      go_roundw
      case rel => exact ⟨j, pre ++ [y], by omega, by go_num, Lib.hid (hS.out y hy), hJ3, hK3⟩
      case measure => simp [intOf]
    · gi_wp2
      refine bodyPost_ret (results_none rfl _ _ _) rfl ?_
      exact ⟨⟨_, rfl⟩, .inr ⟨pre ++ [y], trivial, hJx3⟩⟩

/-- The value that comes back: the iterator, over a box of its own. -/
theorem backward (m q cap : Nat) (A : Option Addr) (w : World) :
    CallsIn Fence.wide m Tryz.prog 72 #[.slice A q cap] w fun e w' =>
      e = .returned (.func (.func 106) #[] #[.pointer (some ⟨w.heap.size, 0, none⟩)]) ∧ w' = w.alloc (.cells #[.slice A q cap] 26) := by
  refine callsIn_of_wp Tryz.func72 rfl trivial ?_ rfl
  simp only [Tryz.ntmps72, List.size_toArray, List.length_cons, List.length_nil, Nat.reduceAdd, Nat.reduceSub, Array.replicate_succ, Array.replicate_zero, List.push_toArray, List.append_toArray, List.nil_append, List.cons_append]
  gi_wp2
  go_ret
  exact ⟨rfl, rfl⟩

theorem back_stops (m : Nat) (hm : 1 ≤ m) (Bb n₀ bm q cap : Nat) (A : Option Addr) (L : List Tu) (hq : q ≤ L.length) (hq2 : q ≤ 11) (w : World) (hn : n₀ ≤ w.heap.size)
    (hB : Holds w Bb #[.slice A q cap] 26) (hBn : Bb < n₀) (hBm : Bb ≠ bm) (hT : TsAt w n₀ A L) (hA : ∀ ad, A = some ad → ad.block ≠ bm) :
    SeqStopsK Fence.wide m Tryz.prog 106 #[.pointer (some ⟨Bb, 0, none⟩)] (enc L q) (Kq n₀ bm)
      (fun xs => nums xs = downs q 0) (fun _ => True) 12 w := fun l J Jx W hW _ _ hY h0 =>
  backward_in m hm l Bb n₀ bm q cap A L hq hq2 J Jx W hY h0 (hB.later hW) hBn hBm (hT.later (hW.mono hn)) hA
def marks (l : List Nat) : List Deferred := l.map fun D => { target := .collected D, args := #[] }
/-- Each mark's block holds no call. -/
def Marked (l : List Nat) (base : Nat) (W : World) : Prop := l.Nodup ∧ ∀ D ∈ l, base ≤ D ∧ W.heap[D]? = some (.deferred (some []))
theorem Marked.kept {l : List Nat} {base : Nat} {W W' : World} (h : Marked l base W) (hk : ∀ (k : Nat) (o : Obj), W.heap[k]? = some o → o.isCells = false → W'.heap[k]? = some o) : Marked l base W' :=
  ⟨h.1, fun D hD => ⟨(h.2 D hD).1, hk D _ (h.2 D hD).2 rfl⟩⟩
theorem Marked.others {l : List Nat} {base : Nat} {W W' : World} (h : Marked l base W) (hk : KeepsOthers W W') : Marked l base W' := h.kept hk.same
theorem Marked.lt {l : List Nat} {base : Nat} {W : World} (h : Marked l base W) : ∀ D ∈ l, D < W.heap.size := fun D hD => (Array.getElem?_eq_some_iff.1 (h.2 D hD).2).1
theorem Marked.calm {l : List Nat} {base B : Nat} {W W' : World} {row : Option Nat} (h : Marked l base W) (hlt : ∀ D ∈ l, D < B) (hg : W.grownBy W' row) (hr : ∀ r, row = some r → B ≤ r) : Marked l base W' :=
  ⟨h.1, fun D hD => ⟨(h.2 D hD).1, (hg.block D (h.lt D hD) (fun e => by have := hr D e.symm; have := hlt D hD; omega)).trans (h.2 D hD).2⟩⟩
theorem leaves_marks {F : Fence} {n : Nat} {P : Program} {fn : Func} {tmps : Array Value} {R : Ending → World → Prop} {base : Nat} (S : World → Prop)
    (hput : ∀ (W : World) (D : Nat), base ≤ D → W.heap[D]? = some (.deferred (some [])) → S W → S (W.putObj D (.deferred none)))
    (hend : ∀ W, S W → ∃ v, (results fn tmps).run P W = .ok v W ∧ R (.returned v) W) : ∀ (l : List Nat) (W : World), Marked l base W → S W → LeavesInM F n P fn tmps R (marks l) .returning W
  | [], W, _, hS => hend W hS
  | D :: l, W, hm, hS => by
    obtain ⟨hb, hK⟩ := hm.2 D (by simp)
    refine ⟨by simp, .inl ⟨D, _, rfl, run_takeDeferred hK, ?_⟩⟩
    refine leaves_marks S hput hend l _ ⟨(List.nodup_cons.1 hm.1).2, fun E hE => ⟨(hm.2 E (by simp [hE])).1, ?_⟩⟩ (hput W D hb hK hS)
    have hne : E ≠ D := fun e => (List.nodup_cons.1 hm.1).1 (e ▸ hE)
    exact (World.putObj_heap_other (by omega)).trans (hm.2 E (by simp [hE])).2
end Go.Proofs.YtkcodmafakjkfaaGreat.ColBack

/-
  What the landed ColorsOf does, as a contract: the colors, in a new slice that is nil if there are none.
-/
namespace Go.Proofs.YtkcodmafakjkfaaGreat.ColLand
open Go.RowKit PointMath WallMath RoomMath Pts Blk AreaMath PlaceMath FloorMath LineMath CutsMath SightMath DiagMath TriMath TrisMath ColMath ColRun Ints Tup3 TriRow TrisLand IntMap ColBack
open PointOk (ret_bool ret_i64 below1 below2 below3)
open RoomRes (grown_set)
open Go.Proofs.YtkcodmafakjkfaaGreat.Own (icells icells_length icells_at icells_snoc own_base own_below own_shape own_cell own_empty grown_of_below grown_trans)
attribute [local go_sem] Oper.semAt_some

/-- Numbers came back in new memory; none: nil. -/
def GivesK (w : World) (l : List Int) (en : Ending) (w' : World) : Prop :=
  ∃ A c, en = .returned (.slice A l.length c) ∧ w'.ownsRow w.heap.size 3 1 (.slice A l.length c) l.length (icells l) ∧ (l = [] → A = none) ∧ Below w.heap.size w w'

theorem keptH {W W' : World} {k g : Nat} {cs : Array Value} {T : TypeId} (h : Holds W k cs T) (hg : W.grownBy W' (some g)) (hne : k ≠ g) : Holds W' k cs T :=
  (hg.block k h.lt (fun e => hne (Option.some.inj e))).trans h
theorem perm_xyz {n x y z : Nat} (hxy : x < y) (hyz : y < z) (hz : z < n) (p : Int) : upd (upd (upd (fun _ => none) x 0) y 1) z 2 p = fOf (colBase n ((x : Int), (y : Int), (z : Int))) p := fOf_base hxy hyz hz p
theorem perm_xzy {n x y z : Nat} (hxy : x < y) (hyz : y < z) (hz : z < n) (p : Int) : upd (upd (upd (fun _ => none) x 0) z 2) y 1 p = fOf (colBase n ((x : Int), (y : Int), (z : Int))) p := by
  rw [upd_comm (show (z : Int) ≠ (y : Int) by omega)]; exact perm_xyz hxy hyz hz p
theorem perm_yxz {n x y z : Nat} (hxy : x < y) (hyz : y < z) (hz : z < n) (p : Int) : upd (upd (upd (fun _ => none) y 1) x 0) z 2 p = fOf (colBase n ((x : Int), (y : Int), (z : Int))) p := by
  rw [upd_comm (a := (y : Int)) (b := (x : Int)) (by omega)]; exact perm_xyz hxy hyz hz p
theorem perm_yzx {n x y z : Nat} (hxy : x < y) (hyz : y < z) (hz : z < n) (p : Int) : upd (upd (upd (fun _ => none) y 1) z 2) x 0 p = fOf (colBase n ((x : Int), (y : Int), (z : Int))) p := by
  rw [upd_comm (a := (z : Int)) (b := (x : Int)) (by omega)]; exact perm_yxz hxy hyz hz p
theorem perm_zxy {n x y z : Nat} (hxy : x < y) (hyz : y < z) (hz : z < n) (p : Int) : upd (upd (upd (fun _ => none) z 2) x 0) y 1 p = fOf (colBase n ((x : Int), (y : Int), (z : Int))) p := by
  rw [upd_comm (a := (z : Int)) (b := (x : Int)) (by omega)]; exact perm_xzy hxy hyz hz p
theorem perm_zyx {n x y z : Nat} (hxy : x < y) (hyz : y < z) (hz : z < n) (p : Int) : upd (upd (upd (fun _ => none) z 2) y 1) x 0 p = fOf (colBase n ((x : Int), (y : Int), (z : Int))) p := by
  rw [upd_comm (a := (z : Int)) (b := (y : Int)) (by omega)]; exact perm_yzx hxy hyz hz p

/-- How large a color may have grown, whatever the loop is handed. -/
def bK : Nat → Int
  | 0 => 3
  | j + 1 => 4 * bK j
theorem bK_lo : ∀ j, 3 ≤ bK j
  | 0 => by show (3 : Int) ≤ 3; omega
  | j + 1 => by have := bK_lo j; show (3 : Int) ≤ 4 * bK j; omega
theorem bK_hi : ∀ j, j < 13 → bK j ≤ 100000000 := by decide
def Bd (K : Int) (f : Int → Option Int) : Prop := ∀ k : Int, -K ≤ (f k).getD 0 ∧ (f k).getD 0 ≤ K
theorem bd_upd {K : Int} {f : Int → Option Int} (_hK : 3 ≤ K) (h : Bd K f) (t r : Int) (hr : -(4 * K) ≤ r ∧ r ≤ 4 * K) : Bd (4 * K) (upd f t r) := by
  intro k
  unfold upd
  split
  · exact hr
  · have := h k; omega
theorem bd_base {n : Nat} {x y z : Nat} (hxy : x < y) (hyz : y < z) (hz : z < n) : Bd 3 (fOf (colBase n ((x : Int), (y : Int), (z : Int)))) := by
  intro k
  by_cases h0 : 0 ≤ k
  · obtain ⟨j, rfl⟩ := Int.eq_ofNat_of_zero_le h0
    rw [fOf_get, cg_base hxy hyz hz]
    split <;> (try split) <;> (try split) <;> (try split) <;> omega
  · unfold fOf
    rw [if_neg (by omega)]
    show -3 ≤ (0 : Int) ∧ (0 : Int) ≤ 3
    omega

set_option maxRecDepth 100000 in
set_option maxHeartbeats 25600000 in
theorem colorsOf (A : Option Addr) (n cap : Nat) (w : World) (ps : List (Int × Int)) (hl : ps.length = n) (hn : n ≤ 1048576) (hp : PtsAt w w.heap.size A ps) :
    Calls Tryz.prog 28 #[.agg #[.slice A n cap]] w (GivesK w (colL ps)) := by
  obtain ⟨r, hr⟩ : ∃ r, colL ps = r := ⟨_, rfl⟩
  have HR := Lib.hid hr
  rw [hr]
  clear hr
  have hn0 : ∀ (l c : Nat) (w : World), (binOp .eql 26 (.slice none l c) (.slice none 0 0)).run Tryz.prog w = .ok (.bool true) w := fun _ _ _ => by kernel_rfl
  have hn1 : ∀ (a : Addr) (l c : Nat) (w : World), (binOp .eql 26 (.slice (some a) l c) (.slice none 0 0)).run Tryz.prog w = .ok (.bool false) w := fun _ _ _ _ => by kernel_rfl
  have HE0 : Hid (trisL ps = [] → r = []) := Lib.hid (fun h => by rw [← HR.out]; exact colL_nil h)
  have HE1 : Hid (trisL ps ≠ [] → colF n (trisL ps) = r ∧ n ≤ 10 ∧ 3 ≤ n ∧ ColMath.Steps n (trisL ps) ∧ ∀ k, k < n → 0 ≤ cg r k) := Lib.hid (fun h => by
    have h1 := roomB_yes (trisL_some h).1
    have h2 := (col_all h h1.1.1).2.2
    have h3 := (col_all h h1.1.1).2.1
    rw [hl] at h2 h3
    rw [HR.out] at h3
    exact ⟨by rw [← HR.out, ← hl]; rfl, by have := h1.1.2; omega, by have := h1.1.1; omega, h2, fun k hk => (h3 k hk).1⟩)
  have hI : Hid (∀ k, k < (trisL ps).length → ∃ x y z : Nat, tt (trisL ps) k = ((x : Int), (y : Int), (z : Int)) ∧ x < y ∧ y < z ∧ z < n) := Lib.hid (fun k hk => by rw [← hl]; exact AreColMath.tris_in hk)
  have QT : Hid (∀ W h, _) := Lib.hid fun W h => trianglesOf A n cap W ps hl hn h
  have hle := trisL_le ps
  unfold GivesT at QT
  generalize trisL ps = L at *
  obtain ⟨m, hLm⟩ : ∃ m, L.length = m := ⟨_, rfl⟩
  rw [hLm] at QT hle hI
  clear HR
  refine (callsIn_wide (n := 9)).1 ?_
  refine callsIn_of_wp_marks Tryz.func28 rfl trivial ?_ rfl
  simp only [Tryz.ntmps28, List.size_toArray, List.length_cons, List.length_nil, Nat.reduceAdd, Nat.reduceSub, Array.replicate_succ, Array.replicate_zero, List.push_toArray, List.append_toArray, List.nil_append, List.cons_append]
  refine wpIn_wide.2 ?_
  go_wp2_with fail
  have X0 := Pts.boxR w (.slice A n cap) 30 (k := w.heap.size) (by simp)
  have b0 := PointOk.below1 w (Obj.cells #[.slice A n cap] 30)
  have HO : ∀ W W' : World, (Pts.BoxR W (w.heap.size) (.slice A n cap) ∧ PtsAt W w.heap.size A ps ∧ Below w.heap.size w W) → Below W.heap.size W W' → (Pts.BoxR W' (w.heap.size) (.slice A n cap) ∧ PtsAt W' w.heap.size A ps ∧ Below w.heap.size w W') := fun W W' ⟨h0, x0, hb⟩ h => ⟨h0.later h, x0.later (h.mono hb.size), hb.trans (h.mono hb.size)⟩
  have hz0_ : Hid (((w.alloc (Obj.cells #[.slice A n cap] 30))).heap.size = w.heap.size + 1) := Lib.hid (by simp)
  have Y0 : PtsAt ((w.alloc (Obj.cells #[.slice A n cap] 30))) w.heap.size A ps := hp.later b0
  generalize (w.alloc (Obj.cells #[.slice A n cap] 30)) = w0 at X0 Y0 b0 hz0_ ⊢
  have S0 := (⟨X0, Y0, b0⟩ : Pts.BoxR w0 (w.heap.size) (.slice A n cap) ∧ PtsAt w0 w.heap.size A ps ∧ Below w.heap.size w w0)
  clear X0 Y0 b0
  obtain ⟨⟨_, _⟩, _, _⟩ := id S0
  refine (QT.out _ (S0.2.1.wide S0.2.2.size)).mono ?_
  rintro e w2 ⟨A2, c2, rfl, h4, hnil, hb_⟩
  replace S0 := HO _ _ S0 hb_
  have T2 := TreeLand.ts_own h4
  have hz1 : w.heap.size + 1 ≤ w2.heap.size := World.block_lt_of_cell? _ _ S0.1.1
  clear hb_ QT
  obtain ⟨⟨_, _⟩, _, _⟩ := id S0
  by_cases c0 : m = 0
  · subst c0
    have E : Hid (r = []) := Lib.hid (HE0.out (List.length_eq_zero_iff.1 hLm))
    obtain rfl : A2 = none := hnil (List.length_eq_zero_iff.1 hLm)
    have hB2 := Lib.hid S0.2.2
    clear HE0 HE1 hl T2 hI h4 hnil
    go_wp2_with fail
    refine leaves_marks (base := w.heap.size) (fun W' => Below w.heap.size w W') ?_ ?_ [] w2 ⟨.nil, fun D hD => by cases hD⟩ hB2.out
    · rintro W' D hb hK h2
      exact h2.trans (belowK_b (w := w) (Nat.le_refl _) W' D _ _ hb hK rfl rfl)
    · rintro W' h2
      exact ⟨_, results_tmp rfl _ _ _, none, 0, by rw [E.out]; rfl, by rw [E.out]; exact World.ownsRow_nil _ _ _ _, fun _ => rfl, h2⟩
  have hne : L ≠ [] := fun e => c0 (by rw [← hLm, e]; rfl)
  obtain ⟨hE, hn10, hn3, hst, hpos⟩ := HE1.out hne
  have HP := Lib.hid hpos
  have HE := Lib.hid hE
  have HS0 := Lib.hid hst
  obtain ⟨g2, cp2, e2, hg2lo, hg2lt⟩ := h4.form (by omega)
  have hcap : m ≤ c2 := by
    rcases h4.2 with ⟨h5, _⟩ | ⟨g', cap', cur, h5, _, _, h6, _⟩
    · injection h5 with _ h6 h7; omega
    · injection h5 with _ _ h7; omega
  obtain ⟨ad, rfl⟩ : ∃ ad, A2 = some ad := ⟨⟨g2, 0, none⟩, by injection e2⟩
  obtain ⟨m1, hm1⟩ : ∃ m1, m1 + 1 = m := ⟨m - 1, by omega⟩
  have eL : L.length - 1 = m1 := by omega
  obtain ⟨x, y, z, ht, hxy, hyz, hzn⟩ := steps_last hne HS0.out
  rw [eL] at ht
  have u1 : IntKind.i64.wrap ((m : Int) - 1) = (m1 : Int) := by rw [show ((m : Int) - 1) = (m1 : Int) by omega]; exact IntWalk.i64_in _ (by omega)
  have p0 := Tup3.tt_at (ps := L) (k := m1) (by omega)
  rw [ht] at p0
  obtain ⟨ad2, eA, bA, pA⟩ := T2.get p0
  injection eA with eA
  subst eA
  obtain ⟨_, _, _⟩ := id pA
  have mi0 : (0 : Int) ≤ (m1 : Int) := by omega
  have mi1 : (m1 : Int) < (m : Int) := by omega
  have mi2 : (m1 : Int) ≤ (c2 : Int) := by omega
  have wx : (Lit.int .i64 (x : Int)).wf = true := wf_small (by omega)
  have wy : (Lit.int .i64 (y : Int)).wf = true := wf_small (by omega)
  have wz : (Lit.int .i64 (z : Int)).wf = true := wf_small (by omega)
  clear HE0 HE1 hE hst hpos p0 h4 hnil e2 hg2lo hg2lt
  go_wp2_with fail
  have X4 : Holds (w2.alloc (Obj.cells #[.int .i64 (x : Int), .int .i64 (y : Int), .int .i64 (z : Int)] 65)) w2.heap.size #[.int .i64 (x : Int), .int .i64 (y : Int), .int .i64 (z : Int)] 65 := Holds.new w2 _ _
  have hb3 := below1 w2 (Obj.cells #[.int .i64 (x : Int), .int .i64 (y : Int), .int .i64 (z : Int)] 65)
  have hF : Hid (∀ W, Below w2.heap.size w2 W → (BoxR W w.heap.size (.slice A n cap) ∧ TsAt W w2.heap.size (some ad) L ∧ Below w.heap.size w W)) := Lib.hid (fun W hb => ⟨S0.1.later hb, T2.later hb, S0.2.2.trans (hb.mono (by omega))⟩)
  have hk4 : w2.heap.size < (w2.alloc (Obj.cells #[.int .i64 (x : Int), .int .i64 (y : Int), .int .i64 (z : Int)] 65)).heap.size := by simp
  clear S0 T2 pA
  generalize w2.alloc (Obj.cells #[.int .i64 (x : Int), .int .i64 (y : Int), .int .i64 (z : Int)] 65) = w3 at *
  obtain ⟨k4, hk4e⟩ : ∃ k, w2.heap.size = k := ⟨_, rfl⟩
  rw [hk4e] at X4 ⊢
  refine Code.wp_mono (Q := fun e a' w' => ∃ (bm k5 : Nat), e = .normal ∧ a' = ⟨#[.agg #[.slice A n cap], .pointer (some ⟨w.heap.size, 0, none⟩), .slice none 0 0, .slice (some ad) m c2, .pointer (some ⟨k4, 0, none⟩), .pointer (some ⟨k5, 0, none⟩), undef, undef, undef, undef, .agg #[.slice A n cap], .slice (some ad) m c2, .slice (some ad) m c2, .bool false, .slice (some ad) m c2, .slice (some ad) m c2, .int .i64 (m : Int), .int .i64 (m1 : Int), .pointer (some (ad.add (m1 * 3))), .agg #[.int .i64 (x : Int), .int .i64 (y : Int), .int .i64 (z : Int)], .map (some bm), .pointer (some ⟨k4, 0, none⟩), .int .i64 (x : Int), .pointer (some ⟨k4, 1, none⟩), .int .i64 (y : Int), .pointer (some ⟨k4, 2, none⟩), .int .i64 (z : Int), .map (some bm), undef, undef, undef, undef, undef, undef, undef, undef, undef, undef, undef, undef, undef, undef, undef, undef, undef, undef, undef, undef, undef, undef, undef, undef, undef], []⟩ ∧ MapAt w' bm 3 (fOf (colBase n ((x : Int), (y : Int), (z : Int)))) ∧ Holds w' k5 #[.map (some bm)] 79 ∧ k5 ≠ bm ∧ w3.heap.size ≤ bm ∧ w3.heap.size ≤ k5 ∧ Below w3.heap.size w3 w') ?_ ?_
  rotate_left
  · skip
    have HB : Below w3.drew.heap.size w3.drew w3.drew := Below.refl _ _
    have hd_ : Below w3.heap.size w3 w3.drew := (Below.refl _ _).drew
    have hdz_ : Hid (w3.drew.heap.size = w3.heap.size) := Lib.hid rfl
    have HS : Hid (∀ W, Below w3.drew.heap.size w3.drew W → (W.cell? ⟨k4, 0, none⟩ = some (.int .i64 (x : Int)) ∧ W.cell? ⟨k4, 1, none⟩ = some (.int .i64 (y : Int)) ∧ W.cell? ⟨k4, 2, none⟩ = some (.int .i64 (z : Int)))) := Lib.hid (fun W hb => (TrisImpl.facts3 (((hb.block k4 (by rw [hdz_.out]; omega)).trans ((hd_.block k4 (by omega)))).trans X4)).1)
    have HS1_ := HS.out _ HB
    clear HS0 HE hI hF HP
    refine wp_region_held_drew (S := fun W => W.cell? ⟨k4, 0, none⟩ = some (.int .i64 (x : Int)) ∧ W.cell? ⟨k4, 1, none⟩ = some (.int .i64 (y : Int)) ∧ W.cell? ⟨k4, 2, none⟩ = some (.int .i64 (z : Int))) (by kernel_rfl) HS1_ (fun hHeld => ?_)
    clear HS1_
    generalize w3.drew = v0 at *
    refine wpAnyH_take (i := 1) (oi := ⟨some 21, _, _, _, _, _⟩) (v := ?_) rfl (by kernel_rfl) (by kernel_rfl) (by kernel_rfl) (by rintro _ _ _ ⟨_, _, h, _⟩; cases h) (Or.inl ⟨by rfl, ?_⟩) (by assumption) ?_
    rotate_left 1
    · (intro w hSw; (try dsimp only at hSw); go_simp; try with_reducible rfl)
    try simp only [Act.put, List.setIfInBounds_toArray, List.set_cons_zero, List.set_cons_succ]
    refine wpAnyH_take (i := 2) (oi := ⟨some 22, _, _, _, _, _⟩) (v := ?_) rfl (by kernel_rfl) (by kernel_rfl) (by kernel_rfl) (by rintro _ _ _ ⟨_, _, h, _⟩; cases h) (Or.inl ⟨by rfl, ?_⟩) (by assumption) ?_
    rotate_left 1
    · (intro w hSw; (try dsimp only at hSw); go_simp; try with_reducible rfl)
    try simp only [Act.put, List.setIfInBounds_toArray, List.set_cons_zero, List.set_cons_succ]
    refine wpAnyH_take (i := 4) (oi := ⟨some 23, _, _, _, _, _⟩) (v := ?_) rfl (by kernel_rfl) (by kernel_rfl) (by kernel_rfl) (by rintro _ _ _ ⟨_, _, h, _⟩; cases h) (Or.inl ⟨by rfl, ?_⟩) (by assumption) ?_
    rotate_left 1
    · (intro w hSw; (try dsimp only at hSw); go_simp; try with_reducible rfl)
    try simp only [Act.put, List.setIfInBounds_toArray, List.set_cons_zero, List.set_cons_succ]
    refine wpAnyH_take (i := 5) (oi := ⟨some 24, _, _, _, _, _⟩) (v := ?_) rfl (by kernel_rfl) (by kernel_rfl) (by kernel_rfl) (by rintro _ _ _ ⟨_, _, h, _⟩; cases h) (Or.inl ⟨by rfl, ?_⟩) (by assumption) ?_
    rotate_left 1
    · (intro w hSw; (try dsimp only at hSw); go_simp; try with_reducible rfl)
    try simp only [Act.put, List.setIfInBounds_toArray, List.set_cons_zero, List.set_cons_succ]
    refine wpAnyH_take (i := 7) (oi := ⟨some 25, _, _, _, _, _⟩) (v := ?_) rfl (by kernel_rfl) (by kernel_rfl) (by kernel_rfl) (by rintro _ _ _ ⟨_, _, h, _⟩; cases h) (Or.inl ⟨by rfl, ?_⟩) (by assumption) ?_
    rotate_left 1
    · (intro w hSw; (try dsimp only at hSw); go_simp; try with_reducible rfl)
    try simp only [Act.put, List.setIfInBounds_toArray, List.set_cons_zero, List.set_cons_succ]
    refine wpAnyH_take (i := 8) (oi := ⟨some 26, _, _, _, _, _⟩) (v := ?_) rfl (by kernel_rfl) (by kernel_rfl) (by kernel_rfl) (by rintro _ _ _ ⟨_, _, h, _⟩; cases h) (Or.inl ⟨by rfl, ?_⟩) (by assumption) ?_
    rotate_left 1
    · (intro w hSw; (try dsimp only at hSw); go_simp; try with_reducible rfl)
    try simp only [Act.put, List.setIfInBounds_toArray, List.set_cons_zero, List.set_cons_succ]
    refine wpAnyH_ready (rs := [0, 11]) (by kernel_rfl) (by simp) ?_
    refine AllReadyH.cons (o := ⟨some 20, _, _, _, _, _⟩) rfl (fun K hK => ?_) ?_
    · skip
      have hsz_ := HB.size
      refine step_make_map _ rfl _ rfl ?_
      intro HM
      obtain ⟨bm, hbm⟩ : ∃ b, b = v0.heap.size := ⟨_, rfl⟩
      have hbmB : v0.heap.size ≤ bm := by omega
      have hb_ := below1 v0 (Obj.map #[] 0)
      replace HB := HB.trans (hb_.mono hsz_)
      try rw [← hbm]
      rw [← hbm] at HM
      generalize v0.alloc (Obj.map #[] 0) = v1_0 at *
      clear hb_ hbm hsz_
      refine hK.out _ _ (HS.out _ HB) (fun hHeld => ?_)
      clear hK K
      try simp only [Act.put, List.setIfInBounds_toArray, List.set_cons_zero, List.set_cons_succ]
      refine wpAnyH_ready (rs := [3, 6, 9, 11]) (by kernel_rfl) (by simp) ?_
      refine AllReadyH.cons (o := ⟨none, _, _, _, _, _⟩) rfl (fun K hK => ?_) ?_
      · skip
        have hsz_ := HB.size
        refine step_insert_map _ rfl _ _ _ _ rfl Tryz.underlying79 bm 0 _ rfl HM (by unfold maxLen; omega) (x : Int) rfl wx 0 rfl (by decide) ?_
        intro v2_3 HM2 hg_
        replace HB := HB.grown hg_ hsz_ (fun k hk => by injection hk with hk; omega)
        clear HM
        have HM := HM2
        clear HM2 hg_ hsz_
        refine hK.out _ _ (HS.out _ HB) (fun hHeld => ?_)
        clear hK K
        try simp only [Act.put]
        refine wpAnyH_ready (rs := [6, 9, 11]) (by kernel_rfl) (by simp) ?_
        refine AllReadyH.cons (o := ⟨none, _, _, _, _, _⟩) rfl (fun K hK => ?_) ?_
        · skip
          have hsz_ := HB.size
          refine step_insert_map _ rfl _ _ _ _ rfl Tryz.underlying79 bm 1 _ rfl HM (by unfold maxLen; omega) (y : Int) rfl wy 1 rfl (by decide) ?_
          intro v3_6 HM2 hg_
          replace HB := HB.grown hg_ hsz_ (fun k hk => by injection hk with hk; omega)
          clear HM
          have HM := HM2
          clear HM2 hg_ hsz_
          refine hK.out _ _ (HS.out _ HB) (fun hHeld => ?_)
          clear hK K
          try simp only [Act.put]
          refine wpAnyH_ready (rs := [9, 11]) (by kernel_rfl) (by simp) ?_
          refine AllReadyH.cons (o := ⟨none, _, _, _, _, _⟩) rfl (fun K hK => ?_) ?_
          · skip
            have hsz_ := HB.size
            refine step_insert_map _ rfl _ _ _ _ rfl Tryz.underlying79 bm 2 _ rfl HM (by unfold maxLen; omega) (z : Int) rfl wz 2 rfl (by decide) ?_
            intro v4_9 HM2 hg_
            replace HB := HB.grown hg_ hsz_ (fun k hk => by injection hk with hk; omega)
            clear HM
            have HM := HM2
            clear HM2 hg_ hsz_
            refine hK.out _ _ (HS.out _ HB) (fun hHeld => ?_)
            clear hK K
            try simp only [Act.put]
            refine wpAnyH_ready (rs := [10, 11]) (by kernel_rfl) (by simp) ?_
            refine AllReadyH.cons (o := ⟨some 27, _, _, _, _, _⟩) rfl (fun K hK => ?_) ?_
            · skip
              go_simp
              refine hK.out _ _ (HS.out _ HB) (fun hHeld => ?_)
              clear hK K
              try simp only [Act.put, List.setIfInBounds_toArray, List.set_cons_zero, List.set_cons_succ]
              refine wpAnyH_ready (rs := [11]) (by kernel_rfl) (by simp) ?_
              refine AllReadyH.cons (o := ⟨some 5, _, _, _, _, _⟩) rfl (fun K hK => ?_) ?_
              rotate_left 1
              · exact AllReadyH.nil
              have hsz_ := HB.size
              obtain ⟨k5, hk5⟩ : ∃ b, b = v4_9.heap.size := ⟨_, rfl⟩
              have hk5B : v0.heap.size ≤ k5 := by omega
              have H5 := Blk.Holds.box v4_9 #[.map none] 79 hk5
              have hb_ := below1 v4_9 (Obj.cells #[.map none] 79)
              replace HB := HB.trans (hb_.mono hsz_)
              replace HM := HM.later hb_
              go_simp
              try rw [← hk5]
              generalize v4_9.alloc (Obj.cells #[.map none] 79) = v6_11 at *
              clear hb_ hk5 hsz_
              refine hK.out _ _ (HS.out _ HB) (fun hHeld => ?_)
              clear hK K
              try simp only [Act.put, List.setIfInBounds_toArray, List.set_cons_zero, List.set_cons_succ]
              skip
              have HC := HM.congr (perm_xyz hxy hyz hzn)
              have nk_ := HM.ne H5
              clear HM
              obtain ⟨_, _⟩ := H5.one
              refine wpAnyH_ready (rs := [12]) (by kernel_rfl) (by simp) ?_
              refine AllReadyH.cons (o := ⟨none, _, _, _, _, _⟩) rfl (fun K hK => ?_) ?_
              rotate_left 1
              · exact AllReadyH.nil
              have H6 : Holds (v6_11.setCell ⟨k5, 0, none⟩ (.map (some bm))) k5 #[.map (some bm)] 79 := Blk.set_own H5 0 (.map (some bm))
              have hg_ := grown_set v6_11 k5 0 (.map (some bm))
              have HC2 := HC.kept hg_ (by intro e; injection e with e; exact nk_ e.symm)
              have hsz_ := HB.size
              replace HB := HB.grown hg_ hsz_ (fun k hk => by injection hk with hk; omega)
              go_simp
              refine hK.out _ _ (HS.out _ HB) (fun hHeld => ?_)
              clear hK K
              try simp only [Act.put]
              refine wpAnyH_done (by kernel_rfl) ?_ _
              exact ⟨bm, k5, rfl, rfl, HC2, H6, nk_, by rw [← hdz_.out]; exact hbmB, by rw [← hdz_.out]; exact hk5B, hd_.trans (by rw [← hdz_.out]; exact HB)⟩
            refine AllReadyH.cons (o := ⟨some 5, _, _, _, _, _⟩) rfl (fun K hK => ?_) ?_
            · skip
              have hsz_ := HB.size
              obtain ⟨k5, hk5⟩ : ∃ b, b = v4_9.heap.size := ⟨_, rfl⟩
              have hk5B : v0.heap.size ≤ k5 := by omega
              have H5 := Blk.Holds.box v4_9 #[.map none] 79 hk5
              have hb_ := below1 v4_9 (Obj.cells #[.map none] 79)
              replace HB := HB.trans (hb_.mono hsz_)
              replace HM := HM.later hb_
              go_simp
              try rw [← hk5]
              generalize v4_9.alloc (Obj.cells #[.map none] 79) = v5_11 at *
              clear hb_ hk5 hsz_
              refine hK.out _ _ (HS.out _ HB) (fun hHeld => ?_)
              clear hK K
              try simp only [Act.put, List.setIfInBounds_toArray, List.set_cons_zero, List.set_cons_succ]
              refine wpAnyH_ready (rs := [10]) (by kernel_rfl) (by simp) ?_
              refine AllReadyH.cons (o := ⟨some 27, _, _, _, _, _⟩) rfl (fun K hK => ?_) ?_
              rotate_left 1
              · exact AllReadyH.nil
              go_simp
              refine hK.out _ _ (HS.out _ HB) (fun hHeld => ?_)
              clear hK K
              try simp only [Act.put, List.setIfInBounds_toArray, List.set_cons_zero, List.set_cons_succ]
              skip
              have HC := HM.congr (perm_xyz hxy hyz hzn)
              have nk_ := HM.ne H5
              clear HM
              obtain ⟨_, _⟩ := H5.one
              refine wpAnyH_ready (rs := [12]) (by kernel_rfl) (by simp) ?_
              refine AllReadyH.cons (o := ⟨none, _, _, _, _, _⟩) rfl (fun K hK => ?_) ?_
              rotate_left 1
              · exact AllReadyH.nil
              have H6 : Holds (v5_11.setCell ⟨k5, 0, none⟩ (.map (some bm))) k5 #[.map (some bm)] 79 := Blk.set_own H5 0 (.map (some bm))
              have hg_ := grown_set v5_11 k5 0 (.map (some bm))
              have HC2 := HC.kept hg_ (by intro e; injection e with e; exact nk_ e.symm)
              have hsz_ := HB.size
              replace HB := HB.grown hg_ hsz_ (fun k hk => by injection hk with hk; omega)
              go_simp
              refine hK.out _ _ (HS.out _ HB) (fun hHeld => ?_)
              clear hK K
              try simp only [Act.put]
              refine wpAnyH_done (by kernel_rfl) ?_ _
              exact ⟨bm, k5, rfl, rfl, HC2, H6, nk_, by rw [← hdz_.out]; exact hbmB, by rw [← hdz_.out]; exact hk5B, hd_.trans (by rw [← hdz_.out]; exact HB)⟩
            exact AllReadyH.nil
          refine AllReadyH.cons (o := ⟨some 5, _, _, _, _, _⟩) rfl (fun K hK => ?_) ?_
          · skip
            have hsz_ := HB.size
            obtain ⟨k5, hk5⟩ : ∃ b, b = v3_6.heap.size := ⟨_, rfl⟩
            have hk5B : v0.heap.size ≤ k5 := by omega
            have H5 := Blk.Holds.box v3_6 #[.map none] 79 hk5
            have hb_ := below1 v3_6 (Obj.cells #[.map none] 79)
            replace HB := HB.trans (hb_.mono hsz_)
            replace HM := HM.later hb_
            go_simp
            try rw [← hk5]
            generalize v3_6.alloc (Obj.cells #[.map none] 79) = v4_11 at *
            clear hb_ hk5 hsz_
            refine hK.out _ _ (HS.out _ HB) (fun hHeld => ?_)
            clear hK K
            try simp only [Act.put, List.setIfInBounds_toArray, List.set_cons_zero, List.set_cons_succ]
            refine wpAnyH_ready (rs := [9]) (by kernel_rfl) (by simp) ?_
            refine AllReadyH.cons (o := ⟨none, _, _, _, _, _⟩) rfl (fun K hK => ?_) ?_
            rotate_left 1
            · exact AllReadyH.nil
            have hsz_ := HB.size
            refine step_insert_map _ rfl _ _ _ _ rfl Tryz.underlying79 bm 2 _ rfl HM (by unfold maxLen; omega) (z : Int) rfl wz 2 rfl (by decide) ?_
            intro v5_9 HM2 hg_
            have n5_ := HM.ne H5
            replace H5 := keptH H5 hg_ n5_
            clear n5_
            replace HB := HB.grown hg_ hsz_ (fun k hk => by injection hk with hk; omega)
            clear HM
            have HM := HM2
            clear HM2 hg_ hsz_
            refine hK.out _ _ (HS.out _ HB) (fun hHeld => ?_)
            clear hK K
            try simp only [Act.put]
            refine wpAnyH_ready (rs := [10]) (by kernel_rfl) (by simp) ?_
            refine AllReadyH.cons (o := ⟨some 27, _, _, _, _, _⟩) rfl (fun K hK => ?_) ?_
            rotate_left 1
            · exact AllReadyH.nil
            go_simp
            refine hK.out _ _ (HS.out _ HB) (fun hHeld => ?_)
            clear hK K
            try simp only [Act.put, List.setIfInBounds_toArray, List.set_cons_zero, List.set_cons_succ]
            skip
            have HC := HM.congr (perm_xyz hxy hyz hzn)
            have nk_ := HM.ne H5
            clear HM
            obtain ⟨_, _⟩ := H5.one
            refine wpAnyH_ready (rs := [12]) (by kernel_rfl) (by simp) ?_
            refine AllReadyH.cons (o := ⟨none, _, _, _, _, _⟩) rfl (fun K hK => ?_) ?_
            rotate_left 1
            · exact AllReadyH.nil
            have H6 : Holds (v5_9.setCell ⟨k5, 0, none⟩ (.map (some bm))) k5 #[.map (some bm)] 79 := Blk.set_own H5 0 (.map (some bm))
            have hg_ := grown_set v5_9 k5 0 (.map (some bm))
            have HC2 := HC.kept hg_ (by intro e; injection e with e; exact nk_ e.symm)
            have hsz_ := HB.size
            replace HB := HB.grown hg_ hsz_ (fun k hk => by injection hk with hk; omega)
            go_simp
            refine hK.out _ _ (HS.out _ HB) (fun hHeld => ?_)
            clear hK K
            try simp only [Act.put]
            refine wpAnyH_done (by kernel_rfl) ?_ _
            exact ⟨bm, k5, rfl, rfl, HC2, H6, nk_, by rw [← hdz_.out]; exact hbmB, by rw [← hdz_.out]; exact hk5B, hd_.trans (by rw [← hdz_.out]; exact HB)⟩
          exact AllReadyH.nil
        refine AllReadyH.cons (o := ⟨none, _, _, _, _, _⟩) rfl (fun K hK => ?_) ?_
        · skip
          have hsz_ := HB.size
          refine step_insert_map _ rfl _ _ _ _ rfl Tryz.underlying79 bm 1 _ rfl HM (by unfold maxLen; omega) (z : Int) rfl wz 2 rfl (by decide) ?_
          intro v3_9 HM2 hg_
          replace HB := HB.grown hg_ hsz_ (fun k hk => by injection hk with hk; omega)
          clear HM
          have HM := HM2
          clear HM2 hg_ hsz_
          refine hK.out _ _ (HS.out _ HB) (fun hHeld => ?_)
          clear hK K
          try simp only [Act.put]
          refine wpAnyH_ready (rs := [6, 11]) (by kernel_rfl) (by simp) ?_
          refine AllReadyH.cons (o := ⟨none, _, _, _, _, _⟩) rfl (fun K hK => ?_) ?_
          · skip
            have hsz_ := HB.size
            refine step_insert_map _ rfl _ _ _ _ rfl Tryz.underlying79 bm 2 _ rfl HM (by unfold maxLen; omega) (y : Int) rfl wy 1 rfl (by decide) ?_
            intro v4_6 HM2 hg_
            replace HB := HB.grown hg_ hsz_ (fun k hk => by injection hk with hk; omega)
            clear HM
            have HM := HM2
            clear HM2 hg_ hsz_
            refine hK.out _ _ (HS.out _ HB) (fun hHeld => ?_)
            clear hK K
            try simp only [Act.put]
            refine wpAnyH_ready (rs := [10, 11]) (by kernel_rfl) (by simp) ?_
            refine AllReadyH.cons (o := ⟨some 27, _, _, _, _, _⟩) rfl (fun K hK => ?_) ?_
            · skip
              go_simp
              refine hK.out _ _ (HS.out _ HB) (fun hHeld => ?_)
              clear hK K
              try simp only [Act.put, List.setIfInBounds_toArray, List.set_cons_zero, List.set_cons_succ]
              refine wpAnyH_ready (rs := [11]) (by kernel_rfl) (by simp) ?_
              refine AllReadyH.cons (o := ⟨some 5, _, _, _, _, _⟩) rfl (fun K hK => ?_) ?_
              rotate_left 1
              · exact AllReadyH.nil
              have hsz_ := HB.size
              obtain ⟨k5, hk5⟩ : ∃ b, b = v4_6.heap.size := ⟨_, rfl⟩
              have hk5B : v0.heap.size ≤ k5 := by omega
              have H5 := Blk.Holds.box v4_6 #[.map none] 79 hk5
              have hb_ := below1 v4_6 (Obj.cells #[.map none] 79)
              replace HB := HB.trans (hb_.mono hsz_)
              replace HM := HM.later hb_
              go_simp
              try rw [← hk5]
              generalize v4_6.alloc (Obj.cells #[.map none] 79) = v6_11 at *
              clear hb_ hk5 hsz_
              refine hK.out _ _ (HS.out _ HB) (fun hHeld => ?_)
              clear hK K
              try simp only [Act.put, List.setIfInBounds_toArray, List.set_cons_zero, List.set_cons_succ]
              skip
              have HC := HM.congr (perm_xzy hxy hyz hzn)
              have nk_ := HM.ne H5
              clear HM
              obtain ⟨_, _⟩ := H5.one
              refine wpAnyH_ready (rs := [12]) (by kernel_rfl) (by simp) ?_
              refine AllReadyH.cons (o := ⟨none, _, _, _, _, _⟩) rfl (fun K hK => ?_) ?_
              rotate_left 1
              · exact AllReadyH.nil
              have H6 : Holds (v6_11.setCell ⟨k5, 0, none⟩ (.map (some bm))) k5 #[.map (some bm)] 79 := Blk.set_own H5 0 (.map (some bm))
              have hg_ := grown_set v6_11 k5 0 (.map (some bm))
              have HC2 := HC.kept hg_ (by intro e; injection e with e; exact nk_ e.symm)
              have hsz_ := HB.size
              replace HB := HB.grown hg_ hsz_ (fun k hk => by injection hk with hk; omega)
              go_simp
              refine hK.out _ _ (HS.out _ HB) (fun hHeld => ?_)
              clear hK K
              try simp only [Act.put]
              refine wpAnyH_done (by kernel_rfl) ?_ _
              exact ⟨bm, k5, rfl, rfl, HC2, H6, nk_, by rw [← hdz_.out]; exact hbmB, by rw [← hdz_.out]; exact hk5B, hd_.trans (by rw [← hdz_.out]; exact HB)⟩
            refine AllReadyH.cons (o := ⟨some 5, _, _, _, _, _⟩) rfl (fun K hK => ?_) ?_
            · skip
              have hsz_ := HB.size
              obtain ⟨k5, hk5⟩ : ∃ b, b = v4_6.heap.size := ⟨_, rfl⟩
              have hk5B : v0.heap.size ≤ k5 := by omega
              have H5 := Blk.Holds.box v4_6 #[.map none] 79 hk5
              have hb_ := below1 v4_6 (Obj.cells #[.map none] 79)
              replace HB := HB.trans (hb_.mono hsz_)
              replace HM := HM.later hb_
              go_simp
              try rw [← hk5]
              generalize v4_6.alloc (Obj.cells #[.map none] 79) = v5_11 at *
              clear hb_ hk5 hsz_
              refine hK.out _ _ (HS.out _ HB) (fun hHeld => ?_)
              clear hK K
              try simp only [Act.put, List.setIfInBounds_toArray, List.set_cons_zero, List.set_cons_succ]
              refine wpAnyH_ready (rs := [10]) (by kernel_rfl) (by simp) ?_
              refine AllReadyH.cons (o := ⟨some 27, _, _, _, _, _⟩) rfl (fun K hK => ?_) ?_
              rotate_left 1
              · exact AllReadyH.nil
              go_simp
              refine hK.out _ _ (HS.out _ HB) (fun hHeld => ?_)
              clear hK K
              try simp only [Act.put, List.setIfInBounds_toArray, List.set_cons_zero, List.set_cons_succ]
              skip
              have HC := HM.congr (perm_xzy hxy hyz hzn)
              have nk_ := HM.ne H5
              clear HM
              obtain ⟨_, _⟩ := H5.one
              refine wpAnyH_ready (rs := [12]) (by kernel_rfl) (by simp) ?_
              refine AllReadyH.cons (o := ⟨none, _, _, _, _, _⟩) rfl (fun K hK => ?_) ?_
              rotate_left 1
              · exact AllReadyH.nil
              have H6 : Holds (v5_11.setCell ⟨k5, 0, none⟩ (.map (some bm))) k5 #[.map (some bm)] 79 := Blk.set_own H5 0 (.map (some bm))
              have hg_ := grown_set v5_11 k5 0 (.map (some bm))
              have HC2 := HC.kept hg_ (by intro e; injection e with e; exact nk_ e.symm)
              have hsz_ := HB.size
              replace HB := HB.grown hg_ hsz_ (fun k hk => by injection hk with hk; omega)
              go_simp
              refine hK.out _ _ (HS.out _ HB) (fun hHeld => ?_)
              clear hK K
              try simp only [Act.put]
              refine wpAnyH_done (by kernel_rfl) ?_ _
              exact ⟨bm, k5, rfl, rfl, HC2, H6, nk_, by rw [← hdz_.out]; exact hbmB, by rw [← hdz_.out]; exact hk5B, hd_.trans (by rw [← hdz_.out]; exact HB)⟩
            exact AllReadyH.nil
          refine AllReadyH.cons (o := ⟨some 5, _, _, _, _, _⟩) rfl (fun K hK => ?_) ?_
          · skip
            have hsz_ := HB.size
            obtain ⟨k5, hk5⟩ : ∃ b, b = v3_9.heap.size := ⟨_, rfl⟩
            have hk5B : v0.heap.size ≤ k5 := by omega
            have H5 := Blk.Holds.box v3_9 #[.map none] 79 hk5
            have hb_ := below1 v3_9 (Obj.cells #[.map none] 79)
            replace HB := HB.trans (hb_.mono hsz_)
            replace HM := HM.later hb_
            go_simp
            try rw [← hk5]
            generalize v3_9.alloc (Obj.cells #[.map none] 79) = v4_11 at *
            clear hb_ hk5 hsz_
            refine hK.out _ _ (HS.out _ HB) (fun hHeld => ?_)
            clear hK K
            try simp only [Act.put, List.setIfInBounds_toArray, List.set_cons_zero, List.set_cons_succ]
            refine wpAnyH_ready (rs := [6]) (by kernel_rfl) (by simp) ?_
            refine AllReadyH.cons (o := ⟨none, _, _, _, _, _⟩) rfl (fun K hK => ?_) ?_
            rotate_left 1
            · exact AllReadyH.nil
            have hsz_ := HB.size
            refine step_insert_map _ rfl _ _ _ _ rfl Tryz.underlying79 bm 2 _ rfl HM (by unfold maxLen; omega) (y : Int) rfl wy 1 rfl (by decide) ?_
            intro v5_6 HM2 hg_
            have n5_ := HM.ne H5
            replace H5 := keptH H5 hg_ n5_
            clear n5_
            replace HB := HB.grown hg_ hsz_ (fun k hk => by injection hk with hk; omega)
            clear HM
            have HM := HM2
            clear HM2 hg_ hsz_
            refine hK.out _ _ (HS.out _ HB) (fun hHeld => ?_)
            clear hK K
            try simp only [Act.put]
            refine wpAnyH_ready (rs := [10]) (by kernel_rfl) (by simp) ?_
            refine AllReadyH.cons (o := ⟨some 27, _, _, _, _, _⟩) rfl (fun K hK => ?_) ?_
            rotate_left 1
            · exact AllReadyH.nil
            go_simp
            refine hK.out _ _ (HS.out _ HB) (fun hHeld => ?_)
            clear hK K
            try simp only [Act.put, List.setIfInBounds_toArray, List.set_cons_zero, List.set_cons_succ]
            skip
            have HC := HM.congr (perm_xzy hxy hyz hzn)
            have nk_ := HM.ne H5
            clear HM
            obtain ⟨_, _⟩ := H5.one
            refine wpAnyH_ready (rs := [12]) (by kernel_rfl) (by simp) ?_
            refine AllReadyH.cons (o := ⟨none, _, _, _, _, _⟩) rfl (fun K hK => ?_) ?_
            rotate_left 1
            · exact AllReadyH.nil
            have H6 : Holds (v5_6.setCell ⟨k5, 0, none⟩ (.map (some bm))) k5 #[.map (some bm)] 79 := Blk.set_own H5 0 (.map (some bm))
            have hg_ := grown_set v5_6 k5 0 (.map (some bm))
            have HC2 := HC.kept hg_ (by intro e; injection e with e; exact nk_ e.symm)
            have hsz_ := HB.size
            replace HB := HB.grown hg_ hsz_ (fun k hk => by injection hk with hk; omega)
            go_simp
            refine hK.out _ _ (HS.out _ HB) (fun hHeld => ?_)
            clear hK K
            try simp only [Act.put]
            refine wpAnyH_done (by kernel_rfl) ?_ _
            exact ⟨bm, k5, rfl, rfl, HC2, H6, nk_, by rw [← hdz_.out]; exact hbmB, by rw [← hdz_.out]; exact hk5B, hd_.trans (by rw [← hdz_.out]; exact HB)⟩
          exact AllReadyH.nil
        refine AllReadyH.cons (o := ⟨some 5, _, _, _, _, _⟩) rfl (fun K hK => ?_) ?_
        · skip
          have hsz_ := HB.size
          obtain ⟨k5, hk5⟩ : ∃ b, b = v2_3.heap.size := ⟨_, rfl⟩
          have hk5B : v0.heap.size ≤ k5 := by omega
          have H5 := Blk.Holds.box v2_3 #[.map none] 79 hk5
          have hb_ := below1 v2_3 (Obj.cells #[.map none] 79)
          replace HB := HB.trans (hb_.mono hsz_)
          replace HM := HM.later hb_
          go_simp
          try rw [← hk5]
          generalize v2_3.alloc (Obj.cells #[.map none] 79) = v3_11 at *
          clear hb_ hk5 hsz_
          refine hK.out _ _ (HS.out _ HB) (fun hHeld => ?_)
          clear hK K
          try simp only [Act.put, List.setIfInBounds_toArray, List.set_cons_zero, List.set_cons_succ]
          refine wpAnyH_ready (rs := [6, 9]) (by kernel_rfl) (by simp) ?_
          refine AllReadyH.cons (o := ⟨none, _, _, _, _, _⟩) rfl (fun K hK => ?_) ?_
          · skip
            have hsz_ := HB.size
            refine step_insert_map _ rfl _ _ _ _ rfl Tryz.underlying79 bm 1 _ rfl HM (by unfold maxLen; omega) (y : Int) rfl wy 1 rfl (by decide) ?_
            intro v4_6 HM2 hg_
            have n5_ := HM.ne H5
            replace H5 := keptH H5 hg_ n5_
            clear n5_
            replace HB := HB.grown hg_ hsz_ (fun k hk => by injection hk with hk; omega)
            clear HM
            have HM := HM2
            clear HM2 hg_ hsz_
            refine hK.out _ _ (HS.out _ HB) (fun hHeld => ?_)
            clear hK K
            try simp only [Act.put]
            refine wpAnyH_ready (rs := [9]) (by kernel_rfl) (by simp) ?_
            refine AllReadyH.cons (o := ⟨none, _, _, _, _, _⟩) rfl (fun K hK => ?_) ?_
            rotate_left 1
            · exact AllReadyH.nil
            have hsz_ := HB.size
            refine step_insert_map _ rfl _ _ _ _ rfl Tryz.underlying79 bm 2 _ rfl HM (by unfold maxLen; omega) (z : Int) rfl wz 2 rfl (by decide) ?_
            intro v5_9 HM2 hg_
            have n5_ := HM.ne H5
            replace H5 := keptH H5 hg_ n5_
            clear n5_
            replace HB := HB.grown hg_ hsz_ (fun k hk => by injection hk with hk; omega)
            clear HM
            have HM := HM2
            clear HM2 hg_ hsz_
            refine hK.out _ _ (HS.out _ HB) (fun hHeld => ?_)
            clear hK K
            try simp only [Act.put]
            refine wpAnyH_ready (rs := [10]) (by kernel_rfl) (by simp) ?_
            refine AllReadyH.cons (o := ⟨some 27, _, _, _, _, _⟩) rfl (fun K hK => ?_) ?_
            rotate_left 1
            · exact AllReadyH.nil
            go_simp
            refine hK.out _ _ (HS.out _ HB) (fun hHeld => ?_)
            clear hK K
            try simp only [Act.put, List.setIfInBounds_toArray, List.set_cons_zero, List.set_cons_succ]
            skip
            have HC := HM.congr (perm_xyz hxy hyz hzn)
            have nk_ := HM.ne H5
            clear HM
            obtain ⟨_, _⟩ := H5.one
            refine wpAnyH_ready (rs := [12]) (by kernel_rfl) (by simp) ?_
            refine AllReadyH.cons (o := ⟨none, _, _, _, _, _⟩) rfl (fun K hK => ?_) ?_
            rotate_left 1
            · exact AllReadyH.nil
            have H6 : Holds (v5_9.setCell ⟨k5, 0, none⟩ (.map (some bm))) k5 #[.map (some bm)] 79 := Blk.set_own H5 0 (.map (some bm))
            have hg_ := grown_set v5_9 k5 0 (.map (some bm))
            have HC2 := HC.kept hg_ (by intro e; injection e with e; exact nk_ e.symm)
            have hsz_ := HB.size
            replace HB := HB.grown hg_ hsz_ (fun k hk => by injection hk with hk; omega)
            go_simp
            refine hK.out _ _ (HS.out _ HB) (fun hHeld => ?_)
            clear hK K
            try simp only [Act.put]
            refine wpAnyH_done (by kernel_rfl) ?_ _
            exact ⟨bm, k5, rfl, rfl, HC2, H6, nk_, by rw [← hdz_.out]; exact hbmB, by rw [← hdz_.out]; exact hk5B, hd_.trans (by rw [← hdz_.out]; exact HB)⟩
          refine AllReadyH.cons (o := ⟨none, _, _, _, _, _⟩) rfl (fun K hK => ?_) ?_
          · skip
            have hsz_ := HB.size
            refine step_insert_map _ rfl _ _ _ _ rfl Tryz.underlying79 bm 1 _ rfl HM (by unfold maxLen; omega) (z : Int) rfl wz 2 rfl (by decide) ?_
            intro v4_9 HM2 hg_
            have n5_ := HM.ne H5
            replace H5 := keptH H5 hg_ n5_
            clear n5_
            replace HB := HB.grown hg_ hsz_ (fun k hk => by injection hk with hk; omega)
            clear HM
            have HM := HM2
            clear HM2 hg_ hsz_
            refine hK.out _ _ (HS.out _ HB) (fun hHeld => ?_)
            clear hK K
            try simp only [Act.put]
            refine wpAnyH_ready (rs := [6]) (by kernel_rfl) (by simp) ?_
            refine AllReadyH.cons (o := ⟨none, _, _, _, _, _⟩) rfl (fun K hK => ?_) ?_
            rotate_left 1
            · exact AllReadyH.nil
            have hsz_ := HB.size
            refine step_insert_map _ rfl _ _ _ _ rfl Tryz.underlying79 bm 2 _ rfl HM (by unfold maxLen; omega) (y : Int) rfl wy 1 rfl (by decide) ?_
            intro v5_6 HM2 hg_
            have n5_ := HM.ne H5
            replace H5 := keptH H5 hg_ n5_
            clear n5_
            replace HB := HB.grown hg_ hsz_ (fun k hk => by injection hk with hk; omega)
            clear HM
            have HM := HM2
            clear HM2 hg_ hsz_
            refine hK.out _ _ (HS.out _ HB) (fun hHeld => ?_)
            clear hK K
            try simp only [Act.put]
            refine wpAnyH_ready (rs := [10]) (by kernel_rfl) (by simp) ?_
            refine AllReadyH.cons (o := ⟨some 27, _, _, _, _, _⟩) rfl (fun K hK => ?_) ?_
            rotate_left 1
            · exact AllReadyH.nil
            go_simp
            refine hK.out _ _ (HS.out _ HB) (fun hHeld => ?_)
            clear hK K
            try simp only [Act.put, List.setIfInBounds_toArray, List.set_cons_zero, List.set_cons_succ]
            skip
            have HC := HM.congr (perm_xzy hxy hyz hzn)
            have nk_ := HM.ne H5
            clear HM
            obtain ⟨_, _⟩ := H5.one
            refine wpAnyH_ready (rs := [12]) (by kernel_rfl) (by simp) ?_
            refine AllReadyH.cons (o := ⟨none, _, _, _, _, _⟩) rfl (fun K hK => ?_) ?_
            rotate_left 1
            · exact AllReadyH.nil
            have H6 : Holds (v5_6.setCell ⟨k5, 0, none⟩ (.map (some bm))) k5 #[.map (some bm)] 79 := Blk.set_own H5 0 (.map (some bm))
            have hg_ := grown_set v5_6 k5 0 (.map (some bm))
            have HC2 := HC.kept hg_ (by intro e; injection e with e; exact nk_ e.symm)
            have hsz_ := HB.size
            replace HB := HB.grown hg_ hsz_ (fun k hk => by injection hk with hk; omega)
            go_simp
            refine hK.out _ _ (HS.out _ HB) (fun hHeld => ?_)
            clear hK K
            try simp only [Act.put]
            refine wpAnyH_done (by kernel_rfl) ?_ _
            exact ⟨bm, k5, rfl, rfl, HC2, H6, nk_, by rw [← hdz_.out]; exact hbmB, by rw [← hdz_.out]; exact hk5B, hd_.trans (by rw [← hdz_.out]; exact HB)⟩
          exact AllReadyH.nil
        exact AllReadyH.nil
      refine AllReadyH.cons (o := ⟨none, _, _, _, _, _⟩) rfl (fun K hK => ?_) ?_
      · skip
        have hsz_ := HB.size
        refine step_insert_map _ rfl _ _ _ _ rfl Tryz.underlying79 bm 0 _ rfl HM (by unfold maxLen; omega) (y : Int) rfl wy 1 rfl (by decide) ?_
        intro v2_6 HM2 hg_
        replace HB := HB.grown hg_ hsz_ (fun k hk => by injection hk with hk; omega)
        clear HM
        have HM := HM2
        clear HM2 hg_ hsz_
        refine hK.out _ _ (HS.out _ HB) (fun hHeld => ?_)
        clear hK K
        try simp only [Act.put]
        refine wpAnyH_ready (rs := [3, 9, 11]) (by kernel_rfl) (by simp) ?_
        refine AllReadyH.cons (o := ⟨none, _, _, _, _, _⟩) rfl (fun K hK => ?_) ?_
        · skip
          have hsz_ := HB.size
          refine step_insert_map _ rfl _ _ _ _ rfl Tryz.underlying79 bm 1 _ rfl HM (by unfold maxLen; omega) (x : Int) rfl wx 0 rfl (by decide) ?_
          intro v3_3 HM2 hg_
          replace HB := HB.grown hg_ hsz_ (fun k hk => by injection hk with hk; omega)
          clear HM
          have HM := HM2
          clear HM2 hg_ hsz_
          refine hK.out _ _ (HS.out _ HB) (fun hHeld => ?_)
          clear hK K
          try simp only [Act.put]
          refine wpAnyH_ready (rs := [9, 11]) (by kernel_rfl) (by simp) ?_
          refine AllReadyH.cons (o := ⟨none, _, _, _, _, _⟩) rfl (fun K hK => ?_) ?_
          · skip
            have hsz_ := HB.size
            refine step_insert_map _ rfl _ _ _ _ rfl Tryz.underlying79 bm 2 _ rfl HM (by unfold maxLen; omega) (z : Int) rfl wz 2 rfl (by decide) ?_
            intro v4_9 HM2 hg_
            replace HB := HB.grown hg_ hsz_ (fun k hk => by injection hk with hk; omega)
            clear HM
            have HM := HM2
            clear HM2 hg_ hsz_
            refine hK.out _ _ (HS.out _ HB) (fun hHeld => ?_)
            clear hK K
            try simp only [Act.put]
            refine wpAnyH_ready (rs := [10, 11]) (by kernel_rfl) (by simp) ?_
            refine AllReadyH.cons (o := ⟨some 27, _, _, _, _, _⟩) rfl (fun K hK => ?_) ?_
            · skip
              go_simp
              refine hK.out _ _ (HS.out _ HB) (fun hHeld => ?_)
              clear hK K
              try simp only [Act.put, List.setIfInBounds_toArray, List.set_cons_zero, List.set_cons_succ]
              refine wpAnyH_ready (rs := [11]) (by kernel_rfl) (by simp) ?_
              refine AllReadyH.cons (o := ⟨some 5, _, _, _, _, _⟩) rfl (fun K hK => ?_) ?_
              rotate_left 1
              · exact AllReadyH.nil
              have hsz_ := HB.size
              obtain ⟨k5, hk5⟩ : ∃ b, b = v4_9.heap.size := ⟨_, rfl⟩
              have hk5B : v0.heap.size ≤ k5 := by omega
              have H5 := Blk.Holds.box v4_9 #[.map none] 79 hk5
              have hb_ := below1 v4_9 (Obj.cells #[.map none] 79)
              replace HB := HB.trans (hb_.mono hsz_)
              replace HM := HM.later hb_
              go_simp
              try rw [← hk5]
              generalize v4_9.alloc (Obj.cells #[.map none] 79) = v6_11 at *
              clear hb_ hk5 hsz_
              refine hK.out _ _ (HS.out _ HB) (fun hHeld => ?_)
              clear hK K
              try simp only [Act.put, List.setIfInBounds_toArray, List.set_cons_zero, List.set_cons_succ]
              skip
              have HC := HM.congr (perm_yxz hxy hyz hzn)
              have nk_ := HM.ne H5
              clear HM
              obtain ⟨_, _⟩ := H5.one
              refine wpAnyH_ready (rs := [12]) (by kernel_rfl) (by simp) ?_
              refine AllReadyH.cons (o := ⟨none, _, _, _, _, _⟩) rfl (fun K hK => ?_) ?_
              rotate_left 1
              · exact AllReadyH.nil
              have H6 : Holds (v6_11.setCell ⟨k5, 0, none⟩ (.map (some bm))) k5 #[.map (some bm)] 79 := Blk.set_own H5 0 (.map (some bm))
              have hg_ := grown_set v6_11 k5 0 (.map (some bm))
              have HC2 := HC.kept hg_ (by intro e; injection e with e; exact nk_ e.symm)
              have hsz_ := HB.size
              replace HB := HB.grown hg_ hsz_ (fun k hk => by injection hk with hk; omega)
              go_simp
              refine hK.out _ _ (HS.out _ HB) (fun hHeld => ?_)
              clear hK K
              try simp only [Act.put]
              refine wpAnyH_done (by kernel_rfl) ?_ _
              exact ⟨bm, k5, rfl, rfl, HC2, H6, nk_, by rw [← hdz_.out]; exact hbmB, by rw [← hdz_.out]; exact hk5B, hd_.trans (by rw [← hdz_.out]; exact HB)⟩
            refine AllReadyH.cons (o := ⟨some 5, _, _, _, _, _⟩) rfl (fun K hK => ?_) ?_
            · skip
              have hsz_ := HB.size
              obtain ⟨k5, hk5⟩ : ∃ b, b = v4_9.heap.size := ⟨_, rfl⟩
              have hk5B : v0.heap.size ≤ k5 := by omega
              have H5 := Blk.Holds.box v4_9 #[.map none] 79 hk5
              have hb_ := below1 v4_9 (Obj.cells #[.map none] 79)
              replace HB := HB.trans (hb_.mono hsz_)
              replace HM := HM.later hb_
              go_simp
              try rw [← hk5]
              generalize v4_9.alloc (Obj.cells #[.map none] 79) = v5_11 at *
              clear hb_ hk5 hsz_
              refine hK.out _ _ (HS.out _ HB) (fun hHeld => ?_)
              clear hK K
              try simp only [Act.put, List.setIfInBounds_toArray, List.set_cons_zero, List.set_cons_succ]
              refine wpAnyH_ready (rs := [10]) (by kernel_rfl) (by simp) ?_
              refine AllReadyH.cons (o := ⟨some 27, _, _, _, _, _⟩) rfl (fun K hK => ?_) ?_
              rotate_left 1
              · exact AllReadyH.nil
              go_simp
              refine hK.out _ _ (HS.out _ HB) (fun hHeld => ?_)
              clear hK K
              try simp only [Act.put, List.setIfInBounds_toArray, List.set_cons_zero, List.set_cons_succ]
              skip
              have HC := HM.congr (perm_yxz hxy hyz hzn)
              have nk_ := HM.ne H5
              clear HM
              obtain ⟨_, _⟩ := H5.one
              refine wpAnyH_ready (rs := [12]) (by kernel_rfl) (by simp) ?_
              refine AllReadyH.cons (o := ⟨none, _, _, _, _, _⟩) rfl (fun K hK => ?_) ?_
              rotate_left 1
              · exact AllReadyH.nil
              have H6 : Holds (v5_11.setCell ⟨k5, 0, none⟩ (.map (some bm))) k5 #[.map (some bm)] 79 := Blk.set_own H5 0 (.map (some bm))
              have hg_ := grown_set v5_11 k5 0 (.map (some bm))
              have HC2 := HC.kept hg_ (by intro e; injection e with e; exact nk_ e.symm)
              have hsz_ := HB.size
              replace HB := HB.grown hg_ hsz_ (fun k hk => by injection hk with hk; omega)
              go_simp
              refine hK.out _ _ (HS.out _ HB) (fun hHeld => ?_)
              clear hK K
              try simp only [Act.put]
              refine wpAnyH_done (by kernel_rfl) ?_ _
              exact ⟨bm, k5, rfl, rfl, HC2, H6, nk_, by rw [← hdz_.out]; exact hbmB, by rw [← hdz_.out]; exact hk5B, hd_.trans (by rw [← hdz_.out]; exact HB)⟩
            exact AllReadyH.nil
          refine AllReadyH.cons (o := ⟨some 5, _, _, _, _, _⟩) rfl (fun K hK => ?_) ?_
          · skip
            have hsz_ := HB.size
            obtain ⟨k5, hk5⟩ : ∃ b, b = v3_3.heap.size := ⟨_, rfl⟩
            have hk5B : v0.heap.size ≤ k5 := by omega
            have H5 := Blk.Holds.box v3_3 #[.map none] 79 hk5
            have hb_ := below1 v3_3 (Obj.cells #[.map none] 79)
            replace HB := HB.trans (hb_.mono hsz_)
            replace HM := HM.later hb_
            go_simp
            try rw [← hk5]
            generalize v3_3.alloc (Obj.cells #[.map none] 79) = v4_11 at *
            clear hb_ hk5 hsz_
            refine hK.out _ _ (HS.out _ HB) (fun hHeld => ?_)
            clear hK K
            try simp only [Act.put, List.setIfInBounds_toArray, List.set_cons_zero, List.set_cons_succ]
            refine wpAnyH_ready (rs := [9]) (by kernel_rfl) (by simp) ?_
            refine AllReadyH.cons (o := ⟨none, _, _, _, _, _⟩) rfl (fun K hK => ?_) ?_
            rotate_left 1
            · exact AllReadyH.nil
            have hsz_ := HB.size
            refine step_insert_map _ rfl _ _ _ _ rfl Tryz.underlying79 bm 2 _ rfl HM (by unfold maxLen; omega) (z : Int) rfl wz 2 rfl (by decide) ?_
            intro v5_9 HM2 hg_
            have n5_ := HM.ne H5
            replace H5 := keptH H5 hg_ n5_
            clear n5_
            replace HB := HB.grown hg_ hsz_ (fun k hk => by injection hk with hk; omega)
            clear HM
            have HM := HM2
            clear HM2 hg_ hsz_
            refine hK.out _ _ (HS.out _ HB) (fun hHeld => ?_)
            clear hK K
            try simp only [Act.put]
            refine wpAnyH_ready (rs := [10]) (by kernel_rfl) (by simp) ?_
            refine AllReadyH.cons (o := ⟨some 27, _, _, _, _, _⟩) rfl (fun K hK => ?_) ?_
            rotate_left 1
            · exact AllReadyH.nil
            go_simp
            refine hK.out _ _ (HS.out _ HB) (fun hHeld => ?_)
            clear hK K
            try simp only [Act.put, List.setIfInBounds_toArray, List.set_cons_zero, List.set_cons_succ]
            skip
            have HC := HM.congr (perm_yxz hxy hyz hzn)
            have nk_ := HM.ne H5
            clear HM
            obtain ⟨_, _⟩ := H5.one
            refine wpAnyH_ready (rs := [12]) (by kernel_rfl) (by simp) ?_
            refine AllReadyH.cons (o := ⟨none, _, _, _, _, _⟩) rfl (fun K hK => ?_) ?_
            rotate_left 1
            · exact AllReadyH.nil
            have H6 : Holds (v5_9.setCell ⟨k5, 0, none⟩ (.map (some bm))) k5 #[.map (some bm)] 79 := Blk.set_own H5 0 (.map (some bm))
            have hg_ := grown_set v5_9 k5 0 (.map (some bm))
            have HC2 := HC.kept hg_ (by intro e; injection e with e; exact nk_ e.symm)
            have hsz_ := HB.size
            replace HB := HB.grown hg_ hsz_ (fun k hk => by injection hk with hk; omega)
            go_simp
            refine hK.out _ _ (HS.out _ HB) (fun hHeld => ?_)
            clear hK K
            try simp only [Act.put]
            refine wpAnyH_done (by kernel_rfl) ?_ _
            exact ⟨bm, k5, rfl, rfl, HC2, H6, nk_, by rw [← hdz_.out]; exact hbmB, by rw [← hdz_.out]; exact hk5B, hd_.trans (by rw [← hdz_.out]; exact HB)⟩
          exact AllReadyH.nil
        refine AllReadyH.cons (o := ⟨none, _, _, _, _, _⟩) rfl (fun K hK => ?_) ?_
        · skip
          have hsz_ := HB.size
          refine step_insert_map _ rfl _ _ _ _ rfl Tryz.underlying79 bm 1 _ rfl HM (by unfold maxLen; omega) (z : Int) rfl wz 2 rfl (by decide) ?_
          intro v3_9 HM2 hg_
          replace HB := HB.grown hg_ hsz_ (fun k hk => by injection hk with hk; omega)
          clear HM
          have HM := HM2
          clear HM2 hg_ hsz_
          refine hK.out _ _ (HS.out _ HB) (fun hHeld => ?_)
          clear hK K
          try simp only [Act.put]
          refine wpAnyH_ready (rs := [3, 11]) (by kernel_rfl) (by simp) ?_
          refine AllReadyH.cons (o := ⟨none, _, _, _, _, _⟩) rfl (fun K hK => ?_) ?_
          · skip
            have hsz_ := HB.size
            refine step_insert_map _ rfl _ _ _ _ rfl Tryz.underlying79 bm 2 _ rfl HM (by unfold maxLen; omega) (x : Int) rfl wx 0 rfl (by decide) ?_
            intro v4_3 HM2 hg_
            replace HB := HB.grown hg_ hsz_ (fun k hk => by injection hk with hk; omega)
            clear HM
            have HM := HM2
            clear HM2 hg_ hsz_
            refine hK.out _ _ (HS.out _ HB) (fun hHeld => ?_)
            clear hK K
            try simp only [Act.put]
            refine wpAnyH_ready (rs := [10, 11]) (by kernel_rfl) (by simp) ?_
            refine AllReadyH.cons (o := ⟨some 27, _, _, _, _, _⟩) rfl (fun K hK => ?_) ?_
            · skip
              go_simp
              refine hK.out _ _ (HS.out _ HB) (fun hHeld => ?_)
              clear hK K
              try simp only [Act.put, List.setIfInBounds_toArray, List.set_cons_zero, List.set_cons_succ]
              refine wpAnyH_ready (rs := [11]) (by kernel_rfl) (by simp) ?_
              refine AllReadyH.cons (o := ⟨some 5, _, _, _, _, _⟩) rfl (fun K hK => ?_) ?_
              rotate_left 1
              · exact AllReadyH.nil
              have hsz_ := HB.size
              obtain ⟨k5, hk5⟩ : ∃ b, b = v4_3.heap.size := ⟨_, rfl⟩
              have hk5B : v0.heap.size ≤ k5 := by omega
              have H5 := Blk.Holds.box v4_3 #[.map none] 79 hk5
              have hb_ := below1 v4_3 (Obj.cells #[.map none] 79)
              replace HB := HB.trans (hb_.mono hsz_)
              replace HM := HM.later hb_
              go_simp
              try rw [← hk5]
              generalize v4_3.alloc (Obj.cells #[.map none] 79) = v6_11 at *
              clear hb_ hk5 hsz_
              refine hK.out _ _ (HS.out _ HB) (fun hHeld => ?_)
              clear hK K
              try simp only [Act.put, List.setIfInBounds_toArray, List.set_cons_zero, List.set_cons_succ]
              skip
              have HC := HM.congr (perm_yzx hxy hyz hzn)
              have nk_ := HM.ne H5
              clear HM
              obtain ⟨_, _⟩ := H5.one
              refine wpAnyH_ready (rs := [12]) (by kernel_rfl) (by simp) ?_
              refine AllReadyH.cons (o := ⟨none, _, _, _, _, _⟩) rfl (fun K hK => ?_) ?_
              rotate_left 1
              · exact AllReadyH.nil
              have H6 : Holds (v6_11.setCell ⟨k5, 0, none⟩ (.map (some bm))) k5 #[.map (some bm)] 79 := Blk.set_own H5 0 (.map (some bm))
              have hg_ := grown_set v6_11 k5 0 (.map (some bm))
              have HC2 := HC.kept hg_ (by intro e; injection e with e; exact nk_ e.symm)
              have hsz_ := HB.size
              replace HB := HB.grown hg_ hsz_ (fun k hk => by injection hk with hk; omega)
              go_simp
              refine hK.out _ _ (HS.out _ HB) (fun hHeld => ?_)
              clear hK K
              try simp only [Act.put]
              refine wpAnyH_done (by kernel_rfl) ?_ _
              exact ⟨bm, k5, rfl, rfl, HC2, H6, nk_, by rw [← hdz_.out]; exact hbmB, by rw [← hdz_.out]; exact hk5B, hd_.trans (by rw [← hdz_.out]; exact HB)⟩
            refine AllReadyH.cons (o := ⟨some 5, _, _, _, _, _⟩) rfl (fun K hK => ?_) ?_
            · skip
              have hsz_ := HB.size
              obtain ⟨k5, hk5⟩ : ∃ b, b = v4_3.heap.size := ⟨_, rfl⟩
              have hk5B : v0.heap.size ≤ k5 := by omega
              have H5 := Blk.Holds.box v4_3 #[.map none] 79 hk5
              have hb_ := below1 v4_3 (Obj.cells #[.map none] 79)
              replace HB := HB.trans (hb_.mono hsz_)
              replace HM := HM.later hb_
              go_simp
              try rw [← hk5]
              generalize v4_3.alloc (Obj.cells #[.map none] 79) = v5_11 at *
              clear hb_ hk5 hsz_
              refine hK.out _ _ (HS.out _ HB) (fun hHeld => ?_)
              clear hK K
              try simp only [Act.put, List.setIfInBounds_toArray, List.set_cons_zero, List.set_cons_succ]
              refine wpAnyH_ready (rs := [10]) (by kernel_rfl) (by simp) ?_
              refine AllReadyH.cons (o := ⟨some 27, _, _, _, _, _⟩) rfl (fun K hK => ?_) ?_
              rotate_left 1
              · exact AllReadyH.nil
              go_simp
              refine hK.out _ _ (HS.out _ HB) (fun hHeld => ?_)
              clear hK K
              try simp only [Act.put, List.setIfInBounds_toArray, List.set_cons_zero, List.set_cons_succ]
              skip
              have HC := HM.congr (perm_yzx hxy hyz hzn)
              have nk_ := HM.ne H5
              clear HM
              obtain ⟨_, _⟩ := H5.one
              refine wpAnyH_ready (rs := [12]) (by kernel_rfl) (by simp) ?_
              refine AllReadyH.cons (o := ⟨none, _, _, _, _, _⟩) rfl (fun K hK => ?_) ?_
              rotate_left 1
              · exact AllReadyH.nil
              have H6 : Holds (v5_11.setCell ⟨k5, 0, none⟩ (.map (some bm))) k5 #[.map (some bm)] 79 := Blk.set_own H5 0 (.map (some bm))
              have hg_ := grown_set v5_11 k5 0 (.map (some bm))
              have HC2 := HC.kept hg_ (by intro e; injection e with e; exact nk_ e.symm)
              have hsz_ := HB.size
              replace HB := HB.grown hg_ hsz_ (fun k hk => by injection hk with hk; omega)
              go_simp
              refine hK.out _ _ (HS.out _ HB) (fun hHeld => ?_)
              clear hK K
              try simp only [Act.put]
              refine wpAnyH_done (by kernel_rfl) ?_ _
              exact ⟨bm, k5, rfl, rfl, HC2, H6, nk_, by rw [← hdz_.out]; exact hbmB, by rw [← hdz_.out]; exact hk5B, hd_.trans (by rw [← hdz_.out]; exact HB)⟩
            exact AllReadyH.nil
          refine AllReadyH.cons (o := ⟨some 5, _, _, _, _, _⟩) rfl (fun K hK => ?_) ?_
          · skip
            have hsz_ := HB.size
            obtain ⟨k5, hk5⟩ : ∃ b, b = v3_9.heap.size := ⟨_, rfl⟩
            have hk5B : v0.heap.size ≤ k5 := by omega
            have H5 := Blk.Holds.box v3_9 #[.map none] 79 hk5
            have hb_ := below1 v3_9 (Obj.cells #[.map none] 79)
            replace HB := HB.trans (hb_.mono hsz_)
            replace HM := HM.later hb_
            go_simp
            try rw [← hk5]
            generalize v3_9.alloc (Obj.cells #[.map none] 79) = v4_11 at *
            clear hb_ hk5 hsz_
            refine hK.out _ _ (HS.out _ HB) (fun hHeld => ?_)
            clear hK K
            try simp only [Act.put, List.setIfInBounds_toArray, List.set_cons_zero, List.set_cons_succ]
            refine wpAnyH_ready (rs := [3]) (by kernel_rfl) (by simp) ?_
            refine AllReadyH.cons (o := ⟨none, _, _, _, _, _⟩) rfl (fun K hK => ?_) ?_
            rotate_left 1
            · exact AllReadyH.nil
            have hsz_ := HB.size
            refine step_insert_map _ rfl _ _ _ _ rfl Tryz.underlying79 bm 2 _ rfl HM (by unfold maxLen; omega) (x : Int) rfl wx 0 rfl (by decide) ?_
            intro v5_3 HM2 hg_
            have n5_ := HM.ne H5
            replace H5 := keptH H5 hg_ n5_
            clear n5_
            replace HB := HB.grown hg_ hsz_ (fun k hk => by injection hk with hk; omega)
            clear HM
            have HM := HM2
            clear HM2 hg_ hsz_
            refine hK.out _ _ (HS.out _ HB) (fun hHeld => ?_)
            clear hK K
            try simp only [Act.put]
            refine wpAnyH_ready (rs := [10]) (by kernel_rfl) (by simp) ?_
            refine AllReadyH.cons (o := ⟨some 27, _, _, _, _, _⟩) rfl (fun K hK => ?_) ?_
            rotate_left 1
            · exact AllReadyH.nil
            go_simp
            refine hK.out _ _ (HS.out _ HB) (fun hHeld => ?_)
            clear hK K
            try simp only [Act.put, List.setIfInBounds_toArray, List.set_cons_zero, List.set_cons_succ]
            skip
            have HC := HM.congr (perm_yzx hxy hyz hzn)
            have nk_ := HM.ne H5
            clear HM
            obtain ⟨_, _⟩ := H5.one
            refine wpAnyH_ready (rs := [12]) (by kernel_rfl) (by simp) ?_
            refine AllReadyH.cons (o := ⟨none, _, _, _, _, _⟩) rfl (fun K hK => ?_) ?_
            rotate_left 1
            · exact AllReadyH.nil
            have H6 : Holds (v5_3.setCell ⟨k5, 0, none⟩ (.map (some bm))) k5 #[.map (some bm)] 79 := Blk.set_own H5 0 (.map (some bm))
            have hg_ := grown_set v5_3 k5 0 (.map (some bm))
            have HC2 := HC.kept hg_ (by intro e; injection e with e; exact nk_ e.symm)
            have hsz_ := HB.size
            replace HB := HB.grown hg_ hsz_ (fun k hk => by injection hk with hk; omega)
            go_simp
            refine hK.out _ _ (HS.out _ HB) (fun hHeld => ?_)
            clear hK K
            try simp only [Act.put]
            refine wpAnyH_done (by kernel_rfl) ?_ _
            exact ⟨bm, k5, rfl, rfl, HC2, H6, nk_, by rw [← hdz_.out]; exact hbmB, by rw [← hdz_.out]; exact hk5B, hd_.trans (by rw [← hdz_.out]; exact HB)⟩
          exact AllReadyH.nil
        refine AllReadyH.cons (o := ⟨some 5, _, _, _, _, _⟩) rfl (fun K hK => ?_) ?_
        · skip
          have hsz_ := HB.size
          obtain ⟨k5, hk5⟩ : ∃ b, b = v2_6.heap.size := ⟨_, rfl⟩
          have hk5B : v0.heap.size ≤ k5 := by omega
          have H5 := Blk.Holds.box v2_6 #[.map none] 79 hk5
          have hb_ := below1 v2_6 (Obj.cells #[.map none] 79)
          replace HB := HB.trans (hb_.mono hsz_)
          replace HM := HM.later hb_
          go_simp
          try rw [← hk5]
          generalize v2_6.alloc (Obj.cells #[.map none] 79) = v3_11 at *
          clear hb_ hk5 hsz_
          refine hK.out _ _ (HS.out _ HB) (fun hHeld => ?_)
          clear hK K
          try simp only [Act.put, List.setIfInBounds_toArray, List.set_cons_zero, List.set_cons_succ]
          refine wpAnyH_ready (rs := [3, 9]) (by kernel_rfl) (by simp) ?_
          refine AllReadyH.cons (o := ⟨none, _, _, _, _, _⟩) rfl (fun K hK => ?_) ?_
          · skip
            have hsz_ := HB.size
            refine step_insert_map _ rfl _ _ _ _ rfl Tryz.underlying79 bm 1 _ rfl HM (by unfold maxLen; omega) (x : Int) rfl wx 0 rfl (by decide) ?_
            intro v4_3 HM2 hg_
            have n5_ := HM.ne H5
            replace H5 := keptH H5 hg_ n5_
            clear n5_
            replace HB := HB.grown hg_ hsz_ (fun k hk => by injection hk with hk; omega)
            clear HM
            have HM := HM2
            clear HM2 hg_ hsz_
            refine hK.out _ _ (HS.out _ HB) (fun hHeld => ?_)
            clear hK K
            try simp only [Act.put]
            refine wpAnyH_ready (rs := [9]) (by kernel_rfl) (by simp) ?_
            refine AllReadyH.cons (o := ⟨none, _, _, _, _, _⟩) rfl (fun K hK => ?_) ?_
            rotate_left 1
            · exact AllReadyH.nil
            have hsz_ := HB.size
            refine step_insert_map _ rfl _ _ _ _ rfl Tryz.underlying79 bm 2 _ rfl HM (by unfold maxLen; omega) (z : Int) rfl wz 2 rfl (by decide) ?_
            intro v5_9 HM2 hg_
            have n5_ := HM.ne H5
            replace H5 := keptH H5 hg_ n5_
            clear n5_
            replace HB := HB.grown hg_ hsz_ (fun k hk => by injection hk with hk; omega)
            clear HM
            have HM := HM2
            clear HM2 hg_ hsz_
            refine hK.out _ _ (HS.out _ HB) (fun hHeld => ?_)
            clear hK K
            try simp only [Act.put]
            refine wpAnyH_ready (rs := [10]) (by kernel_rfl) (by simp) ?_
            refine AllReadyH.cons (o := ⟨some 27, _, _, _, _, _⟩) rfl (fun K hK => ?_) ?_
            rotate_left 1
            · exact AllReadyH.nil
            go_simp
            refine hK.out _ _ (HS.out _ HB) (fun hHeld => ?_)
            clear hK K
            try simp only [Act.put, List.setIfInBounds_toArray, List.set_cons_zero, List.set_cons_succ]
            skip
            have HC := HM.congr (perm_yxz hxy hyz hzn)
            have nk_ := HM.ne H5
            clear HM
            obtain ⟨_, _⟩ := H5.one
            refine wpAnyH_ready (rs := [12]) (by kernel_rfl) (by simp) ?_
            refine AllReadyH.cons (o := ⟨none, _, _, _, _, _⟩) rfl (fun K hK => ?_) ?_
            rotate_left 1
            · exact AllReadyH.nil
            have H6 : Holds (v5_9.setCell ⟨k5, 0, none⟩ (.map (some bm))) k5 #[.map (some bm)] 79 := Blk.set_own H5 0 (.map (some bm))
            have hg_ := grown_set v5_9 k5 0 (.map (some bm))
            have HC2 := HC.kept hg_ (by intro e; injection e with e; exact nk_ e.symm)
            have hsz_ := HB.size
            replace HB := HB.grown hg_ hsz_ (fun k hk => by injection hk with hk; omega)
            go_simp
            refine hK.out _ _ (HS.out _ HB) (fun hHeld => ?_)
            clear hK K
            try simp only [Act.put]
            refine wpAnyH_done (by kernel_rfl) ?_ _
            exact ⟨bm, k5, rfl, rfl, HC2, H6, nk_, by rw [← hdz_.out]; exact hbmB, by rw [← hdz_.out]; exact hk5B, hd_.trans (by rw [← hdz_.out]; exact HB)⟩
          refine AllReadyH.cons (o := ⟨none, _, _, _, _, _⟩) rfl (fun K hK => ?_) ?_
          · skip
            have hsz_ := HB.size
            refine step_insert_map _ rfl _ _ _ _ rfl Tryz.underlying79 bm 1 _ rfl HM (by unfold maxLen; omega) (z : Int) rfl wz 2 rfl (by decide) ?_
            intro v4_9 HM2 hg_
            have n5_ := HM.ne H5
            replace H5 := keptH H5 hg_ n5_
            clear n5_
            replace HB := HB.grown hg_ hsz_ (fun k hk => by injection hk with hk; omega)
            clear HM
            have HM := HM2
            clear HM2 hg_ hsz_
            refine hK.out _ _ (HS.out _ HB) (fun hHeld => ?_)
            clear hK K
            try simp only [Act.put]
            refine wpAnyH_ready (rs := [3]) (by kernel_rfl) (by simp) ?_
            refine AllReadyH.cons (o := ⟨none, _, _, _, _, _⟩) rfl (fun K hK => ?_) ?_
            rotate_left 1
            · exact AllReadyH.nil
            have hsz_ := HB.size
            refine step_insert_map _ rfl _ _ _ _ rfl Tryz.underlying79 bm 2 _ rfl HM (by unfold maxLen; omega) (x : Int) rfl wx 0 rfl (by decide) ?_
            intro v5_3 HM2 hg_
            have n5_ := HM.ne H5
            replace H5 := keptH H5 hg_ n5_
            clear n5_
            replace HB := HB.grown hg_ hsz_ (fun k hk => by injection hk with hk; omega)
            clear HM
            have HM := HM2
            clear HM2 hg_ hsz_
            refine hK.out _ _ (HS.out _ HB) (fun hHeld => ?_)
            clear hK K
            try simp only [Act.put]
            refine wpAnyH_ready (rs := [10]) (by kernel_rfl) (by simp) ?_
            refine AllReadyH.cons (o := ⟨some 27, _, _, _, _, _⟩) rfl (fun K hK => ?_) ?_
            rotate_left 1
            · exact AllReadyH.nil
            go_simp
            refine hK.out _ _ (HS.out _ HB) (fun hHeld => ?_)
            clear hK K
            try simp only [Act.put, List.setIfInBounds_toArray, List.set_cons_zero, List.set_cons_succ]
            skip
            have HC := HM.congr (perm_yzx hxy hyz hzn)
            have nk_ := HM.ne H5
            clear HM
            obtain ⟨_, _⟩ := H5.one
            refine wpAnyH_ready (rs := [12]) (by kernel_rfl) (by simp) ?_
            refine AllReadyH.cons (o := ⟨none, _, _, _, _, _⟩) rfl (fun K hK => ?_) ?_
            rotate_left 1
            · exact AllReadyH.nil
            have H6 : Holds (v5_3.setCell ⟨k5, 0, none⟩ (.map (some bm))) k5 #[.map (some bm)] 79 := Blk.set_own H5 0 (.map (some bm))
            have hg_ := grown_set v5_3 k5 0 (.map (some bm))
            have HC2 := HC.kept hg_ (by intro e; injection e with e; exact nk_ e.symm)
            have hsz_ := HB.size
            replace HB := HB.grown hg_ hsz_ (fun k hk => by injection hk with hk; omega)
            go_simp
            refine hK.out _ _ (HS.out _ HB) (fun hHeld => ?_)
            clear hK K
            try simp only [Act.put]
            refine wpAnyH_done (by kernel_rfl) ?_ _
            exact ⟨bm, k5, rfl, rfl, HC2, H6, nk_, by rw [← hdz_.out]; exact hbmB, by rw [← hdz_.out]; exact hk5B, hd_.trans (by rw [← hdz_.out]; exact HB)⟩
          exact AllReadyH.nil
        exact AllReadyH.nil
      refine AllReadyH.cons (o := ⟨none, _, _, _, _, _⟩) rfl (fun K hK => ?_) ?_
      · skip
        have hsz_ := HB.size
        refine step_insert_map _ rfl _ _ _ _ rfl Tryz.underlying79 bm 0 _ rfl HM (by unfold maxLen; omega) (z : Int) rfl wz 2 rfl (by decide) ?_
        intro v2_9 HM2 hg_
        replace HB := HB.grown hg_ hsz_ (fun k hk => by injection hk with hk; omega)
        clear HM
        have HM := HM2
        clear HM2 hg_ hsz_
        refine hK.out _ _ (HS.out _ HB) (fun hHeld => ?_)
        clear hK K
        try simp only [Act.put]
        refine wpAnyH_ready (rs := [3, 6, 11]) (by kernel_rfl) (by simp) ?_
        refine AllReadyH.cons (o := ⟨none, _, _, _, _, _⟩) rfl (fun K hK => ?_) ?_
        · skip
          have hsz_ := HB.size
          refine step_insert_map _ rfl _ _ _ _ rfl Tryz.underlying79 bm 1 _ rfl HM (by unfold maxLen; omega) (x : Int) rfl wx 0 rfl (by decide) ?_
          intro v3_3 HM2 hg_
          replace HB := HB.grown hg_ hsz_ (fun k hk => by injection hk with hk; omega)
          clear HM
          have HM := HM2
          clear HM2 hg_ hsz_
          refine hK.out _ _ (HS.out _ HB) (fun hHeld => ?_)
          clear hK K
          try simp only [Act.put]
          refine wpAnyH_ready (rs := [6, 11]) (by kernel_rfl) (by simp) ?_
          refine AllReadyH.cons (o := ⟨none, _, _, _, _, _⟩) rfl (fun K hK => ?_) ?_
          · skip
            have hsz_ := HB.size
            refine step_insert_map _ rfl _ _ _ _ rfl Tryz.underlying79 bm 2 _ rfl HM (by unfold maxLen; omega) (y : Int) rfl wy 1 rfl (by decide) ?_
            intro v4_6 HM2 hg_
            replace HB := HB.grown hg_ hsz_ (fun k hk => by injection hk with hk; omega)
            clear HM
            have HM := HM2
            clear HM2 hg_ hsz_
            refine hK.out _ _ (HS.out _ HB) (fun hHeld => ?_)
            clear hK K
            try simp only [Act.put]
            refine wpAnyH_ready (rs := [10, 11]) (by kernel_rfl) (by simp) ?_
            refine AllReadyH.cons (o := ⟨some 27, _, _, _, _, _⟩) rfl (fun K hK => ?_) ?_
            · skip
              go_simp
              refine hK.out _ _ (HS.out _ HB) (fun hHeld => ?_)
              clear hK K
              try simp only [Act.put, List.setIfInBounds_toArray, List.set_cons_zero, List.set_cons_succ]
              refine wpAnyH_ready (rs := [11]) (by kernel_rfl) (by simp) ?_
              refine AllReadyH.cons (o := ⟨some 5, _, _, _, _, _⟩) rfl (fun K hK => ?_) ?_
              rotate_left 1
              · exact AllReadyH.nil
              have hsz_ := HB.size
              obtain ⟨k5, hk5⟩ : ∃ b, b = v4_6.heap.size := ⟨_, rfl⟩
              have hk5B : v0.heap.size ≤ k5 := by omega
              have H5 := Blk.Holds.box v4_6 #[.map none] 79 hk5
              have hb_ := below1 v4_6 (Obj.cells #[.map none] 79)
              replace HB := HB.trans (hb_.mono hsz_)
              replace HM := HM.later hb_
              go_simp
              try rw [← hk5]
              generalize v4_6.alloc (Obj.cells #[.map none] 79) = v6_11 at *
              clear hb_ hk5 hsz_
              refine hK.out _ _ (HS.out _ HB) (fun hHeld => ?_)
              clear hK K
              try simp only [Act.put, List.setIfInBounds_toArray, List.set_cons_zero, List.set_cons_succ]
              skip
              have HC := HM.congr (perm_zxy hxy hyz hzn)
              have nk_ := HM.ne H5
              clear HM
              obtain ⟨_, _⟩ := H5.one
              refine wpAnyH_ready (rs := [12]) (by kernel_rfl) (by simp) ?_
              refine AllReadyH.cons (o := ⟨none, _, _, _, _, _⟩) rfl (fun K hK => ?_) ?_
              rotate_left 1
              · exact AllReadyH.nil
              have H6 : Holds (v6_11.setCell ⟨k5, 0, none⟩ (.map (some bm))) k5 #[.map (some bm)] 79 := Blk.set_own H5 0 (.map (some bm))
              have hg_ := grown_set v6_11 k5 0 (.map (some bm))
              have HC2 := HC.kept hg_ (by intro e; injection e with e; exact nk_ e.symm)
              have hsz_ := HB.size
              replace HB := HB.grown hg_ hsz_ (fun k hk => by injection hk with hk; omega)
              go_simp
              refine hK.out _ _ (HS.out _ HB) (fun hHeld => ?_)
              clear hK K
              try simp only [Act.put]
              refine wpAnyH_done (by kernel_rfl) ?_ _
              exact ⟨bm, k5, rfl, rfl, HC2, H6, nk_, by rw [← hdz_.out]; exact hbmB, by rw [← hdz_.out]; exact hk5B, hd_.trans (by rw [← hdz_.out]; exact HB)⟩
            refine AllReadyH.cons (o := ⟨some 5, _, _, _, _, _⟩) rfl (fun K hK => ?_) ?_
            · skip
              have hsz_ := HB.size
              obtain ⟨k5, hk5⟩ : ∃ b, b = v4_6.heap.size := ⟨_, rfl⟩
              have hk5B : v0.heap.size ≤ k5 := by omega
              have H5 := Blk.Holds.box v4_6 #[.map none] 79 hk5
              have hb_ := below1 v4_6 (Obj.cells #[.map none] 79)
              replace HB := HB.trans (hb_.mono hsz_)
              replace HM := HM.later hb_
              go_simp
              try rw [← hk5]
              generalize v4_6.alloc (Obj.cells #[.map none] 79) = v5_11 at *
              clear hb_ hk5 hsz_
              refine hK.out _ _ (HS.out _ HB) (fun hHeld => ?_)
              clear hK K
              try simp only [Act.put, List.setIfInBounds_toArray, List.set_cons_zero, List.set_cons_succ]
              refine wpAnyH_ready (rs := [10]) (by kernel_rfl) (by simp) ?_
              refine AllReadyH.cons (o := ⟨some 27, _, _, _, _, _⟩) rfl (fun K hK => ?_) ?_
              rotate_left 1
              · exact AllReadyH.nil
              go_simp
              refine hK.out _ _ (HS.out _ HB) (fun hHeld => ?_)
              clear hK K
              try simp only [Act.put, List.setIfInBounds_toArray, List.set_cons_zero, List.set_cons_succ]
              skip
              have HC := HM.congr (perm_zxy hxy hyz hzn)
              have nk_ := HM.ne H5
              clear HM
              obtain ⟨_, _⟩ := H5.one
              refine wpAnyH_ready (rs := [12]) (by kernel_rfl) (by simp) ?_
              refine AllReadyH.cons (o := ⟨none, _, _, _, _, _⟩) rfl (fun K hK => ?_) ?_
              rotate_left 1
              · exact AllReadyH.nil
              have H6 : Holds (v5_11.setCell ⟨k5, 0, none⟩ (.map (some bm))) k5 #[.map (some bm)] 79 := Blk.set_own H5 0 (.map (some bm))
              have hg_ := grown_set v5_11 k5 0 (.map (some bm))
              have HC2 := HC.kept hg_ (by intro e; injection e with e; exact nk_ e.symm)
              have hsz_ := HB.size
              replace HB := HB.grown hg_ hsz_ (fun k hk => by injection hk with hk; omega)
              go_simp
              refine hK.out _ _ (HS.out _ HB) (fun hHeld => ?_)
              clear hK K
              try simp only [Act.put]
              refine wpAnyH_done (by kernel_rfl) ?_ _
              exact ⟨bm, k5, rfl, rfl, HC2, H6, nk_, by rw [← hdz_.out]; exact hbmB, by rw [← hdz_.out]; exact hk5B, hd_.trans (by rw [← hdz_.out]; exact HB)⟩
            exact AllReadyH.nil
          refine AllReadyH.cons (o := ⟨some 5, _, _, _, _, _⟩) rfl (fun K hK => ?_) ?_
          · skip
            have hsz_ := HB.size
            obtain ⟨k5, hk5⟩ : ∃ b, b = v3_3.heap.size := ⟨_, rfl⟩
            have hk5B : v0.heap.size ≤ k5 := by omega
            have H5 := Blk.Holds.box v3_3 #[.map none] 79 hk5
            have hb_ := below1 v3_3 (Obj.cells #[.map none] 79)
            replace HB := HB.trans (hb_.mono hsz_)
            replace HM := HM.later hb_
            go_simp
            try rw [← hk5]
            generalize v3_3.alloc (Obj.cells #[.map none] 79) = v4_11 at *
            clear hb_ hk5 hsz_
            refine hK.out _ _ (HS.out _ HB) (fun hHeld => ?_)
            clear hK K
            try simp only [Act.put, List.setIfInBounds_toArray, List.set_cons_zero, List.set_cons_succ]
            refine wpAnyH_ready (rs := [6]) (by kernel_rfl) (by simp) ?_
            refine AllReadyH.cons (o := ⟨none, _, _, _, _, _⟩) rfl (fun K hK => ?_) ?_
            rotate_left 1
            · exact AllReadyH.nil
            have hsz_ := HB.size
            refine step_insert_map _ rfl _ _ _ _ rfl Tryz.underlying79 bm 2 _ rfl HM (by unfold maxLen; omega) (y : Int) rfl wy 1 rfl (by decide) ?_
            intro v5_6 HM2 hg_
            have n5_ := HM.ne H5
            replace H5 := keptH H5 hg_ n5_
            clear n5_
            replace HB := HB.grown hg_ hsz_ (fun k hk => by injection hk with hk; omega)
            clear HM
            have HM := HM2
            clear HM2 hg_ hsz_
            refine hK.out _ _ (HS.out _ HB) (fun hHeld => ?_)
            clear hK K
            try simp only [Act.put]
            refine wpAnyH_ready (rs := [10]) (by kernel_rfl) (by simp) ?_
            refine AllReadyH.cons (o := ⟨some 27, _, _, _, _, _⟩) rfl (fun K hK => ?_) ?_
            rotate_left 1
            · exact AllReadyH.nil
            go_simp
            refine hK.out _ _ (HS.out _ HB) (fun hHeld => ?_)
            clear hK K
            try simp only [Act.put, List.setIfInBounds_toArray, List.set_cons_zero, List.set_cons_succ]
            skip
            have HC := HM.congr (perm_zxy hxy hyz hzn)
            have nk_ := HM.ne H5
            clear HM
            obtain ⟨_, _⟩ := H5.one
            refine wpAnyH_ready (rs := [12]) (by kernel_rfl) (by simp) ?_
            refine AllReadyH.cons (o := ⟨none, _, _, _, _, _⟩) rfl (fun K hK => ?_) ?_
            rotate_left 1
            · exact AllReadyH.nil
            have H6 : Holds (v5_6.setCell ⟨k5, 0, none⟩ (.map (some bm))) k5 #[.map (some bm)] 79 := Blk.set_own H5 0 (.map (some bm))
            have hg_ := grown_set v5_6 k5 0 (.map (some bm))
            have HC2 := HC.kept hg_ (by intro e; injection e with e; exact nk_ e.symm)
            have hsz_ := HB.size
            replace HB := HB.grown hg_ hsz_ (fun k hk => by injection hk with hk; omega)
            go_simp
            refine hK.out _ _ (HS.out _ HB) (fun hHeld => ?_)
            clear hK K
            try simp only [Act.put]
            refine wpAnyH_done (by kernel_rfl) ?_ _
            exact ⟨bm, k5, rfl, rfl, HC2, H6, nk_, by rw [← hdz_.out]; exact hbmB, by rw [← hdz_.out]; exact hk5B, hd_.trans (by rw [← hdz_.out]; exact HB)⟩
          exact AllReadyH.nil
        refine AllReadyH.cons (o := ⟨none, _, _, _, _, _⟩) rfl (fun K hK => ?_) ?_
        · skip
          have hsz_ := HB.size
          refine step_insert_map _ rfl _ _ _ _ rfl Tryz.underlying79 bm 1 _ rfl HM (by unfold maxLen; omega) (y : Int) rfl wy 1 rfl (by decide) ?_
          intro v3_6 HM2 hg_
          replace HB := HB.grown hg_ hsz_ (fun k hk => by injection hk with hk; omega)
          clear HM
          have HM := HM2
          clear HM2 hg_ hsz_
          refine hK.out _ _ (HS.out _ HB) (fun hHeld => ?_)
          clear hK K
          try simp only [Act.put]
          refine wpAnyH_ready (rs := [3, 11]) (by kernel_rfl) (by simp) ?_
          refine AllReadyH.cons (o := ⟨none, _, _, _, _, _⟩) rfl (fun K hK => ?_) ?_
          · skip
            have hsz_ := HB.size
            refine step_insert_map _ rfl _ _ _ _ rfl Tryz.underlying79 bm 2 _ rfl HM (by unfold maxLen; omega) (x : Int) rfl wx 0 rfl (by decide) ?_
            intro v4_3 HM2 hg_
            replace HB := HB.grown hg_ hsz_ (fun k hk => by injection hk with hk; omega)
            clear HM
            have HM := HM2
            clear HM2 hg_ hsz_
            refine hK.out _ _ (HS.out _ HB) (fun hHeld => ?_)
            clear hK K
            try simp only [Act.put]
            refine wpAnyH_ready (rs := [10, 11]) (by kernel_rfl) (by simp) ?_
            refine AllReadyH.cons (o := ⟨some 27, _, _, _, _, _⟩) rfl (fun K hK => ?_) ?_
            · skip
              go_simp
              refine hK.out _ _ (HS.out _ HB) (fun hHeld => ?_)
              clear hK K
              try simp only [Act.put, List.setIfInBounds_toArray, List.set_cons_zero, List.set_cons_succ]
              refine wpAnyH_ready (rs := [11]) (by kernel_rfl) (by simp) ?_
              refine AllReadyH.cons (o := ⟨some 5, _, _, _, _, _⟩) rfl (fun K hK => ?_) ?_
              rotate_left 1
              · exact AllReadyH.nil
              have hsz_ := HB.size
              obtain ⟨k5, hk5⟩ : ∃ b, b = v4_3.heap.size := ⟨_, rfl⟩
              have hk5B : v0.heap.size ≤ k5 := by omega
              have H5 := Blk.Holds.box v4_3 #[.map none] 79 hk5
              have hb_ := below1 v4_3 (Obj.cells #[.map none] 79)
              replace HB := HB.trans (hb_.mono hsz_)
              replace HM := HM.later hb_
              go_simp
              try rw [← hk5]
              generalize v4_3.alloc (Obj.cells #[.map none] 79) = v6_11 at *
              clear hb_ hk5 hsz_
              refine hK.out _ _ (HS.out _ HB) (fun hHeld => ?_)
              clear hK K
              try simp only [Act.put, List.setIfInBounds_toArray, List.set_cons_zero, List.set_cons_succ]
              skip
              have HC := HM.congr (perm_zyx hxy hyz hzn)
              have nk_ := HM.ne H5
              clear HM
              obtain ⟨_, _⟩ := H5.one
              refine wpAnyH_ready (rs := [12]) (by kernel_rfl) (by simp) ?_
              refine AllReadyH.cons (o := ⟨none, _, _, _, _, _⟩) rfl (fun K hK => ?_) ?_
              rotate_left 1
              · exact AllReadyH.nil
              have H6 : Holds (v6_11.setCell ⟨k5, 0, none⟩ (.map (some bm))) k5 #[.map (some bm)] 79 := Blk.set_own H5 0 (.map (some bm))
              have hg_ := grown_set v6_11 k5 0 (.map (some bm))
              have HC2 := HC.kept hg_ (by intro e; injection e with e; exact nk_ e.symm)
              have hsz_ := HB.size
              replace HB := HB.grown hg_ hsz_ (fun k hk => by injection hk with hk; omega)
              go_simp
              refine hK.out _ _ (HS.out _ HB) (fun hHeld => ?_)
              clear hK K
              try simp only [Act.put]
              refine wpAnyH_done (by kernel_rfl) ?_ _
              exact ⟨bm, k5, rfl, rfl, HC2, H6, nk_, by rw [← hdz_.out]; exact hbmB, by rw [← hdz_.out]; exact hk5B, hd_.trans (by rw [← hdz_.out]; exact HB)⟩
            refine AllReadyH.cons (o := ⟨some 5, _, _, _, _, _⟩) rfl (fun K hK => ?_) ?_
            · skip
              have hsz_ := HB.size
              obtain ⟨k5, hk5⟩ : ∃ b, b = v4_3.heap.size := ⟨_, rfl⟩
              have hk5B : v0.heap.size ≤ k5 := by omega
              have H5 := Blk.Holds.box v4_3 #[.map none] 79 hk5
              have hb_ := below1 v4_3 (Obj.cells #[.map none] 79)
              replace HB := HB.trans (hb_.mono hsz_)
              replace HM := HM.later hb_
              go_simp
              try rw [← hk5]
              generalize v4_3.alloc (Obj.cells #[.map none] 79) = v5_11 at *
              clear hb_ hk5 hsz_
              refine hK.out _ _ (HS.out _ HB) (fun hHeld => ?_)
              clear hK K
              try simp only [Act.put, List.setIfInBounds_toArray, List.set_cons_zero, List.set_cons_succ]
              refine wpAnyH_ready (rs := [10]) (by kernel_rfl) (by simp) ?_
              refine AllReadyH.cons (o := ⟨some 27, _, _, _, _, _⟩) rfl (fun K hK => ?_) ?_
              rotate_left 1
              · exact AllReadyH.nil
              go_simp
              refine hK.out _ _ (HS.out _ HB) (fun hHeld => ?_)
              clear hK K
              try simp only [Act.put, List.setIfInBounds_toArray, List.set_cons_zero, List.set_cons_succ]
              skip
              have HC := HM.congr (perm_zyx hxy hyz hzn)
              have nk_ := HM.ne H5
              clear HM
              obtain ⟨_, _⟩ := H5.one
              refine wpAnyH_ready (rs := [12]) (by kernel_rfl) (by simp) ?_
              refine AllReadyH.cons (o := ⟨none, _, _, _, _, _⟩) rfl (fun K hK => ?_) ?_
              rotate_left 1
              · exact AllReadyH.nil
              have H6 : Holds (v5_11.setCell ⟨k5, 0, none⟩ (.map (some bm))) k5 #[.map (some bm)] 79 := Blk.set_own H5 0 (.map (some bm))
              have hg_ := grown_set v5_11 k5 0 (.map (some bm))
              have HC2 := HC.kept hg_ (by intro e; injection e with e; exact nk_ e.symm)
              have hsz_ := HB.size
              replace HB := HB.grown hg_ hsz_ (fun k hk => by injection hk with hk; omega)
              go_simp
              refine hK.out _ _ (HS.out _ HB) (fun hHeld => ?_)
              clear hK K
              try simp only [Act.put]
              refine wpAnyH_done (by kernel_rfl) ?_ _
              exact ⟨bm, k5, rfl, rfl, HC2, H6, nk_, by rw [← hdz_.out]; exact hbmB, by rw [← hdz_.out]; exact hk5B, hd_.trans (by rw [← hdz_.out]; exact HB)⟩
            exact AllReadyH.nil
          refine AllReadyH.cons (o := ⟨some 5, _, _, _, _, _⟩) rfl (fun K hK => ?_) ?_
          · skip
            have hsz_ := HB.size
            obtain ⟨k5, hk5⟩ : ∃ b, b = v3_6.heap.size := ⟨_, rfl⟩
            have hk5B : v0.heap.size ≤ k5 := by omega
            have H5 := Blk.Holds.box v3_6 #[.map none] 79 hk5
            have hb_ := below1 v3_6 (Obj.cells #[.map none] 79)
            replace HB := HB.trans (hb_.mono hsz_)
            replace HM := HM.later hb_
            go_simp
            try rw [← hk5]
            generalize v3_6.alloc (Obj.cells #[.map none] 79) = v4_11 at *
            clear hb_ hk5 hsz_
            refine hK.out _ _ (HS.out _ HB) (fun hHeld => ?_)
            clear hK K
            try simp only [Act.put, List.setIfInBounds_toArray, List.set_cons_zero, List.set_cons_succ]
            refine wpAnyH_ready (rs := [3]) (by kernel_rfl) (by simp) ?_
            refine AllReadyH.cons (o := ⟨none, _, _, _, _, _⟩) rfl (fun K hK => ?_) ?_
            rotate_left 1
            · exact AllReadyH.nil
            have hsz_ := HB.size
            refine step_insert_map _ rfl _ _ _ _ rfl Tryz.underlying79 bm 2 _ rfl HM (by unfold maxLen; omega) (x : Int) rfl wx 0 rfl (by decide) ?_
            intro v5_3 HM2 hg_
            have n5_ := HM.ne H5
            replace H5 := keptH H5 hg_ n5_
            clear n5_
            replace HB := HB.grown hg_ hsz_ (fun k hk => by injection hk with hk; omega)
            clear HM
            have HM := HM2
            clear HM2 hg_ hsz_
            refine hK.out _ _ (HS.out _ HB) (fun hHeld => ?_)
            clear hK K
            try simp only [Act.put]
            refine wpAnyH_ready (rs := [10]) (by kernel_rfl) (by simp) ?_
            refine AllReadyH.cons (o := ⟨some 27, _, _, _, _, _⟩) rfl (fun K hK => ?_) ?_
            rotate_left 1
            · exact AllReadyH.nil
            go_simp
            refine hK.out _ _ (HS.out _ HB) (fun hHeld => ?_)
            clear hK K
            try simp only [Act.put, List.setIfInBounds_toArray, List.set_cons_zero, List.set_cons_succ]
            skip
            have HC := HM.congr (perm_zyx hxy hyz hzn)
            have nk_ := HM.ne H5
            clear HM
            obtain ⟨_, _⟩ := H5.one
            refine wpAnyH_ready (rs := [12]) (by kernel_rfl) (by simp) ?_
            refine AllReadyH.cons (o := ⟨none, _, _, _, _, _⟩) rfl (fun K hK => ?_) ?_
            rotate_left 1
            · exact AllReadyH.nil
            have H6 : Holds (v5_3.setCell ⟨k5, 0, none⟩ (.map (some bm))) k5 #[.map (some bm)] 79 := Blk.set_own H5 0 (.map (some bm))
            have hg_ := grown_set v5_3 k5 0 (.map (some bm))
            have HC2 := HC.kept hg_ (by intro e; injection e with e; exact nk_ e.symm)
            have hsz_ := HB.size
            replace HB := HB.grown hg_ hsz_ (fun k hk => by injection hk with hk; omega)
            go_simp
            refine hK.out _ _ (HS.out _ HB) (fun hHeld => ?_)
            clear hK K
            try simp only [Act.put]
            refine wpAnyH_done (by kernel_rfl) ?_ _
            exact ⟨bm, k5, rfl, rfl, HC2, H6, nk_, by rw [← hdz_.out]; exact hbmB, by rw [← hdz_.out]; exact hk5B, hd_.trans (by rw [← hdz_.out]; exact HB)⟩
          exact AllReadyH.nil
        refine AllReadyH.cons (o := ⟨some 5, _, _, _, _, _⟩) rfl (fun K hK => ?_) ?_
        · skip
          have hsz_ := HB.size
          obtain ⟨k5, hk5⟩ : ∃ b, b = v2_9.heap.size := ⟨_, rfl⟩
          have hk5B : v0.heap.size ≤ k5 := by omega
          have H5 := Blk.Holds.box v2_9 #[.map none] 79 hk5
          have hb_ := below1 v2_9 (Obj.cells #[.map none] 79)
          replace HB := HB.trans (hb_.mono hsz_)
          replace HM := HM.later hb_
          go_simp
          try rw [← hk5]
          generalize v2_9.alloc (Obj.cells #[.map none] 79) = v3_11 at *
          clear hb_ hk5 hsz_
          refine hK.out _ _ (HS.out _ HB) (fun hHeld => ?_)
          clear hK K
          try simp only [Act.put, List.setIfInBounds_toArray, List.set_cons_zero, List.set_cons_succ]
          refine wpAnyH_ready (rs := [3, 6]) (by kernel_rfl) (by simp) ?_
          refine AllReadyH.cons (o := ⟨none, _, _, _, _, _⟩) rfl (fun K hK => ?_) ?_
          · skip
            have hsz_ := HB.size
            refine step_insert_map _ rfl _ _ _ _ rfl Tryz.underlying79 bm 1 _ rfl HM (by unfold maxLen; omega) (x : Int) rfl wx 0 rfl (by decide) ?_
            intro v4_3 HM2 hg_
            have n5_ := HM.ne H5
            replace H5 := keptH H5 hg_ n5_
            clear n5_
            replace HB := HB.grown hg_ hsz_ (fun k hk => by injection hk with hk; omega)
            clear HM
            have HM := HM2
            clear HM2 hg_ hsz_
            refine hK.out _ _ (HS.out _ HB) (fun hHeld => ?_)
            clear hK K
            try simp only [Act.put]
            refine wpAnyH_ready (rs := [6]) (by kernel_rfl) (by simp) ?_
            refine AllReadyH.cons (o := ⟨none, _, _, _, _, _⟩) rfl (fun K hK => ?_) ?_
            rotate_left 1
            · exact AllReadyH.nil
            have hsz_ := HB.size
            refine step_insert_map _ rfl _ _ _ _ rfl Tryz.underlying79 bm 2 _ rfl HM (by unfold maxLen; omega) (y : Int) rfl wy 1 rfl (by decide) ?_
            intro v5_6 HM2 hg_
            have n5_ := HM.ne H5
            replace H5 := keptH H5 hg_ n5_
            clear n5_
            replace HB := HB.grown hg_ hsz_ (fun k hk => by injection hk with hk; omega)
            clear HM
            have HM := HM2
            clear HM2 hg_ hsz_
            refine hK.out _ _ (HS.out _ HB) (fun hHeld => ?_)
            clear hK K
            try simp only [Act.put]
            refine wpAnyH_ready (rs := [10]) (by kernel_rfl) (by simp) ?_
            refine AllReadyH.cons (o := ⟨some 27, _, _, _, _, _⟩) rfl (fun K hK => ?_) ?_
            rotate_left 1
            · exact AllReadyH.nil
            go_simp
            refine hK.out _ _ (HS.out _ HB) (fun hHeld => ?_)
            clear hK K
            try simp only [Act.put, List.setIfInBounds_toArray, List.set_cons_zero, List.set_cons_succ]
            skip
            have HC := HM.congr (perm_zxy hxy hyz hzn)
            have nk_ := HM.ne H5
            clear HM
            obtain ⟨_, _⟩ := H5.one
            refine wpAnyH_ready (rs := [12]) (by kernel_rfl) (by simp) ?_
            refine AllReadyH.cons (o := ⟨none, _, _, _, _, _⟩) rfl (fun K hK => ?_) ?_
            rotate_left 1
            · exact AllReadyH.nil
            have H6 : Holds (v5_6.setCell ⟨k5, 0, none⟩ (.map (some bm))) k5 #[.map (some bm)] 79 := Blk.set_own H5 0 (.map (some bm))
            have hg_ := grown_set v5_6 k5 0 (.map (some bm))
            have HC2 := HC.kept hg_ (by intro e; injection e with e; exact nk_ e.symm)
            have hsz_ := HB.size
            replace HB := HB.grown hg_ hsz_ (fun k hk => by injection hk with hk; omega)
            go_simp
            refine hK.out _ _ (HS.out _ HB) (fun hHeld => ?_)
            clear hK K
            try simp only [Act.put]
            refine wpAnyH_done (by kernel_rfl) ?_ _
            exact ⟨bm, k5, rfl, rfl, HC2, H6, nk_, by rw [← hdz_.out]; exact hbmB, by rw [← hdz_.out]; exact hk5B, hd_.trans (by rw [← hdz_.out]; exact HB)⟩
          refine AllReadyH.cons (o := ⟨none, _, _, _, _, _⟩) rfl (fun K hK => ?_) ?_
          · skip
            have hsz_ := HB.size
            refine step_insert_map _ rfl _ _ _ _ rfl Tryz.underlying79 bm 1 _ rfl HM (by unfold maxLen; omega) (y : Int) rfl wy 1 rfl (by decide) ?_
            intro v4_6 HM2 hg_
            have n5_ := HM.ne H5
            replace H5 := keptH H5 hg_ n5_
            clear n5_
            replace HB := HB.grown hg_ hsz_ (fun k hk => by injection hk with hk; omega)
            clear HM
            have HM := HM2
            clear HM2 hg_ hsz_
            refine hK.out _ _ (HS.out _ HB) (fun hHeld => ?_)
            clear hK K
            try simp only [Act.put]
            refine wpAnyH_ready (rs := [3]) (by kernel_rfl) (by simp) ?_
            refine AllReadyH.cons (o := ⟨none, _, _, _, _, _⟩) rfl (fun K hK => ?_) ?_
            rotate_left 1
            · exact AllReadyH.nil
            have hsz_ := HB.size
            refine step_insert_map _ rfl _ _ _ _ rfl Tryz.underlying79 bm 2 _ rfl HM (by unfold maxLen; omega) (x : Int) rfl wx 0 rfl (by decide) ?_
            intro v5_3 HM2 hg_
            have n5_ := HM.ne H5
            replace H5 := keptH H5 hg_ n5_
            clear n5_
            replace HB := HB.grown hg_ hsz_ (fun k hk => by injection hk with hk; omega)
            clear HM
            have HM := HM2
            clear HM2 hg_ hsz_
            refine hK.out _ _ (HS.out _ HB) (fun hHeld => ?_)
            clear hK K
            try simp only [Act.put]
            refine wpAnyH_ready (rs := [10]) (by kernel_rfl) (by simp) ?_
            refine AllReadyH.cons (o := ⟨some 27, _, _, _, _, _⟩) rfl (fun K hK => ?_) ?_
            rotate_left 1
            · exact AllReadyH.nil
            go_simp
            refine hK.out _ _ (HS.out _ HB) (fun hHeld => ?_)
            clear hK K
            try simp only [Act.put, List.setIfInBounds_toArray, List.set_cons_zero, List.set_cons_succ]
            skip
            have HC := HM.congr (perm_zyx hxy hyz hzn)
            have nk_ := HM.ne H5
            clear HM
            obtain ⟨_, _⟩ := H5.one
            refine wpAnyH_ready (rs := [12]) (by kernel_rfl) (by simp) ?_
            refine AllReadyH.cons (o := ⟨none, _, _, _, _, _⟩) rfl (fun K hK => ?_) ?_
            rotate_left 1
            · exact AllReadyH.nil
            have H6 : Holds (v5_3.setCell ⟨k5, 0, none⟩ (.map (some bm))) k5 #[.map (some bm)] 79 := Blk.set_own H5 0 (.map (some bm))
            have hg_ := grown_set v5_3 k5 0 (.map (some bm))
            have HC2 := HC.kept hg_ (by intro e; injection e with e; exact nk_ e.symm)
            have hsz_ := HB.size
            replace HB := HB.grown hg_ hsz_ (fun k hk => by injection hk with hk; omega)
            go_simp
            refine hK.out _ _ (HS.out _ HB) (fun hHeld => ?_)
            clear hK K
            try simp only [Act.put]
            refine wpAnyH_done (by kernel_rfl) ?_ _
            exact ⟨bm, k5, rfl, rfl, HC2, H6, nk_, by rw [← hdz_.out]; exact hbmB, by rw [← hdz_.out]; exact hk5B, hd_.trans (by rw [← hdz_.out]; exact HB)⟩
          exact AllReadyH.nil
        exact AllReadyH.nil
      refine AllReadyH.cons (o := ⟨some 5, _, _, _, _, _⟩) rfl (fun K hK => ?_) ?_
      · skip
        have hsz_ := HB.size
        obtain ⟨k5, hk5⟩ : ∃ b, b = v1_0.heap.size := ⟨_, rfl⟩
        have hk5B : v0.heap.size ≤ k5 := by omega
        have H5 := Blk.Holds.box v1_0 #[.map none] 79 hk5
        have hb_ := below1 v1_0 (Obj.cells #[.map none] 79)
        replace HB := HB.trans (hb_.mono hsz_)
        replace HM := HM.later hb_
        go_simp
        try rw [← hk5]
        generalize v1_0.alloc (Obj.cells #[.map none] 79) = v2_11 at *
        clear hb_ hk5 hsz_
        refine hK.out _ _ (HS.out _ HB) (fun hHeld => ?_)
        clear hK K
        try simp only [Act.put, List.setIfInBounds_toArray, List.set_cons_zero, List.set_cons_succ]
        refine wpAnyH_ready (rs := [3, 6, 9]) (by kernel_rfl) (by simp) ?_
        refine AllReadyH.cons (o := ⟨none, _, _, _, _, _⟩) rfl (fun K hK => ?_) ?_
        · skip
          have hsz_ := HB.size
          refine step_insert_map _ rfl _ _ _ _ rfl Tryz.underlying79 bm 0 _ rfl HM (by unfold maxLen; omega) (x : Int) rfl wx 0 rfl (by decide) ?_
          intro v3_3 HM2 hg_
          have n5_ := HM.ne H5
          replace H5 := keptH H5 hg_ n5_
          clear n5_
          replace HB := HB.grown hg_ hsz_ (fun k hk => by injection hk with hk; omega)
          clear HM
          have HM := HM2
          clear HM2 hg_ hsz_
          refine hK.out _ _ (HS.out _ HB) (fun hHeld => ?_)
          clear hK K
          try simp only [Act.put]
          refine wpAnyH_ready (rs := [6, 9]) (by kernel_rfl) (by simp) ?_
          refine AllReadyH.cons (o := ⟨none, _, _, _, _, _⟩) rfl (fun K hK => ?_) ?_
          · skip
            have hsz_ := HB.size
            refine step_insert_map _ rfl _ _ _ _ rfl Tryz.underlying79 bm 1 _ rfl HM (by unfold maxLen; omega) (y : Int) rfl wy 1 rfl (by decide) ?_
            intro v4_6 HM2 hg_
            have n5_ := HM.ne H5
            replace H5 := keptH H5 hg_ n5_
            clear n5_
            replace HB := HB.grown hg_ hsz_ (fun k hk => by injection hk with hk; omega)
            clear HM
            have HM := HM2
            clear HM2 hg_ hsz_
            refine hK.out _ _ (HS.out _ HB) (fun hHeld => ?_)
            clear hK K
            try simp only [Act.put]
            refine wpAnyH_ready (rs := [9]) (by kernel_rfl) (by simp) ?_
            refine AllReadyH.cons (o := ⟨none, _, _, _, _, _⟩) rfl (fun K hK => ?_) ?_
            rotate_left 1
            · exact AllReadyH.nil
            have hsz_ := HB.size
            refine step_insert_map _ rfl _ _ _ _ rfl Tryz.underlying79 bm 2 _ rfl HM (by unfold maxLen; omega) (z : Int) rfl wz 2 rfl (by decide) ?_
            intro v5_9 HM2 hg_
            have n5_ := HM.ne H5
            replace H5 := keptH H5 hg_ n5_
            clear n5_
            replace HB := HB.grown hg_ hsz_ (fun k hk => by injection hk with hk; omega)
            clear HM
            have HM := HM2
            clear HM2 hg_ hsz_
            refine hK.out _ _ (HS.out _ HB) (fun hHeld => ?_)
            clear hK K
            try simp only [Act.put]
            refine wpAnyH_ready (rs := [10]) (by kernel_rfl) (by simp) ?_
            refine AllReadyH.cons (o := ⟨some 27, _, _, _, _, _⟩) rfl (fun K hK => ?_) ?_
            rotate_left 1
            · exact AllReadyH.nil
            go_simp
            refine hK.out _ _ (HS.out _ HB) (fun hHeld => ?_)
            clear hK K
            try simp only [Act.put, List.setIfInBounds_toArray, List.set_cons_zero, List.set_cons_succ]
            skip
            have HC := HM.congr (perm_xyz hxy hyz hzn)
            have nk_ := HM.ne H5
            clear HM
            obtain ⟨_, _⟩ := H5.one
            refine wpAnyH_ready (rs := [12]) (by kernel_rfl) (by simp) ?_
            refine AllReadyH.cons (o := ⟨none, _, _, _, _, _⟩) rfl (fun K hK => ?_) ?_
            rotate_left 1
            · exact AllReadyH.nil
            have H6 : Holds (v5_9.setCell ⟨k5, 0, none⟩ (.map (some bm))) k5 #[.map (some bm)] 79 := Blk.set_own H5 0 (.map (some bm))
            have hg_ := grown_set v5_9 k5 0 (.map (some bm))
            have HC2 := HC.kept hg_ (by intro e; injection e with e; exact nk_ e.symm)
            have hsz_ := HB.size
            replace HB := HB.grown hg_ hsz_ (fun k hk => by injection hk with hk; omega)
            go_simp
            refine hK.out _ _ (HS.out _ HB) (fun hHeld => ?_)
            clear hK K
            try simp only [Act.put]
            refine wpAnyH_done (by kernel_rfl) ?_ _
            exact ⟨bm, k5, rfl, rfl, HC2, H6, nk_, by rw [← hdz_.out]; exact hbmB, by rw [← hdz_.out]; exact hk5B, hd_.trans (by rw [← hdz_.out]; exact HB)⟩
          refine AllReadyH.cons (o := ⟨none, _, _, _, _, _⟩) rfl (fun K hK => ?_) ?_
          · skip
            have hsz_ := HB.size
            refine step_insert_map _ rfl _ _ _ _ rfl Tryz.underlying79 bm 1 _ rfl HM (by unfold maxLen; omega) (z : Int) rfl wz 2 rfl (by decide) ?_
            intro v4_9 HM2 hg_
            have n5_ := HM.ne H5
            replace H5 := keptH H5 hg_ n5_
            clear n5_
            replace HB := HB.grown hg_ hsz_ (fun k hk => by injection hk with hk; omega)
            clear HM
            have HM := HM2
            clear HM2 hg_ hsz_
            refine hK.out _ _ (HS.out _ HB) (fun hHeld => ?_)
            clear hK K
            try simp only [Act.put]
            refine wpAnyH_ready (rs := [6]) (by kernel_rfl) (by simp) ?_
            refine AllReadyH.cons (o := ⟨none, _, _, _, _, _⟩) rfl (fun K hK => ?_) ?_
            rotate_left 1
            · exact AllReadyH.nil
            have hsz_ := HB.size
            refine step_insert_map _ rfl _ _ _ _ rfl Tryz.underlying79 bm 2 _ rfl HM (by unfold maxLen; omega) (y : Int) rfl wy 1 rfl (by decide) ?_
            intro v5_6 HM2 hg_
            have n5_ := HM.ne H5
            replace H5 := keptH H5 hg_ n5_
            clear n5_
            replace HB := HB.grown hg_ hsz_ (fun k hk => by injection hk with hk; omega)
            clear HM
            have HM := HM2
            clear HM2 hg_ hsz_
            refine hK.out _ _ (HS.out _ HB) (fun hHeld => ?_)
            clear hK K
            try simp only [Act.put]
            refine wpAnyH_ready (rs := [10]) (by kernel_rfl) (by simp) ?_
            refine AllReadyH.cons (o := ⟨some 27, _, _, _, _, _⟩) rfl (fun K hK => ?_) ?_
            rotate_left 1
            · exact AllReadyH.nil
            go_simp
            refine hK.out _ _ (HS.out _ HB) (fun hHeld => ?_)
            clear hK K
            try simp only [Act.put, List.setIfInBounds_toArray, List.set_cons_zero, List.set_cons_succ]
            skip
            have HC := HM.congr (perm_xzy hxy hyz hzn)
            have nk_ := HM.ne H5
            clear HM
            obtain ⟨_, _⟩ := H5.one
            refine wpAnyH_ready (rs := [12]) (by kernel_rfl) (by simp) ?_
            refine AllReadyH.cons (o := ⟨none, _, _, _, _, _⟩) rfl (fun K hK => ?_) ?_
            rotate_left 1
            · exact AllReadyH.nil
            have H6 : Holds (v5_6.setCell ⟨k5, 0, none⟩ (.map (some bm))) k5 #[.map (some bm)] 79 := Blk.set_own H5 0 (.map (some bm))
            have hg_ := grown_set v5_6 k5 0 (.map (some bm))
            have HC2 := HC.kept hg_ (by intro e; injection e with e; exact nk_ e.symm)
            have hsz_ := HB.size
            replace HB := HB.grown hg_ hsz_ (fun k hk => by injection hk with hk; omega)
            go_simp
            refine hK.out _ _ (HS.out _ HB) (fun hHeld => ?_)
            clear hK K
            try simp only [Act.put]
            refine wpAnyH_done (by kernel_rfl) ?_ _
            exact ⟨bm, k5, rfl, rfl, HC2, H6, nk_, by rw [← hdz_.out]; exact hbmB, by rw [← hdz_.out]; exact hk5B, hd_.trans (by rw [← hdz_.out]; exact HB)⟩
          exact AllReadyH.nil
        refine AllReadyH.cons (o := ⟨none, _, _, _, _, _⟩) rfl (fun K hK => ?_) ?_
        · skip
          have hsz_ := HB.size
          refine step_insert_map _ rfl _ _ _ _ rfl Tryz.underlying79 bm 0 _ rfl HM (by unfold maxLen; omega) (y : Int) rfl wy 1 rfl (by decide) ?_
          intro v3_6 HM2 hg_
          have n5_ := HM.ne H5
          replace H5 := keptH H5 hg_ n5_
          clear n5_
          replace HB := HB.grown hg_ hsz_ (fun k hk => by injection hk with hk; omega)
          clear HM
          have HM := HM2
          clear HM2 hg_ hsz_
          refine hK.out _ _ (HS.out _ HB) (fun hHeld => ?_)
          clear hK K
          try simp only [Act.put]
          refine wpAnyH_ready (rs := [3, 9]) (by kernel_rfl) (by simp) ?_
          refine AllReadyH.cons (o := ⟨none, _, _, _, _, _⟩) rfl (fun K hK => ?_) ?_
          · skip
            have hsz_ := HB.size
            refine step_insert_map _ rfl _ _ _ _ rfl Tryz.underlying79 bm 1 _ rfl HM (by unfold maxLen; omega) (x : Int) rfl wx 0 rfl (by decide) ?_
            intro v4_3 HM2 hg_
            have n5_ := HM.ne H5
            replace H5 := keptH H5 hg_ n5_
            clear n5_
            replace HB := HB.grown hg_ hsz_ (fun k hk => by injection hk with hk; omega)
            clear HM
            have HM := HM2
            clear HM2 hg_ hsz_
            refine hK.out _ _ (HS.out _ HB) (fun hHeld => ?_)
            clear hK K
            try simp only [Act.put]
            refine wpAnyH_ready (rs := [9]) (by kernel_rfl) (by simp) ?_
            refine AllReadyH.cons (o := ⟨none, _, _, _, _, _⟩) rfl (fun K hK => ?_) ?_
            rotate_left 1
            · exact AllReadyH.nil
            have hsz_ := HB.size
            refine step_insert_map _ rfl _ _ _ _ rfl Tryz.underlying79 bm 2 _ rfl HM (by unfold maxLen; omega) (z : Int) rfl wz 2 rfl (by decide) ?_
            intro v5_9 HM2 hg_
            have n5_ := HM.ne H5
            replace H5 := keptH H5 hg_ n5_
            clear n5_
            replace HB := HB.grown hg_ hsz_ (fun k hk => by injection hk with hk; omega)
            clear HM
            have HM := HM2
            clear HM2 hg_ hsz_
            refine hK.out _ _ (HS.out _ HB) (fun hHeld => ?_)
            clear hK K
            try simp only [Act.put]
            refine wpAnyH_ready (rs := [10]) (by kernel_rfl) (by simp) ?_
            refine AllReadyH.cons (o := ⟨some 27, _, _, _, _, _⟩) rfl (fun K hK => ?_) ?_
            rotate_left 1
            · exact AllReadyH.nil
            go_simp
            refine hK.out _ _ (HS.out _ HB) (fun hHeld => ?_)
            clear hK K
            try simp only [Act.put, List.setIfInBounds_toArray, List.set_cons_zero, List.set_cons_succ]
            skip
            have HC := HM.congr (perm_yxz hxy hyz hzn)
            have nk_ := HM.ne H5
            clear HM
            obtain ⟨_, _⟩ := H5.one
            refine wpAnyH_ready (rs := [12]) (by kernel_rfl) (by simp) ?_
            refine AllReadyH.cons (o := ⟨none, _, _, _, _, _⟩) rfl (fun K hK => ?_) ?_
            rotate_left 1
            · exact AllReadyH.nil
            have H6 : Holds (v5_9.setCell ⟨k5, 0, none⟩ (.map (some bm))) k5 #[.map (some bm)] 79 := Blk.set_own H5 0 (.map (some bm))
            have hg_ := grown_set v5_9 k5 0 (.map (some bm))
            have HC2 := HC.kept hg_ (by intro e; injection e with e; exact nk_ e.symm)
            have hsz_ := HB.size
            replace HB := HB.grown hg_ hsz_ (fun k hk => by injection hk with hk; omega)
            go_simp
            refine hK.out _ _ (HS.out _ HB) (fun hHeld => ?_)
            clear hK K
            try simp only [Act.put]
            refine wpAnyH_done (by kernel_rfl) ?_ _
            exact ⟨bm, k5, rfl, rfl, HC2, H6, nk_, by rw [← hdz_.out]; exact hbmB, by rw [← hdz_.out]; exact hk5B, hd_.trans (by rw [← hdz_.out]; exact HB)⟩
          refine AllReadyH.cons (o := ⟨none, _, _, _, _, _⟩) rfl (fun K hK => ?_) ?_
          · skip
            have hsz_ := HB.size
            refine step_insert_map _ rfl _ _ _ _ rfl Tryz.underlying79 bm 1 _ rfl HM (by unfold maxLen; omega) (z : Int) rfl wz 2 rfl (by decide) ?_
            intro v4_9 HM2 hg_
            have n5_ := HM.ne H5
            replace H5 := keptH H5 hg_ n5_
            clear n5_
            replace HB := HB.grown hg_ hsz_ (fun k hk => by injection hk with hk; omega)
            clear HM
            have HM := HM2
            clear HM2 hg_ hsz_
            refine hK.out _ _ (HS.out _ HB) (fun hHeld => ?_)
            clear hK K
            try simp only [Act.put]
            refine wpAnyH_ready (rs := [3]) (by kernel_rfl) (by simp) ?_
            refine AllReadyH.cons (o := ⟨none, _, _, _, _, _⟩) rfl (fun K hK => ?_) ?_
            rotate_left 1
            · exact AllReadyH.nil
            have hsz_ := HB.size
            refine step_insert_map _ rfl _ _ _ _ rfl Tryz.underlying79 bm 2 _ rfl HM (by unfold maxLen; omega) (x : Int) rfl wx 0 rfl (by decide) ?_
            intro v5_3 HM2 hg_
            have n5_ := HM.ne H5
            replace H5 := keptH H5 hg_ n5_
            clear n5_
            replace HB := HB.grown hg_ hsz_ (fun k hk => by injection hk with hk; omega)
            clear HM
            have HM := HM2
            clear HM2 hg_ hsz_
            refine hK.out _ _ (HS.out _ HB) (fun hHeld => ?_)
            clear hK K
            try simp only [Act.put]
            refine wpAnyH_ready (rs := [10]) (by kernel_rfl) (by simp) ?_
            refine AllReadyH.cons (o := ⟨some 27, _, _, _, _, _⟩) rfl (fun K hK => ?_) ?_
            rotate_left 1
            · exact AllReadyH.nil
            go_simp
            refine hK.out _ _ (HS.out _ HB) (fun hHeld => ?_)
            clear hK K
            try simp only [Act.put, List.setIfInBounds_toArray, List.set_cons_zero, List.set_cons_succ]
            skip
            have HC := HM.congr (perm_yzx hxy hyz hzn)
            have nk_ := HM.ne H5
            clear HM
            obtain ⟨_, _⟩ := H5.one
            refine wpAnyH_ready (rs := [12]) (by kernel_rfl) (by simp) ?_
            refine AllReadyH.cons (o := ⟨none, _, _, _, _, _⟩) rfl (fun K hK => ?_) ?_
            rotate_left 1
            · exact AllReadyH.nil
            have H6 : Holds (v5_3.setCell ⟨k5, 0, none⟩ (.map (some bm))) k5 #[.map (some bm)] 79 := Blk.set_own H5 0 (.map (some bm))
            have hg_ := grown_set v5_3 k5 0 (.map (some bm))
            have HC2 := HC.kept hg_ (by intro e; injection e with e; exact nk_ e.symm)
            have hsz_ := HB.size
            replace HB := HB.grown hg_ hsz_ (fun k hk => by injection hk with hk; omega)
            go_simp
            refine hK.out _ _ (HS.out _ HB) (fun hHeld => ?_)
            clear hK K
            try simp only [Act.put]
            refine wpAnyH_done (by kernel_rfl) ?_ _
            exact ⟨bm, k5, rfl, rfl, HC2, H6, nk_, by rw [← hdz_.out]; exact hbmB, by rw [← hdz_.out]; exact hk5B, hd_.trans (by rw [← hdz_.out]; exact HB)⟩
          exact AllReadyH.nil
        refine AllReadyH.cons (o := ⟨none, _, _, _, _, _⟩) rfl (fun K hK => ?_) ?_
        · skip
          have hsz_ := HB.size
          refine step_insert_map _ rfl _ _ _ _ rfl Tryz.underlying79 bm 0 _ rfl HM (by unfold maxLen; omega) (z : Int) rfl wz 2 rfl (by decide) ?_
          intro v3_9 HM2 hg_
          have n5_ := HM.ne H5
          replace H5 := keptH H5 hg_ n5_
          clear n5_
          replace HB := HB.grown hg_ hsz_ (fun k hk => by injection hk with hk; omega)
          clear HM
          have HM := HM2
          clear HM2 hg_ hsz_
          refine hK.out _ _ (HS.out _ HB) (fun hHeld => ?_)
          clear hK K
          try simp only [Act.put]
          refine wpAnyH_ready (rs := [3, 6]) (by kernel_rfl) (by simp) ?_
          refine AllReadyH.cons (o := ⟨none, _, _, _, _, _⟩) rfl (fun K hK => ?_) ?_
          · skip
            have hsz_ := HB.size
            refine step_insert_map _ rfl _ _ _ _ rfl Tryz.underlying79 bm 1 _ rfl HM (by unfold maxLen; omega) (x : Int) rfl wx 0 rfl (by decide) ?_
            intro v4_3 HM2 hg_
            have n5_ := HM.ne H5
            replace H5 := keptH H5 hg_ n5_
            clear n5_
            replace HB := HB.grown hg_ hsz_ (fun k hk => by injection hk with hk; omega)
            clear HM
            have HM := HM2
            clear HM2 hg_ hsz_
            refine hK.out _ _ (HS.out _ HB) (fun hHeld => ?_)
            clear hK K
            try simp only [Act.put]
            refine wpAnyH_ready (rs := [6]) (by kernel_rfl) (by simp) ?_
            refine AllReadyH.cons (o := ⟨none, _, _, _, _, _⟩) rfl (fun K hK => ?_) ?_
            rotate_left 1
            · exact AllReadyH.nil
            have hsz_ := HB.size
            refine step_insert_map _ rfl _ _ _ _ rfl Tryz.underlying79 bm 2 _ rfl HM (by unfold maxLen; omega) (y : Int) rfl wy 1 rfl (by decide) ?_
            intro v5_6 HM2 hg_
            have n5_ := HM.ne H5
            replace H5 := keptH H5 hg_ n5_
            clear n5_
            replace HB := HB.grown hg_ hsz_ (fun k hk => by injection hk with hk; omega)
            clear HM
            have HM := HM2
            clear HM2 hg_ hsz_
            refine hK.out _ _ (HS.out _ HB) (fun hHeld => ?_)
            clear hK K
            try simp only [Act.put]
            refine wpAnyH_ready (rs := [10]) (by kernel_rfl) (by simp) ?_
            refine AllReadyH.cons (o := ⟨some 27, _, _, _, _, _⟩) rfl (fun K hK => ?_) ?_
            rotate_left 1
            · exact AllReadyH.nil
            go_simp
            refine hK.out _ _ (HS.out _ HB) (fun hHeld => ?_)
            clear hK K
            try simp only [Act.put, List.setIfInBounds_toArray, List.set_cons_zero, List.set_cons_succ]
            skip
            have HC := HM.congr (perm_zxy hxy hyz hzn)
            have nk_ := HM.ne H5
            clear HM
            obtain ⟨_, _⟩ := H5.one
            refine wpAnyH_ready (rs := [12]) (by kernel_rfl) (by simp) ?_
            refine AllReadyH.cons (o := ⟨none, _, _, _, _, _⟩) rfl (fun K hK => ?_) ?_
            rotate_left 1
            · exact AllReadyH.nil
            have H6 : Holds (v5_6.setCell ⟨k5, 0, none⟩ (.map (some bm))) k5 #[.map (some bm)] 79 := Blk.set_own H5 0 (.map (some bm))
            have hg_ := grown_set v5_6 k5 0 (.map (some bm))
            have HC2 := HC.kept hg_ (by intro e; injection e with e; exact nk_ e.symm)
            have hsz_ := HB.size
            replace HB := HB.grown hg_ hsz_ (fun k hk => by injection hk with hk; omega)
            go_simp
            refine hK.out _ _ (HS.out _ HB) (fun hHeld => ?_)
            clear hK K
            try simp only [Act.put]
            refine wpAnyH_done (by kernel_rfl) ?_ _
            exact ⟨bm, k5, rfl, rfl, HC2, H6, nk_, by rw [← hdz_.out]; exact hbmB, by rw [← hdz_.out]; exact hk5B, hd_.trans (by rw [← hdz_.out]; exact HB)⟩
          refine AllReadyH.cons (o := ⟨none, _, _, _, _, _⟩) rfl (fun K hK => ?_) ?_
          · skip
            have hsz_ := HB.size
            refine step_insert_map _ rfl _ _ _ _ rfl Tryz.underlying79 bm 1 _ rfl HM (by unfold maxLen; omega) (y : Int) rfl wy 1 rfl (by decide) ?_
            intro v4_6 HM2 hg_
            have n5_ := HM.ne H5
            replace H5 := keptH H5 hg_ n5_
            clear n5_
            replace HB := HB.grown hg_ hsz_ (fun k hk => by injection hk with hk; omega)
            clear HM
            have HM := HM2
            clear HM2 hg_ hsz_
            refine hK.out _ _ (HS.out _ HB) (fun hHeld => ?_)
            clear hK K
            try simp only [Act.put]
            refine wpAnyH_ready (rs := [3]) (by kernel_rfl) (by simp) ?_
            refine AllReadyH.cons (o := ⟨none, _, _, _, _, _⟩) rfl (fun K hK => ?_) ?_
            rotate_left 1
            · exact AllReadyH.nil
            have hsz_ := HB.size
            refine step_insert_map _ rfl _ _ _ _ rfl Tryz.underlying79 bm 2 _ rfl HM (by unfold maxLen; omega) (x : Int) rfl wx 0 rfl (by decide) ?_
            intro v5_3 HM2 hg_
            have n5_ := HM.ne H5
            replace H5 := keptH H5 hg_ n5_
            clear n5_
            replace HB := HB.grown hg_ hsz_ (fun k hk => by injection hk with hk; omega)
            clear HM
            have HM := HM2
            clear HM2 hg_ hsz_
            refine hK.out _ _ (HS.out _ HB) (fun hHeld => ?_)
            clear hK K
            try simp only [Act.put]
            refine wpAnyH_ready (rs := [10]) (by kernel_rfl) (by simp) ?_
            refine AllReadyH.cons (o := ⟨some 27, _, _, _, _, _⟩) rfl (fun K hK => ?_) ?_
            rotate_left 1
            · exact AllReadyH.nil
            go_simp
            refine hK.out _ _ (HS.out _ HB) (fun hHeld => ?_)
            clear hK K
            try simp only [Act.put, List.setIfInBounds_toArray, List.set_cons_zero, List.set_cons_succ]
            skip
            have HC := HM.congr (perm_zyx hxy hyz hzn)
            have nk_ := HM.ne H5
            clear HM
            obtain ⟨_, _⟩ := H5.one
            refine wpAnyH_ready (rs := [12]) (by kernel_rfl) (by simp) ?_
            refine AllReadyH.cons (o := ⟨none, _, _, _, _, _⟩) rfl (fun K hK => ?_) ?_
            rotate_left 1
            · exact AllReadyH.nil
            have H6 : Holds (v5_3.setCell ⟨k5, 0, none⟩ (.map (some bm))) k5 #[.map (some bm)] 79 := Blk.set_own H5 0 (.map (some bm))
            have hg_ := grown_set v5_3 k5 0 (.map (some bm))
            have HC2 := HC.kept hg_ (by intro e; injection e with e; exact nk_ e.symm)
            have hsz_ := HB.size
            replace HB := HB.grown hg_ hsz_ (fun k hk => by injection hk with hk; omega)
            go_simp
            refine hK.out _ _ (HS.out _ HB) (fun hHeld => ?_)
            clear hK K
            try simp only [Act.put]
            refine wpAnyH_done (by kernel_rfl) ?_ _
            exact ⟨bm, k5, rfl, rfl, HC2, H6, nk_, by rw [← hdz_.out]; exact hbmB, by rw [← hdz_.out]; exact hk5B, hd_.trans (by rw [← hdz_.out]; exact HB)⟩
          exact AllReadyH.nil
        exact AllReadyH.nil
      exact AllReadyH.nil
    refine AllReadyH.cons (o := ⟨some 5, _, _, _, _, _⟩) rfl (fun K hK => ?_) ?_
    · skip
      have hsz_ := HB.size
      obtain ⟨k5, hk5⟩ : ∃ b, b = v0.heap.size := ⟨_, rfl⟩
      have hk5B : v0.heap.size ≤ k5 := by omega
      have H5 := Blk.Holds.box v0 #[.map none] 79 hk5
      have hb_ := below1 v0 (Obj.cells #[.map none] 79)
      replace HB := HB.trans (hb_.mono hsz_)
      go_simp
      try rw [← hk5]
      generalize v0.alloc (Obj.cells #[.map none] 79) = v1_11 at *
      clear hb_ hk5 hsz_
      refine hK.out _ _ (HS.out _ HB) (fun hHeld => ?_)
      clear hK K
      try simp only [Act.put, List.setIfInBounds_toArray, List.set_cons_zero, List.set_cons_succ]
      refine wpAnyH_ready (rs := [0]) (by kernel_rfl) (by simp) ?_
      refine AllReadyH.cons (o := ⟨some 20, _, _, _, _, _⟩) rfl (fun K hK => ?_) ?_
      rotate_left 1
      · exact AllReadyH.nil
      have hsz_ := HB.size
      refine step_make_map _ rfl _ rfl ?_
      intro HM
      obtain ⟨bm, hbm⟩ : ∃ b, b = v1_11.heap.size := ⟨_, rfl⟩
      have hbmB : v0.heap.size ≤ bm := by omega
      have hb_ := below1 v1_11 (Obj.map #[] 0)
      replace HB := HB.trans (hb_.mono hsz_)
      replace H5 := H5.later hb_
      try rw [← hbm]
      rw [← hbm] at HM
      generalize v1_11.alloc (Obj.map #[] 0) = v2_0 at *
      clear hb_ hbm hsz_
      refine hK.out _ _ (HS.out _ HB) (fun hHeld => ?_)
      clear hK K
      try simp only [Act.put, List.setIfInBounds_toArray, List.set_cons_zero, List.set_cons_succ]
      refine wpAnyH_ready (rs := [3, 6, 9]) (by kernel_rfl) (by simp) ?_
      refine AllReadyH.cons (o := ⟨none, _, _, _, _, _⟩) rfl (fun K hK => ?_) ?_
      · skip
        have hsz_ := HB.size
        refine step_insert_map _ rfl _ _ _ _ rfl Tryz.underlying79 bm 0 _ rfl HM (by unfold maxLen; omega) (x : Int) rfl wx 0 rfl (by decide) ?_
        intro v3_3 HM2 hg_
        have n5_ := HM.ne H5
        replace H5 := keptH H5 hg_ n5_
        clear n5_
        replace HB := HB.grown hg_ hsz_ (fun k hk => by injection hk with hk; omega)
        clear HM
        have HM := HM2
        clear HM2 hg_ hsz_
        refine hK.out _ _ (HS.out _ HB) (fun hHeld => ?_)
        clear hK K
        try simp only [Act.put]
        refine wpAnyH_ready (rs := [6, 9]) (by kernel_rfl) (by simp) ?_
        refine AllReadyH.cons (o := ⟨none, _, _, _, _, _⟩) rfl (fun K hK => ?_) ?_
        · skip
          have hsz_ := HB.size
          refine step_insert_map _ rfl _ _ _ _ rfl Tryz.underlying79 bm 1 _ rfl HM (by unfold maxLen; omega) (y : Int) rfl wy 1 rfl (by decide) ?_
          intro v4_6 HM2 hg_
          have n5_ := HM.ne H5
          replace H5 := keptH H5 hg_ n5_
          clear n5_
          replace HB := HB.grown hg_ hsz_ (fun k hk => by injection hk with hk; omega)
          clear HM
          have HM := HM2
          clear HM2 hg_ hsz_
          refine hK.out _ _ (HS.out _ HB) (fun hHeld => ?_)
          clear hK K
          try simp only [Act.put]
          refine wpAnyH_ready (rs := [9]) (by kernel_rfl) (by simp) ?_
          refine AllReadyH.cons (o := ⟨none, _, _, _, _, _⟩) rfl (fun K hK => ?_) ?_
          rotate_left 1
          · exact AllReadyH.nil
          have hsz_ := HB.size
          refine step_insert_map _ rfl _ _ _ _ rfl Tryz.underlying79 bm 2 _ rfl HM (by unfold maxLen; omega) (z : Int) rfl wz 2 rfl (by decide) ?_
          intro v5_9 HM2 hg_
          have n5_ := HM.ne H5
          replace H5 := keptH H5 hg_ n5_
          clear n5_
          replace HB := HB.grown hg_ hsz_ (fun k hk => by injection hk with hk; omega)
          clear HM
          have HM := HM2
          clear HM2 hg_ hsz_
          refine hK.out _ _ (HS.out _ HB) (fun hHeld => ?_)
          clear hK K
          try simp only [Act.put]
          refine wpAnyH_ready (rs := [10]) (by kernel_rfl) (by simp) ?_
          refine AllReadyH.cons (o := ⟨some 27, _, _, _, _, _⟩) rfl (fun K hK => ?_) ?_
          rotate_left 1
          · exact AllReadyH.nil
          go_simp
          refine hK.out _ _ (HS.out _ HB) (fun hHeld => ?_)
          clear hK K
          try simp only [Act.put, List.setIfInBounds_toArray, List.set_cons_zero, List.set_cons_succ]
          skip
          have HC := HM.congr (perm_xyz hxy hyz hzn)
          have nk_ := HM.ne H5
          clear HM
          obtain ⟨_, _⟩ := H5.one
          refine wpAnyH_ready (rs := [12]) (by kernel_rfl) (by simp) ?_
          refine AllReadyH.cons (o := ⟨none, _, _, _, _, _⟩) rfl (fun K hK => ?_) ?_
          rotate_left 1
          · exact AllReadyH.nil
          have H6 : Holds (v5_9.setCell ⟨k5, 0, none⟩ (.map (some bm))) k5 #[.map (some bm)] 79 := Blk.set_own H5 0 (.map (some bm))
          have hg_ := grown_set v5_9 k5 0 (.map (some bm))
          have HC2 := HC.kept hg_ (by intro e; injection e with e; exact nk_ e.symm)
          have hsz_ := HB.size
          replace HB := HB.grown hg_ hsz_ (fun k hk => by injection hk with hk; omega)
          go_simp
          refine hK.out _ _ (HS.out _ HB) (fun hHeld => ?_)
          clear hK K
          try simp only [Act.put]
          refine wpAnyH_done (by kernel_rfl) ?_ _
          exact ⟨bm, k5, rfl, rfl, HC2, H6, nk_, by rw [← hdz_.out]; exact hbmB, by rw [← hdz_.out]; exact hk5B, hd_.trans (by rw [← hdz_.out]; exact HB)⟩
        refine AllReadyH.cons (o := ⟨none, _, _, _, _, _⟩) rfl (fun K hK => ?_) ?_
        · skip
          have hsz_ := HB.size
          refine step_insert_map _ rfl _ _ _ _ rfl Tryz.underlying79 bm 1 _ rfl HM (by unfold maxLen; omega) (z : Int) rfl wz 2 rfl (by decide) ?_
          intro v4_9 HM2 hg_
          have n5_ := HM.ne H5
          replace H5 := keptH H5 hg_ n5_
          clear n5_
          replace HB := HB.grown hg_ hsz_ (fun k hk => by injection hk with hk; omega)
          clear HM
          have HM := HM2
          clear HM2 hg_ hsz_
          refine hK.out _ _ (HS.out _ HB) (fun hHeld => ?_)
          clear hK K
          try simp only [Act.put]
          refine wpAnyH_ready (rs := [6]) (by kernel_rfl) (by simp) ?_
          refine AllReadyH.cons (o := ⟨none, _, _, _, _, _⟩) rfl (fun K hK => ?_) ?_
          rotate_left 1
          · exact AllReadyH.nil
          have hsz_ := HB.size
          refine step_insert_map _ rfl _ _ _ _ rfl Tryz.underlying79 bm 2 _ rfl HM (by unfold maxLen; omega) (y : Int) rfl wy 1 rfl (by decide) ?_
          intro v5_6 HM2 hg_
          have n5_ := HM.ne H5
          replace H5 := keptH H5 hg_ n5_
          clear n5_
          replace HB := HB.grown hg_ hsz_ (fun k hk => by injection hk with hk; omega)
          clear HM
          have HM := HM2
          clear HM2 hg_ hsz_
          refine hK.out _ _ (HS.out _ HB) (fun hHeld => ?_)
          clear hK K
          try simp only [Act.put]
          refine wpAnyH_ready (rs := [10]) (by kernel_rfl) (by simp) ?_
          refine AllReadyH.cons (o := ⟨some 27, _, _, _, _, _⟩) rfl (fun K hK => ?_) ?_
          rotate_left 1
          · exact AllReadyH.nil
          go_simp
          refine hK.out _ _ (HS.out _ HB) (fun hHeld => ?_)
          clear hK K
          try simp only [Act.put, List.setIfInBounds_toArray, List.set_cons_zero, List.set_cons_succ]
          skip
          have HC := HM.congr (perm_xzy hxy hyz hzn)
          have nk_ := HM.ne H5
          clear HM
          obtain ⟨_, _⟩ := H5.one
          refine wpAnyH_ready (rs := [12]) (by kernel_rfl) (by simp) ?_
          refine AllReadyH.cons (o := ⟨none, _, _, _, _, _⟩) rfl (fun K hK => ?_) ?_
          rotate_left 1
          · exact AllReadyH.nil
          have H6 : Holds (v5_6.setCell ⟨k5, 0, none⟩ (.map (some bm))) k5 #[.map (some bm)] 79 := Blk.set_own H5 0 (.map (some bm))
          have hg_ := grown_set v5_6 k5 0 (.map (some bm))
          have HC2 := HC.kept hg_ (by intro e; injection e with e; exact nk_ e.symm)
          have hsz_ := HB.size
          replace HB := HB.grown hg_ hsz_ (fun k hk => by injection hk with hk; omega)
          go_simp
          refine hK.out _ _ (HS.out _ HB) (fun hHeld => ?_)
          clear hK K
          try simp only [Act.put]
          refine wpAnyH_done (by kernel_rfl) ?_ _
          exact ⟨bm, k5, rfl, rfl, HC2, H6, nk_, by rw [← hdz_.out]; exact hbmB, by rw [← hdz_.out]; exact hk5B, hd_.trans (by rw [← hdz_.out]; exact HB)⟩
        exact AllReadyH.nil
      refine AllReadyH.cons (o := ⟨none, _, _, _, _, _⟩) rfl (fun K hK => ?_) ?_
      · skip
        have hsz_ := HB.size
        refine step_insert_map _ rfl _ _ _ _ rfl Tryz.underlying79 bm 0 _ rfl HM (by unfold maxLen; omega) (y : Int) rfl wy 1 rfl (by decide) ?_
        intro v3_6 HM2 hg_
        have n5_ := HM.ne H5
        replace H5 := keptH H5 hg_ n5_
        clear n5_
        replace HB := HB.grown hg_ hsz_ (fun k hk => by injection hk with hk; omega)
        clear HM
        have HM := HM2
        clear HM2 hg_ hsz_
        refine hK.out _ _ (HS.out _ HB) (fun hHeld => ?_)
        clear hK K
        try simp only [Act.put]
        refine wpAnyH_ready (rs := [3, 9]) (by kernel_rfl) (by simp) ?_
        refine AllReadyH.cons (o := ⟨none, _, _, _, _, _⟩) rfl (fun K hK => ?_) ?_
        · skip
          have hsz_ := HB.size
          refine step_insert_map _ rfl _ _ _ _ rfl Tryz.underlying79 bm 1 _ rfl HM (by unfold maxLen; omega) (x : Int) rfl wx 0 rfl (by decide) ?_
          intro v4_3 HM2 hg_
          have n5_ := HM.ne H5
          replace H5 := keptH H5 hg_ n5_
          clear n5_
          replace HB := HB.grown hg_ hsz_ (fun k hk => by injection hk with hk; omega)
          clear HM
          have HM := HM2
          clear HM2 hg_ hsz_
          refine hK.out _ _ (HS.out _ HB) (fun hHeld => ?_)
          clear hK K
          try simp only [Act.put]
          refine wpAnyH_ready (rs := [9]) (by kernel_rfl) (by simp) ?_
          refine AllReadyH.cons (o := ⟨none, _, _, _, _, _⟩) rfl (fun K hK => ?_) ?_
          rotate_left 1
          · exact AllReadyH.nil
          have hsz_ := HB.size
          refine step_insert_map _ rfl _ _ _ _ rfl Tryz.underlying79 bm 2 _ rfl HM (by unfold maxLen; omega) (z : Int) rfl wz 2 rfl (by decide) ?_
          intro v5_9 HM2 hg_
          have n5_ := HM.ne H5
          replace H5 := keptH H5 hg_ n5_
          clear n5_
          replace HB := HB.grown hg_ hsz_ (fun k hk => by injection hk with hk; omega)
          clear HM
          have HM := HM2
          clear HM2 hg_ hsz_
          refine hK.out _ _ (HS.out _ HB) (fun hHeld => ?_)
          clear hK K
          try simp only [Act.put]
          refine wpAnyH_ready (rs := [10]) (by kernel_rfl) (by simp) ?_
          refine AllReadyH.cons (o := ⟨some 27, _, _, _, _, _⟩) rfl (fun K hK => ?_) ?_
          rotate_left 1
          · exact AllReadyH.nil
          go_simp
          refine hK.out _ _ (HS.out _ HB) (fun hHeld => ?_)
          clear hK K
          try simp only [Act.put, List.setIfInBounds_toArray, List.set_cons_zero, List.set_cons_succ]
          skip
          have HC := HM.congr (perm_yxz hxy hyz hzn)
          have nk_ := HM.ne H5
          clear HM
          obtain ⟨_, _⟩ := H5.one
          refine wpAnyH_ready (rs := [12]) (by kernel_rfl) (by simp) ?_
          refine AllReadyH.cons (o := ⟨none, _, _, _, _, _⟩) rfl (fun K hK => ?_) ?_
          rotate_left 1
          · exact AllReadyH.nil
          have H6 : Holds (v5_9.setCell ⟨k5, 0, none⟩ (.map (some bm))) k5 #[.map (some bm)] 79 := Blk.set_own H5 0 (.map (some bm))
          have hg_ := grown_set v5_9 k5 0 (.map (some bm))
          have HC2 := HC.kept hg_ (by intro e; injection e with e; exact nk_ e.symm)
          have hsz_ := HB.size
          replace HB := HB.grown hg_ hsz_ (fun k hk => by injection hk with hk; omega)
          go_simp
          refine hK.out _ _ (HS.out _ HB) (fun hHeld => ?_)
          clear hK K
          try simp only [Act.put]
          refine wpAnyH_done (by kernel_rfl) ?_ _
          exact ⟨bm, k5, rfl, rfl, HC2, H6, nk_, by rw [← hdz_.out]; exact hbmB, by rw [← hdz_.out]; exact hk5B, hd_.trans (by rw [← hdz_.out]; exact HB)⟩
        refine AllReadyH.cons (o := ⟨none, _, _, _, _, _⟩) rfl (fun K hK => ?_) ?_
        · skip
          have hsz_ := HB.size
          refine step_insert_map _ rfl _ _ _ _ rfl Tryz.underlying79 bm 1 _ rfl HM (by unfold maxLen; omega) (z : Int) rfl wz 2 rfl (by decide) ?_
          intro v4_9 HM2 hg_
          have n5_ := HM.ne H5
          replace H5 := keptH H5 hg_ n5_
          clear n5_
          replace HB := HB.grown hg_ hsz_ (fun k hk => by injection hk with hk; omega)
          clear HM
          have HM := HM2
          clear HM2 hg_ hsz_
          refine hK.out _ _ (HS.out _ HB) (fun hHeld => ?_)
          clear hK K
          try simp only [Act.put]
          refine wpAnyH_ready (rs := [3]) (by kernel_rfl) (by simp) ?_
          refine AllReadyH.cons (o := ⟨none, _, _, _, _, _⟩) rfl (fun K hK => ?_) ?_
          rotate_left 1
          · exact AllReadyH.nil
          have hsz_ := HB.size
          refine step_insert_map _ rfl _ _ _ _ rfl Tryz.underlying79 bm 2 _ rfl HM (by unfold maxLen; omega) (x : Int) rfl wx 0 rfl (by decide) ?_
          intro v5_3 HM2 hg_
          have n5_ := HM.ne H5
          replace H5 := keptH H5 hg_ n5_
          clear n5_
          replace HB := HB.grown hg_ hsz_ (fun k hk => by injection hk with hk; omega)
          clear HM
          have HM := HM2
          clear HM2 hg_ hsz_
          refine hK.out _ _ (HS.out _ HB) (fun hHeld => ?_)
          clear hK K
          try simp only [Act.put]
          refine wpAnyH_ready (rs := [10]) (by kernel_rfl) (by simp) ?_
          refine AllReadyH.cons (o := ⟨some 27, _, _, _, _, _⟩) rfl (fun K hK => ?_) ?_
          rotate_left 1
          · exact AllReadyH.nil
          go_simp
          refine hK.out _ _ (HS.out _ HB) (fun hHeld => ?_)
          clear hK K
          try simp only [Act.put, List.setIfInBounds_toArray, List.set_cons_zero, List.set_cons_succ]
          skip
          have HC := HM.congr (perm_yzx hxy hyz hzn)
          have nk_ := HM.ne H5
          clear HM
          obtain ⟨_, _⟩ := H5.one
          refine wpAnyH_ready (rs := [12]) (by kernel_rfl) (by simp) ?_
          refine AllReadyH.cons (o := ⟨none, _, _, _, _, _⟩) rfl (fun K hK => ?_) ?_
          rotate_left 1
          · exact AllReadyH.nil
          have H6 : Holds (v5_3.setCell ⟨k5, 0, none⟩ (.map (some bm))) k5 #[.map (some bm)] 79 := Blk.set_own H5 0 (.map (some bm))
          have hg_ := grown_set v5_3 k5 0 (.map (some bm))
          have HC2 := HC.kept hg_ (by intro e; injection e with e; exact nk_ e.symm)
          have hsz_ := HB.size
          replace HB := HB.grown hg_ hsz_ (fun k hk => by injection hk with hk; omega)
          go_simp
          refine hK.out _ _ (HS.out _ HB) (fun hHeld => ?_)
          clear hK K
          try simp only [Act.put]
          refine wpAnyH_done (by kernel_rfl) ?_ _
          exact ⟨bm, k5, rfl, rfl, HC2, H6, nk_, by rw [← hdz_.out]; exact hbmB, by rw [← hdz_.out]; exact hk5B, hd_.trans (by rw [← hdz_.out]; exact HB)⟩
        exact AllReadyH.nil
      refine AllReadyH.cons (o := ⟨none, _, _, _, _, _⟩) rfl (fun K hK => ?_) ?_
      · skip
        have hsz_ := HB.size
        refine step_insert_map _ rfl _ _ _ _ rfl Tryz.underlying79 bm 0 _ rfl HM (by unfold maxLen; omega) (z : Int) rfl wz 2 rfl (by decide) ?_
        intro v3_9 HM2 hg_
        have n5_ := HM.ne H5
        replace H5 := keptH H5 hg_ n5_
        clear n5_
        replace HB := HB.grown hg_ hsz_ (fun k hk => by injection hk with hk; omega)
        clear HM
        have HM := HM2
        clear HM2 hg_ hsz_
        refine hK.out _ _ (HS.out _ HB) (fun hHeld => ?_)
        clear hK K
        try simp only [Act.put]
        refine wpAnyH_ready (rs := [3, 6]) (by kernel_rfl) (by simp) ?_
        refine AllReadyH.cons (o := ⟨none, _, _, _, _, _⟩) rfl (fun K hK => ?_) ?_
        · skip
          have hsz_ := HB.size
          refine step_insert_map _ rfl _ _ _ _ rfl Tryz.underlying79 bm 1 _ rfl HM (by unfold maxLen; omega) (x : Int) rfl wx 0 rfl (by decide) ?_
          intro v4_3 HM2 hg_
          have n5_ := HM.ne H5
          replace H5 := keptH H5 hg_ n5_
          clear n5_
          replace HB := HB.grown hg_ hsz_ (fun k hk => by injection hk with hk; omega)
          clear HM
          have HM := HM2
          clear HM2 hg_ hsz_
          refine hK.out _ _ (HS.out _ HB) (fun hHeld => ?_)
          clear hK K
          try simp only [Act.put]
          refine wpAnyH_ready (rs := [6]) (by kernel_rfl) (by simp) ?_
          refine AllReadyH.cons (o := ⟨none, _, _, _, _, _⟩) rfl (fun K hK => ?_) ?_
          rotate_left 1
          · exact AllReadyH.nil
          have hsz_ := HB.size
          refine step_insert_map _ rfl _ _ _ _ rfl Tryz.underlying79 bm 2 _ rfl HM (by unfold maxLen; omega) (y : Int) rfl wy 1 rfl (by decide) ?_
          intro v5_6 HM2 hg_
          have n5_ := HM.ne H5
          replace H5 := keptH H5 hg_ n5_
          clear n5_
          replace HB := HB.grown hg_ hsz_ (fun k hk => by injection hk with hk; omega)
          clear HM
          have HM := HM2
          clear HM2 hg_ hsz_
          refine hK.out _ _ (HS.out _ HB) (fun hHeld => ?_)
          clear hK K
          try simp only [Act.put]
          refine wpAnyH_ready (rs := [10]) (by kernel_rfl) (by simp) ?_
          refine AllReadyH.cons (o := ⟨some 27, _, _, _, _, _⟩) rfl (fun K hK => ?_) ?_
          rotate_left 1
          · exact AllReadyH.nil
          go_simp
          refine hK.out _ _ (HS.out _ HB) (fun hHeld => ?_)
          clear hK K
          try simp only [Act.put, List.setIfInBounds_toArray, List.set_cons_zero, List.set_cons_succ]
          skip
          have HC := HM.congr (perm_zxy hxy hyz hzn)
          have nk_ := HM.ne H5
          clear HM
          obtain ⟨_, _⟩ := H5.one
          refine wpAnyH_ready (rs := [12]) (by kernel_rfl) (by simp) ?_
          refine AllReadyH.cons (o := ⟨none, _, _, _, _, _⟩) rfl (fun K hK => ?_) ?_
          rotate_left 1
          · exact AllReadyH.nil
          have H6 : Holds (v5_6.setCell ⟨k5, 0, none⟩ (.map (some bm))) k5 #[.map (some bm)] 79 := Blk.set_own H5 0 (.map (some bm))
          have hg_ := grown_set v5_6 k5 0 (.map (some bm))
          have HC2 := HC.kept hg_ (by intro e; injection e with e; exact nk_ e.symm)
          have hsz_ := HB.size
          replace HB := HB.grown hg_ hsz_ (fun k hk => by injection hk with hk; omega)
          go_simp
          refine hK.out _ _ (HS.out _ HB) (fun hHeld => ?_)
          clear hK K
          try simp only [Act.put]
          refine wpAnyH_done (by kernel_rfl) ?_ _
          exact ⟨bm, k5, rfl, rfl, HC2, H6, nk_, by rw [← hdz_.out]; exact hbmB, by rw [← hdz_.out]; exact hk5B, hd_.trans (by rw [← hdz_.out]; exact HB)⟩
        refine AllReadyH.cons (o := ⟨none, _, _, _, _, _⟩) rfl (fun K hK => ?_) ?_
        · skip
          have hsz_ := HB.size
          refine step_insert_map _ rfl _ _ _ _ rfl Tryz.underlying79 bm 1 _ rfl HM (by unfold maxLen; omega) (y : Int) rfl wy 1 rfl (by decide) ?_
          intro v4_6 HM2 hg_
          have n5_ := HM.ne H5
          replace H5 := keptH H5 hg_ n5_
          clear n5_
          replace HB := HB.grown hg_ hsz_ (fun k hk => by injection hk with hk; omega)
          clear HM
          have HM := HM2
          clear HM2 hg_ hsz_
          refine hK.out _ _ (HS.out _ HB) (fun hHeld => ?_)
          clear hK K
          try simp only [Act.put]
          refine wpAnyH_ready (rs := [3]) (by kernel_rfl) (by simp) ?_
          refine AllReadyH.cons (o := ⟨none, _, _, _, _, _⟩) rfl (fun K hK => ?_) ?_
          rotate_left 1
          · exact AllReadyH.nil
          have hsz_ := HB.size
          refine step_insert_map _ rfl _ _ _ _ rfl Tryz.underlying79 bm 2 _ rfl HM (by unfold maxLen; omega) (x : Int) rfl wx 0 rfl (by decide) ?_
          intro v5_3 HM2 hg_
          have n5_ := HM.ne H5
          replace H5 := keptH H5 hg_ n5_
          clear n5_
          replace HB := HB.grown hg_ hsz_ (fun k hk => by injection hk with hk; omega)
          clear HM
          have HM := HM2
          clear HM2 hg_ hsz_
          refine hK.out _ _ (HS.out _ HB) (fun hHeld => ?_)
          clear hK K
          try simp only [Act.put]
          refine wpAnyH_ready (rs := [10]) (by kernel_rfl) (by simp) ?_
          refine AllReadyH.cons (o := ⟨some 27, _, _, _, _, _⟩) rfl (fun K hK => ?_) ?_
          rotate_left 1
          · exact AllReadyH.nil
          go_simp
          refine hK.out _ _ (HS.out _ HB) (fun hHeld => ?_)
          clear hK K
          try simp only [Act.put, List.setIfInBounds_toArray, List.set_cons_zero, List.set_cons_succ]
          skip
          have HC := HM.congr (perm_zyx hxy hyz hzn)
          have nk_ := HM.ne H5
          clear HM
          obtain ⟨_, _⟩ := H5.one
          refine wpAnyH_ready (rs := [12]) (by kernel_rfl) (by simp) ?_
          refine AllReadyH.cons (o := ⟨none, _, _, _, _, _⟩) rfl (fun K hK => ?_) ?_
          rotate_left 1
          · exact AllReadyH.nil
          have H6 : Holds (v5_3.setCell ⟨k5, 0, none⟩ (.map (some bm))) k5 #[.map (some bm)] 79 := Blk.set_own H5 0 (.map (some bm))
          have hg_ := grown_set v5_3 k5 0 (.map (some bm))
          have HC2 := HC.kept hg_ (by intro e; injection e with e; exact nk_ e.symm)
          have hsz_ := HB.size
          replace HB := HB.grown hg_ hsz_ (fun k hk => by injection hk with hk; omega)
          go_simp
          refine hK.out _ _ (HS.out _ HB) (fun hHeld => ?_)
          clear hK K
          try simp only [Act.put]
          refine wpAnyH_done (by kernel_rfl) ?_ _
          exact ⟨bm, k5, rfl, rfl, HC2, H6, nk_, by rw [← hdz_.out]; exact hbmB, by rw [← hdz_.out]; exact hk5B, hd_.trans (by rw [← hdz_.out]; exact HB)⟩
        exact AllReadyH.nil
      exact AllReadyH.nil
    exact AllReadyH.nil
  rintro _ _ w5 ⟨bm, k5, rfl, rfl, HM, H5, hne5, hbm, hk5, hb5⟩
  have hb2 : Below w2.heap.size w2 w5 := hb3.trans (hb5.mono (by omega))
  obtain ⟨⟨hbx, _⟩, T5, hB5⟩ := hF.out _ hb2
  obtain ⟨c5, _⟩ := H5.one
  have hsz5 := hb5.size
  clear X4 hb3 hb5 wx wy wz
  go_wp2_with fail
  refine ((callsIn_wide (n := 9)).1 (ColBack.backward 9 m1 c2 (some ad) w5)).mono ?_
  rintro e w' ⟨rfl, rfl⟩
  have hb6 := below1 w5 (Obj.cells #[.slice (some ad) m1 c2] 26)
  have hbmlt := HM.lt
  have hk5lt := H5.lt
  replace HM := HM.later hb6
  replace H5 := H5.later hb6
  have BB := Holds.new w5 #[.slice (some ad) m1 c2] 26
  have hb26 := hb2.trans (hb6.mono hb2.size)
  replace T5 := (T5.later (hb6.mono hb2.size))
  have hsz6 : w5.heap.size + 1 = (w5.alloc (Obj.cells #[.slice (some ad) m1 c2] 26)).heap.size := by simp
  clear hbx c5 hb6 hb2 hB5
  generalize hw6 : w5.alloc (Obj.cells #[.slice (some ad) m1 c2] 26) = w6 at *
  have T6 : TsAt w6 w6.heap.size (some ad) L := T5.wide (by omega)
  replace HM := Lib.hid HM
  replace H5 := Lib.hid H5
  have hadn : ∀ ad', some ad = some ad' → ad'.block ≠ bm := fun ad' e => by injection e with e; subst e; omega
  go_wp2_with fail
  rename_i K_ hK_
  have HKK := Lib.hid hK_
  clear hK_
  refine (wpIn_wide (n := 9)).1 ?_
  refine wpIn_rangeFunc_ownH rfl (by omega) (gf := 106) (lb := #[.pointer (some ⟨w5.heap.size, 0, none⟩)]) rfl trivial (enters_of Tryz.func106 (by kernel_rfl) rfl)
    (back_stops 8 (by omega) w5.heap.size w6.heap.size bm m1 c2 (some ad) L (by omega) (by omega) w6 (Nat.le_refl _) BB (by omega) (by omega) T6 hadn) (fun h k => Kq.t h k) (Kq.b (Nat.le_refl _)) (Below.refl _ _) (fun _ => rfl)
    (fun pre W => ∃ f, MapAt W bm (3 + pre.length) f ∧ Bd (bK pre.length) f ∧ (nums pre = downs m1 (m1 - pre.length) → ∀ p, f p = fOf (colF n (L.drop (m1 - pre.length))) p) ∧ Kq w6.heap.size bm w6 W ∧ Below w2.heap.size w2 W)
    (fun _ _ _ => False)
    (fun pre X Y row hs hg hr => by
      obtain ⟨f, h1, h2, h3, h4, h5⟩ := hs
      have hz := h4.1
      refine ⟨f, h1.kept hg (fun e => by have := (hr bm e.symm).1; omega), h2, h3, h4.t ⟨hg.size, fun k hk _ => hg.block k (by omega) (fun e => by have := (hr k e.symm).1; omega)⟩, h5.grown hg h5.size (fun r e => by have := (hr r e).1; omega)⟩)
    (fun _ _ _ _ _ hs _ _ => hs)
    ⟨_, HM.out, bd_base hxy hyz hzn, fun _ p => by
      show _ = fOf (colF n (L.drop (m1 - 0))) p
      have := colF_last (n := n) hne
      rw [eL, ht] at this
      rw [Nat.sub_zero, this], Kq.refl _ _ _, hb26⟩
    (fun u a' W => ∃ k7, a' = ⟨#[.agg #[.slice A n cap], .pointer (some ⟨w.heap.size, 0, none⟩), .slice none 0 0, .slice (some ad) m c2, .pointer (some ⟨k4, 0, none⟩), .pointer (some ⟨k5, 0, none⟩), undef, .pointer (some ⟨k7, 0, none⟩), undef, undef, .agg #[.slice A n cap], .slice (some ad) m c2, .slice (some ad) m c2, .bool false, .slice (some ad) m c2, .slice (some ad) m c2, .int .i64 (m : Int), .int .i64 (m1 : Int), .pointer (some (ad.add (m1 * 3))), .agg #[.int .i64 (x : Int), .int .i64 (y : Int), .int .i64 (z : Int)], .map (some bm), .pointer (some ⟨k4, 0, none⟩), .int .i64 (x : Int), .pointer (some ⟨k4, 1, none⟩), .int .i64 (y : Int), .pointer (some ⟨k4, 2, none⟩), .int .i64 (z : Int), .map (some bm), .slice (some ad) m c2, .slice (some ad) m c2, .int .i64 (m : Int), .int .i64 (m1 : Int), .slice (some ad) m1 c2, .func (.func 106) #[] #[.pointer (some ⟨w5.heap.size, 0, none⟩)], .int .i64 (u.val : Int), .agg #[.int .i64 (tt L u.val).1, .int .i64 (tt L u.val).2.1, .int .i64 (tt L u.val).2.2], undef, undef, undef, undef, undef, undef, undef, undef, undef, undef, undef, undef, undef, undef, undef, undef, undef], []⟩ ∧ Holds W k7 #[.int .i64 (tt L u.val).1, .int .i64 (tt L u.val).2.1, .int .i64 (tt L u.val).2.2] 65)
    (fun u a' _ X Y row hs hg hr => by
      obtain ⟨k7, e, h⟩ := hs
      refine ⟨k7, e, (hg.block k7 h.lt (fun e => ?_)).trans h⟩
      obtain ⟨o, ho, hc⟩ := (hr k7 e.symm).2
      rw [show X.heap[k7]? = _ from h] at ho
      cases ho
      cases hc)
    ?assign ?body ?done ?stop
  case assign =>
    rintro l pre u W K ⟨f, h1, h2, h3, h4, h5⟩ hK
    have HK := Lib.hid hK
    clear hK
    have hH7 : ∀ k7, k7 = W.heap.size → Holds (W.alloc (Obj.cells #[.int .i64 (tt L u.val).1, .int .i64 (tt L u.val).2.1, .int .i64 (tt L u.val).2.2] 65)) k7 #[.int .i64 (tt L u.val).1, .int .i64 (tt L u.val).2.1, .int .i64 (tt L u.val).2.2] 65 := fun k7 e => by subst e; exact Holds.new W _ _
    unfold enc
    generalize tt L u.val = t at *
    obtain ⟨a, b, c⟩ := t
    dsimp only at hH7 ⊢
    gi_wp2
    refine HK.out _ _ ((KeepsOthers.alloc W _).from _) (Kq.grown (World.grownBy_alloc W _ _) h4.1) ⟨f, h1.later (below1 _ _), h2, h3, h4.t (Kq.grown (World.grownBy_alloc W _ _) h4.1), h5.trans ((below1 W _).mono h5.size)⟩ ⟨W.heap.size, rfl, hH7 _ rfl⟩
  case stop =>
    rintro D c pre W' _ _ h _
    exact h.elim
  case body =>
    rintro l pre u a' W _ _ ⟨f, h1, h2, h3, h4, h5⟩ ⟨k7, rfl, H7⟩ hlen
    obtain ⟨a, b, c, htu, hab, hbc, hcn⟩ := hI.out u.val (by have := u.isLt; omega)
    have K5 : Holds W k5 #[.map (some bm)] 79 := (h4.2 k5 (by omega) hne5).trans H5.out
    obtain ⟨_, _⟩ := K5.one
    have hun : u.val < m1 := u.isLt
    have hKhi := bK_hi pre.length (by omega)
    have hKlo := bK_lo pre.length
    have Q3 := Lib.hid ((callsIn_wide (n := 6)).2 (ColThird.colorThird (bK pre.length) ⟨hKlo, hKhi⟩ bm (3 + pre.length) f a b c W (by omega) (by omega) (by omega) (by omega) (fun k _ => h2 k) h1))
    have hNext : Hid (∀ W', W.grownBy W' (some bm) → MapAt W' bm (3 + pre.length + 1) (upd f (thirdL (f (a : Int)).isSome (f (b : Int)).isSome (f (c : Int)).isSome a b c 3) (restL ((f (a : Int)).getD 0) ((f (b : Int)).getD 0) ((f (c : Int)).getD 0) 3)) →
        ∃ f, MapAt W' bm (3 + (pre ++ [u]).length) f ∧ Bd (bK (pre ++ [u]).length) f ∧ (nums (pre ++ [u]) = downs m1 (m1 - (pre ++ [u]).length) → ∀ p, f p = fOf (colF n (L.drop (m1 - (pre ++ [u]).length))) p) ∧ Kq w6.heap.size bm w6 W' ∧ Below w2.heap.size w2 W') := Lib.hid (fun W' hg hM => by
      have e1 : (pre ++ [u]).length = pre.length + 1 := by simp
      rw [e1]
      refine ⟨_, hM, bd_upd hKlo h2 _ _ (ColThird.rest_in hKlo (h2 _) (h2 _) (h2 _) 3), fun hgood p => ?_, h4.t (Kq.grown hg h4.1), h5.grown hg h5.size (fun k hk => by injection hk with hk; omega)⟩
      have hj : pre.length < m1 := by
        have := congrArg List.length hgood
        rw [nums_len, e1, downs_len] at this
        omega
      obtain ⟨k, hk⟩ : ∃ k, m1 - (pre.length + 1) = k := ⟨_, rfl⟩
      have hk1 : m1 - pre.length = k + 1 := by omega
      rw [hk, nums_snoc, downs_step (show k < m1 by omega)] at hgood
      obtain ⟨g1, g2⟩ := List.append_inj' hgood rfl
      injection g2 with g2
      have hf : f = fOf (colF n (L.drop (k + 1))) := funext fun q => by
        have := h3 (by rw [hk1]; exact g1) q
        rw [hk1] at this
        exact this
      rw [hk]
      rw [g2] at htu
      have hms := steps_drop HS0.out (show k + 1 < L.length by omega)
      rw [htu] at hms
      rw [hf, fOf_step hms (colF_dlen (by omega)) p, colF_drop (show k + 1 < L.length by omega), htu])
    rw [htu] at H7
    dsimp only at H7
    obtain ⟨⟨_, _, _⟩, _, _, _⟩ := TrisImpl.facts3 H7
    have hkf : ∀ W', W.grownBy W' (some bm) → KeepsFrom w6.heap.size W W' := fun W' hg => KeepsFrom.of_grownBy hg (fun j hj => by injection hj with hj; omega)
    have hkq : ∀ W', W.grownBy W' (some bm) → Kq w6.heap.size bm W W' := fun W' hg => Kq.grown hg h4.1
    have hkf := Lib.hid hkf
    have hkq := Lib.hid hkq
    clear h1 h2 h3 h4 h5 HE HP hI htu hKhi hKlo K5
    gi_wp2_with (refine ⟨trivial, ?_⟩; gi_at_call 73; refine (CallsIn.inRound l Q3.out).mono ?_; rintro e w' ⟨⟨v, rfl⟩, hM, hg⟩)
    exact ⟨hkf.out _ hg, hkq.out _ hg, hNext.out _ hg hM⟩
  case done =>
    rintro D xs W hD hS ⟨f, h1, h2, h3, h4, h5⟩ hKD
    have hxl : xs.length = m1 := by rw [← nums_len, hS, downs_len]; omega
    have e0 : m1 - xs.length = 0 := by omega
    rw [e0] at h3
    rw [hxl] at h1
    replace h1 := h1.congr (h3 hS)
    rw [List.drop_zero, HE.out] at h1
    have K5 : Holds W k5 #[.map (some bm)] 79 := (h4.2 k5 (by omega) hne5).trans H5.out
    obtain ⟨⟨hbx, _⟩, _, hBW⟩ := hF.out _ h5
    have hzW : w.heap.size ≤ W.heap.size := hBW.size
    have h2W : w2.heap.size ≤ W.heap.size := h5.size
    have hrl : r.length = n := by rw [← HE.out]; exact colF_len _ _ hne
    have hrl := Lib.hid hrl
    have hmk : Marked [D] w.heap.size W := ⟨by simp, fun E hE => by simp at hE; subst hE; exact ⟨by omega, hKD⟩⟩
    have h1 := Lib.hid h1
    have K5 := Lib.hid K5
    have hmk := Lib.hid hmk
    have hbxW : Hid (∀ W', Below W.heap.size W W' → W'.cell? ⟨w.heap.size, 0, none⟩ = some (.slice A n cap)) := Lib.hid (fun W' hb => (hb.cell (p := ⟨w.heap.size, 0, none⟩) (World.block_lt_of_cell? _ _ hbx)).trans hbx)
    clear h2 h3 h4 h5 hS HM H5 BB T5 T6 hb26 hbx HE HS0 hI hF
    refine HKK.out _ _ ?_
    clear HKK
    have hb0c := hbxW.out W (Below.refl _ _)
    go_wp2_with fail
    go_loopw [8, 42] (fun v q wr => ∃ k : Nat, k ≤ n ∧ q = .int .i64 k ∧ wr.ownsRow W.heap.size 3 1 v k (icells (r.take k)) ∧ W.heap.size ≤ wr.heap.size ∧ Below W.heap.size W wr)
      (fun _ q _ => n - (intOf q).toNat)
    case atStart => exact ⟨0, Nat.zero_le _, rfl, World.ownsRow_nil _ _ _ _, Nat.le_refl _, Below.refl _ _⟩
    case round =>
      clear hb0c
      obtain ⟨k, hkn, rfl, hown, hsz, hbw⟩ := hrel
      by_cases hlt : k < n
      · have k0 : (0 : Int) ≤ (k : Int) := by omega
        have k1 : (k : Int) < (n : Int) := by omega
        have hM := Lib.hid (h1.out.later hbw)
        have K5' := K5.out.later hbw
        obtain ⟨_, _⟩ := K5'.one
        have wk : (Lit.int .i64 (k : Int)).wf = true := wf_small (by omega)
        have hval : Hid ((fOf r (k : Int)).getD 0 = cg r k) := Lib.hid (by rw [fOf_get, if_pos (HP.out k hlt)])
        have hsn : Hid (icells (r.take k) ++ [.int .i64 (cg r k)] = icells (r.take (k + 1))) := Lib.hid (by
          rw [← icells_snoc]
          have hk : k < r.length := by rw [hrl.out]; exact hlt
          have e := cg_at hk
          rw [List.getElem?_eq_getElem hk] at e
          rw [← Option.some.inj e, List.take_succ_eq_append_getElem hk])
        generalize cg r k = ck at *
        clear HP hrl h1 hmk hbxW K5 K5'
        go_wp2_with (first | (at_lookup; refine wpList_lookup_map _ rfl _ _ 79 rfl Tryz.underlying79 bm (3 + m1) (fOf r) rfl hM.out k rfl wk ck hval.out ?_) | (at_builtin; refine AppOne.append_one _ (by rfl) _ _ (by rfl) W.heap.size _ k _ (by rfl) hown ck (by rfl) (by omega) hsz ?_))
        intro v5 w7 h5 hb7
        rw [hsn.out] at h5
        have hbw7 := hbw.trans hb7
        have hsz7 := Nat.le_trans hsz hb7.size
        clear hown hb7 hbw hsz hM hval hsn
        go_wp2_with fail
        first
          | exact ⟨⟨k + 1, by omega, by go_num, h5, hsz7, hbw7⟩, by simp [intOf]; omega⟩
          | (go_roundw <;> first | exact ⟨k + 1, by omega, by go_num, h5, hsz7, hbw7⟩ | (simp [intOf]; omega))
      obtain rfl : n = k := by omega
      obtain ⟨A1, c1, rfl⟩ := own_shape hown
      have hrt : r.take n = r := List.take_of_length_le (by rw [hrl.out]; omega)
      rw [hrt] at hown
      have hfin := Lib.hid (And.intro (own_base hown hzW) (hBW.trans (hbw.mono hzW)))
      have hm2 : Hid (Marked [D] w.heap.size wr) := Lib.hid (hmk.out.kept (fun k o hk _ => (hbw.block k (Array.getElem?_eq_some_iff.1 hk).1).trans hk))
      have hrn : Hid (r = [] → A1 = none) := Lib.hid (fun e => by have := hrl.out; rw [e] at this; simp at this; omega)
      clear hown hbw hsz HP h1 hmk hbxW K5 hrt
      go_wp2_with fail
      refine leaves_marks (base := w.heap.size) (fun W' => W'.ownsRow w.heap.size 3 1 (.slice A1 n c1) n (icells r) ∧ Below w.heap.size w W') ?_ ?_ [D] wr hm2.out hfin.out
      · rintro W' E hb hK ⟨g1, g3⟩
        exact ⟨ownsRow_putObj g1 _ hK rfl, g3.trans (belowK_b (w := w) (Nat.le_refl _) W' E _ _ hb hK rfl rfl)⟩
      · rintro W' ⟨g1, g3⟩
        have hr2 := hrl.out
        refine ⟨_, results_tmp rfl _ _ _, A1, c1, by rw [hr2]; rfl, by rw [hr2]; exact g1, hrn.out, g3⟩
theorem colorsOfI (A : Option Addr) (n cap : Nat) (w : World) (ps : List (Int × Int)) (hl : ps.length = n) (hn : n ≤ 1048576) (hp : PtsAt w w.heap.size A ps) :
    Calls Tryz.prog 28 #[.agg #[.slice A n cap]] w (Go.Proofs.YtkcodmafakjkfaaGreat.Own.GivesI 3 w (colL ps)) := by
  refine (colorsOf A n cap w ps hl hn hp).mono ?_
  rintro e w' ⟨A1, c1, rfl, h, _, hb⟩
  exact ⟨A1, c1, rfl, h, hb⟩
end Go.Proofs.YtkcodmafakjkfaaGreat.ColLand
