/-
  What the iterator of slices.Backward over triangles does: it hands them to the loop from the last one to the first one; the loop's body may write one map.
-/
import Derived.RangeFuncNested
import Derived.RangeFuncBound
import Derived.RangeFuncCalls
import Derived.RangeFuncLeaves
import Derived.RangeFuncBox
import Derived.Shelf.Abstract
import Derived.Shelf.RegionOpen
import Derived.WalkKit
import Derived.OwnWalkIn
import Derived.TacticsInMore
import Derived.LoopNIn
import Derived.LoopIn
import Derived.Test.YtkcodmafakjkfaaGreatProg
import Derived.Test.YtkcodmafakjkfaaGreatGround
import Derived.Test.YtkcodmafakjkfaaGreatTup3
namespace Go.Proofs.YtkcodmafakjkfaaGreat.ColBack
open Go.RowKit Go.Shelf PointOk Blk Pts Tup3
attribute [local go_sem] Oper.semAt_some

/-- What a round keeps: whatever lay below n₀, but for the map. -/
def Kq (n₀ bm : Nat) (W W' : World) : Prop := W.heap.size ≤ W'.heap.size ∧ ∀ k, k < n₀ → k ≠ bm → W'.heap[k]? = W.heap[k]?
theorem Kq.refl (n₀ bm : Nat) (W : World) : Kq n₀ bm W W := ⟨Nat.le_refl _, fun _ _ _ => rfl⟩
theorem Kq.t {n₀ bm : Nat} {A B C : World} (h : Kq n₀ bm A B) (k : Kq n₀ bm B C) : Kq n₀ bm A C := ⟨Nat.le_trans h.1 k.1, fun i hi hne => (k.2 i hi hne).trans (h.2 i hi hne)⟩
theorem Kq.b {n₀ bm : Nat} {w : World} (hn : n₀ ≤ w.heap.size) (W : World) (l : Nat) (o o' : Obj) (hl : w.heap.size ≤ l) (_ : W.heap[l]? = some o) (_ : o.isCells = false) (_ : o.isWalk = false) : Kq n₀ bm W (W.putObj l o') :=
  ⟨(grownBy_putObj' W l o').size, fun k hk _ => World.putObj_heap_other (by omega)⟩
theorem Kq.grown {n₀ bm : Nat} {W W' : World} (h : W.grownBy W' (some bm)) (hn : n₀ ≤ W.heap.size) : Kq n₀ bm W W' :=
  ⟨h.size, fun k hk hne => h.block k (by omega) (fun e => hne (Option.some.inj e))⟩
theorem Kq.cell {n₀ bm : Nat} {W W' : World} (h : Kq n₀ bm W W') {p : Addr} (hp : p.block < n₀) (hne : p.block ≠ bm) : W'.cell? p = W.cell? p := World.cell?_of_block (w := W) (h.2 p.block hp hne)
theorem Kq.ts {n₀ bm : Nat} {W W' : World} {A : Option Addr} {L : List Tu} (h : Kq n₀ bm W W') (hT : TsAt W n₀ A L) (hne : ∀ ad, A = some ad → ad.block ≠ bm) : TsAt W' n₀ A L := by
  intro j hj
  obtain ⟨ad, h1, h2, h3, h4, h5⟩ := hT j hj
  have hb : (ad.add (j * 3)).block = ad.block := block_add _ _
  have e1 : (ad.add (j * 3)).block < n₀ := by rw [hb]; exact h2
  have e2 : (ad.add (j * 3)).block ≠ bm := by rw [hb]; exact hne ad h1
  exact ⟨ad, h1, h2, (h.cell e1 e2).trans h3, (h.cell (by exact e1) (by exact e2)).trans h4, (h.cell (by exact e1) (by exact e2)).trans h5⟩

/-- The numbers from q down to k. -/
def downs (q k : Nat) : List Nat := (List.range' k (q - k)).reverse
theorem downs_top (q : Nat) : downs q q = [] := by simp [downs]
theorem downs_step {q k : Nat} (h : k < q) : downs q k = downs q (k + 1) ++ [k] := by
  unfold downs
  rw [show q - k = (q - (k + 1)) + 1 by omega, List.range'_succ, List.reverse_cons]
theorem downs_len (q k : Nat) : (downs q k).length = q - k := by simp [downs]
def nums {q : Nat} (l : List (Fin q)) : List Nat := l.map fun y => y.val
theorem nums_snoc {q : Nat} (l : List (Fin q)) (y : Fin q) : nums (l ++ [y]) = nums l ++ [y.val] := by simp [nums]
theorem nums_len {q : Nat} (l : List (Fin q)) : (nums l).length = l.length := by simp [nums]
/-- What the loop is handed at number k. -/
def enc (L : List Tu) (q : Nat) (y : Fin q) : Array Value := #[.int .i64 (y.val : Int), .agg #[.int .i64 (tt L y.val).1, .int .i64 (tt L y.val).2.1, .int .i64 (tt L y.val).2.2]]

set_option maxRecDepth 100000 in
set_option maxHeartbeats 1600000 in
theorem backward_in (m : Nat) (hm : 1 ≤ m) (l Bb n₀ bm q cap : Nat) (A : Option Addr) (L : List Tu) (hq : q ≤ L.length) (hq2 : q ≤ 11) (J Jx : List (Fin q) → World → Prop) (W : World)
    (hY : ∀ pre x W1, J pre W1 → pre.length < 12 → YieldAt Fence.wide (m - 1) Tryz.prog l (enc L q x) W1 fun e W' =>
      (e = .returned (.bool true) ∧ J (pre ++ [x]) W' ∧ Kq n₀ bm W1 W') ∨ (e = .returned (.bool false) ∧ Jx (pre ++ [x]) W'))
    (h0 : J [] W) (hB : Holds W Bb #[.slice A q cap] 26) (hBn : Bb < n₀) (hBm : Bb ≠ bm) (hT : TsAt W n₀ A L) (hA : ∀ ad, A = some ad → ad.block ≠ bm) :
    CallsIn Fence.wide m Tryz.prog 106 #[.func (.yield l) #[] #[], .pointer (some ⟨Bb, 0, none⟩)] W fun e W' => (∃ v, e = .returned v) ∧
      ((∃ xs, nums xs = downs q 0 ∧ J xs W') ∨ (∃ pre, True ∧ Jx pre W')) := by
  obtain ⟨cB, _⟩ := hB.one
  have HY := Lib.hid hY
  clear hY hB
  have uq : IntKind.i64.wrap ((q : Int) - 1) = (q : Int) - 1 := IntWalk.i64_in _ (by omega)
  refine callsIn_of_wp Tryz.func106 rfl trivial ?_ rfl
  simp only [Tryz.ntmps106, List.size_toArray, List.length_cons, List.length_nil, Nat.reduceAdd, Nat.reduceSub, Array.replicate_succ, Array.replicate_zero, List.push_toArray, List.append_toArray, List.nil_append, List.cons_append]
  gi_wp2
  gi_loopw [3] (fun i wr => ∃ (k : Nat) (pre : List (Fin q)), k ≤ q ∧ i = .int .i64 ((k : Int) - 1) ∧ Hid (nums pre = downs q k) ∧ J pre wr ∧ Kq n₀ bm W wr)
    (fun i _ => (intOf i + 1).toNat)
  case atStart => exact ⟨q, [], Nat.le_refl _, rfl, Lib.hid (by rw [downs_top]; rfl), h0, Kq.refl _ _ _⟩
  case round =>
    clear h0
    obtain ⟨k, pre, hk, rfl, hpre, hJ, hK⟩ := hrel
    have c1 : wr.cell? ⟨Bb, 0, none⟩ = some (.slice A q cap) := (hK.cell (p := ⟨Bb, 0, none⟩) hBn hBm).trans cB
    by_cases hk0 : k = 0
    · subst hk0
      have hg : ¬ (0 : Int) ≤ ((0 : Nat) : Int) - 1 := by omega
      clear uq
      gi_wp2
      go_end0
      exact ⟨⟨_, rfl⟩, .inl ⟨pre, hpre.out, hJ⟩⟩
    obtain ⟨j, rfl⟩ : ∃ j, k = j + 1 := ⟨k - 1, by omega⟩
    have ej : (((j + 1 : Nat) : Int) - 1) = (j : Int) := by omega
    rw [ej]
    have j0 : (0 : Int) ≤ (j : Int) := by omega
    have j1 : (j : Int) < (q : Int) := by omega
    have uj : IntKind.i64.wrap ((j : Int) - 1) = (j : Int) - 1 := IntWalk.i64_in _ (by omega)
    have p0 := tt_at (ps := L) (k := j) (by omega)
    have hlen : pre.length < 12 := by rw [← nums_len, hpre.out, downs_len]; omega
    have hS : Hid (∀ y : Fin q, y.val = j → nums (pre ++ [y]) = downs q j) := Lib.hid (fun y hy => by rw [nums_snoc, hpre.out, hy]; exact (downs_step (by omega)).symm)
    obtain ⟨y, hy⟩ : ∃ y : Fin q, y.val = j := ⟨⟨j, by omega⟩, rfl⟩
    obtain ⟨fn, tmps, assign, body, hyy, hR⟩ := HY.out pre y wr hJ hlen
    unfold enc at hyy
    rw [hy] at hyy
    obtain ⟨a, b, c, hx⟩ : ∃ a b c, tt L j = (a, b, c) := ⟨_, _, _, rfl⟩
    rw [hx] at p0 hyy
    dsimp only at hyy
    obtain ⟨ad, rfl, bA, pA⟩ := (hK.ts hT hA).get p0
    obtain ⟨q0, q1, q2⟩ := pA
    clear hpre p0 uq HY hx
    gi_wp2
    refine hR.mono ?_
    rintro e W3 (⟨rfl, hJ3, hk3⟩ | ⟨rfl, hJx3⟩)
    · have hK3 := hK.t hk3
      clear q0 q1 q2 c1
      gi_wp2
      go_roundw
      case rel => exact ⟨j, pre ++ [y], by omega, by go_num, Lib.hid (hS.out y hy), hJ3, hK3⟩
      case measure => simp [intOf]
    · gi_wp2
      refine bodyPost_ret (results_none rfl _ _ _) rfl ?_
      exact ⟨⟨_, rfl⟩, .inr ⟨pre ++ [y], trivial, hJx3⟩⟩

/-- The value that comes back: the iterator, over a box of its own. -/
theorem backward (m q cap : Nat) (A : Option Addr) (w : World) :
    CallsIn Fence.wide m Tryz.prog 72 #[.slice A q cap] w fun e w' =>
      e = .returned (.func (.func 106) #[] #[.pointer (some ⟨w.heap.size, 0, none⟩)]) ∧ w' = w.alloc (.cells #[.slice A q cap] 26) := by
  refine callsIn_of_wp Tryz.func72 rfl trivial ?_ rfl
  simp only [Tryz.ntmps72, List.size_toArray, List.length_cons, List.length_nil, Nat.reduceAdd, Nat.reduceSub, Array.replicate_succ, Array.replicate_zero, List.push_toArray, List.append_toArray, List.nil_append, List.cons_append]
  gi_wp2
  go_ret
  exact ⟨rfl, rfl⟩

theorem back_stops (m : Nat) (hm : 1 ≤ m) (Bb n₀ bm q cap : Nat) (A : Option Addr) (L : List Tu) (hq : q ≤ L.length) (hq2 : q ≤ 11) (w : World) (hn : n₀ ≤ w.heap.size)
    (hB : Holds w Bb #[.slice A q cap] 26) (hBn : Bb < n₀) (hBm : Bb ≠ bm) (hT : TsAt w n₀ A L) (hA : ∀ ad, A = some ad → ad.block ≠ bm) :
    SeqStopsK Fence.wide m Tryz.prog 106 #[.pointer (some ⟨Bb, 0, none⟩)] (enc L q) (Kq n₀ bm)
      (fun xs => nums xs = downs q 0) (fun _ => True) 12 w := fun l J Jx W hW _ _ hY h0 =>
  backward_in m hm l Bb n₀ bm q cap A L hq hq2 J Jx W hY h0 (hB.later hW) hBn hBm (hT.later (hW.mono hn)) hA
def marks (l : List Nat) : List Deferred := l.map fun D => { target := .collected D, args := #[] }
/-- Each mark's block holds no call. -/
def Marked (l : List Nat) (base : Nat) (W : World) : Prop := l.Nodup ∧ ∀ D ∈ l, base ≤ D ∧ W.heap[D]? = some (.deferred (some []))
theorem Marked.kept {l : List Nat} {base : Nat} {W W' : World} (h : Marked l base W) (hk : ∀ (k : Nat) (o : Obj), W.heap[k]? = some o → o.isCells = false → W'.heap[k]? = some o) : Marked l base W' :=
  ⟨h.1, fun D hD => ⟨(h.2 D hD).1, hk D _ (h.2 D hD).2 rfl⟩⟩
theorem Marked.others {l : List Nat} {base : Nat} {W W' : World} (h : Marked l base W) (hk : KeepsOthers W W') : Marked l base W' := h.kept hk.same
theorem Marked.lt {l : List Nat} {base : Nat} {W : World} (h : Marked l base W) : ∀ D ∈ l, D < W.heap.size := fun D hD => (Array.getElem?_eq_some_iff.1 (h.2 D hD).2).1
theorem Marked.calm {l : List Nat} {base B : Nat} {W W' : World} {row : Option Nat} (h : Marked l base W) (hlt : ∀ D ∈ l, D < B) (hg : W.grownBy W' row) (hr : ∀ r, row = some r → B ≤ r) : Marked l base W' :=
  ⟨h.1, fun D hD => ⟨(h.2 D hD).1, (hg.block D (h.lt D hD) (fun e => by have := hr D e.symm; have := hlt D hD; omega)).trans (h.2 D hD).2⟩⟩
theorem leaves_marks {F : Fence} {n : Nat} {P : Program} {fn : Func} {tmps : Array Value} {R : Ending → World → Prop} {base : Nat} (S : World → Prop)
    (hput : ∀ (W : World) (D : Nat), base ≤ D → W.heap[D]? = some (.deferred (some [])) → S W → S (W.putObj D (.deferred none)))
    (hend : ∀ W, S W → ∃ v, (results fn tmps).run P W = .ok v W ∧ R (.returned v) W) : ∀ (l : List Nat) (W : World), Marked l base W → S W → LeavesInM F n P fn tmps R (marks l) .returning W
  | [], W, _, hS => hend W hS
  | D :: l, W, hm, hS => by
    obtain ⟨hb, hK⟩ := hm.2 D (by simp)
    refine ⟨by simp, .inl ⟨D, _, rfl, run_takeDeferred hK, ?_⟩⟩
    refine leaves_marks S hput hend l _ ⟨(List.nodup_cons.1 hm.1).2, fun E hE => ⟨(hm.2 E (by simp [hE])).1, ?_⟩⟩ (hput W D hb hK hS)
    have hne : E ≠ D := fun e => (List.nodup_cons.1 hm.1).1 (e ▸ hE)
    exact (World.putObj_heap_other (by omega)).trans (hm.2 E (by simp [hE])).2
end Go.Proofs.YtkcodmafakjkfaaGreat.ColBack
