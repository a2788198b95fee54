/-
  What the landed iterator over the halls behind a hall's doors does: it hands them to the loop in ascending order; the value that it hands back.
-/
import Derived.RangeFuncNested
import Derived.RangeFuncBound
import Derived.RangeFuncCalls
import Derived.RangeFuncLeaves
import Derived.RangeFuncBox
import Derived.Shelf.Abstract
import Derived.Shelf.RegionOpen
import Derived.WalkKit
import Derived.OwnWalkIn
import Derived.TacticsInMore
import Derived.LoopNIn
import Derived.LoopIn
import Derived.Test.YtcfoleiooohbhaaProg
import Derived.Test.YtcfoleiooohbhaaGround
import Derived.Test.YtcfoleiooohbhaaHouMath
namespace Go.Proofs.Ytcfoleiooohbhaa.HouIter
open Go.RowKit Go.Shelf PointOk Blk Pts HouMath
attribute [local go_sem] Oper.semAt_some

/-- A block that was just made and then filled is a block made so. -/
theorem fill2 (w : World) (z0 z1 a b : Value) (T : TypeId) : ((w.alloc (.cells #[z0, z1] T)).setCell ⟨w.heap.size, 0, none⟩ a).setCell ⟨w.heap.size, 1, none⟩ b = w.alloc (.cells #[a, b] T) := by
  have e : ∀ (hp : Array Obj) (o : Obj) (f : Obj → Obj), (hp.push o).modify hp.size f = hp.push (f o) := fun hp o f => by
    apply Array.ext
    · simp
    · intro i h1 h2
      simp only [Array.size_modify, Array.size_push] at h1
      rw [Array.getElem_modify]
      simp only [Array.getElem_push]
      split <;> split <;> first | rfl | omega
  unfold World.setCell World.alloc
  simp only [e]
  simp

/-- Whatever holds values of this type holds them still. -/
def KeepsT (T : TypeId) (W W' : World) : Prop := ∀ (k : Nat) (cs : Array Value) (fr : Nat × Nat), W.heap[k]? = some (.cells cs T fr) → W'.heap[k]? = some (.cells cs T fr)
theorem KeepsT.refl (T : TypeId) (W : World) : KeepsT T W W := fun _ _ _ h => h
theorem KeepsT.trans {T : TypeId} {A B C : World} (h : KeepsT T A B) (k : KeepsT T B C) : KeepsT T A C := fun i cs fr hi => k i cs fr (h i cs fr hi)
theorem KeepsT.grown {T : TypeId} {W W' : World} {row : Option Nat} (hg : W.grownBy W' row) (hr : ∀ r cs fr, row = some r → W.heap[r]? ≠ some (.cells cs T fr)) : KeepsT T W W' := fun k cs fr h =>
  (hg.block k (Array.getElem?_eq_some_iff.1 h).1 (fun e => hr k cs fr e.symm h)).trans h
theorem KeepsT.alloc {T : TypeId} {W W' : World} (h : KeepsT T W W') (o : Obj) : KeepsT T W (W'.alloc o) := h.trans (KeepsT.grown (World.grownBy_alloc W' o none) (fun r _ _ e => by cases e))
theorem KeepsT.drew {T : TypeId} {W W' : World} (h : KeepsT T W W') : KeepsT T W W'.drew := h
theorem KeepsT.put {T : TypeId} (W : World) {l : Nat} {o : Obj} (o' : Obj) (h : W.heap[l]? = some o) (ho : o.isCells = false) : KeepsT T W (W.putObj l o') :=
  KeepsT.grown (grownBy_putObj' W l o') (fun r cs fr e h2 => by cases e; rw [h] at h2; cases h2; cases ho)
theorem KeepsT.set {T T' : TypeId} {W W' : World} (h : KeepsT T W W') {b k : Nat} {cs : Array Value} {fr : Nat × Nat} (hb : W'.heap[b]? = some (.cells cs T' fr)) (hne : T' ≠ T) (v : Value) : KeepsT T W (W'.setCell ⟨b, k, none⟩ v) :=
  h.trans (KeepsT.grown (row := some b) ⟨rfl, rfl, rfl, (KeepsWalks.setCell W' _ v).size, fun i _ hi => Below.heap_setCell _ _ _ i (fun e => hi (by rw [e]))⟩ (fun r cs' fr' e h2 => by cases e; rw [hb] at h2; cases h2; exact hne rfl))
/-- A block of cells stays as it is. -/
def KeepsB (b : Nat) (W W' : World) : Prop := ∀ (cs : Array Value) (T : TypeId) (fr : Nat × Nat), W.heap[b]? = some (.cells cs T fr) → W'.heap[b]? = some (.cells cs T fr)
theorem KeepsB.trans {b : Nat} {A B C : World} (h : KeepsB b A B) (k : KeepsB b B C) : KeepsB b A C := fun cs T fr hi => k cs T fr (h cs T fr hi)
theorem KeepsB.grown {b : Nat} {W W' : World} {row : Option Nat} (hg : W.grownBy W' row) (hr : ∀ r cs T fr, row = some r → W.heap[r]? = some (.cells cs T fr) → r ≠ b) : KeepsB b W W' := fun cs T fr h =>
  (hg.block b (Array.getElem?_eq_some_iff.1 h).1 (fun e => hr b cs T fr e.symm h rfl)).trans h
/-- What a round keeps, for the iterator: whatever lay below n₀, whatever holds doors, and its own box. -/
def Kp (n₀ b : Nat) (W W' : World) : Prop := Below n₀ W W' ∧ KeepsT 83 W W' ∧ KeepsB b W W'
theorem Kp.t {n₀ b : Nat} {A B C : World} (h : Kp n₀ b A B) (k : Kp n₀ b B C) : Kp n₀ b A C := ⟨h.1.trans k.1, h.2.1.trans k.2.1, h.2.2.trans k.2.2⟩
theorem Kp.b {n₀ b : Nat} {w : World} (hn : n₀ ≤ w.heap.size) (W : World) (l : Nat) (o o' : Obj) (hl : w.heap.size ≤ l) (h : W.heap[l]? = some o) (ho : o.isCells = false) (hw : o.isWalk = false) : Kp n₀ b W (W.putObj l o') :=
  ⟨belowK_b hn W l o o' hl h ho hw, KeepsT.put W o' h ho, KeepsB.grown (grownBy_putObj' W l o') (fun r cs T fr e h2 => by cases e; rw [h] at h2; cases h2; cases ho)⟩
theorem Kp.refl (n₀ b : Nat) (W : World) : Kp n₀ b W W := ⟨Below.refl _ _, KeepsT.refl _ _, fun _ _ _ h => h⟩

theorem take_succ_nb {ds : List (Int × Int)} {k : Nat} (hk : k < ds.length) (x : Int) : nbI (ds.take (k + 1)) x = nbI (ds.take k) x ++ outs x (dr ds k) := by
  unfold nbI
  rw [List.take_succ_eq_append_getElem hk, List.flatMap_append, dr_get hk]
  simp

/-- At the wide fence a guarded operation whose guard says no is passed over, a call too. -/
theorem skipW {n : Nat} {P : Program} {ops : Array Oper} {rest : List Oper} {o : Oper} {a : Act} {w : World} {Q : Exit → Act → World → Prop}
    (hw : Region.wanted o (yielded ops a.tmps) = false) (h : wpListIn Fence.wide n P ops Q rest (a.put o.dst undef) w) : wpListIn Fence.wide n P ops Q (o :: rest) a w := by
  simp only [wpListIn, hw]
  exact ⟨fun _ _ => trivial, h⟩
theorem outs_second {x : Nat} {a b : Nat} (hab : a < b) (h : b = x) : outs (x : Int) ((a : Int), (b : Int)) = [(a : Int)] := by
  unfold outs
  rw [if_pos (by simp [h]), if_neg (by simp; omega)]; rfl
theorem outs_first {x : Nat} {a b : Nat} (hab : a < b) (h : a = x) : outs (x : Int) ((a : Int), (b : Int)) = [(b : Int)] := by
  unfold outs
  rw [if_neg (by simp; omega), if_pos (by simp [h])]; rfl
theorem outs_none {x : Nat} {a b : Nat} (h : b ≠ x) (h2 : a ≠ x) : outs (x : Int) ((a : Int), (b : Int)) = [] := by
  unfold outs
  rw [if_neg (by simp; omega), if_neg (by simp; omega)]; rfl
theorem nbI_len (ds : List (Int × Int)) (x : Int) : ∀ {H : Int}, (∀ d ∈ ds, 0 ≤ d.1 ∧ d.1 < d.2 ∧ d.2 < H) → (nbI ds x).length ≤ ds.length := by
  induction ds with
  | nil => intro H _; simp [nbI]
  | cons d ds ih =>
    intro H h
    have h1 := h d (by simp)
    have h2 := ih (fun e he => h e (by simp [he]))
    have h3 : (outs x d).length ≤ 1 := by
      unfold outs
      split <;> split <;> simp
      omega
    unfold nbI at h2 ⊢
    simp only [List.flatMap_cons, List.length_append, List.length_cons]
    omega
/-- The halls that came in, as numbers. -/
def vals {H : Nat} (l : List (Fin H)) : List Nat := l.map fun y => y.val
theorem cast_vals {H : Nat} (l : List (Fin H)) : (vals l).map (fun (y : Nat) => (y : Int)) = l.map fun y => (y.val : Int) := by simp [vals]
theorem vals_snoc {H : Nat} (l : List (Fin H)) (y : Fin H) : vals (l ++ [y]) = vals l ++ [y.val] := by simp [vals]
theorem cast_inj : ∀ {l m : List Nat}, l.map (fun (y : Nat) => (y : Int)) = m.map (fun (y : Nat) => (y : Int)) → l = m
  | [], [], _ => rfl
  | [], _ :: _, h => by simp at h
  | _ :: _, [], h => by simp at h
  | x :: l, y :: m, h => by
    simp only [List.map_cons, List.cons.injEq] at h
    rw [cast_inj h.2, Int.ofNat.inj h.1]

set_option maxRecDepth 100000 in
set_option maxHeartbeats 1000000 in
theorem behind_in (m : Nat) (hm : 1 ≤ m) (l Bh Bx n₀ H n cap x : Nat) (A : Option Addr) (ds : List (Int × Int)) (hf : HForm H ds) (hl : ds.length = n) (J Jx : List (Fin H) → World → Prop) (W : World)
    (hW : n₀ ≤ W.heap.size) (hJa : AbidesFrom W.heap.size J)
    (hY : ∀ pre x W1, J pre W1 → pre.length < 12 → YieldAt Fence.wide (m - 1) Try.prog l #[.int .i64 (x.val : Int)] W1 fun e W' =>
      (e = .returned (.bool true) ∧ J (pre ++ [x]) W' ∧ Kp n₀ Bx W1 W') ∨ (e = .returned (.bool false) ∧ Jx (pre ++ [x]) W'))
    (h0 : J [] W) (hBh : W.cell? ⟨Bh, 0, none⟩ = some (.int .i64 H) ∧ W.cell? ⟨Bh, 1, none⟩ = some (.slice A n cap)) (hBx : Holds W Bx #[.int .i64 x] 3) (hp : PtsAt W n₀ A ds) :
    CallsIn Fence.wide m Try.prog 59 #[.func (.yield l) #[] #[], .pointer (some ⟨Bh, 0, none⟩), .pointer (some ⟨Bx, 0, none⟩)] W fun e W' => (∃ v, e = .returned v) ∧
      ((∃ xs, vals xs = nb H ds x ∧ J xs W') ∨ (∃ pre, vals pre <+: nb H ds x ∧ Jx pre W')) := by
  obtain ⟨hB0, hB1⟩ := hBh
  have HF := Lib.hid hf
  have HA := Lib.hid hJa
  have HY := Lib.hid hY
  clear hJa hY
  have hn12 : n ≤ 12 := by have := hf.len; omega
  clear hf
  refine callsIn_of_wp Try.func59 rfl trivial ?_ rfl
  simp only [Try.ntmps59, List.size_toArray, List.length_cons, List.length_nil, Nat.reduceAdd, Nat.reduceSub, Array.replicate_succ, Array.replicate_zero, List.push_toArray, List.append_toArray, List.nil_append, List.cons_append]
  gi_wp2
  gi_loopw [9] (fun i wr => ∃ (k : Nat) (pre : List (Fin H)), k ≤ n ∧ i = .int .i64 k ∧ Hid (pre.map (fun y => (y.val : Int)) = nbI (ds.take k) x) ∧ J pre wr ∧ Holds wr Bx #[.int .i64 x] 3 ∧ Below n₀ W wr)
    (fun i _ => n - (intOf i).toNat)
  case atStart => exact ⟨0, [], Nat.zero_le _, rfl, Lib.hid (by simp [nbI]), h0, hBx, Below.refl _ _⟩
  case round =>
    clear hBx
    obtain ⟨k, pre, hk, rfl, hpre, hJ, hBx, hb⟩ := hrel
    by_cases hkn : k < n
    rotate_left
    · obtain rfl : k = n := by omega
      have hS : Hid (vals pre = nb H ds x) := Lib.hid (by
        have h1 := hpre.out
        rw [List.take_of_length_le (by omega), nb_eq HF.out x, ← cast_vals] at h1
        exact cast_inj h1)
      clear hpre hB0 hB1 hBx hp
      gi_wp2
      go_end0
      exact ⟨⟨_, rfl⟩, .inl ⟨pre, hS.out, hJ⟩⟩
    have hk1 : (k : Int) < (n : Int) := by omega
    have hkl : k < ds.length := by omega
    obtain ⟨ad, rfl, bA, pA⟩ := (hp.later hb).get (dr_at hkl)
    have hd := HF.out.ok k hkl
    have hstep : Hid (nbI (ds.take (k + 1)) x = nbI (ds.take k) x ++ outs x (dr ds k)) := Lib.hid (take_succ_nb hkl x)
    have hlen : pre.length < 12 := by
      have h1 := congrArg List.length hpre.out
      have h2 := nbI_len (ds.take k) x (H := H) (fun d hd => HF.out.mem d (List.mem_of_mem_take hd))
      rw [List.length_map] at h1
      have := List.length_take_le k ds
      omega
    have hall : Hid (∀ q : List (Fin H), q.map (fun y => (y.val : Int)) = nbI (ds.take (k + 1)) x → vals q <+: nb H ds x) := Lib.hid (fun q hq => by
      have e : nbI ds x = nbI (ds.take (k + 1)) x ++ nbI (ds.drop (k + 1)) x := by
        unfold nbI
        rw [← List.flatMap_append, List.take_append_drop]
      rw [nb_eq HF.out x, ← hq, ← cast_vals] at e
      have e2 := congrArg List.length e
      refine ⟨(nb H ds x).drop (vals q).length, ?_⟩
      apply cast_inj
      have e3 : ((nb H ds x).map fun (y : Nat) => (y : Int)).drop (vals q).length = nbI (ds.drop (k + 1)) x := by
        rw [e, List.drop_append_of_le_length (by simp), List.drop_of_length_le (by simp)]
        simp
      rw [List.map_append, List.map_drop, e3]
      exact e.symm)
    obtain ⟨a, ha⟩ := Int.eq_ofNat_of_zero_le hd.1
    obtain ⟨b, hb2⟩ := Int.eq_ofNat_of_zero_le (show 0 ≤ (dr ds k).2 by omega)
    have hdk : Hid (dr ds k = ((a : Int), (b : Int))) := Lib.hid (by rw [← ha, ← hb2])
    rw [ha, hb2] at pA hd
    obtain ⟨_, hab, hbH⟩ := hd
    have hab' : a < b := by omega
    have hbH' : b < H := by omega
    obtain ⟨p0, p1⟩ := pA
    clear ha hb2 hkl
    obtain ⟨w1, hw1⟩ : ∃ w1, wr.alloc (.cells #[.int .i64 a, .int .i64 b] 83) = w1 := ⟨_, rfl⟩
    have hJ1 : J pre w1 := by rw [← hw1]; exact HA.out pre wr _ none hJ (World.grownBy_alloc wr _ none) (fun r e => by cases e)
    have hH1 : Holds w1 wr.heap.size #[.int .i64 a, .int .i64 b] 83 := by rw [← hw1]; exact Holds.new wr _ _
    have hb1 : Below n₀ W w1 := by rw [← hw1]; exact hb.alloc (Nat.le_trans hW hb.size) _
    obtain ⟨⟨c0, c1⟩, _⟩ := hH1.two
    have hBx1 : Holds w1 Bx #[.int .i64 x] 3 := by rw [← hw1]; exact hBx.alloc _
    obtain ⟨cx, _⟩ := hBx1.one
    clear hB0 hB1 hBx hp
    by_cases hbx : b = x
    · have hs : Hid (∀ y : Fin H, y.val = a → (pre ++ [y]).map (fun y => (y.val : Int)) = nbI (ds.take (k + 1)) x) := Lib.hid (fun y hy => by
        rw [hstep.out, hdk.out, outs_second hab' hbx, List.map_append, hpre.out]; simp [hy])
      have e2 : ((a : Int) == (x : Int)) = false := beq_eq_false_iff_ne.2 (by omega)
      clear hstep hdk
      subst hbx
      obtain ⟨y, hy⟩ : ∃ y : Fin H, y.val = a := ⟨⟨a, by omega⟩, rfl⟩
      obtain ⟨fn, tmps, assign, body, hyy, hR⟩ := HY.out pre y w1 hJ1 hlen
      rw [hy] at hyy
      clear hpre
      gi_wp2_with ((with_reducible refine skipW ?_ ?_); (focus (with_unfolding_all rfl)); simp only [Act.put, List.setIfInBounds_toArray, List.set_cons_succ, List.set_cons_zero])
      refine hR.mono ?_
      rintro e W3 (⟨rfl, hJ3, hk3⟩ | ⟨rfl, hJx3⟩)
      · obtain ⟨⟨d0, d1⟩, _⟩ := Holds.two (hk3.2.1 _ _ _ hH1)
        have hBx3 : Holds W3 Bx #[.int .i64 b] 3 := hk3.2.2 _ _ _ hBx1
        obtain ⟨dx, _⟩ := hBx3.one
        have hb3 := hb1.trans hk3.1
        clear c0 c1 cx
        gi_wp2_with ((with_reducible refine skipW ?_ ?_); (focus (with_unfolding_all rfl)); simp only [Act.put, List.setIfInBounds_toArray, List.set_cons_succ, List.set_cons_zero])
        go_roundw
        case rel => exact ⟨k + 1, pre ++ [y], by omega, by go_num, Lib.hid (hs.out y hy), hJ3, hBx3, hb3⟩
        case measure => simp [intOf]; omega
      · gi_wp2_with ((with_reducible refine skipW ?_ ?_); (focus (with_unfolding_all rfl)); simp only [Act.put, List.setIfInBounds_toArray, List.set_cons_succ, List.set_cons_zero])
        refine bodyPost_ret (results_none rfl _ _ _) rfl ?_
        exact ⟨⟨_, rfl⟩, .inr ⟨pre ++ [y], hall.out _ (hs.out y hy), hJx3⟩⟩
    · by_cases hax : a = x
      · have hs : Hid (∀ y : Fin H, y.val = b → (pre ++ [y]).map (fun y => (y.val : Int)) = nbI (ds.take (k + 1)) x) := Lib.hid (fun y hy => by
          rw [hstep.out, hdk.out, outs_first hab' hax, List.map_append, hpre.out]; simp [hy])
        have e1 : ((b : Int) == (x : Int)) = false := beq_eq_false_iff_ne.2 (by omega)
        clear hstep hdk
        subst hax
        obtain ⟨y, hy⟩ : ∃ y : Fin H, y.val = b := ⟨⟨b, hbH'⟩, rfl⟩
        obtain ⟨fn, tmps, assign, body, hyy, hR⟩ := HY.out pre y w1 hJ1 hlen
        rw [hy] at hyy
        clear hpre
        gi_wp2_with ((with_reducible refine skipW ?_ ?_); (focus (with_unfolding_all rfl)); simp only [Act.put, List.setIfInBounds_toArray, List.set_cons_succ, List.set_cons_zero])
        refine hR.mono ?_
        rintro e W3 (⟨rfl, hJ3, hk3⟩ | ⟨rfl, hJx3⟩)
        · have hb3 := hb1.trans hk3.1
          have hBx3 : Holds W3 Bx #[.int .i64 a] 3 := hk3.2.2 _ _ _ hBx1
          gi_wp2_with ((with_reducible refine skipW ?_ ?_); (focus (with_unfolding_all rfl)); simp only [Act.put, List.setIfInBounds_toArray, List.set_cons_succ, List.set_cons_zero])
          go_roundw
          case rel => exact ⟨k + 1, pre ++ [y], by omega, by go_num, Lib.hid (hs.out y hy), hJ3, hBx3, hb3⟩
          case measure => simp [intOf]; omega
        · gi_wp2_with ((with_reducible refine skipW ?_ ?_); (focus (with_unfolding_all rfl)); simp only [Act.put, List.setIfInBounds_toArray, List.set_cons_succ, List.set_cons_zero])
          refine bodyPost_ret (results_none rfl _ _ _) rfl ?_
          exact ⟨⟨_, rfl⟩, .inr ⟨pre ++ [y], hall.out _ (hs.out y hy), hJx3⟩⟩
      · have hs : Hid (pre.map (fun y => (y.val : Int)) = nbI (ds.take (k + 1)) x) := Lib.hid (by
          rw [hstep.out, hdk.out, outs_none hbx hax, List.append_nil]; exact hpre.out)
        have e1 : ((b : Int) == (x : Int)) = false := beq_eq_false_iff_ne.2 (by omega)
        have e2 : ((a : Int) == (x : Int)) = false := beq_eq_false_iff_ne.2 (by omega)
        clear hpre hstep hdk hall
        gi_wp2_with ((with_reducible refine skipW ?_ ?_); (focus (with_unfolding_all rfl)); simp only [Act.put, List.setIfInBounds_toArray, List.set_cons_succ, List.set_cons_zero])
        exact ⟨⟨k + 1, pre, by omega, by go_num, hs, hJ1, hBx1, hb1⟩, by simp [intOf]; omega⟩

/-- The value that comes back: the iterator, over boxes of its own. -/
theorem hallsBehind (m : Nat) (H n cap : Nat) (x : Int) (A : Option Addr) (w : World) :
    CallsIn Fence.wide m Try.prog 41 #[.agg #[.int .i64 H, .slice A n cap], .int .i64 x] w fun e w' =>
      e = .returned (.func (.func 59) #[] #[.pointer (some ⟨w.heap.size, 0, none⟩), .pointer (some ⟨w.heap.size + 1, 0, none⟩)]) ∧
      w' = (w.alloc (.cells #[.int .i64 H, .slice A n cap] 41)).alloc (.cells #[.int .i64 x] 3) := by
  refine callsIn_of_wp Try.func41 rfl trivial ?_ rfl
  simp only [Try.ntmps41, List.size_toArray, List.length_cons, List.length_nil, Nat.reduceAdd, Nat.reduceSub, Array.replicate_succ, Array.replicate_zero, List.push_toArray, List.append_toArray, List.nil_append, List.cons_append]
  gi_wp2
  go_ret
  exact ⟨rfl, rfl⟩

theorem behind_stops (m : Nat) (hm : 1 ≤ m) (Bh Bx n₀ H n cap x : Nat) (A : Option Addr) (ds : List (Int × Int)) (hf : HForm H ds) (hl : ds.length = n) (w : World) (hn : n₀ ≤ w.heap.size)
    (hBh : Holds w Bh #[.int .i64 H, .slice A n cap] 41) (hBx : Holds w Bx #[.int .i64 x] 3) (hp : PtsAt w n₀ A ds) :
    SeqStopsK Fence.wide m Try.prog 59 #[.pointer (some ⟨Bh, 0, none⟩), .pointer (some ⟨Bx, 0, none⟩)] (fun y : Fin H => #[Value.int .i64 (y.val : Int)]) (Kp n₀ Bx)
      (fun xs => vals xs = nb H ds x) (fun pre => vals pre <+: nb H ds x) 12 w := fun l J Jx W hW hJ _ hY h0 =>
  behind_in m hm l Bh Bx n₀ H n cap x A ds hf hl J Jx W (Nat.le_trans hn hW.size) hJ hY h0 (hBh.later hW).two.1 (hBx.later hW) (hp.later (hW.mono hn))
end Go.Proofs.Ytcfoleiooohbhaa.HouIter
