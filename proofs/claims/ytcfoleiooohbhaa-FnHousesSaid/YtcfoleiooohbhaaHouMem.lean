/-
  What a walk through a house holds in memory while it works out distances: the house, the distances, the queue; and what each step does to it.
-/
import Derived.Test.YtcfoleiooohbhaaHouIter
import Derived.Test.YtcfoleiooohbhaaHouRep
import Derived.Test.YtcfoleiooohbhaaGround
import Derived.Deep.AppendSrc
import Derived.Laws.Append
namespace Go.Proofs.Ytcfoleiooohbhaa.HouMem
open Go.RowKit PointOk Blk Pts HouMath HouIter
open Go.Proofs.Ytcfoleiooohbhaa.Own (icells icells_length icells_at)

theorem hold_ne {w : World} {a b : Nat} {cs ds : Array Value} {T U : TypeId} (h : Holds w a cs T) (k : Holds w b ds U) (hne : T ≠ U) : a ≠ b := by
  rintro rfl
  unfold Holds at h k
  rw [h] at k
  cases k
  exact hne rfl
theorem hold_kept {w w' : World} {a : Nat} {cs : Array Value} {T : TypeId} {row : Option Nat} (h : Holds w a cs T) (hg : w.grownBy w' row) (hr : ∀ r, row = some r → a ≠ r) : Holds w' a cs T :=
  (hg.block a h.lt (fun e => hr a e.symm rfl)).trans h
theorem hold_calm {w w' : World} {a : Nat} {cs : Array Value} {T : TypeId} {row : Option Nat} (h : Holds w a cs T) (hg : w.grownBy w' row) (hr : ∀ r, row = some r → ∃ o : Obj, w.heap[r]? = some o ∧ o.isCells = false) : Holds w' a cs T :=
  hold_kept h hg (fun r e hra => by
    obtain ⟨o, ho, hc⟩ := hr r e
    rw [← hra] at ho
    unfold Holds at h
    rw [h] at ho
    cases ho
    cases hc)
theorem grown_set (w : World) (b k : Nat) (v : Value) : w.grownBy (w.setCell ⟨b, k, none⟩ v) (some b) :=
  ⟨rfl, rfl, rfl, (KeepsWalks.setCell w _ v).size, fun i _ hi => Below.heap_setCell _ _ _ i (fun e => hi (by rw [e]))⟩

/-- The queue: what is still to be gone on from lies behind an offset, in block g. -/
def Que (w : World) (base g5 g : Nat) (v : Value) (Q : List Nat) : Prop :=
  ∃ (off cp : Nat) (cur : Array Value), v = .slice (some ⟨g, off, none⟩) Q.length cp ∧ base ≤ g ∧ g ≠ g5 ∧ Holds w g cur 3 ∧ off + cp ≤ cur.size ∧ Q.length ≤ cp ∧ ∀ j, j < Q.length → cur[off + j]? = some (.int .i64 ((Q.getD j 0 : Nat) : Int))
theorem Que.kept {w w' : World} {base g5 g : Nat} {v : Value} {Q : List Nat} {row : Option Nat} (h : Que w base g5 g v Q) (hg : w.grownBy w' row) (hr : ∀ r, row = some r → g ≠ r) : Que w' base g5 g v Q := by
  obtain ⟨off, cp, cur, h1, h2, h3, h4, h5⟩ := h
  exact ⟨off, cp, cur, h1, h2, h3, hold_kept h4 hg hr, h5⟩
theorem Que.tail {w : World} {base g5 g x N off cp off' : Nat} {Q : List Nat} (h : Que w base g5 g (.slice (some ⟨g, off, none⟩) (N + 1) cp) (x :: Q)) (hN : Q.length = N) (ho : cp = 1 ∧ off' = off ∨ off' = off + 1) :
    Que w base g5 g (.slice (some ⟨g, off', none⟩) N (cp - 1)) Q := by
  obtain ⟨off2, cp2, cur, e, h2, h3, h4, h5, h6, h7⟩ := h
  simp only [List.length_cons] at e h6 h7
  injection e with e1 _ e3
  injection e1 with e1
  injection e1 with _ e1
  subst e1 e3
  refine ⟨off', cp - 1, cur, by rw [hN], h2, h3, h4, by omega, by omega, fun j hj => ?_⟩
  have := h7 (j + 1) (by omega)
  rcases ho with ⟨h1, rfl⟩ | rfl
  · omega
  · rw [show off + 1 + j = off + (j + 1) by omega, this]
    simp
theorem Que.lt {w : World} {base g5 g : Nat} {v : Value} {Q : List Nat} (h : Que w base g5 g v Q) : g < w.heap.size := by
  obtain ⟨off, cp, cur, h1, h2, h3, h4, h5⟩ := h
  exact h4.lt
theorem Que.hold {w : World} {base g5 g : Nat} {v : Value} {Q : List Nat} (h : Que w base g5 g v Q) : ∃ cur, Holds w g cur 3 := by
  obtain ⟨off, cp, cur, h1, h2, h3, h4, h5⟩ := h
  exact ⟨cur, h4⟩
theorem Que.base {w : World} {base g5 g : Nat} {v : Value} {Q : List Nat} (h : Que w base g5 g v Q) : base ≤ g := by
  obtain ⟨off, cp, cur, h1, h2, h3, h4, h5⟩ := h
  exact h2

theorem set_at {cur : Array Value} {k j : Nat} {v : Value} (hk : k < cur.size) : (cur.setIfInBounds k v)[j]? = if k = j then some v else cur[j]? := by
  rw [Array.getElem?_setIfInBounds]
  by_cases h : k = j
  · subst h; simp [hk]
  · simp [h]

/-- One number more, appended. -/
theorem run_append_que (w : World) (ty : TypeId) (base g5 g : Nat) (v : Value) (Q : List Nat) (hq : Que w base g5 g v Q) (hQ : Q.length ≤ 1000) (z ab : Nat) (c : Nat) (hc : w.cell? ⟨ab, 0, none⟩ = some (.int .i64 (z : Int)))
    (h5 : g5 < w.heap.size) (hb : base ≤ w.heap.size) :
    ∃ g' v' w', (Builtin.append_ #[31, 31] ty #[v, .slice (some ⟨ab, 0, none⟩) 1 c]).run Try.prog w = .ok v' w' ∧ Que w' base g5 g' v' (Q ++ [z]) ∧ w.grownBy w' (some g) ∧ (g' = g ∨ g' = w.heap.size) := by
  obtain ⟨i0, hi, hz0, hz1, hz2⟩ := info_parts HouRep.infoI
  obtain ⟨off, cp, cur, rfl, hbg, hne, hG, hcs, hl, hat⟩ := hq
  have hsrc : Src Try.prog i0.size 31 (.slice (some ⟨ab, 0, none⟩) 1 c) 1 [.int .i64 (z : Int)] w := by
    refine Src.ofSlice w Try.underlying31 _ 1 c _ (by simp [hz1]) ?_ (by intro u hu; simp at hu; subst hu; rfl)
    intro j u hj
    match j, hj with
    | 0, hj => simp at hj; subst hj; simpa [Addr.add] using hc
  have hcell : ∀ j, w.cell? ⟨g, j, none⟩ = cur[j]? := fun j => cell_of_row w g j _ _ _ hG
  by_cases hroom : Q.length + 1 ≤ cp
  · have hfr : ∀ j, w.frozen? ⟨g, j, none⟩ = false := fun j => by
      have := hG; unfold Holds at this; simp [World.frozen?, this]
    have hr := run_append_room_src (P := Try.prog) w 31 31 ty 3 i0 Try.underlying31 hi g off Q.length cp _ 1 _ hsrc hroom
      (fun j hj => by
        simp only [List.length_singleton] at hj
        rw [hcell, hz1]
        have : off + Q.length + j < cur.size := by omega
        simp [this]) (fun j _ => hfr _)
    rw [hz1] at hr
    simp only [Nat.mul_one, World.setCells] at hr
    refine ⟨g, _, _, hr, ⟨off, cp, cur.setIfInBounds (off + Q.length) (.int .i64 (z : Int)), by simp, hbg, hne, set_own hG _ _, by simpa using hcs, by simpa using hroom, ?_⟩, grown_set _ _ _ _, .inl rfl⟩
    intro j hj
    rw [set_at (by omega)]
    rw [List.length_append, List.length_singleton] at hj
    rcases Nat.lt_or_ge j Q.length with h | h
    · rw [if_neg (by omega), hat j h]
      simp [List.getD, List.getElem?_append_left h]
    · obtain rfl : j = Q.length := by omega
      simp [List.getD]
  · obtain rfl : cp = Q.length := by omega
    have hold : (Builtin.firstCells i0.size Q.length (.slice (some ⟨g, off, none⟩) Q.length Q.length)).run Try.prog w.drew = .ok ((Q.map fun x => Value.int .i64 ((x : Nat) : Int))).toArray w.drew := by
      refine run_firstCells_some (P := Try.prog) w.drew i0.size Q.length ⟨g, off, none⟩ _ _ _ (by simp [hz1]) ?_
      intro j u hj
      have hjl : j < Q.length := by
        have := (List.getElem?_eq_some_iff.1 hj).1
        simpa using this
      have e : ((⟨g, off, none⟩ : Addr).add j) = ⟨g, off + j, none⟩ := by unfold Addr.add; split <;> simp_all
      rw [e]
      show w.cell? ⟨g, off + j, none⟩ = some u
      rw [hcell, hat j hjl]
      simp only [List.getElem?_map, List.getElem?_eq_getElem hjl, Option.map_some] at hj
      rw [← hj]
      simp [List.getD, hjl]
    have hr := run_append_grow_src (P := Try.prog) w 31 31 ty 3 i0 _ Try.underlying31 hi hz0 (some ⟨g, off, none⟩) Q.length Q.length _ hold _ 1 _ hsrc (by omega) (by omega) (by rw [hz2]; exact growslice_fits (by omega) (by omega))
    have hge := grownCap_ge w (Q.length + 1) Q.length 3
    refine ⟨w.heap.size, _, _, hr, ⟨0, grownCap w (Q.length + 1) Q.length 3, _, by simp, hb, by omega, heap_alloc_new w.drew _, ?_, by simpa using hge, ?_⟩, ⟨rfl, rfl, rfl, by simp, fun k hk _ => heap_alloc_old w.drew _ k hk⟩, .inr rfl⟩
    · simp only [Array.size_append, List.size_toArray, List.length_append, List.length_map, List.length_singleton, size_zeroCells]
      have : (Value.int IntKind.i64 0).cells.size = 1 := rfl
      rw [this]
      omega
    · intro j hj
      rw [List.length_append, List.length_singleton] at hj
      rw [Array.getElem?_append_left (by simp; omega)]
      simp only [Nat.zero_add, List.getElem?_toArray]
      rcases Nat.lt_or_ge j Q.length with h | h
      · rw [List.getElem?_append_left (by simpa using h)]
        simp [List.getD, h, List.getElem?_append_left h]
      · obtain rfl : j = Q.length := by omega
        rw [List.getElem?_append_right (by simp)]
        simp [List.getD]

theorem wpListIn_que {F : Fence} {n : Nat} (w : World) {ops : Array Oper} {rest : List Oper} {o : Oper} {a : Act} {Q' : Exit → Act → World → Prop}
    (hg : o.guard = none) (s x : Operand) (hop : o.op = Op.call { callee := Callee.builtin Builtin.append, args := #[s, x], argTypes := #[31, 31] })
    (base g5 g : Nat) (v : Value) (Q : List Nat) (hs : a.eval s = v) (hq : Que w base g5 g v Q) (hQ : Q.length ≤ 1000) (z ab c : Nat) (hx : a.eval x = .slice (some ⟨ab, 0, none⟩) 1 c) (hc : w.cell? ⟨ab, 0, none⟩ = some (.int .i64 (z : Int)))
    (h5 : g5 < w.heap.size) (hb : base ≤ w.heap.size)
    (hK : ∀ (g' off cp : Nat) (w' : World), Que w' base g5 g' (.slice (some ⟨g', off, none⟩) (Q.length + 1) cp) (Q ++ [z]) → w.grownBy w' (some g) → (g' = g ∨ g' = w.heap.size) → wpListIn F n Try.prog ops Q' rest (a.put o.dst (.slice (some ⟨g', off, none⟩) (Q.length + 1) cp)) w') :
    wpListIn F n Try.prog ops Q' (o :: rest) a w := by
  refine wpListIn_plain hg fun K hK' => ?_
  obtain ⟨g', v', w', hrun, r1, r2, r3⟩ := run_append_que w o.type base g5 g v Q hq hQ z ab c hc h5 hb
  obtain ⟨off, cp, cur, rfl, r4⟩ := id r1
  rw [List.length_append, List.length_singleton] at hrun r1
  unfold Oper.wpIn
  refine ⟨?_, ?_⟩
  · simp [Oper.about, hop, resolve, Target.leads, Sem.run_pure]
  · rw [Oper.semAt_plain F _ _ (by rw [hop]; intro c hc'; cases hc')]
    simp [execOp, hop, resolve, invoke, builtin, hs, hx, hrun, Result.andThen]
    exact hK' _ _ (hK g' off cp w' r1 r2 r3)

/-- 'waiting[1:]'. -/
theorem wpListIn_tail {F : Fence} {n : Nat} (w : World) {ops : Array Oper} {rest : List Oper} {o : Oper} {a : Act} {Q' : Exit → Act → World → Prop}
    (hg : o.guard = none) (s : Operand) (hop : o.op = Op.slice 31 s (some (.const (.int .i64 1))) none none) (g off N cp : Nat) (hs : a.eval s = .slice (some ⟨g, off, none⟩) (N + 1) cp) (hcp : N + 1 ≤ cp)
    (hK : ∀ off', (cp = 1 ∧ off' = off ∨ off' = off + 1) → wpListIn F n Try.prog ops Q' rest (a.put o.dst (.slice (some ⟨g, off', none⟩) N (cp - 1))) w) :
    wpListIn F n Try.prog ops Q' (o :: rest) a w := by
  refine wpListIn_plain hg fun K hK' => ?_
  unfold Oper.wpIn
  refine ⟨?_, ?_⟩
  · simp [Oper.about, hop]
  · rw [Oper.semAt_plain F _ _ (by rw [hop]; intro c hc'; cases hc')]
    have hc : a.eval (.const (.int .i64 1)) = .int .i64 1 := rfl
    by_cases h : cp = 1
    · have := hK' _ _ (hK off (.inl ⟨h, rfl⟩))
      have h0 : N = 0 := by omega
      subst h h0
      have e : (Instr.sliceAt 31 (.slice (some ⟨g, off, none⟩) 1 1) (some (.int .i64 1)) none none).run Try.prog w = .ok (.slice (some ⟨g, off, none⟩) 0 0) w := by go_simp
      simp [execOp, hop, hs, hc, e, Result.andThen]
      exact this
    · have := hK' _ _ (hK (off + 1) (.inr rfl))
      have h1 : ¬ cp = 1 := h
      have e : (Instr.sliceAt 31 (.slice (some ⟨g, off, none⟩) (N + 1) cp) (some (.int .i64 1)) none none).run Try.prog w = .ok (.slice (some ⟨g, off + 1, none⟩) N (cp - 1)) w := by
        go_simp
        intro hx
        omega
      simp [execOp, hop, hs, hc, e, Result.andThen]
      exact this
/-- What a walk holds in memory. -/
structure Mem (w0 : World) (base bh b5 b6 g5 g : Nat) (A : Option Addr) (n cap H : Nat) (ds : List (Int × Int)) (D : List Int) (Q : List Nat) (P : List Nat) (W : World) : Prop where
  house : Holds W bh #[.int .i64 H, .slice A n cap] 41
  dbox : Holds W b5 #[.slice (some ⟨g5, 0, none⟩) H H] 31
  dist : Holds W g5 (icells D).toArray 3
  qbox : ∃ v, Holds W b6 #[v] 31 ∧ Que W base g5 g v Q
  lo : base ≤ bh ∧ base ≤ b5 ∧ base ≤ b6 ∧ base ≤ g5
  ne : b5 ≠ b6
  pts : PtsAt W base A ds
  below : Below base w0 W
  far : ∀ b ∈ P, b < W.heap.size ∧ b ≠ g ∧ b ≠ g5 ∧ b ≠ b6

section
variable {w0 W W' : World} {base bh b5 b6 g5 g : Nat} {A : Option Addr} {n cap H : Nat} {ds : List (Int × Int)} {D : List Int} {Q P : List Nat}
theorem Mem.big (h : Mem w0 base bh b5 b6 g5 g A n cap H ds D Q P W) : base ≤ W.heap.size := Nat.le_trans h.lo.1 (Nat.le_of_lt h.house.lt)
theorem Mem.guard {b : Nat} (h : Mem w0 base bh b5 b6 g5 g A n cap H ds D Q P W) (hb : b < W.heap.size) (h1 : b ≠ g) (h2 : b ≠ g5) (h3 : b ≠ b6) : Mem w0 base bh b5 b6 g5 g A n cap H ds D Q (b :: P) W :=
  ⟨h.house, h.dbox, h.dist, h.qbox, h.lo, h.ne, h.pts, h.below, fun c hc => by
    rcases List.mem_cons.1 hc with rfl | hc
    · exact ⟨hb, h1, h2, h3⟩
    · exact h.far c hc⟩
theorem Mem.bare (h : Mem w0 base bh b5 b6 g5 g A n cap H ds D Q P W) : Mem w0 base bh b5 b6 g5 g A n cap H ds D Q [] W :=
  ⟨h.house, h.dbox, h.dist, h.qbox, h.lo, h.ne, h.pts, h.below, fun c hc => by cases hc⟩
theorem Mem.grown {row : Option Nat} (h : Mem w0 base bh b5 b6 g5 g A n cap H ds D Q P W) (hg : W.grownBy W' row) (hb : ∀ r, row = some r → base ≤ r) (hr : ∀ r, row = some r → bh ≠ r ∧ b5 ≠ r ∧ b6 ≠ r ∧ g5 ≠ r ∧ g ≠ r) :
    Mem w0 base bh b5 b6 g5 g A n cap H ds D Q P W' := by
  obtain ⟨v, hv, hq⟩ := h.qbox
  have hbl : Below base W W' := (Below.refl base W).grown hg h.big hb
  exact ⟨hold_kept h.house hg (fun r e => (hr r e).1), hold_kept h.dbox hg (fun r e => (hr r e).2.1), hold_kept h.dist hg (fun r e => (hr r e).2.2.2.1), ⟨v, hold_kept hv hg (fun r e => (hr r e).2.2.1), hq.kept hg (fun r e => (hr r e).2.2.2.2)⟩,
    h.lo, h.ne, h.pts.later hbl, h.below.trans hbl, fun b hb => ⟨Nat.lt_of_lt_of_le (h.far b hb).1 hg.size, (h.far b hb).2⟩⟩
theorem Mem.alloc (h : Mem w0 base bh b5 b6 g5 g A n cap H ds D Q P W) (o : Obj) : Mem w0 base bh b5 b6 g5 g A n cap H ds D Q P (W.alloc o) := h.grown (World.grownBy_alloc W o none) (fun r e => by cases e) (fun r e => by cases e)
theorem Mem.drew (h : Mem w0 base bh b5 b6 g5 g A n cap H ds D Q P W) : Mem w0 base bh b5 b6 g5 g A n cap H ds D Q P W.drew := h.grown (row := none) ⟨rfl, rfl, rfl, Nat.le_refl _, fun _ _ _ => rfl⟩ (fun r e => by cases e) (fun r e => by cases e)
theorem not_cells {r : Nat} {o : Obj} {cs : Array Value} {T : TypeId} {b : Nat} (ho : W.heap[r]? = some o) (hc : o.isCells = false) (h : Holds W b cs T) : b ≠ r := by
  rintro rfl
  unfold Holds at h
  rw [h] at ho
  cases ho
  cases hc
theorem Mem.calm {row : Option Nat} (h : Mem w0 base bh b5 b6 g5 g A n cap H ds D Q P W) (hg : W.grownBy W' row) (hr : ∀ r, row = some r → base ≤ r ∧ ∃ o : Obj, W.heap[r]? = some o ∧ o.isCells = false) : Mem w0 base bh b5 b6 g5 g A n cap H ds D Q P W' := by
  refine h.grown hg (fun r e => (hr r e).1) (fun r e => ?_)
  obtain ⟨_, o, ho, hc⟩ := hr r e
  obtain ⟨v, hv, hq⟩ := h.qbox
  obtain ⟨cur, hcur⟩ := hq.hold
  exact ⟨not_cells ho hc h.house, not_cells ho hc h.dbox, not_cells ho hc hv, not_cells ho hc h.dist, not_cells ho hc hcur⟩
theorem Mem.ne_g (h : Mem w0 base bh b5 b6 g5 g A n cap H ds D Q P W) : g ≠ g5 := by
  obtain ⟨v, hv, off, cp, cur, h1, h2, h3, h4⟩ := h.qbox
  exact h3
theorem types : 41 ≠ 31 ∧ 41 ≠ 3 ∧ 31 ≠ 3 ∧ 3 ≠ 83 ∧ 31 ≠ 83 := by decide
/-- A distance is stored. -/
theorem Mem.setD (h : Mem w0 base bh b5 b6 g5 g A n cap H ds D Q P W) (x : Nat) (v : Int) : Mem w0 base bh b5 b6 g5 g A n cap H ds (D.set x v) Q P (W.setCell ⟨g5, x, none⟩ (.int .i64 v)) := by
  obtain ⟨u, hu, hq⟩ := id h.qbox
  obtain ⟨cur, hcur⟩ := hq.hold
  have hg := grown_set W g5 x (.int .i64 v)
  have t := types
  have hbl : Below base W (W.setCell ⟨g5, x, none⟩ (.int .i64 v)) := (Below.refl base W).setCell (p := ⟨g5, x, none⟩) h.lo.2.2.2 _
  refine ⟨hold_kept h.house hg (fun r e => ?_), hold_kept h.dbox hg (fun r e => ?_), ?_, ⟨u, hold_kept hu hg (fun r e => ?_), hq.kept hg (fun r e => ?_)⟩, h.lo, h.ne, h.pts.later hbl, h.below.trans hbl, fun b hb => ⟨Nat.lt_of_lt_of_le (h.far b hb).1 hg.size, (h.far b hb).2⟩⟩
  · cases e; exact hold_ne h.house h.dist t.2.1
  · cases e; exact hold_ne h.dbox h.dist t.2.2.1
  · have := set_own h.dist x (.int .i64 v)
    unfold Holds
    rw [this]
    simp [icells, List.map_set]
  · cases e; exact hold_ne hu h.dist t.2.2.1
  · cases e; exact h.ne_g
/-- The queue is put into its box. -/
theorem Mem.setQ {g' : Nat} {v' : Value} {Q' : List Nat} (h : Mem w0 base bh b5 b6 g5 g A n cap H ds D Q P W) (hg' : ∀ b ∈ P, b ≠ g') (hq : Que W base g5 g' v' Q') : Mem w0 base bh b5 b6 g5 g' A n cap H ds D Q' P (W.setCell ⟨b6, 0, none⟩ v') := by
  obtain ⟨u, hu, _⟩ := id h.qbox
  obtain ⟨cur, hcur⟩ := hq.hold
  have hg := grown_set W b6 0 v'
  have t := types
  have hbl : Below base W (W.setCell ⟨b6, 0, none⟩ v') := (Below.refl base W).setCell (p := ⟨b6, 0, none⟩) h.lo.2.2.1 _
  refine ⟨hold_kept h.house hg (fun r e => ?_), hold_kept h.dbox hg (fun r e => ?_), hold_kept h.dist hg (fun r e => ?_), ⟨v', ?_, hq.kept hg (fun r e => ?_)⟩, h.lo, h.ne, h.pts.later hbl, h.below.trans hbl, fun b hb => ⟨Nat.lt_of_lt_of_le (h.far b hb).1 hg.size, hg' b hb, (h.far b hb).2.2⟩⟩
  · cases e; exact hold_ne h.house hu t.1
  · cases e; exact h.ne
  · cases e; exact (hold_ne hu h.dist t.2.2.1).symm
  · exact set_own hu 0 v'
  · cases e; exact (hold_ne hu hcur t.2.2.1).symm
/-- The queue's row has grown, and the box with it. -/
theorem Mem.push {g' : Nat} {v' : Value} {Q' : List Nat} {w1 : World} (h : Mem w0 base bh b5 b6 g5 g A n cap H ds D Q P W) (hgr : W.grownBy w1 (some g)) (hne : g' = g ∨ g' = W.heap.size) (hq : Que w1 base g5 g' v' Q') :
    (∃ v, Holds w1 b6 #[v] 31) ∧ Mem w0 base bh b5 b6 g5 g' A n cap H ds D Q' P (w1.setCell ⟨b6, 0, none⟩ v') := by
  obtain ⟨u, hu, hq0⟩ := id h.qbox
  obtain ⟨cur, hcur⟩ := hq0.hold
  have t := types
  have hbl : Below base W w1 := (Below.refl base W).grown hgr h.big (fun r e => by cases e; exact hq0.base)
  have hu1 : Holds w1 b6 #[u] 31 := hold_kept hu hgr (fun r e => by cases e; exact hold_ne hu hcur t.2.2.1)
  have hf : ∀ b ∈ P, b ≠ g' := fun b hb => by
    have := h.far b hb
    rcases hne with rfl | rfl
    · exact this.2.1
    · omega
  refine ⟨⟨u, hu1⟩, ?_⟩
  have hg := grown_set w1 b6 0 v'
  have hbl2 : Below base w1 (w1.setCell ⟨b6, 0, none⟩ v') := (Below.refl base w1).setCell (p := ⟨b6, 0, none⟩) h.lo.2.2.1 _
  have k1 : Holds w1 bh #[.int .i64 H, .slice A n cap] 41 := hold_kept h.house hgr (fun r e => by cases e; exact hold_ne h.house hcur t.2.1)
  have k2 : Holds w1 b5 #[.slice (some ⟨g5, 0, none⟩) H H] 31 := hold_kept h.dbox hgr (fun r e => by cases e; exact hold_ne h.dbox hcur t.2.2.1)
  have k3 : Holds w1 g5 (icells D).toArray 3 := hold_kept h.dist hgr (fun r e => by cases e; exact h.ne_g.symm)
  obtain ⟨cur', hcur'⟩ := hq.hold
  exact ⟨hold_kept k1 hg (fun r e => by cases e; exact hold_ne k1 hu1 t.1), hold_kept k2 hg (fun r e => by cases e; exact h.ne), hold_kept k3 hg (fun r e => by cases e; exact (hold_ne hu1 k3 t.2.2.1).symm),
    ⟨v', set_own hu1 0 v', hq.kept hg (fun r e => by cases e; exact (hold_ne hu1 hcur' t.2.2.1).symm)⟩, h.lo, h.ne, (h.pts.later hbl).later hbl2, (h.below.trans hbl).trans hbl2,
    fun b hb => ⟨Nat.lt_of_lt_of_le (Nat.lt_of_lt_of_le (h.far b hb).1 hgr.size) hg.size, hf b hb, (h.far b hb).2.2⟩⟩
end

/-- What the steps of a round keep. -/
structure Keep (base b : Nat) (W W' : World) : Prop where
  others : KeepsOthers W W'
  kp : Kp base b W W'
section
variable {base b : Nat} {W W' : World}
theorem Keep.refl (base b : Nat) (W : World) : Keep base b W W := ⟨KeepsOthers.refl W, Kp.refl _ _ _⟩
theorem Keep.drew (h : Keep base b W W') : Keep base b W W'.drew := ⟨h.others.trans (KeepsOthers.drew W'), h.kp.1.drew, h.kp.2.1, h.kp.2.2⟩
theorem Keep.alloc (h : Keep base b W W') (hb : base ≤ W'.heap.size) (o : Obj) : Keep base b W (W'.alloc o) :=
  ⟨h.others.trans (KeepsOthers.alloc W' o), h.kp.1.alloc hb o, h.kp.2.1.alloc o, h.kp.2.2.trans (KeepsB.grown (World.grownBy_alloc W' o none) (fun r _ _ _ e => by cases e))⟩
theorem Keep.grown {g : Nat} {cs : Array Value} {T : TypeId} {W1 : World} (h : Keep base b W W') (hg : W'.grownBy W1 (some g)) (hh : Holds W' g cs T) (hT : T ≠ 83) (hb : base ≤ W'.heap.size) (hgb : base ≤ g) (hne : g ≠ b) : Keep base b W W1 := by
  refine ⟨h.others.trans (KeepsOthers.of_grownBy hg (fun j o ej hj => ?_)), h.kp.1.grown hg hb (fun k e => by cases e; exact hgb), h.kp.2.1.trans (KeepsT.grown hg (fun r cs' fr e h2 => ?_)), h.kp.2.2.trans (KeepsB.grown hg (fun r _ _ _ e _ => by cases e; exact hne))⟩
  · cases ej
    unfold Holds at hh
    rw [hh] at hj
    cases hj
    rfl
  · cases e
    unfold Holds at hh
    rw [hh] at h2
    cases h2
    exact hT rfl
theorem Keep.set {g k : Nat} {cs : Array Value} {T : TypeId} (h : Keep base b W W') (hh : Holds W' g cs T) (hT : T ≠ 83) (hgb : base ≤ g) (hne : g ≠ b) (v : Value) : Keep base b W (W'.setCell ⟨g, k, none⟩ v) :=
  h.grown (grown_set W' g k v) hh hT (Nat.le_trans hgb (Nat.le_of_lt hh.lt)) hgb hne
end
end Go.Proofs.Ytcfoleiooohbhaa.HouMem
