/-
  A row of the call's own whose elements are slices of two numbers, each in a block of its own: what stays, what an append leaves; the law's own helpers on such rows: they compare, they mark, they look whether the marks are held.
-/
import Derived.Test.YtmmmnnncbpdinaaLawInt
import Derived.Test.YtmmmnnncbpdinaaGround
import Derived.OwnWalk
namespace Go.Proofs.Ytmmmnnncbpdinaa.Nest
open Go.RowKit PointOk Blk Go.Lib Own LawInt

theorem infoS : (Try.prog.info? 61).map (fun i => (i.zero, i.size, i.bytes)) = some (some (.slice none 0 0), 1, 24) := by kernel_rfl
def sv (g : Nat) : Value := .slice (some ⟨g, 0, none⟩) 2 2
def svs (gs : List Nat) : List Value := gs.map sv
theorem svs_at {gs : List Nat} {j : Nat} (h : j < gs.length) : (svs gs)[j]? = some (sv gs[j]) := by simp [svs, h]
theorem svs_snoc (gs : List Nat) (g : Nat) : svs (gs ++ [g]) = svs gs ++ [sv g] := by simp [svs]
/-- The rows number j hold these pairs. -/
def Inner (W : World) (lo hi : Nat) (gs : List Nat) (L : List (Int × Int)) : Prop :=
  gs.length = L.length ∧ gs.Pairwise (· < ·) ∧ ∀ j (h : j < gs.length) (h2 : j < L.length), lo ≤ gs[j] ∧ gs[j] < hi ∧ Holds W gs[j] #[.int .i64 L[j].1, .int .i64 L[j].2] 3
def Nest (W : World) (lo hi : Nat) (v : Value) (L : List (Int × Int)) : Prop :=
  ∃ gs, Inner W lo hi gs L ∧ W.ownsRow lo 61 1 v L.length (svs gs) ∧ ∀ k, v.ownBlock = some k → k < hi
theorem row_keep {W W' : World} {b e sz n B : Nat} {v : Value} {xs : List Value} (h : W.ownsRow b e sz v n xs) (hv : ∀ k, v.ownBlock = some k → k < B) (hb : ∀ k, k < B → W'.heap[k]? = W.heap[k]?) : W'.ownsRow b e sz v n xs := by
  refine ⟨h.1, ?_⟩
  rcases h.2 with h' | ⟨g, cap, cur, rfl, h2, h3, h4⟩
  · exact .inl h'
  · exact .inr ⟨g, cap, cur, rfl, h2, (hb g (hv g rfl)).trans h3, h4⟩
theorem Nest.keep {W W' : World} {lo hi B : Nat} {v : Value} {L : List (Int × Int)} (h : Nest W lo hi v L) (hB : hi ≤ B) (hb : ∀ k, k < B → W'.heap[k]? = W.heap[k]?) : Nest W' lo hi v L := by
  obtain ⟨gs, ⟨h1, h2, h3⟩, h4, h5⟩ := h
  refine ⟨gs, ⟨h1, h2, fun j ha hb2 => ?_⟩, row_keep h4 h5 (fun k hk => hb k (by omega)), h5⟩
  obtain ⟨x, y, z⟩ := h3 j ha hb2
  exact ⟨x, y, (hb _ (by omega)).trans z⟩
theorem Nest.below {W W' : World} {lo hi B : Nat} {v : Value} {L : List (Int × Int)} (h : Nest W lo hi v L) (hB : hi ≤ B) (hb : Below B W W') : Nest W' lo hi v L := h.keep hB (fun k hk => hb.block k hk)
theorem Nest.shape {W : World} {lo hi : Nat} {v : Value} {L : List (Int × Int)} (h : Nest W lo hi v L) : ∃ A c, v = .slice A L.length c := by
  obtain ⟨gs, _, h4, _⟩ := h
  exact own_shape h4
theorem Nest.low {W : World} {lo lo' hi : Nat} {v : Value} {L : List (Int × Int)} (h : Nest W lo hi v L) (hl : lo' ≤ lo) : Nest W lo' hi v L := by
  obtain ⟨gs, ⟨h1, h2, h3⟩, h4, h5⟩ := h
  exact ⟨gs, ⟨h1, h2, fun j ha hb => by obtain ⟨x, y, z⟩ := h3 j ha hb; exact ⟨Nat.le_trans hl x, y, z⟩⟩, own_base h4 hl, h5⟩
theorem Nest.high {W : World} {lo hi hi' : Nat} {v : Value} {L : List (Int × Int)} (h : Nest W lo hi v L) (hl : hi ≤ hi') : Nest W lo hi' v L := by
  obtain ⟨gs, ⟨h1, h2, h3⟩, h4, h5⟩ := h
  exact ⟨gs, ⟨h1, h2, fun j ha hb => by obtain ⟨x, y, z⟩ := h3 j ha hb; exact ⟨x, by omega, z⟩⟩, h4, fun k hk => by have := h5 k hk; omega⟩
theorem Nest.nil (W : World) (lo hi : Nat) : Nest W lo hi (.slice none 0 0) [] := ⟨[], ⟨rfl, List.Pairwise.nil, fun j h _ => by simp at h⟩, World.ownsRow_nil _ _ _ _, fun k hk => by simp [Value.ownBlock] at hk⟩
theorem Nest.empty (w : World) : Nest (w.alloc (.cells #[] 61)) w.heap.size (w.alloc (.cells #[] 61)).heap.size (.slice (some ⟨w.heap.size, 0, none⟩) 0 0) [] :=
  ⟨[], ⟨rfl, List.Pairwise.nil, fun j h _ => by simp at h⟩, own_empty w 61 1, fun k hk => by simp [Value.ownBlock] at hk; subst hk; simp⟩
/-- A row of two numbers in a block, as a row of the own. -/
theorem row_of {W : World} {g lo : Nat} {a b : Int} (h : Holds W g #[.int .i64 a, .int .i64 b] 3) (hl : lo ≤ g) : W.ownsRow lo 3 1 (sv g) 2 (icells [a, b]) :=
  ⟨by simp [icells], .inr ⟨g, 2, _, rfl, hl, h, Nat.le_refl _, by decide, by simp, by simp [icells]⟩⟩

set_option maxHeartbeats 1600000 in
/-- One more pair. -/
theorem append_pair (w : World) {ops : Array Oper} {rest : List Oper} {o : Oper} {a : Act} {Q : Exit → Act → World → Prop} (hgd : o.guard = none) (s x : Operand)
    (ho : o.op = .call { callee := .builtin .append, args := #[s, x], argTypes := #[38, 38] })
    (B : Nat) (v : Value) (L : List (Int × Int)) (hs : a.eval s = v) (hN : Nest w B w.heap.size v L) (p q : Int)
    (hx : a.eval x = .slice (some ⟨w.heap.size + 1, 0, none⟩) 1 1) (hL : L.length ≤ 1048575) (hB : B ≤ w.heap.size)
    (h : ∀ v' w', Nest w' B w'.heap.size v' (L ++ [(p, q)]) → w.grownBy w' v.ownBlock → wpList Try.prog ops Q rest (a.put o.dst v') w') :
    wpList Try.prog ops Q (o :: rest) a ((w.alloc (Obj.cells #[.int .i64 p, .int .i64 q] 3)).alloc (Obj.cells #[sv w.heap.size] 61)) := by
  obtain ⟨i0, hi, hz0, hz1, hz2⟩ := info_parts infoS
  obtain ⟨gs, ⟨h1, h2, h3⟩, h4, h5⟩ := hN
  have hb1 := below1 w (Obj.cells #[.int .i64 p, .int .i64 q] 3)
  have hb2 := below1 (w.alloc (Obj.cells #[.int .i64 p, .int .i64 q] 3)) (Obj.cells #[sv w.heap.size] 61)
  have H1 := Holds.new w #[.int .i64 p, .int .i64 q] 3
  refine wpList_append_own _ hgd s x 38 ho B 61 i0 (.slice none 0 0) 1 24 Try.underlying38 hi hz0 hz1 hz2 rfl (by decide) v L.length (svs gs) hs ((h4.alloc _).alloc _) ⟨w.heap.size + 1, 0, none⟩ 1 1 [sv w.heap.size] hx rfl ?c1 ?c2 ?c3 ?c4 ?c5 ?_
  case c1 => (intro j u hj; match j, hj with | 0, hj => (simp at hj; subst hj; simp [Addr.add]))
  case c2 => (intro u hu; simp at hu; subst hu; rfl)
  case c3 => (unfold maxLen; omega)
  case c4 => omega
  case c5 => (simp; omega)
  intro v1 wa ho1 hg1 hv1
  have hg : w.grownBy wa v.ownBlock := grown_trans (grown_trans (grown_of_below hb1 _) (grown_of_below hb2 _)) hg1
  refine h v1 wa ⟨gs ++ [w.heap.size], ⟨by simp [h1], ?_, ?_⟩, ?_, fun k hk => (ho1.lt k hk).2⟩ hg
  · rw [List.pairwise_append]
    refine ⟨h2, by simp, fun y hy z hz => ?_⟩
    simp at hz
    subst hz
    obtain ⟨j, hj, rfl⟩ := List.mem_iff_getElem.1 hy
    exact (h3 j hj (by omega)).2.1
  · intro j ha hb
    have hne : ∀ g, g < w.heap.size + 1 → Holds ((w.alloc (Obj.cells #[.int .i64 p, .int .i64 q] 3)).alloc (Obj.cells #[sv w.heap.size] 61)) g #[.int .i64 (L ++ [(p, q)])[j].1, .int .i64 (L ++ [(p, q)])[j].2] 3 → Holds wa g #[.int .i64 (L ++ [(p, q)])[j].1, .int .i64 (L ++ [(p, q)])[j].2] 3 := by
      intro g hgl hH
      refine (hg1.block g hH.lt (fun e => ?_)).trans hH
      rcases h4.2 with ⟨rfl, _⟩ | ⟨g', cap', cur, rfl, _, hbk, _⟩
      · simp [Value.ownBlock] at e
      · have e1 : g = g' := by simpa [Value.ownBlock] using e
        subst e1
        have hlt := (Array.getElem?_eq_some_iff.1 hbk).1
        have x1 : (w.alloc (Obj.cells #[.int .i64 p, .int .i64 q] 3)).heap[g]? = w.heap[g]? := hb1.block g hlt
        have x2 := (hb2.block g (by simp; omega)).trans (x1.trans hbk)
        have x3 := hH.symm.trans x2
        injection x3 with x3
        injection x3 with _ x4
        exact absurd x4 (by decide)
    by_cases hj : j < L.length
    · have e1 : (gs ++ [w.heap.size])[j] = gs[j] := List.getElem_append_left (by omega)
      have e2 : (L ++ [(p, q)])[j] = L[j] := List.getElem_append_left hj
      obtain ⟨x, y, z⟩ := h3 j (by omega) hj
      rw [e1]
      refine ⟨x, Nat.lt_of_lt_of_le y hg.size, hne _ (by omega) ?_⟩
      rw [e2]
      exact (z.later hb1).later hb2
    · have hj2 : j = L.length := by simp at hb; omega
      subst hj2
      have e1 : (gs ++ [w.heap.size])[L.length] = w.heap.size := by
        rw [List.getElem_append_right (by omega)]; simp [h1]
      have e2 : (L ++ [(p, q)])[L.length] = (p, q) := by
        rw [List.getElem_append_right (by omega)]; simp
      rw [e1]
      have hsz := hg1.size
      simp at hsz
      refine ⟨hB, by omega, hne _ (by omega) ?_⟩
      rw [e2]
      exact H1.later hb2
  · rw [svs_snoc, List.length_append]
    exact ho1

theorem Inner.at_ {W : World} {lo hi : Nat} {gs : List Nat} {L : List (Int × Int)} (h : Inner W lo hi gs L) {j : Nat} (hj : j < L.length) : ∃ g, gs[j]? = some g ∧ lo ≤ g ∧ g < hi ∧ Holds W g #[.int .i64 L[j].1, .int .i64 L[j].2] 3 := by
  have h1 : j < gs.length := by rw [h.1]; exact hj
  obtain ⟨x, y, z⟩ := h.2.2 j h1 hj
  exact ⟨gs[j], List.getElem?_eq_getElem h1, x, y, z⟩
/-- Slice number j of the row, and what it holds. -/
theorem Nest.get {W : World} {lo hi n cap : Nat} {A : Option Addr} {L : List (Int × Int)} (h : Nest W lo hi (.slice A n cap) L) (hn : L.length = n) {j : Nat} (hj : j < L.length) :
    ∃ g0 g, A = some ⟨g0, 0, none⟩ ∧ W.cell? ⟨g0, j, none⟩ = some (sv g) ∧ lo ≤ g ∧ g < hi ∧ W.ownsRow lo 3 1 (sv g) 2 (icells [L[j].1, L[j].2]) := by
  obtain ⟨gs, hI, h4, h5⟩ := h
  obtain ⟨g, e, x, y, z⟩ := hI.at_ hj
  rw [hn] at h4
  obtain ⟨g0, hA, _, _, hc, _⟩ := own_cell h4 (j := j) (by omega) (x := sv g) (by unfold svs; rw [List.getElem?_map, e]; rfl)
  exact ⟨g0, g, hA, hc, x, y, row_of z x⟩

/-- A pair is written over. -/
theorem Nest.put {W W' : World} {lo hi g j : Nat} {v : Value} {L : List (Int × Int)} (h : Nest W lo hi v L) (hj : j < L.length) (hg : ∃ gs, Inner W lo hi gs L ∧ W.ownsRow lo 61 1 v L.length (svs gs) ∧ (∀ k, v.ownBlock = some k → k < hi) ∧ gs[j]? = some g)
    (hgr : W.grownBy W' (some g)) (p q : Int) (hH : Holds W' g #[.int .i64 p, .int .i64 q] 3) : Nest W' lo hi v (L.set j (p, q)) := by
  obtain ⟨gs, ⟨h1, h2, h3⟩, h4, h5, h6⟩ := hg
  obtain ⟨hjl, h7⟩ := List.getElem?_eq_some_iff.1 h6
  have hgH := (h3 j hjl hj).2.2
  rw [h7] at hgH
  refine ⟨gs, ⟨by simp [h1], h2, fun i ha hb => ?_⟩, ?_, h5⟩
  · have hb' : i < L.length := by simpa using hb
    obtain ⟨x, y, z⟩ := h3 i ha hb'
    refine ⟨x, y, ?_⟩
    by_cases e : i = j
    · subst e
      rw [h7, List.getElem_set_self]
      exact hH
    · rw [List.getElem_set_ne (fun x => e x.symm)]
      refine (hgr.block _ z.lt (fun e2 => ?_)).trans z
      injection e2 with e2
      rw [← h7] at e2
      rcases Nat.lt_trichotomy i j with c | c | c
      · have := List.pairwise_iff_getElem.1 h2 i j ha hjl c; omega
      · exact e c
      · have := List.pairwise_iff_getElem.1 h2 j i hjl ha c; omega
  · rw [List.length_set]
    refine h4.kept hgr ?_
    rcases h4.2 with ⟨rfl, _⟩ | ⟨g', cap', cur, rfl, _, hbk, _⟩
    · exact .inl rfl
    · refine .inr (fun e2 => ?_)
      have e3 : g' = g := by simpa [Value.ownBlock] using e2
      subst e3
      have x3 := hbk.symm.trans hgH
      injection x3 with x3
      injection x3 with _ x4
      exact absurd x4 (by decide)
theorem Nest.get' {W : World} {lo hi n cap : Nat} {A : Option Addr} {L : List (Int × Int)} (h : Nest W lo hi (.slice A n cap) L) (hn : L.length = n) {j : Nat} (hj : j < L.length) :
    ∃ g0 g, A = some ⟨g0, 0, none⟩ ∧ W.cell? ⟨g0, j, none⟩ = some (sv g) ∧ lo ≤ g ∧ g < hi ∧ W.ownsRow lo 3 1 (sv g) 2 (icells [L[j].1, L[j].2]) ∧ ∃ gs, Inner W lo hi gs L ∧ W.ownsRow lo 61 1 (.slice A n cap) L.length (svs gs) ∧ (∀ k, (Value.slice A n cap).ownBlock = some k → k < hi) ∧ gs[j]? = some g := by
  obtain ⟨gs, hI, h4, h5⟩ := h
  obtain ⟨g, e, x, y, z⟩ := hI.at_ hj
  have h4' := h4
  rw [hn] at h4'
  obtain ⟨g0, hA, _, _, hc, _⟩ := own_cell h4' (j := j) (by omega) (x := sv g) (by unfold svs; rw [List.getElem?_map, e]; rfl)
  exact ⟨g0, g, hA, hc, x, y, row_of z x, gs, hI, h4, h5, e⟩
/-- Pairs came back in new memory. -/
def GivesN (w : World) (L : List (Int × Int)) (en : Ending) (w' : World) : Prop :=
  ∃ A c, en = .returned (.slice A L.length c) ∧ Nest w' w.heap.size w'.heap.size (.slice A L.length c) L ∧ Below w.heap.size w w'
end Go.Proofs.Ytmmmnnncbpdinaa.Nest
