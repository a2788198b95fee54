/-
  A row of pairs of the call's own, and a second row whose elements are some of the first one's: what stays, what an append leaves.
-/
import Derived.Test.YtmmmnnncbpdinaaNest
import Derived.Test.YtmmmnnncbpdinaaGrdMath
import Derived.Maps.AppendAt
namespace Go.Proofs.Ytmmmnnncbpdinaa.GrdRow
open Go.RowKit PointOk Blk Go.Lib Own Nest GrdMath PointMath RoomMath DiagMath EdgeMath DgsMath

theorem edgeRow_in (f : Nat → Bool) (i : Nat) : ∀ k, ∀ x, x ∈ edgeRow f i k → ∃ b : Nat, x = ((i : Int), (b : Int)) ∧ i < b ∧ b < k
  | 0, x, h => by cases h
  | k + 1, x, h => by
    unfold edgeRow at h
    split at h
    · rename_i hc
      rw [Bool.and_eq_true, decide_eq_true_eq] at hc
      rcases List.mem_append.1 h with h | h
      · obtain ⟨b, e, h1, h2⟩ := edgeRow_in f i k x h
        exact ⟨b, e, h1, by omega⟩
      · simp at h
        exact ⟨k, h, hc.1, by omega⟩
    · obtain ⟨b, e, h1, h2⟩ := edgeRow_in f i k x h
      exact ⟨b, e, h1, by omega⟩
theorem edgesTo_in (F : Nat → Nat → Bool) (m : Nat) : ∀ i, ∀ x, x ∈ edgesTo F m i → ∃ a b : Nat, x = ((a : Int), (b : Int)) ∧ a < b ∧ b < m ∧ a < i
  | 0, x, h => by cases h
  | i + 1, x, h => by
    unfold edgesTo at h
    rcases List.mem_append.1 h with h | h
    · obtain ⟨a, b, e, h1, h2, h3⟩ := edgesTo_in F m i x h
      exact ⟨a, b, e, h1, h2, by omega⟩
    · obtain ⟨b, e, h1, h2⟩ := edgeRow_in (F i) i m x h
      exact ⟨i, b, e, h1, h2, by omega⟩
theorem dgs_in {ps : List (Int × Int)} {x : Int × Int} (h : x ∈ dgsL ps) : ∃ a b : Nat, x = ((a : Int), (b : Int)) ∧ a < b ∧ b < ps.length ∧ roomB ps = true := by
  unfold dgsL at h
  split at h
  · rename_i hr
    obtain ⟨a, b, e, h1, h2, _⟩ := edgesTo_in _ _ _ x h
    exact ⟨a, b, e, h1, h2, hr⟩
  · cases h
theorem gTo_in (c : Int × Int → Int × Int → Bool) {l : List (Int × Int)} {k : Nat} (hk : k ≤ l.length) {x : Int × Int} (h : x ∈ gTo c l k) : x ∈ l := List.mem_of_mem_take (gTo_mem c l k hk x h)

/-- A row of pairs, and a second one whose elements are some of the first k of it. -/
def Two (W : World) (lo hi : Nat) (Ad : Option Addr) (m cd : Nat) (l : List (Int × Int)) (k : Nat) (v : Value) (L : List (Int × Int)) : Prop :=
  ∃ gs gs', l.length = m ∧ hi ≤ W.heap.size ∧ Inner W lo hi gs l ∧ W.ownsRow lo 61 1 (.slice Ad m cd) m (svs gs) ∧ Inner W lo hi gs' L ∧ W.ownsRow lo 61 1 v L.length (svs gs') ∧
    (∀ y ∈ gs', y ∈ gs.take k) ∧ ∀ a, (Value.slice Ad m cd).ownBlock = some a → v.ownBlock ≠ some a
theorem Inner.later {W W' : World} {lo hi : Nat} {gs : List Nat} {L : List (Int × Int)} (h : Inner W lo hi gs L) (hb : Below W.heap.size W W') : Inner W' lo hi gs L :=
  ⟨h.1, h.2.1, fun j h1 h2 => by obtain ⟨x, y, z⟩ := h.2.2 j h1 h2; exact ⟨x, y, z.later hb⟩⟩
theorem Two.later {W W' : World} {lo hi : Nat} {Ad : Option Addr} {m cd : Nat} {l : List (Int × Int)} {k : Nat} {v : Value} {L : List (Int × Int)} (h : Two W lo hi Ad m cd l k v L) (hb : Below W.heap.size W W') : Two W' lo hi Ad m cd l k v L := by
  obtain ⟨gs, gs', h0, h1, h2, h3, h4, h5, h6, h7⟩ := h
  exact ⟨gs, gs', h0, Nat.le_trans h1 hb.size, Inner.later h2 hb, own_below h3 hb, Inner.later h4 hb, own_below h5 hb, h6, h7⟩
theorem Two.next {W : World} {lo hi : Nat} {Ad : Option Addr} {m cd : Nat} {l : List (Int × Int)} {k : Nat} {v : Value} {L : List (Int × Int)} (h : Two W lo hi Ad m cd l k v L) : Two W lo hi Ad m cd l (k + 1) v L := by
  obtain ⟨gs, gs', h0, h1, h2, h3, h4, h5, h6, h7⟩ := h
  refine ⟨gs, gs', h0, h1, h2, h3, h4, h5, fun y hy => ?_, h7⟩
  exact List.mem_of_mem_take (i := k) (by rw [List.take_take, Nat.min_eq_left (by omega)]; exact h6 y hy)
theorem Two.shape {W : World} {lo hi : Nat} {Ad : Option Addr} {m cd : Nat} {l : List (Int × Int)} {k : Nat} {v : Value} {L : List (Int × Int)} (h : Two W lo hi Ad m cd l k v L) : ∃ A c, v = .slice A L.length c := by
  obtain ⟨gs, gs', h0, h1, h2, h3, h4, h5, h6, h7⟩ := h
  exact own_shape h5
theorem Two.low {W : World} {lo hi : Nat} {Ad : Option Addr} {m cd : Nat} {l : List (Int × Int)} {k : Nat} {v : Value} {L : List (Int × Int)} (h : Two W lo hi Ad m cd l k v L) {g : Nat} (hg : v.ownBlock = some g) : lo ≤ g := by
  obtain ⟨gs, gs', h0, h1, h2, h3, h4, h5, h6, h7⟩ := h
  exact (h5.lt g hg).1
theorem Two.start {W : World} {lo hi : Nat} {Ad : Option Addr} {m cd : Nat} {l : List (Int × Int)} {v : Value} (hN : Nest W lo hi (.slice Ad m cd) l) (hl : l.length = m) (hh : hi ≤ W.heap.size)
    (hv : W.ownsRow lo 61 1 v 0 []) (hne : ∀ a, (Value.slice Ad m cd).ownBlock = some a → v.ownBlock ≠ some a) : Two W lo hi Ad m cd l 0 v [] := by
  obtain ⟨gs, hI, h4, h5⟩ := hN
  rw [hl] at h4
  exact ⟨gs, [], hl, hh, hI, h4, ⟨rfl, List.Pairwise.nil, fun j h _ => by simp at h⟩, hv, fun y hy => (by cases hy), hne⟩
theorem Two.nest {W : World} {lo hi : Nat} {Ad : Option Addr} {m cd : Nat} {l : List (Int × Int)} {k : Nat} {v : Value} {L : List (Int × Int)} (h : Two W lo hi Ad m cd l k v L) : Nest W lo W.heap.size v L := by
  obtain ⟨gs, gs', h0, h1, h2, h3, h4, h5, h6, h7⟩ := h
  exact ⟨gs', ⟨h4.1, h4.2.1, fun j a b => by obtain ⟨x, y, z⟩ := h4.2.2 j a b; exact ⟨x, by omega, z⟩⟩, h5, fun g hg => (h5.lt g hg).2⟩
/-- Pair number j of the first row. -/
theorem Two.get {W : World} {lo hi : Nat} {Ad : Option Addr} {m cd : Nat} {l : List (Int × Int)} {k : Nat} {v : Value} {L : List (Int × Int)} (h : Two W lo hi Ad m cd l k v L) {j : Nat} (hj : j < m) :
    ∃ g0 g, Ad = some ⟨g0, 0, none⟩ ∧ g0 < W.heap.size ∧ W.cell? ⟨g0, j, none⟩ = some (sv g) ∧ g < W.heap.size ∧ Holds W g #[.int .i64 (l.getD j (0, 0)).1, .int .i64 (l.getD j (0, 0)).2] 3 := by
  obtain ⟨gs, gs', h0, h1, h2, h3, h4, h5, h6, h7⟩ := h
  obtain ⟨g, e, x, y, z⟩ := h2.at_ (j := j) (by omega)
  obtain ⟨g0, hA, _, hlt, hc, _⟩ := own_cell h3 hj (x := sv g) (by unfold svs; rw [List.getElem?_map, e]; rfl)
  refine ⟨g0, g, hA, hlt, hc, by omega, ?_⟩
  have e2 : l.getD j (0, 0) = l[j]'(by omega) := by simp [List.getD, List.getElem?_eq_getElem (show j < l.length by omega)]
  rw [e2]
  exact z
/-- Pair number j of the second row. -/
theorem Two.getO {W : World} {lo hi : Nat} {Ad : Option Addr} {m cd : Nat} {l : List (Int × Int)} {k q c : Nat} {A : Option Addr} {L : List (Int × Int)} (h : Two W lo hi Ad m cd l k (.slice A q c) L) (hq : L.length = q) {j : Nat} (hj : j < q) :
    ∃ g0 g, A = some ⟨g0, 0, none⟩ ∧ g0 < W.heap.size ∧ W.cell? ⟨g0, j, none⟩ = some (sv g) ∧ g < W.heap.size ∧ Holds W g #[.int .i64 (L.getD j (0, 0)).1, .int .i64 (L.getD j (0, 0)).2] 3 := by
  obtain ⟨gs, gs', h0, h1, h2, h3, h4, h5, h6, h7⟩ := h
  obtain ⟨g, e, x, y, z⟩ := h4.at_ (j := j) (by omega)
  rw [hq] at h5
  obtain ⟨g0, hA, _, hlt, hc, _⟩ := own_cell h5 hj (x := sv g) (by unfold svs; rw [List.getElem?_map, e]; rfl)
  refine ⟨g0, g, hA, hlt, hc, by omega, ?_⟩
  have e2 : L.getD j (0, 0) = L[j]'(by omega) := by simp [List.getD, List.getElem?_eq_getElem (show j < L.length by omega)]
  rw [e2]
  exact z

/-- A cell that holds a slice of two numbers; the two numbers. -/
def Cell (W : World) (g j b : Nat) : Prop := W.cell? ⟨g, j, none⟩ = some (.slice (some ⟨b, 0, none⟩) 2 2) ∧ g < W.heap.size
theorem Cell.later {W W' : World} {g j b : Nat} (h : Cell W g j b) (hb : Below W.heap.size W W') : Cell W' g j b := ⟨(hb.cell h.2).trans h.1, Nat.lt_of_lt_of_le h.2 hb.size⟩
def Pair (W : World) (g : Nat) (x y : Int) : Prop := W.cell? ⟨g, 0, none⟩ = some (.int .i64 x) ∧ W.cell? ⟨g, 1, none⟩ = some (.int .i64 y) ∧ g < W.heap.size
theorem Pair.later {W W' : World} {g : Nat} {x y : Int} (h : Pair W g x y) (hb : Below W.heap.size W W') : Pair W' g x y := ⟨(hb.cell h.2.2).trans h.1, (hb.cell h.2.2).trans h.2.1, Nat.lt_of_lt_of_le h.2.2 hb.size⟩
theorem pair_of {W : World} {g : Nat} {x y : Int} {T : TypeId} (h : Holds W g #[.int .i64 x, .int .i64 y] T) : Pair W g x y := ⟨h.two.1.1, h.two.1.2, h.lt⟩

set_option maxHeartbeats 1600000 in
/-- Pair number k of the first row is laid behind the second one. -/
theorem append_sv (w : World) {ops : Array Oper} {rest : List Oper} {o : Oper} {a : Act} {Q : Exit → Act → World → Prop} (hgd : o.guard = none) (s x : Operand)
    (ho : o.op = .call { callee := .builtin .append, args := #[s, x], argTypes := #[38, 38] })
    (lo hi m cd k : Nat) (Ad : Option Addr) (l L : List (Int × Int)) (v : Value) (hs : a.eval s = v) (hT : Two w lo hi Ad m cd l k v L) (hk : k < m) (g0 g : Nat) (hA : Ad = some ⟨g0, 0, none⟩) (hc : w.cell? ⟨g0, k, none⟩ = some (sv g))
    (hx : a.eval x = .slice (some ⟨w.heap.size, 0, none⟩) 1 1) (hL : L.length ≤ 1048575) (hlo : lo ≤ w.heap.size)
    (h : ∀ v' w', Two w' lo hi Ad m cd l (k + 1) v' (L ++ [l.getD k (0, 0)]) → w.grownBy w' v.ownBlock → wpList Try.prog ops Q rest (a.put o.dst v') w') :
    wpList Try.prog ops Q (o :: rest) a (w.alloc (Obj.cells #[sv g] 61)) := by
  obtain ⟨i0, hi0, hz0, hz1, hz2⟩ := info_parts Nest.infoS
  obtain ⟨gs, gs', h0, h1, h2, h3, h4, h5, h6, h7⟩ := hT
  have hb1 := below1 w (Obj.cells #[sv g] 61)
  -- g is the pair's own block
  obtain ⟨g', e, xg, yg, zg⟩ := h2.at_ (j := k) (by omega)
  obtain ⟨g1, hA1, _, hg1lt, hc1, _⟩ := own_cell h3 hk (x := sv g') (by unfold svs; rw [List.getElem?_map, e]; rfl)
  obtain rfl : g1 = g0 := congrArg Addr.block (Option.some.inj (hA1.symm.trans hA))
  obtain rfl : g' = g := congrArg (fun v : Value => match v with | .slice (some a) _ _ => a.block | _ => 0) (Option.some.inj (hc1.symm.trans hc))
  have eg : gs[k]? = some g' := e
  have h2l := h2.1
  refine wpList_append_own_at _ hgd s x 38 ho lo 61 i0 (.slice none 0 0) 1 24 Try.underlying38 hi0 hz0 hz1 hz2 rfl (by decide) v L.length (svs gs') hs (h5.alloc _) ⟨w.heap.size, 0, none⟩ 1 1 [sv g'] hx rfl ?c1 ?c2 ?c3 ?c4 ?c5 ?_
  case c1 => (intro j u hj; match j, hj with | 0, hj => (simp at hj; subst hj; simp [Addr.add]))
  case c2 => (intro u hu; simp at hu; subst hu; rfl)
  case c3 => (unfold maxLen; omega)
  case c4 => omega
  case c5 => (simp; omega)
  intro v1 wa ho1 hg1 _ hloc
  have hg : w.grownBy wa v.ownBlock := grown_trans (grown_of_below hb1 _) hg1
  -- what is of another type than v's block stays
  have hne : ∀ (b : Nat) (cs : Array Value), Holds w b cs 3 → Holds wa b cs 3 := by
    intro b cs hH
    refine (hg.block b hH.lt (fun e => ?_)).trans hH
    rcases h5.2 with ⟨rfl, _⟩ | ⟨g2, cap', cur, rfl, _, hbk, _⟩
    · simp [Value.ownBlock] at e
    · have e1 : b = g2 := by simpa [Value.ownBlock] using e
      subst e1
      have x3 := hH.symm.trans hbk
      injection x3 with x3
      injection x3 with _ x4
      exact absurd x4 (by decide)
  have hd : wa.ownsRow lo 61 1 (.slice Ad m cd) m (svs gs) := by
    refine h3.kept hg ?_
    cases hv : (Value.slice Ad m cd).ownBlock with
    | none => exact .inl rfl
    | some b => exact .inr (fun e => h7 b hv e.symm)
  refine h v1 wa ⟨gs, gs' ++ [g'], h0, Nat.le_trans h1 hg.size, ⟨h2.1, h2.2.1, fun j a b => ?_⟩, hd, ⟨by simp [h4.1], ?_, fun j ha hb => ?_⟩, ?_, ?_, ?_⟩ hg
  · obtain ⟨x, y, z⟩ := h2.2.2 j a b
    exact ⟨x, y, hne _ _ z⟩
  · rw [List.pairwise_append]
    refine ⟨h4.2.1, by simp, fun y hy z hz => ?_⟩
    simp at hz
    subst hz
    obtain ⟨j, hj, e2⟩ := List.mem_iff_getElem.1 (h6 y hy)
    rw [List.length_take] at hj
    rw [List.getElem_take] at e2
    have h8 : k < gs.length := by omega
    have e3 : gs[k] = z := by rw [List.getElem?_eq_getElem h8] at eg; exact Option.some.inj eg
    rw [← e2, ← e3]
    exact List.pairwise_iff_getElem.1 h2.2.1 j k (by omega) h8 (by omega)
  · by_cases hj : j < L.length
    · have e1 : (gs' ++ [g'])[j] = gs'[j]'(by rw [h4.1]; exact hj) := List.getElem_append_left (by rw [h4.1]; exact hj)
      have e2 : (L ++ [l.getD k (0, 0)])[j] = L[j] := List.getElem_append_left hj
      obtain ⟨x, y, z⟩ := h4.2.2 j (by rw [h4.1]; exact hj) hj
      rw [e1]
      refine ⟨x, y, hne _ _ ?_⟩
      rw [e2]
      exact z
    · have hj2 : j = L.length := by simp at hb; omega
      subst hj2
      have e1 : (gs' ++ [g'])[L.length] = g' := by
        rw [List.getElem_append_right (by rw [h4.1]; omega)]; simp [h4.1]
      have e2 : (L ++ [l.getD k (0, 0)])[L.length] = l[k]'(by omega) := by
        rw [List.getElem_append_right (by omega)]; simp [List.getD, List.getElem?_eq_getElem (show k < l.length by omega)]
      rw [e1]
      refine ⟨xg, yg, hne _ _ ?_⟩
      rw [e2]
      exact zg
  · rw [svs_snoc, List.length_append]
    exact ho1
  · intro y hy
    rcases List.mem_append.1 hy with hy | hy
    · exact List.mem_of_mem_take (i := k) (by rw [List.take_take, Nat.min_eq_left (by omega)]; exact h6 y hy)
    · simp at hy
      subst hy
      rw [List.take_add_one, eg]
      simp
  · intro b hb e2
    rcases hloc with h8 | h8
    · rw [h8] at e2
      exact h7 b hb e2
    · rw [h8] at e2
      injection e2 with e2
      have := (h3.lt b hb).2
      simp at e2
      omega
end Go.Proofs.Ytmmmnnncbpdinaa.GrdRow
