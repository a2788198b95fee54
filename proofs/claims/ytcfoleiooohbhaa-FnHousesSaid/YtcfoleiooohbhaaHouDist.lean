/-
  What the landed distancesIn does: the distances of all halls from a hall, breadth first.
-/
import Derived.Sort.LoopGhostIn
import Derived.Test.YtcfoleiooohbhaaHouMem
namespace Go.Proofs.Ytcfoleiooohbhaa.HouDist
open Go.RowKit Go.Shelf PointOk Blk Pts HouMath HouIter HouMem
open Go.Proofs.Ytcfoleiooohbhaa.Own (icells icells_length icells_at)
attribute [local go_sem] Oper.semAt_some

/-- The marks that the loops over the iterator leave among the deferred calls. -/
def marks (l : List Nat) : List Deferred := l.map fun D => { target := .collected D, args := #[] }
/-- Each mark's block holds no call. -/
def Marked (l : List Nat) (base : Nat) (W : World) : Prop := l.Nodup ∧ ∀ D ∈ l, base ≤ D ∧ W.heap[D]? = some (.deferred (some []))
theorem Marked.kept {l : List Nat} {base : Nat} {W W' : World} (h : Marked l base W) (hk : ∀ (k : Nat) (o : Obj), W.heap[k]? = some o → o.isCells = false → W'.heap[k]? = some o) : Marked l base W' :=
  ⟨h.1, fun D hD => ⟨(h.2 D hD).1, hk D _ (h.2 D hD).2 rfl⟩⟩
theorem Marked.others {l : List Nat} {base : Nat} {W W' : World} (h : Marked l base W) (hk : KeepsOthers W W') : Marked l base W' := h.kept hk.same
theorem Marked.lt {l : List Nat} {base : Nat} {W : World} (h : Marked l base W) : ∀ D ∈ l, D < W.heap.size := fun D hD => (Array.getElem?_eq_some_iff.1 (h.2 D hD).2).1
theorem Marked.calm {l : List Nat} {base B : Nat} {W W' : World} {row : Option Nat} (h : Marked l base W) (hlt : ∀ D ∈ l, D < B) (hg : W.grownBy W' row) (hr : ∀ r, row = some r → B ≤ r) : Marked l base W' :=
  ⟨h.1, fun D hD => ⟨(h.2 D hD).1, (hg.block D (h.lt D hD) (fun e => by have := hr D e.symm; have := hlt D hD; omega)).trans (h.2 D hD).2⟩⟩
theorem leaves_marks {F : Fence} {n : Nat} {P : Program} {fn : Func} {tmps : Array Value} {R : Ending → World → Prop} {base : Nat} (S : World → Prop)
    (hput : ∀ (W : World) (D : Nat), base ≤ D → W.heap[D]? = some (.deferred (some [])) → S W → S (W.putObj D (.deferred none)))
    (hend : ∀ W, S W → ∃ v, (results fn tmps).run P W = .ok v W ∧ R (.returned v) W) : ∀ (l : List Nat) (W : World), Marked l base W → S W → LeavesInM F n P fn tmps R (marks l) .returning W
  | [], W, _, hS => hend W hS
  | D :: l, W, hm, hS => by
    obtain ⟨hb, hK⟩ := hm.2 D (by simp)
    refine ⟨by simp, .inl ⟨D, _, rfl, run_takeDeferred hK, ?_⟩⟩
    refine leaves_marks S hput hend l _ ⟨(List.nodup_cons.1 hm.1).2, fun E hE => ⟨(hm.2 E (by simp [hE])).1, ?_⟩⟩ (hput W D hb hK hS)
    have hne : E ≠ D := fun e => (List.nodup_cons.1 hm.1).1 (e ▸ hE)
    exact (World.putObj_heap_other (by omega)).trans (hm.2 E (by simp [hE])).2
theorem cellF {w : World} {g k : Nat} {cs : Array Value} {T : TypeId} {v : Value} (h : Holds w g cs T) (hv : cs[k]? = some v) : w.cell? ⟨g, k, none⟩ = some v ∧ w.frozen? ⟨g, k, none⟩ = false := by
  have c := cell_of_row w g k _ _ _ h
  refine ⟨c.trans hv, ?_⟩
  unfold Holds at h
  simp [World.frozen?, h]
/-- What lies there when the loop begins. -/
theorem start (w : World) (A : Option Addr) (n cap H a : Nat) (ds : List (Int × Int)) (hp : PtsAt w w.heap.size A ds) (w1 : World) (g5 : Nat)
    (G5 : Holds w1 g5 (List.replicate H (Value.int .i64 (-1))).toArray 3) (hg5 : ((w.alloc (.cells #[.int .i64 H, .slice A n cap] 41)).alloc (.cells #[.int .i64 (-1)] 3)).heap.size ≤ g5)
    (hb1 : Below ((w.alloc (.cells #[.int .i64 H, .slice A n cap] 41)).alloc (.cells #[.int .i64 (-1)] 3)).heap.size ((w.alloc (.cells #[.int .i64 H, .slice A n cap] 41)).alloc (.cells #[.int .i64 (-1)] 3)) w1) :
    Mem w w.heap.size w.heap.size w1.heap.size (w1.heap.size + 2) g5 (w1.heap.size + 1) A n cap H ds (st H ds a 0).1 ((st H ds a 0).2.drop 0) []
      ((((w1.alloc (.cells #[.slice (some ⟨g5, 0, none⟩) H H] 31)).setCell ⟨g5, a, none⟩ (.int .i64 0)).alloc (.cells #[.int .i64 a] 3)).alloc (.cells #[.slice (some ⟨w1.heap.size + 1, 0, none⟩) 1 1] 31)) := by
  have B0 := ((Holds.new w #[.int .i64 H, .slice A n cap] 41).alloc (.cells #[.int .i64 (-1)] 3)).later hb1
  have hsz : ((w.alloc (.cells #[.int .i64 H, .slice A n cap] 41)).alloc (.cells #[.int .i64 (-1)] 3)).heap.size = w.heap.size + 2 := by simp
  rw [hsz] at hb1 hg5
  have hs1 := hb1.size
  rw [hsz] at hs1
  have hbw : Below w.heap.size w w1 := (below2 w (.cells #[.int .i64 H, .slice A n cap] 41) (.cells #[.int .i64 (-1)] 3)).trans (hb1.mono (by omega))
  have t := types
  -- behind the box of the distances, and their first number
  have b1 := B0.alloc (.cells #[.slice (some ⟨g5, 0, none⟩) H H] 31)
  have d1 := Holds.new w1 #[.slice (some ⟨g5, 0, none⟩) H H] 31
  have e1 := G5.alloc (.cells #[.slice (some ⟨g5, 0, none⟩) H H] 31)
  have h1 : Below w.heap.size w (w1.alloc (.cells #[.slice (some ⟨g5, 0, none⟩) H H] 31)) := hbw.alloc (by omega) _
  have hg := grown_set (w1.alloc (.cells #[.slice (some ⟨g5, 0, none⟩) H H] 31)) g5 a (.int .i64 0)
  have b2 := hold_kept b1 hg (fun r e => by cases e; exact hold_ne b1 e1 t.2.1)
  have d2 := hold_kept d1 hg (fun r e => by cases e; exact hold_ne d1 e1 t.2.2.1)
  have e2 : Holds ((w1.alloc (.cells #[.slice (some ⟨g5, 0, none⟩) H H] 31)).setCell ⟨g5, a, none⟩ (.int .i64 0)) g5 (icells (st H ds a 0).1).toArray 3 := by
    have := set_own e1 a (.int .i64 0)
    unfold Holds
    rw [this]
    simp only [List.setIfInBounds_toArray]
    congr 2
    simp [st, icells, List.map_set]
  have h2 : Below w.heap.size w ((w1.alloc (.cells #[.slice (some ⟨g5, 0, none⟩) H H] 31)).setCell ⟨g5, a, none⟩ (.int .i64 0)) := h1.setCell (p := ⟨g5, a, none⟩) (by show w.heap.size ≤ g5; omega) _
  have s2 : ((w1.alloc (.cells #[.slice (some ⟨g5, 0, none⟩) H H] 31)).setCell ⟨g5, a, none⟩ (.int .i64 0)).heap.size = w1.heap.size + 1 := by simp [World.setCell]
  generalize (w1.alloc (.cells #[.slice (some ⟨g5, 0, none⟩) H H] 31)).setCell ⟨g5, a, none⟩ (.int .i64 0) = w2 at *
  have q3 := Blk.Holds.box w2 #[.int .i64 a] 3 s2.symm
  have s3 : (w2.alloc (.cells #[.int .i64 a] 3)).heap.size = w1.heap.size + 2 := by simp [s2]
  have h3 := (h2.alloc (by omega) (.cells #[.int .i64 a] 3)).alloc (by omega) (.cells #[.slice (some ⟨w1.heap.size + 1, 0, none⟩) 1 1] 31)
  refine ⟨(b2.alloc _).alloc _, (d2.alloc _).alloc _, (e2.alloc _).alloc _, ⟨_, Blk.Holds.box _ _ _ s3.symm, 0, 1, #[.int .i64 a], by simp [st], by omega, by have := e2.lt; have := G5.lt; omega, q3.alloc _, by simp, by simp [st], fun j hj => ?_⟩, ⟨Nat.le_refl _, by omega, by omega, by omega⟩, by omega, ?_, h3, fun b hb => by cases hb⟩
  · simp [st] at hj
    subst hj
    simp [st]
  · exact hp.later h3

set_option maxRecDepth 100000 in
set_option maxHeartbeats 4000000 in
theorem distancesIn (A : Option Addr) (n cap H a : Nat) (ds : List (Int × Int)) (hf : HForm H ds) (hl : ds.length = n) (ha : a < H) (w : World) (hp : PtsAt w w.heap.size A ds) :
    Calls Try.prog 39 #[.agg #[.int .i64 H, .slice A n cap], .int .i64 a] w fun e w' => ∃ g, e = .returned (.slice (some ⟨g, 0, none⟩) H H) ∧
      Holds w' g (icells (dist H ds a)).toArray 3 ∧ w.heap.size ≤ g ∧ Below w.heap.size w w' := by
  have HF := Lib.hid hf
  have h7 : H ≤ 7 := by have := hf.h7; omega
  have h1 : 1 ≤ H := by omega
  have a0 : (0 : Int) ≤ (a : Int) := by omega
  have a1 : (a : Int) < (H : Int) := by omega
  have HQ := Lib.hid fun (m : Nat) b w hc => (callsIn_wide (n := m)).2 (HouRep.repeatI b H h1 h7 w hc)
  clear hf
  refine (callsIn_wide (n := 6)).1 ?_
  refine callsIn_of_wp_marks Try.func39 rfl trivial ?_ rfl
  simp only [Try.ntmps39, List.size_toArray, List.length_cons, List.length_nil, Nat.reduceAdd, Nat.reduceSub, Array.replicate_succ, Array.replicate_zero, List.push_toArray, List.append_toArray, List.nil_append, List.cons_append]
  have B0 := Holds.new w #[.int .i64 H, .slice A n cap] 41
  have C0 : ((w.alloc (.cells #[.int .i64 H, .slice A n cap] 41)).alloc (.cells #[.int .i64 (-1)] 3)).cell? ⟨w.heap.size + 1, 0, none⟩ = some (.int .i64 (-1)) := Blk.boxI _ _ _ (by simp)
  gi_wp2_with (refine ⟨trivial, ?_⟩; gi_at_call 57; refine (HQ.out _ _ _ C0).mono ?_; rintro e w1 ⟨g5, rfl, G5, hg5, hb1⟩; obtain ⟨c5, f5⟩ := cellF (G5.alloc (.cells #[.slice (some ⟨g5, 0, none⟩) H H] 31)) (k := a) (v := .int .i64 (-1)) (by simp [ha]))
  have M0 := start w A n cap H a ds hp w1 g5 G5 hg5 hb1
  clear c5 f5 G5 C0 B0 HQ hp hg5 hb1
  obtain ⟨b5, hb5⟩ : ∃ b, w1.heap.size = b := ⟨_, rfl⟩
  obtain ⟨b6, hb6⟩ : ∃ b, b5 + 2 = b := ⟨_, rfl⟩
  rw [hb5, hb6] at M0
  simp only [hb5, hb6] at M0 ⊢
  obtain ⟨W0, hW0⟩ : ∃ W0, ((((w1.alloc (.cells #[.slice (some ⟨g5, 0, none⟩) H H] 31)).setCell ⟨g5, a, none⟩ (.int .i64 0)).alloc (.cells #[.int .i64 a] 3)).alloc (.cells #[.slice (some ⟨b5 + 1, 0, none⟩) 1 1] 31)) = W0 := ⟨_, rfl⟩
  rw [hW0] at M0 ⊢
  clear hW0 hb5 hb6 w1
  refine wpIn_loop_ghost_k (fun kk a' W => ∃ (j g : Nat) (l : List Nat) (u0 u1 u3 u4 u7 u8 u9 u10 u11 u12 u13 u14 u15 u16 u17 u18 u19 u20 u21 u22 u23 u24 u25 u26 u27 u28 u29 u30 u31 u32 u33 u34 u35 u36 u37 u38 u39 u40 u41 u42 u43 u44 u45 u46 u47 : Value), kk = H - j ∧ j ≤ H ∧ a' = ⟨#[u0, u1, .pointer (some ⟨w.heap.size, 0, none⟩), u3, u4, .pointer (some ⟨b5, 0, none⟩), .pointer (some ⟨b6, 0, none⟩), u7, u8, u9, u10, u11, u12, u13, u14, u15, u16, u17, u18, u19, u20, u21, u22, u23, u24, u25, u26, u27, u28, u29, u30, u31, u32, u33, u34, u35, u36, u37, u38, u39, u40, u41, u42, u43, u44, u45, u46, u47], marks l⟩ ∧ Marked l w.heap.size W ∧ Mem w w.heap.size w.heap.size b5 b6 g5 g A n cap H ds (st H ds a j).1 ((st H ds a j).2.drop j) [] W) H ?_ ?_
  · exact ⟨0, _, [], _, _, _, _, _, _, _, _, _, _, _, _, _, _, _, _, _, _, _, _, _, _, _, _, _, _, _, _, _, _, _, _, _, _, _, _, _, _, _, _, _, _, _, _, _, rfl, Nat.zero_le _, rfl, ⟨.nil, fun D hD => by cases hD⟩, M0⟩
  clear M0
  rintro kk a' W ⟨j, g, l, u0, u1, u3, u4, u7, u8, u9, u10, u11, u12, u13, u14, u15, u16, u17, u18, u19, u20, u21, u22, u23, u24, u25, u26, u27, u28, u29, u30, u31, u32, u33, u34, u35, u36, u37, u38, u39, u40, u41, u42, u43, u44, u45, u46, u47, rfl, hj, rfl, hm, M⟩ J K hJ hK
  obtain ⟨v, hv, off, cp, cur, rfl, q1, q2, q3, q4, q5, q6⟩ := id M.qbox
  have c6 : W.cell? ⟨b6, 0, none⟩ = some (.slice (some ⟨g, off, none⟩) ((st H ds a j).2.drop j).length cp) := (cellF hv (k := 0) rfl).1
  by_cases hjl : (st H ds a j).2.length ≤ j
  · have hdist : Hid (dist H ds a = (st H ds a j).1) := Lib.hid (dist_end ha hj hjl)
    have hlen : ((st H ds a j).2.drop j).length = 0 := by simp; omega
    rw [hlen] at c6
    obtain ⟨c5, _⟩ := cellF M.dbox (k := 0) rfl
    have S0 : Holds W g5 (icells (dist H ds a)).toArray 3 ∧ Below w.heap.size w W := ⟨by rw [hdist.out]; exact M.dist, M.below⟩
    have hlo := M.lo.2.2.2
    clear hJ hK hv q1 q2 q3 q4 q5 q6 M hlen hdist
    gi_wp2
    refine leaves_marks (base := w.heap.size) (fun W' => Holds W' g5 (icells (dist H ds a)).toArray 3 ∧ Below w.heap.size w W') ?_ ?_ l W hm S0
    · rintro W' D hb hK ⟨h1, h2⟩
      exact ⟨hold_calm h1 (grownBy_putObj' W' D _) (fun r e => by cases e; exact ⟨_, hK, rfl⟩), h2.trans (belowK_b (w := w) (Nat.le_refl _) W' D _ _ hb hK rfl rfl)⟩
    · rintro W' ⟨h1, h2⟩
      exact ⟨_, results_tmp rfl _ _ _, g5, rfl, h1, hlo, h2⟩
  have hjl' : j < (st H ds a j).2.length := by omega
  obtain ⟨x, hx⟩ : ∃ x, (st H ds a j).2.getD j 0 = x := ⟨_, rfl⟩
  have hxH : x < H := by rw [← hx]; exact (inv_st ha j).lt _ (getD_mem hjl')
  have hjH : j < H := Nat.lt_of_lt_of_le hjl' (inv_st ha j).le
  have hdrop : (st H ds a j).2.drop j = x :: (st H ds a j).2.drop (j + 1) := by
    rw [List.drop_eq_getElem_cons hjl', ← hx]; simp [List.getD, hjl']
  obtain ⟨N, hN⟩ : ∃ N, ((st H ds a j).2.drop (j + 1)).length = N := ⟨_, rfl⟩
  have hN2 : ((st H ds a j).2.drop j).length = N + 1 := by rw [hdrop, List.length_cons, hN]
  rw [hN2] at c6 q5 q6
  have cx : W.cell? ⟨g, off, none⟩ = some (.int .i64 x) := by
    have h := cell_of_row W g off _ _ _ q3
    have h6 := q6 0 (by omega)
    rw [Nat.add_zero, hdrop] at h6
    rw [h, h6]; rfl
  have hq0 : Que W w.heap.size g5 g (.slice (some ⟨g, off, none⟩) (N + 1) cp) (x :: (st H ds a j).2.drop (j + 1)) := by
    refine ⟨off, cp, cur, by simp [hN], q1, q2, q3, q4, by simp [hN]; omega, fun i hi => ?_⟩
    rw [← hdrop]
    exact q6 i (by simp [hN] at hi; omega)
  have hlt6 := hv.lt
  have hv1 : Holds (W.alloc (.cells #[.int .i64 x] 3)) b6 #[.slice (some ⟨g, off, none⟩) (N + 1) cp] 31 := by have := hv.alloc (.cells #[.int .i64 x] 3); rw [hN2] at this; exact this
  obtain ⟨c6', f6'⟩ := cellF hv1 (k := 0) rfl
  have HB := Lib.hid fun m w => hallsBehind m H n cap x A w
  have HB0 := (Holds.new W #[.int .i64 x] 3)
  have hglt : g < W.heap.size := q3.lt
  have h5lt : g5 < W.heap.size := M.dist.lt
  have HMM : Hid (∀ off', (cp = 1 ∧ off' = off ∨ off' = off + 1) → Mem w w.heap.size w.heap.size b5 b6 g5 g A n cap H ds (st H ds a j).1 ((st H ds a j).2.drop (j + 1)) [W.heap.size] ((W.alloc (.cells #[.int .i64 x] 3)).setCell ⟨b6, 0, none⟩ (.slice (some ⟨g, off', none⟩) N (cp - 1)))) := Lib.hid (fun off' ho => by
    have hq1 := hq0.kept (World.grownBy_alloc W (.cells #[.int .i64 x] 3) none) (fun r e => by cases e)
    have hq2 := hq1.tail hN ho
    have M1 := (M.alloc (.cells #[.int .i64 x] 3)).guard (b := W.heap.size) (by simp) (by omega) (by omega) (by omega)
    exact M1.setQ (fun b hb => by simp at hb; subst hb; omega) hq2)
  clear q1 q2 q3 q4 q6 hq0 hv hdrop hjl
  obtain ⟨W1, hW1⟩ : ∃ W1, W.alloc (.cells #[.int .i64 x] 3) = W1 := ⟨_, rfl⟩
  have hz1 : W1.heap.size = W.heap.size + 1 := by rw [← hW1]; simp
  rw [hW1] at hv1 c6' f6' HB0 HMM
  gi_wp2_with (first
    | (refine wpListIn_tail _ rfl _ rfl g off N cp rfl q5 ?_; intro off' ho; have M2 := HMM.out off' ho; obtain ⟨d0, d1⟩ : (World.setCell _ _ _).cell? ⟨w.heap.size, 0, none⟩ = _ ∧ (World.setCell _ _ _).cell? ⟨w.heap.size, 1, none⟩ = _ := M2.house.two.1; have d7 := (Blk.Holds.far HB0 ⟨b6, 0, none⟩ (.slice (some ⟨g, off', none⟩) N (cp - 1)) (show W.heap.size ≠ b6 by omega)).one.1)
    | (refine ⟨trivial, ?_⟩; gi_at_call 41; refine (HB.out _ _).mono ?_; rintro e w' ⟨rfl, rfl⟩))
  have M3 := (M2.alloc (.cells #[.int .i64 H, .slice A n cap] 41)).alloc (.cells #[.int .i64 x] 3)
  obtain ⟨s25, hs25⟩ : ∃ v, Value.slice (some ⟨g, off', none⟩) N (cp - 1) = v := ⟨_, rfl⟩
  rw [hs25] at M3 d7 ⊢
  have hz2 : (W1.setCell ⟨b6, 0, none⟩ s25).heap.size = W.heap.size + 1 := by simp [World.setCell, hz1]
  have K7 := (((Blk.Holds.far HB0 ⟨b6, 0, none⟩ s25 (show W.heap.size ≠ b6 by omega))).alloc (.cells #[.int .i64 H, .slice A n cap] 41)).alloc (.cells #[.int .i64 x] 3)
  have K8 := (Blk.Holds.box (W1.setCell ⟨b6, 0, none⟩ s25) #[.int .i64 H, .slice A n cap] 41 hz2.symm).alloc (.cells #[.int .i64 x] 3)
  have K9 := Blk.Holds.box ((W1.setCell ⟨b6, 0, none⟩ s25).alloc (.cells #[.int .i64 H, .slice A n cap] 41)) #[.int .i64 x] 3 (k := W.heap.size + 1 + 1) (by simp [hz2])
  have hko : KeepsOthers W W1 := by rw [← hW1]; exact KeepsOthers.alloc W _
  have hm3 : Marked l w.heap.size (((W1.setCell ⟨b6, 0, none⟩ s25).alloc (.cells #[.int .i64 H, .slice A n cap] 41)).alloc (.cells #[.int .i64 x] 3)) :=
    hm.others (((hko.trans (KeepsOthers.setCell _ _ _)).trans (KeepsOthers.alloc _ _)).trans (KeepsOthers.alloc _ _))
  have hz3 : (((W1.setCell ⟨b6, 0, none⟩ s25).alloc (.cells #[.int .i64 H, .slice A n cap] 41)).alloc (.cells #[.int .i64 x] 3)).heap.size = W.heap.size + 3 := by simp [hz2]
  clear HMM M2 hs25 HB d0 d1 d7 HB0 c6' f6' hv1 M c6 cx hko
  generalize ((W1.setCell ⟨b6, 0, none⟩ s25).alloc (.cells #[.int .i64 H, .slice A n cap] 41)).alloc (.cells #[.int .i64 x] 3) = W3 at *
  clear hW1 hz1 hz2
  have hmlt := hm.lt
  obtain ⟨b7, hb7⟩ : ∃ b, W.heap.size = b := ⟨_, rfl⟩
  rw [hb7] at M3 K7 K8 K9 hz3 hlt6 hglt h5lt hmlt ⊢
  have M4 := M3.guard (b := b7 + 1 + 1) (by omega) (by omega) (by omega) (by omega)
  have hbig := M3.big
  have hF : Hid (∀ pre : List (Fin H), Inv H ((vals pre).foldl (stp x) (st H ds a j))) := Lib.hid (fun pre => Inv.fold hxH _ _ (inv_st ha j) (fun z hz => by
    obtain ⟨q, _, rfl⟩ := List.mem_map.1 hz
    exact q.2))
  have hFL : Hid (∀ pre : List (Fin H), j + 1 ≤ ((vals pre).foldl (stp x) (st H ds a j)).2.length) := Lib.hid (fun pre => Nat.le_trans hjl' (fold_len _ _ _))
  have hnext : Hid (st H ds a (j + 1) = (nb H ds x).foldl (stp x) (st H ds a j)) := Lib.hid (by rw [st_succ hjl', hx])
  have HJ := Lib.hid hJ
  have HK := Lib.hid hK
  clear hJ hK M3
  refine wpIn_rangeFunc_ownG rfl (by omega) (gf := 59) (lb := #[.pointer (some ⟨b7 + 1, 0, none⟩), .pointer (some ⟨b7 + 1 + 1, 0, none⟩)]) rfl trivial (enters_of Try.func59 (by kernel_rfl) rfl)
    (behind_stops 5 (by omega) (b7 + 1) (b7 + 1 + 1) w.heap.size H n cap x A ds HF.out hl W3 hbig K8 K9 M4.pts) (fun h k => Kp.t h k) (Kp.b hbig) (Below.refl _ _) (fun _ => rfl)
    (fun pre W' => (∃ g', Mem w w.heap.size w.heap.size b5 b6 g5 g' A n cap H ds ((vals pre).foldl (stp x) (st H ds a j)).1 (((vals pre).foldl (stp x) (st H ds a j)).2.drop (j + 1)) [b7 + 1 + 1, b7] W') ∧ Holds W' b7 #[.int .i64 x] 3 ∧ Marked l w.heap.size W')
    (fun _ _ _ => False)
    (fun pre X Y row hs hg hr => by
      obtain ⟨⟨g', h1⟩, h2, h3⟩ := hs
      exact ⟨⟨g', h1.calm hg (fun r e => ⟨Nat.le_trans hbig (hr r e).1, (hr r e).2⟩)⟩, hold_calm h2 hg (fun r e => (hr r e).2), h3.calm (B := W3.heap.size) (fun D hD => by have := hmlt D hD; omega) hg (fun r e => (hr r e).1)⟩)
    (fun _ _ _ _ _ hs _ _ => hs)
    ⟨⟨g, M4⟩, K7, hm3⟩
    (fun y => { tmps := #[u0, u1, .pointer (some ⟨w.heap.size, 0, none⟩), u3, u4, .pointer (some ⟨b5, 0, none⟩), .pointer (some ⟨b6, 0, none⟩), .pointer (some ⟨b7, 0, none⟩), .int .i64 (y.val : Int), u9, u10, u11, u12, u13, u14, u15, u16, u17, .slice (some ⟨g, off, none⟩) (N + 1) cp, .int .i64 ((N : Int) + 1), .bool true, .slice (some ⟨g, off, none⟩) (N + 1) cp, .pointer (some ⟨g, off, none⟩), .int .i64 x, .slice (some ⟨g, off, none⟩) (N + 1) cp, s25, .agg #[.int .i64 H, .slice A n cap], .int .i64 x, .func (.func 59) #[] #[.pointer (some ⟨b7 + 1, 0, none⟩), .pointer (some ⟨b7 + 1 + 1, 0, none⟩)], .int .i64 (y.val : Int), u30, u31, u32, u33, u34, u35, u36, u37, u38, u39, u40, u41, u42, u43, u44, u45, u46, u47], defers := [] }) ?assign ?body ?done ?stop
  case assign =>
    intro l' y W' K' hK'
    gi_wp2
    exact hK'
  case stop =>
    rintro D c pre W' _ _ h _
    exact h.elim
  case done =>
    rintro D xs W' hD hS ⟨⟨g', h1⟩, h2, h3⟩ hKD
    have hnext2 : (nb H ds x).foldl (stp x) (st H ds a j) = st H ds a (j + 1) := hnext.out.symm
    rw [hS, hnext2] at h1
    have hm6 : Marked (D :: l) w.heap.size W' := ⟨List.nodup_cons.2 ⟨fun hDl => by have := hmlt D hDl; omega, h3.1⟩, fun E hE => by
      rcases List.mem_cons.1 hE with rfl | hE
      · exact ⟨Nat.le_trans hbig hD, hKD⟩
      · exact h3.2 E hE⟩
    have h4 := h1.bare
    clear h1 h2 h3 hF hFL hnext hnext2 M4 K7 K8 K9
    have HM := Lib.hid hm6
    have H4 := Lib.hid h4
    clear hm6 h4
    gi_wp2
    exact HK.out _ _ ⟨H - (j + 1), by omega, HJ.out _ _ _ ⟨j + 1, g', D :: l, _, _, _, _, _, _, _, _, _, _, _, _, _, _, _, _, _, _, _, _, _, _, _, _, _, _, _, _, _, _, _, _, _, _, _, _, _, _, _, _, _, _, _, _, _, rfl, by omega, rfl, HM.out, H4.out⟩⟩
  case body =>
    rintro l' pre y W' ⟨⟨g', M5⟩, H7, hm5⟩ hlt
    obtain ⟨z, hz⟩ := y
    have hv : vals (pre ++ [⟨z, hz⟩]) = vals pre ++ [z] := vals_snoc _ _
    have hFp := hF.out pre
    have hFl := hFL.out pre
    have hfold : Hid (∀ s', stp x ((vals pre).foldl (stp x) (st H ds a j)) z = s' → (vals (pre ++ [⟨z, hz⟩])).foldl (stp x) (st H ds a j) = s') := Lib.hid (fun s' h => by rw [hv, List.foldl_append]; exact h)
    clear hv hF hFL hnext HJ HK
    obtain ⟨s, hs⟩ : ∃ s, (vals pre).foldl (stp x) (st H ds a j) = s := ⟨_, rfl⟩
    rw [hs] at M5 hFp hFl hfold
    clear hs
    obtain ⟨D, L⟩ := s
    simp only at M5 hFp hFl hfold
    have hDl : D.length = H := hFp.len
    have hlt' : ∀ i, i < H → (icells D).toArray[i]? = some (.int .i64 (D.getD i 0)) := fun i hi => by
      rw [List.getElem?_toArray, icells_at (by omega)]
      simp [List.getD, show i < D.length by omega]
    obtain ⟨c5, _⟩ := cellF M5.dbox (k := 0) rfl
    obtain ⟨cz, fz⟩ := cellF M5.dist (hlt' z hz)
    obtain ⟨cx, _⟩ := cellF M5.dist (hlt' x hxH)
    obtain ⟨c7, _⟩ := cellF H7 (k := 0) rfl
    have hz0 : (0 : Int) ≤ (z : Int) := by omega
    have hzH : (z : Int) < (H : Int) := by omega
    have hx0 : (0 : Int) ≤ (x : Int) := by omega
    have hxHi : (x : Int) < (H : Int) := by omega
    have hzl := hFp.lo x hxH
    have hxh := hFp.hi x hxH
    have hle := hFp.le
    simp only at hzl hxh hle
    by_cases hneg : D.getD z 0 < 0
    rotate_left
    · have hI := hfold.out _ (stp_old (s := (D, L)) hneg)
      obtain ⟨v, hv⟩ : ∃ v, D.getD z 0 = v := ⟨_, rfl⟩
      have hI2 : Hid ((∃ g', Mem w w.heap.size w.heap.size b5 b6 g5 g' A n cap H ds ((vals (pre ++ [⟨z, hz⟩])).foldl (stp x) (st H ds a j)).1 (((vals (pre ++ [⟨z, hz⟩])).foldl (stp x) (st H ds a j)).2.drop (j + 1)) [b7 + 1 + 1, b7] W') ∧ Holds W' b7 #[.int .i64 x] 3 ∧ Marked l w.heap.size W') := Lib.hid (by
        rw [hI]
        exact ⟨⟨g', M5⟩, H7, hm5⟩)
      have hneg' : 0 ≤ v := by omega
      rw [hv] at cz
      clear hI hfold M5 H7 hm5 M4 K7 K8 K9 cx fz hlt' hFp hv hneg hzl hxh
      gi_wp2
      exact ⟨KeepsFrom.refl _ _, Kp.refl _ _ _, hI2.out⟩
    · have hI := Lib.hid (hfold.out _ (stp_new (s := (D, L)) hneg))
      simp only at hI
      obtain ⟨v, hv⟩ : ∃ v, D.getD z 0 = v := ⟨_, rfl⟩
      obtain ⟨u, hu⟩ : ∃ u, D.getD x 0 = u := ⟨_, rfl⟩
      rw [hv] at cz hneg
      rw [hu] at cx hI hzl hxh
      have hwr : IntKind.i64.wrap (u + 1) = u + 1 := IntWalk.i64_in _ (by omega)
      have hLle : L.length ≤ 7 := by omega
      have hdr : (L ++ [z]).drop (j + 1) = L.drop (j + 1) ++ [z] := List.drop_append_of_le_length hFl
      obtain ⟨Q, hQ⟩ : ∃ Q, L.drop (j + 1) = Q := ⟨_, rfl⟩
      have hQl : Q.length ≤ 1000 := by rw [← hQ, List.length_drop]; omega
      rw [hQ] at M5 hdr
      -- behind the store of the distance
      have k5 : Keep w.heap.size (b7 + 1 + 1) W' (W'.drew.setCell ⟨g5, z, none⟩ (.int .i64 (u + 1))) := (Keep.refl _ _ W').drew.set (cs := (icells D).toArray) (T := 3) M5.dist types.2.2.2.1 M5.lo.2.2.2 (fun e => (M5.far (b7 + 1 + 1) (by simp)).2.2.1 e.symm) _
      have m5 : Marked l w.heap.size (W'.drew.setCell ⟨g5, z, none⟩ (.int .i64 (u + 1))) := hm5.others k5.others
      have r7 : Holds (W'.drew.setCell ⟨g5, z, none⟩ (.int .i64 (u + 1))) b7 #[.int .i64 x] 3 := Blk.Holds.far (w := W'.drew) H7 ⟨g5, z, none⟩ _ (fun e => (M5.far b7 (by simp)).2.2.1 e)
      have M6 := M5.drew.setD z (u + 1)
      have hfz : W'.drew.frozen? ⟨g5, z, none⟩ = false := fz
      obtain ⟨q, hq6, hque⟩ := id M6.qbox
      obtain ⟨cq, hcq⟩ := hque.hold
      obtain ⟨off2, cp2, cur2, hq2, _⟩ := id hque
      subst hq2
      clear M4 K7 K8 K9 hlt' hFp hfold H7 hm5 hv hu hQ M5 fz hzl hxh hFl
      obtain ⟨W5, hW5⟩ : ∃ W5, W'.drew.setCell ⟨g5, z, none⟩ (.int .i64 (u + 1)) = W5 := ⟨_, rfl⟩
      rw [hW5] at k5 m5 r7 M6 hq6 hque hcq
      obtain ⟨d6, _⟩ := cellF hq6 (k := 0) rfl
      have q6 := hque.kept (World.grownBy_alloc W5 (.cells #[.int .i64 z] 3) none) (fun r e => by cases e)
      have M7 := M6.alloc (.cells #[.int .i64 z] 3)
      have r8 := r7.alloc (.cells #[.int .i64 z] 3)
      have cnew : (W5.alloc (.cells #[.int .i64 z] 3)).cell? ⟨W5.heap.size, 0, none⟩ = some (.int .i64 (z : Int)) := Blk.boxI _ _ _ rfl
      have s7 := M7.dist.lt
      have s8 := M7.big
      have hmx : Try.prog.follows .mixedOrders = true := by kernel_rfl
      gi_wp2
      refine wpIn_mono (Q := fun e a' w' => e = .normal ∧ a' = ⟨#[u0, u1, .pointer (some ⟨w.heap.size, 0, none⟩), u3, u4, .pointer (some ⟨b5, 0, none⟩), .pointer (some ⟨b6, 0, none⟩), .pointer (some ⟨b7, 0, none⟩), .int .i64 z, u9, u10, u11, u12, u13, u14, u15, u16, u17, .slice (some ⟨g, off, none⟩) (N + 1) cp, .int .i64 ((N : Int) + 1), .bool true, .slice (some ⟨g, off, none⟩) (N + 1) cp, .pointer (some ⟨g, off, none⟩), .int .i64 x, .slice (some ⟨g, off, none⟩) (N + 1) cp, s25, .agg #[.int .i64 H, .slice A n cap], .int .i64 x, .func (.func 59) #[] #[.pointer (some ⟨b7 + 1, 0, none⟩), .pointer (some ⟨b7 + 1 + 1, 0, none⟩)], .int .i64 z, .slice (some ⟨g5, 0, none⟩) H H, .int .i64 z, .pointer (some ⟨g5, z, none⟩), .int .i64 v, .bool true, .slice (some ⟨g5, 0, none⟩) H H, .int .i64 z, .slice (some ⟨g5, 0, none⟩) H H, .int .i64 x, .pointer (some ⟨g5, x, none⟩), .int .i64 u, .int .i64 (u + 1), .pointer (some ⟨g5, z, none⟩), u43, u44, u45, u46, u47], []⟩ ∧ w' = W5) ?_ ?_
      · gi_region
        all_goals exact ⟨rfl, rfl, rfl⟩
      rintro e a' w' ⟨he, ha', hw⟩
      rw [he, ha', hw]
      clear he ha' hw e a' w'
      gi_wp2_with (gi_at_builtin; refine wpListIn_que _ rfl _ _ rfl w.heap.size g5 g' _ Q rfl q6 hQl z W5.heap.size 1 rfl cnew s7 s8 ?_; intro g'' off3 cp3 w7 hque7 hgr7 hne7; obtain ⟨⟨u7, hu7⟩, M8⟩ := M7.push hgr7 hne7 hque7; obtain ⟨e6, fe6⟩ := cellF hu7 (k := 0) rfl)
      have hf9 := M7.far (b7 + 1 + 1) (by simp)
      have hf7 := M7.far b7 (by simp)
      have kA : Keep w.heap.size (b7 + 1 + 1) W5 (w7.setCell ⟨b6, 0, none⟩ (.slice (some ⟨g'', off3, none⟩) (Q.length + 1) cp3)) :=
        (((Keep.refl _ _ W5).alloc M6.big (.cells #[.int .i64 z] 3)).grown hgr7 (hcq.alloc _) types.2.2.2.1 M7.big q6.base hf9.2.1.symm).set hu7 types.2.2.2.2 M6.lo.2.2.1 hf9.2.2.2.symm _
      refine ⟨(k5.others.trans kA.others).from _, k5.kp.t kA.kp, ?_⟩
      have e1 := hI.out
      dsimp only
      rw [e1]
      dsimp only
      rw [hdr]
      exact ⟨⟨g'', M8⟩, Blk.Holds.far (hold_kept r8 hgr7 (fun r e => by cases e; exact hf7.2.1)) ⟨b6, 0, none⟩ _ hf7.2.2.2, m5.others kA.others⟩
end Go.Proofs.Ytcfoleiooohbhaa.HouDist
