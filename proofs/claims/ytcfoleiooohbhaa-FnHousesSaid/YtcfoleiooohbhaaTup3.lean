/-
  Lists of structs of 3 numbers that lie in memory, as slices; what reads them; one of them in a box. No program stands here.
-/
import Derived.Test.YtcfoleiooohbhaaGround
namespace Go.Proofs.Ytcfoleiooohbhaa.Tup3
open Go Go.RowKit PointOk Blk
open Pts (block_add add_head)
abbrev Tu := Int × Int × Int

/-- The slice at A holds these structs, in blocks below b. -/
def TsAt (w : World) (b : Nat) (A : Option Addr) (ps : List Tu) : Prop :=
  ∀ j (h : j < ps.length), ∃ ad, A = some ad ∧ ad.block < b ∧ w.cell? (ad.add (j * 3)) = some (.int .i64 ps[j].1) ∧ w.cell? ⟨(ad.add (j * 3)).block, (ad.add (j * 3)).off + 1, none⟩ = some (.int .i64 ps[j].2.1) ∧ w.cell? ⟨(ad.add (j * 3)).block, (ad.add (j * 3)).off + 2, none⟩ = some (.int .i64 ps[j].2.2)
theorem TsAt.later {w w' : World} {b : Nat} {A : Option Addr} {ps : List Tu} (h : TsAt w b A ps) (hb : Below b w w') : TsAt w' b A ps := by
  intro j hj
  obtain ⟨ad, h1, h2, h3, h4, h5⟩ := h j hj
  exact ⟨ad, h1, h2, (hb.cell (by first | (rw [block_add]; exact h2) | (show (ad.add (j * 3)).block < b; rw [block_add]; exact h2))).trans h3, (hb.cell (by first | (rw [block_add]; exact h2) | (show (ad.add (j * 3)).block < b; rw [block_add]; exact h2))).trans h4, (hb.cell (by first | (rw [block_add]; exact h2) | (show (ad.add (j * 3)).block < b; rw [block_add]; exact h2))).trans h5⟩
theorem TsAt.wide {w : World} {b b' : Nat} {A : Option Addr} {ps : List Tu} (h : TsAt w b A ps) (hb : b ≤ b') : TsAt w b' A ps := by
  intro j hj
  obtain ⟨ad, h1, h2, h3⟩ := h j hj
  exact ⟨ad, h1, Nat.lt_of_lt_of_le h2 hb, h3⟩
/-- Struct number j of the slice at ad. -/
def TAt (w : World) (ad : Addr) (j : Nat) (z0 z1 z2 : Int) : Prop := w.cell? (ad.add (j * 3)) = some (.int .i64 z0) ∧ w.cell? ⟨(ad.add (j * 3)).block, (ad.add (j * 3)).off + 1, none⟩ = some (.int .i64 z1) ∧ w.cell? ⟨(ad.add (j * 3)).block, (ad.add (j * 3)).off + 2, none⟩ = some (.int .i64 z2)
theorem TAt.later {w w' : World} {b : Nat} {ad : Addr} {j : Nat} {z0 z1 z2 : Int} (h : TAt w ad j z0 z1 z2) (ha : ad.block < b) (hb : Below b w w') : TAt w' ad j z0 z1 z2 := by
  obtain ⟨h3, h4, h5⟩ := h
  exact ⟨(hb.cell (by first | (rw [block_add]; exact ha) | (show (ad.add (j * 3)).block < b; rw [block_add]; exact ha))).trans h3, (hb.cell (by first | (rw [block_add]; exact ha) | (show (ad.add (j * 3)).block < b; rw [block_add]; exact ha))).trans h4, (hb.cell (by first | (rw [block_add]; exact ha) | (show (ad.add (j * 3)).block < b; rw [block_add]; exact ha))).trans h5⟩
theorem TsAt.at_ {w : World} {b : Nat} {A : Option Addr} {ps : List Tu} (h : TsAt w b A ps) (j : Nat) (hj : j < ps.length) : ∃ ad, A = some ad ∧ ad.block < b ∧ TAt w ad j ps[j].1 ps[j].2.1 ps[j].2.2 := h j hj
theorem TsAt.get {w : World} {b : Nat} {A : Option Addr} {ps : List Tu} (h : TsAt w b A ps) {j : Nat} {z0 z1 z2 : Int} (hj : ps[j]? = some (z0, z1, z2)) : ∃ ad, A = some ad ∧ ad.block < b ∧ TAt w ad j z0 z1 z2 := by
  obtain ⟨hl, e⟩ := List.getElem?_eq_some_iff.1 hj
  have := h.at_ j hl
  rw [e] at this
  exact this
/-- The first struct of the slice at ad. -/
def THere (w : World) (ad : Addr) (z0 z1 z2 : Int) : Prop := w.cell? ad = some (.int .i64 z0) ∧ w.cell? ⟨ad.block, ad.off + 1, none⟩ = some (.int .i64 z1) ∧ w.cell? ⟨ad.block, ad.off + 2, none⟩ = some (.int .i64 z2)
theorem THere.later {w w' : World} {b : Nat} {ad : Addr} {z0 z1 z2 : Int} (h : THere w ad z0 z1 z2) (ha : ad.block < b) (hb : Below b w w') : THere w' ad z0 z1 z2 := by
  obtain ⟨h3, h4, h5⟩ := h
  exact ⟨(hb.cell (by exact ha)).trans h3, (hb.cell (by exact ha)).trans h4, (hb.cell (by exact ha)).trans h5⟩
theorem TAt.zero {w : World} {ad : Addr} {z0 z1 z2 : Int} (h : TAt w ad 0 z0 z1 z2) : THere w ad z0 z1 z2 := by
  obtain ⟨h3, h4, h5⟩ := h
  simp [Addr.add] at h3 h4 h5
  exact ⟨h3, h4, h5⟩
def tt (ps : List Tu) (k : Nat) : Tu := ps.getD k (0, 0, 0)
theorem tt_at {ps : List Tu} {k : Nat} (h : k < ps.length) : ps[k]? = some (tt ps k) := by
  unfold tt
  rw [List.getD_eq_getElem?_getD, List.getElem?_eq_getElem h]
  rfl

/-- The cells of a list of structs. -/
def cellsT : List Tu → List Value
  | [] => []
  | p :: ps => .int .i64 p.1 :: .int .i64 p.2.1 :: .int .i64 p.2.2 :: cellsT ps
theorem cellsT_length : ∀ ps, (cellsT ps).length = ps.length * 3
  | [] => rfl
  | p :: ps => by simp [cellsT, cellsT_length ps]; omega
theorem cellsT_app : ∀ (ps qs : List Tu), cellsT (ps ++ qs) = cellsT ps ++ cellsT qs
  | [], _ => rfl
  | p :: ps, qs => by simp [cellsT, cellsT_app ps qs]
set_option maxHeartbeats 3200000 in
theorem cellsT_at : ∀ (ps : List Tu) (j : Nat) (h : j < ps.length), (cellsT ps)[j * 3]? = some (.int .i64 ps[j].1) ∧ (cellsT ps)[j * 3 + 1]? = some (.int .i64 ps[j].2.1) ∧ (cellsT ps)[j * 3 + 2]? = some (.int .i64 ps[j].2.2)
  | [], _, h => by simp at h
  | p :: ps, 0, _ => by simp [cellsT]
  | p :: ps, j + 1, h => by
    have := cellsT_at ps j (by simpa using h)
    rw [show (j + 1) * 3 = j * 3 + 1 + 1 + 1 by omega]
    simpa [cellsT] using this
set_option maxHeartbeats 3200000 in
theorem cellsT_set : ∀ (ps : List Tu) (j : Nat) (z0 z1 z2 : Int), (((cellsT ps).set (j * 3) (.int .i64 z0)).set (j * 3 + 1) (.int .i64 z1)).set (j * 3 + 2) (.int .i64 z2) = cellsT (ps.set j (z0, z1, z2))
  | [], _, _, _, _ => by simp [cellsT]
  | p :: ps, 0, _, _, _ => by simp [cellsT]
  | p :: ps, j + 1, z0, z1, z2 => by
    rw [show (j + 1) * 3 = j * 3 + 1 + 1 + 1 by omega]
    simpa [cellsT] using cellsT_set ps j z0 z1 z2
theorem cellsT_zeros : ∀ n, cellsT (List.replicate n (0, 0, 0)) = List.replicate (n * 3) (.int .i64 0)
  | 0 => rfl
  | n + 1 => by
    rw [show (n + 1) * 3 = n * 3 + 1 + 1 + 1 by omega, List.replicate_succ, List.replicate_succ, List.replicate_succ, List.replicate_succ, ← cellsT_zeros n]
    rfl
theorem zeros (n : Nat) : (madeCells #[.int .i64 0, .int .i64 0, .int .i64 0] (n * 3)).toList = cellsT (List.replicate n (0, 0, 0)) := by
  apply List.ext_getElem
  · simp [madeCells, cellsT_zeros]
  · intro i h1 h2
    have e : i % 3 = 0 ∨ i % 3 = 1 ∨ i % 3 = 2 := by omega
    simp only [cellsT_zeros]
    rcases e with e | e | e <;> simp [madeCells, e]

/-- The structs of the first k that pass the test. -/
def filtT (f : Nat → Bool) (l : List Tu) : Nat → List Tu
  | 0 => []
  | k + 1 => if f k then filtT f l k ++ [tt l k] else filtT f l k
theorem filtT_len (f : Nat → Bool) (l : List Tu) : ∀ k, (filtT f l k).length ≤ k
  | 0 => by simp [filtT]
  | k + 1 => by
    have := filtT_len f l k
    unfold filtT
    split
    · rw [List.length_append]; simp; omega
    · omega
theorem filtT_congr {f g : Nat → Bool} {l : List Tu} : ∀ {n : Nat}, (∀ j, j < n → f j = g j) → filtT f l n = filtT g l n
  | 0, _ => rfl
  | n + 1, h => by
    unfold filtT
    rw [filtT_congr (fun j hj => h j (by omega)), h n (by omega)]

/-- A block of the call's own that holds these structs, and no more. -/
def Row (w : World) (g : Nat) (T : TypeId) (ps : List Tu) : Prop := Holds w g (cellsT ps).toArray T
set_option maxHeartbeats 3200000 in
theorem Row.facts {w : World} {g : Nat} {T : TypeId} {ps : List Tu} (h : Row w g T ps) (j : Nat) (hj : j < ps.length) :
    (w.cell? ⟨g, j * 3, none⟩ = some (.int .i64 ps[j].1) ∧ w.cell? ⟨g, j * 3 + 1, none⟩ = some (.int .i64 ps[j].2.1) ∧ w.cell? ⟨g, j * 3 + 2, none⟩ = some (.int .i64 ps[j].2.2)) ∧ w.frozen? ⟨g, j * 3, none⟩ = false ∧ w.frozen? ⟨g, j * 3 + 1, none⟩ = false ∧ w.frozen? ⟨g, j * 3 + 2, none⟩ = false := by
  obtain ⟨e0, e1, e2⟩ := cellsT_at ps j hj
  have c0 := cell_of_row w g (j * 3) _ _ _ h
  have c1 := cell_of_row w g (j * 3 + 1) _ _ _ h
  have c2 := cell_of_row w g (j * 3 + 2) _ _ _ h
  unfold Row Holds at h
  rw [List.getElem?_toArray] at c0 c1 c2
  exact ⟨⟨c0.trans e0, c1.trans e1, c2.trans e2⟩, by simp [World.frozen?, h], by simp [World.frozen?, h], by simp [World.frozen?, h]⟩
set_option maxHeartbeats 3200000 in
theorem Row.ts {w : World} {g b : Nat} {T : TypeId} {ps : List Tu} (h : Row w g T ps) (hg : g < b) : TsAt w b (some ⟨g, 0, none⟩) ps := by
  intro j hj
  obtain ⟨⟨c0, c1, c2⟩, _⟩ := h.facts j hj
  exact ⟨_, rfl, hg, by rw [add_head]; exact c0, by rw [add_head]; exact c1, by rw [add_head]; exact c2⟩
set_option maxHeartbeats 3200000 in
theorem Row.set {w : World} {g : Nat} {T : TypeId} {ps : List Tu} (h : Row w g T ps) (j : Nat) (z0 z1 z2 : Int) :
    Row (((w.setCell ⟨g, j * 3, none⟩ (.int .i64 z0)).setCell ⟨g, j * 3 + 1, none⟩ (.int .i64 z1)).setCell ⟨g, j * 3 + 2, none⟩ (.int .i64 z2)) g T (ps.set j (z0, z1, z2)) := by
  have := set_own (set_own (set_own h (j * 3) (.int .i64 z0)) (j * 3 + 1) (.int .i64 z1)) (j * 3 + 2) (.int .i64 z2)
  rw [List.setIfInBounds_toArray, List.setIfInBounds_toArray, List.setIfInBounds_toArray, cellsT_set] at this
  exact this
theorem Row.below {w w' : World} {g : Nat} {T : TypeId} {ps : List Tu} (h : Row w g T ps) (hb : Below w.heap.size w w') (hg : g < w.heap.size) : Row w' g T ps := Holds.below h hb hg
theorem Row.later {w w' : World} {g : Nat} {T : TypeId} {ps : List Tu} (h : Row w g T ps) (hb : Below w.heap.size w w') : Row w' g T ps := Holds.later h hb
set_option maxHeartbeats 3200000 in
theorem Row.tsIn {w : World} {g : Nat} {T : TypeId} {ps : List Tu} (h : Row w g T ps) : TsAt w w.heap.size (some ⟨g, 0, none⟩) ps := h.ts (Array.getElem?_eq_some_iff.1 h).1
theorem Row.ptsIn {w : World} {g : Nat} {T : TypeId} {ps : List Tu} (h : Row w g T ps) : TsAt w w.heap.size (some ⟨g, 0, none⟩) ps := h.tsIn
theorem Row.far {w : World} {g : Nat} {T : TypeId} {ps : List Tu} (h : Row w g T ps) (p : Addr) (v : Value) (hne : g ≠ p.block) : Row (w.setCell p v) g T ps := Holds.far h p v hne
theorem Row.of_owns {w : World} {b g n : Nat} {T : TypeId} {ps : List Tu} (h : w.ownsRow b T 3 (.slice (some ⟨g, 0, none⟩) n n) n (cellsT ps)) : Row w g T ps ∧ b ≤ g ∧ g < w.heap.size := by
  rcases h.2 with ⟨h', _⟩ | ⟨g', cap', cu, h', hb, hg, _, _, hs, ht⟩
  · cases h'
  · injection h' with h1 h2 h3
    injection h1 with h1
    injection h1 with h1
    subst h1; subst h3
    refine ⟨?_, hb, (Array.getElem?_eq_some_iff.1 hg).1⟩
    unfold Row Holds
    rw [hg, ← ht, List.take_of_length_le (by simp [hs])]

def Box (w : World) (k : Nat) (z0 z1 z2 : Int) : Prop := w.cell? ⟨k, 0, none⟩ = some (.int .i64 z0) ∧ w.cell? ⟨k, 1, none⟩ = some (.int .i64 z1) ∧ w.cell? ⟨k, 2, none⟩ = some (.int .i64 z2)
theorem Box.later {w w' : World} {k : Nat} {z0 z1 z2 : Int} (h : Box w k z0 z1 z2) (hb : Below w.heap.size w w') : Box w' k z0 z1 z2 := by
  obtain ⟨h3, h4, h5⟩ := h
  exact ⟨cell_later hb h3, cell_later hb h4, cell_later hb h5⟩
theorem Box.laterB {w w' : World} {b k : Nat} {z0 z1 z2 : Int} (h : Box w k z0 z1 z2) (hk : k < b) (hb : Below b w w') : Box w' k z0 z1 z2 := by
  obtain ⟨h3, h4, h5⟩ := h
  exact ⟨(hb.cell hk).trans h3, (hb.cell hk).trans h4, (hb.cell hk).trans h5⟩
theorem Box.alloc {w : World} {k : Nat} {z0 z1 z2 : Int} (h : Box w k z0 z1 z2) (o : Obj) : Box (w.alloc o) k z0 z1 z2 := h.later (below1 w o)
theorem box1 (w : World) (z0 z1 z2 : Int) (T : TypeId) {k : Nat} (hk : k = w.heap.size) : Box (w.alloc (.cells #[.int .i64 z0, .int .i64 z1, .int .i64 z2] T)) k z0 z1 z2 := by
  subst hk
  have hn := heap_alloc_new w (.cells #[.int .i64 z0, .int .i64 z1, .int .i64 z2] T)
  exact ⟨World.news_of_block hn 0 _ (by simp), World.news_of_block hn 1 _ (by simp), World.news_of_block hn 2 _ (by simp)⟩

section
variable {H : Type} {enc : TypeId × Value → H} {P : Program} {w : World} {base : Nat} {spare : Nat → Bool} {held : Bool}
/-- A struct of 3 numbers that comes in by value. -/
theorem open_one {r : Reach} {b0 k : Nat} {t : TypeId} {fs : Array Field} {v : Value} {d : DataW H} {p : List MemPlace} (hs : P.underlying t = some (.struct fs)) (hf : FlatArg.flatB P k t = true) (hC : P.cellsOf t = 3)
    (hv : Value.okWide P w r b0 t v) (h : DataW.Trod enc P w base spare held t v d p) :
    ∃ z0 z1 z2 : Int, v = .agg #[.int .i64 z0, .int .i64 z1, .int .i64 z2] ∧ (Lit.int .i64 z0).wf = true ∧ (Lit.int .i64 z1).wf = true ∧ (Lit.int .i64 z2).wf = true := by
  obtain ⟨zs, rfl, hl, hw⟩ := FlatArg.flat_open hs hf hC hv h
  match zs, hl with
  | [z0, z1, z2], _ => exact ⟨z0, z1, z2, by simp, hw _ (by simp), hw _ (by simp), hw _ (by simp)⟩
/-- A slice of such structs that comes in. -/
theorem open_many {ts te : TypeId} {k : Nat} {fuel : Nat} {u : Value} {x : DataW H × List MemPlace} (hs : P.underlying ts = some (.slice te)) (hf : FlatArg.flatB P k te = true) (hC : P.cellsOf te = 3)
    (h : DataW.trod enc P w base spare held fuel ts [u] = some x) : ∃ (A : Option Addr) (n cap : Nat) (ps : List Tu), u = .slice A n cap ∧ n ≤ maxLen ∧ ps.length = n ∧ TsAt w w.heap.size A ps := by
  obtain ⟨A, n, cap, Z, rfl, hn, hZ⟩ := FlatArg.flat_slice hs hf hC h
  refine ⟨A, n, cap, (List.range n).map fun j => ((Z j).getD 0 0, (Z j).getD 1 0, (Z j).getD 2 0), rfl, hn, by simp, ?_⟩
  intro j hj
  have hj' : j < n := by simpa using hj
  obtain ⟨ad, rfl, _, hc, _⟩ := hZ j hj'
  refine ⟨ad, rfl, ?_, ?_, ?_, ?_⟩
  · have := World.block_lt_of_cell? w _ (hc 0 (by omega))
    rwa [block_add] at this
  · simp only [List.getElem_map, List.getElem_range]
    have := hc 0 (by omega); simpa using this
  · simp only [List.getElem_map, List.getElem_range]
    rw [← FlatArg.add_off ad (j * 3) 1 (by omega)]; exact hc 1 (by omega)
  · simp only [List.getElem_map, List.getElem_range]
    rw [← FlatArg.add_off ad (j * 3) 2 (by omega)]; exact hc 2 (by omega)
end
end Go.Proofs.Ytcfoleiooohbhaa.Tup3
