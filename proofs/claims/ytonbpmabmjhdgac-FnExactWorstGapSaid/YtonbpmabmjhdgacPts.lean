/-
  Lists of points that lie in memory, as slices of structs of two numbers; what reads them. No program stands here.
-/
import Derived.Test.YtonbpmabmjhdgacBlk
namespace Go.Proofs.Ytonbpmabmjhdgac.Pts
open Go.RowKit PointOk Blk

/-- The slice at A holds these points, in blocks below b. -/
def PtsAt (w : World) (b : Nat) (A : Option Addr) (ps : List (Int × Int)) : Prop :=
  ∀ j (h : j < ps.length), ∃ ad, A = some ad ∧ ad.block < b ∧ w.cell? (ad.add (j * 2)) = some (.int .i64 ps[j].1) ∧ w.cell? ⟨(ad.add (j * 2)).block, (ad.add (j * 2)).off + 1, none⟩ = some (.int .i64 ps[j].2)
theorem block_add (a : Addr) (j : Nat) : (a.add j).block = a.block := by unfold Addr.add; split <;> rfl
theorem PtsAt.later {w w' : World} {b : Nat} {A : Option Addr} {ps : List (Int × Int)} (h : PtsAt w b A ps) (hb : Below b w w') : PtsAt w' b A ps := by
  intro j hj
  obtain ⟨ad, h1, h2, h3, h4⟩ := h j hj
  exact ⟨ad, h1, h2, (hb.cell (by rw [block_add]; exact h2)).trans h3, (hb.cell (by show (ad.add (j * 2)).block < b; rw [block_add]; exact h2)).trans h4⟩
theorem PtsAt.wide {w : World} {b b' : Nat} {A : Option Addr} {ps : List (Int × Int)} (h : PtsAt w b A ps) (hb : b ≤ b') : PtsAt w b' A ps := by
  intro j hj
  obtain ⟨ad, h1, h2, h3, h4⟩ := h j hj
  exact ⟨ad, h1, Nat.lt_of_lt_of_le h2 hb, h3, h4⟩

/-- Point number j of the slice at ad. -/
def PtAt (w : World) (ad : Addr) (j : Nat) (x y : Int) : Prop := w.cell? (ad.add (j * 2)) = some (.int .i64 x) ∧ w.cell? ⟨(ad.add (j * 2)).block, (ad.add (j * 2)).off + 1, none⟩ = some (.int .i64 y)
theorem PtAt.later {w w' : World} {b : Nat} {ad : Addr} {j : Nat} {x y : Int} (h : PtAt w ad j x y) (ha : ad.block < b) (hb : Below b w w') : PtAt w' ad j x y :=
  ⟨(hb.cell (by rw [block_add]; exact ha)).trans h.1, (hb.cell (by show (ad.add (j * 2)).block < b; rw [block_add]; exact ha)).trans h.2⟩
theorem PtsAt.at_ {w : World} {b : Nat} {A : Option Addr} {ps : List (Int × Int)} (h : PtsAt w b A ps) (j : Nat) (hj : j < ps.length) : ∃ ad, A = some ad ∧ ad.block < b ∧ PtAt w ad j ps[j].1 ps[j].2 := by
  obtain ⟨ad, h1, h2, h3, h4⟩ := h j hj
  exact ⟨ad, h1, h2, h3, h4⟩

theorem PtsAt.get {w : World} {b : Nat} {A : Option Addr} {ps : List (Int × Int)} (h : PtsAt w b A ps) {j : Nat} {x y : Int} (hj : ps[j]? = some (x, y)) : ∃ ad, A = some ad ∧ ad.block < b ∧ PtAt w ad j x y := by
  obtain ⟨hl, e⟩ := List.getElem?_eq_some_iff.1 hj
  have := h.at_ j hl
  rw [e] at this
  exact this

/-- The first point of the slice at ad. -/
def PtHere (w : World) (ad : Addr) (x y : Int) : Prop := w.cell? ad = some (.int .i64 x) ∧ w.cell? ⟨ad.block, ad.off + 1, none⟩ = some (.int .i64 y)
theorem PtHere.later {w w' : World} {b : Nat} {ad : Addr} {x y : Int} (h : PtHere w ad x y) (ha : ad.block < b) (hb : Below b w w') : PtHere w' ad x y :=
  ⟨(hb.cell ha).trans h.1, (hb.cell (by show ad.block < b; exact ha)).trans h.2⟩
theorem PtAt.zero {w : World} {ad : Addr} {x y : Int} (h : PtAt w ad 0 x y) : PtHere w ad x y := by
  obtain ⟨h1, h2⟩ := h
  simp [Addr.add] at h1 h2
  exact ⟨h1, h2⟩

/-- A box of the call's own that holds a slice (a room). -/
def BoxR (w : World) (k : Nat) (v : Value) : Prop := w.cell? ⟨k, 0, none⟩ = some v ∧ True
theorem BoxR.later {w w' : World} {k : Nat} {v : Value} (h : BoxR w k v) (hb : Below w.heap.size w w') : BoxR w' k v := ⟨cell_later hb h.1, trivial⟩
theorem BoxR.alloc {w : World} {k : Nat} {v : Value} (h : BoxR w k v) (o : Obj) : BoxR (w.alloc o) k v := h.later (below1 w o)
theorem boxR (w : World) (v : Value) (T : TypeId) {k : Nat} (hk : k = w.heap.size) : BoxR (w.alloc (.cells #[v] T)) k v := by
  subst hk
  exact ⟨World.news_of_block (heap_alloc_new w (.cells #[v] T)) 0 _ (by simp), trivial⟩

/-- The cells of a list of points. -/
def cellsP : List (Int × Int) → List Value
  | [] => []
  | p :: ps => .int .i64 p.1 :: .int .i64 p.2 :: cellsP ps
theorem cellsP_length : ∀ ps, (cellsP ps).length = ps.length * 2
  | [] => rfl
  | p :: ps => by simp [cellsP, cellsP_length ps]; omega
theorem cellsP_at : ∀ (ps : List (Int × Int)) (j : Nat) (h : j < ps.length), (cellsP ps)[j * 2]? = some (.int .i64 ps[j].1) ∧ (cellsP ps)[j * 2 + 1]? = some (.int .i64 ps[j].2)
  | [], _, h => by simp at h
  | p :: ps, 0, _ => by simp [cellsP]
  | p :: ps, j + 1, h => by
    have := cellsP_at ps j (by simpa using h)
    rw [show (j + 1) * 2 = j * 2 + 1 + 1 by omega]
    simpa [cellsP] using this
theorem cellsP_set : ∀ (ps : List (Int × Int)) (j : Nat) (x y : Int), ((cellsP ps).set (j * 2) (.int .i64 x)).set (j * 2 + 1) (.int .i64 y) = cellsP (ps.set j (x, y))
  | [], _, _, _ => by simp [cellsP]
  | p :: ps, 0, _, _ => by simp [cellsP]
  | p :: ps, j + 1, x, y => by
    rw [show (j + 1) * 2 = j * 2 + 1 + 1 by omega]
    simpa [cellsP] using cellsP_set ps j x y
theorem cellsP_zeros : ∀ n, cellsP (List.replicate n (0, 0)) = List.replicate (n * 2) (.int .i64 0)
  | 0 => rfl
  | n + 1 => by
    rw [show (n + 1) * 2 = n * 2 + 1 + 1 by omega, List.replicate_succ, List.replicate_succ, List.replicate_succ, ← cellsP_zeros n]
    rfl

/-- A block of the call's own that holds these points, and no more. -/
def Row (w : World) (g : Nat) (T : TypeId) (ps : List (Int × Int)) : Prop := Holds w g (cellsP ps).toArray T
theorem Row.facts {w : World} {g : Nat} {T : TypeId} {ps : List (Int × Int)} (h : Row w g T ps) (j : Nat) (hj : j < ps.length) :
    (w.cell? ⟨g, j * 2, none⟩ = some (.int .i64 ps[j].1) ∧ w.cell? ⟨g, j * 2 + 1, none⟩ = some (.int .i64 ps[j].2)) ∧ w.frozen? ⟨g, j * 2, none⟩ = false ∧ w.frozen? ⟨g, j * 2 + 1, none⟩ = false := by
  obtain ⟨e0, e1⟩ := cellsP_at ps j hj
  have c0 := cell_of_row w g (j * 2) _ _ _ h
  have c1 := cell_of_row w g (j * 2 + 1) _ _ _ h
  unfold Row Holds at h
  rw [List.getElem?_toArray] at c0 c1
  exact ⟨⟨c0.trans e0, c1.trans e1⟩, by simp [World.frozen?, h], by simp [World.frozen?, h]⟩
theorem add_head (g k : Nat) : (⟨g, 0, none⟩ : Addr).add k = ⟨g, k, none⟩ := by
  unfold Addr.add; split <;> simp_all
theorem Row.pts {w : World} {g b : Nat} {T : TypeId} {ps : List (Int × Int)} (h : Row w g T ps) (hg : g < b) : PtsAt w b (some ⟨g, 0, none⟩) ps := by
  intro j hj
  obtain ⟨⟨c0, c1⟩, _⟩ := h.facts j hj
  exact ⟨_, rfl, hg, by rw [add_head]; exact c0, by rw [add_head]; exact c1⟩
theorem Row.set {w : World} {g : Nat} {T : TypeId} {ps : List (Int × Int)} (h : Row w g T ps) (j : Nat) (x y : Int) :
    Row ((w.setCell ⟨g, j * 2, none⟩ (.int .i64 x)).setCell ⟨g, j * 2 + 1, none⟩ (.int .i64 y)) g T (ps.set j (x, y)) := by
  have := set_own (set_own h (j * 2) (.int .i64 x)) (j * 2 + 1) (.int .i64 y)
  rw [List.setIfInBounds_toArray, List.setIfInBounds_toArray, cellsP_set] at this
  exact this
theorem Row.below {w w' : World} {g : Nat} {T : TypeId} {ps : List (Int × Int)} (h : Row w g T ps) (hb : Below w.heap.size w w') (hg : g < w.heap.size) : Row w' g T ps := Holds.below h hb hg
theorem Row.later {w w' : World} {g : Nat} {T : TypeId} {ps : List (Int × Int)} (h : Row w g T ps) (hb : Below w.heap.size w w') : Row w' g T ps := Holds.later h hb
theorem Row.ptsIn {w : World} {g : Nat} {T : TypeId} {ps : List (Int × Int)} (h : Row w g T ps) : PtsAt w w.heap.size (some ⟨g, 0, none⟩) ps := h.pts (Array.getElem?_eq_some_iff.1 h).1
theorem Row.far {w : World} {g : Nat} {T : TypeId} {ps : List (Int × Int)} (h : Row w g T ps) (p : Addr) (v : Value) (hne : g ≠ p.block) : Row (w.setCell p v) g T ps := Holds.far h p v hne
theorem Row.of_owns {w : World} {b g n : Nat} {T : TypeId} {ps : List (Int × Int)} (h : w.ownsRow b T 2 (.slice (some ⟨g, 0, none⟩) n n) n (cellsP ps)) : Row w g T ps ∧ b ≤ g ∧ g < w.heap.size := by
  rcases h.2 with ⟨h', _⟩ | ⟨g', cap', cu, h', hb, hg, _, _, hs, ht⟩
  · cases h'
  · injection h' with h1 h2 h3
    injection h1 with h1
    injection h1 with h1
    subst h1; subst h3
    refine ⟨?_, hb, (Array.getElem?_eq_some_iff.1 hg).1⟩
    unfold Row Holds
    rw [hg, ← ht, List.take_of_length_le (by simp [hs])]
end Go.Proofs.Ytonbpmabmjhdgac.Pts
