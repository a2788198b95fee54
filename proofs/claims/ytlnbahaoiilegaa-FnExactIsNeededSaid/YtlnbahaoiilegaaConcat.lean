/-
  slices.Concat of two lists of points, as the landed code reaches it: a new block that holds them one after the other.
-/
import Derived.Test.YtlnbahaoiilegaaGrow
import Derived.Deep.Upon
namespace Go.Proofs.Ytlnbahaoiilegaa.Concat
open Go.RowKit PointOk Blk Pts

theorem cellsP_append : ∀ (ps qs : List (Int × Int)), cellsP (ps ++ qs) = cellsP ps ++ cellsP qs
  | [], _ => rfl
  | p :: ps, qs => by simp [cellsP, cellsP_append ps qs]

/-- What a list of points in memory says of its cells. -/
theorem add_odd (ad : Addr) (k : Nat) : ad.add (k * 2 + 1) = ⟨(ad.add (k * 2)).block, (ad.add (k * 2)).off + 1, none⟩ := by
  unfold Addr.add
  by_cases h : k * 2 = 0
  · simp [h]
  · simp [h, Nat.add_assoc]
theorem news {w : World} {b : Nat} {ad : Addr} {ps : List (Int × Int)} (h : PtsAt w b (some ad) ps) : ∀ j u, (cellsP ps)[j]? = some u → w.cell? (ad.add j) = some u := by
  intro j u hj
  have hl := cellsP_length ps
  obtain ⟨hlt, _⟩ := List.getElem?_eq_some_iff.1 hj
  obtain ⟨k, hk⟩ : ∃ k, j = k * 2 ∨ j = k * 2 + 1 := ⟨j / 2, by omega⟩
  have hkl : k < ps.length := by omega
  obtain ⟨ad2, e, _, c0, c1⟩ := h k hkl
  injection e with e
  subst e
  obtain ⟨d0, d1⟩ := cellsP_at ps k hkl
  rcases hk with rfl | rfl
  · rw [d0] at hj
    injection hj with hj
    rw [← hj]
    exact c0
  · rw [d1] at hj
    injection hj with hj
    rw [← hj, add_odd]
    exact c1
theorem one : ∀ (ps : List (Int × Int)), ∀ u ∈ cellsP ps, u.oneCell' = true
  | [], u, h => by simp [cellsP] at h
  | p :: ps, u, h => by
    simp only [cellsP, List.mem_cons] at h
    rcases h with rfl | rfl | h
    · rfl
    · rfl
    · exact one ps u h

theorem owns_pts {w : World} {b g n cap : Nat} {T : TypeId} {ps : List (Int × Int)} (h : w.ownsRow b T 2 (.slice (some ⟨g, 0, none⟩) n cap) n (cellsP ps)) (hb : g < w.heap.size) : PtsAt w w.heap.size (some ⟨g, 0, none⟩) ps := by
  have hl := h.1
  rw [cellsP_length] at hl
  rcases h.2 with ⟨h', _⟩ | ⟨g', cap', cu, h', _, hg, _, _, _, ht⟩
  · cases h'
  · injection h' with h1 h2 h3
    injection h1 with h1
    injection h1 with h1
    subst h1
    intro j hj
    obtain ⟨e0, e1⟩ := cellsP_at ps j hj
    have c0 := cell_of_row w g (j * 2) _ _ _ hg
    have c1 := cell_of_row w g (j * 2 + 1) _ _ _ hg
    rw [← ht, List.getElem?_take, if_pos (by omega), Array.getElem?_toList] at e0 e1
    exact ⟨_, rfl, hb, by rw [add_head]; exact c0.trans e0, by rw [add_head]; exact c1.trans e1⟩

end Go.Proofs.Ytlnbahaoiilegaa.Concat
