/-
  Pairs of frames that were shown before: plain facts. No program stands here.
-/
import Derived.Test.YtonbpmabmjhdgaaListMath
namespace Go.Proofs.Ytonbpmabmjhdgaa.ReplMath
open PointMath TrackMath ListMath Tup3

def ct (l : List Tu) (k : Nat) : Int := (tt l k).2.2
/-- One of the first i pairs is p. -/
def pairTo (l : List Tu) (p : Int × Int) : Nat → Bool
  | 0 => false
  | i + 1 => decide (p = (ct l i, ct l (i + 1))) || pairTo l p i
theorem pairTo_up {l : List Tu} {p : Int × Int} {i : Nat} (h : pairTo l p i = true) : ∀ {m : Nat}, i ≤ m → pairTo l p m = true
  | 0, hm => by
    obtain rfl : i = 0 := by omega
    exact h
  | m + 1, hm => by
    rcases Nat.lt_or_ge m i with h1 | h1
    · obtain rfl : i = m + 1 := by omega
      exact h
    · unfold pairTo
      rw [pairTo_up h h1, Bool.or_true]
/-- Frame k and the one before it were shown before, together. -/
def repB (l : List Tu) (k : Nat) : Bool := pairTo l (ct l (k - 1), ct l k) (k - 2)
theorem rep_few {l : List Tu} {k : Nat} (h : k ≤ 2) : repB l k = false := by
  unfold repB
  rw [show k - 2 = 0 by omega]; rfl
def repI (l : List Tu) : Int :=
  match (List.range l.length).find? fun k => repB l k with
  | some k => (k : Int)
  | none => -1
theorem repI_at {l : List Tu} {k : Nat} (hk : k < l.length) (h : repB l k = true) (hno : ∀ j, j < k → repB l j = false) : repI l = (k : Int) := by
  unfold repI
  rw [List.find?_range_eq_some.2 ⟨h, List.mem_range.2 hk, fun j hj => by simpa using hno j hj⟩]
theorem repI_none {l : List Tu} (h : ∀ k, k < l.length → repB l k = false) : repI l = -1 := by
  unfold repI
  rw [List.find?_range_eq_none.2 fun j hj => by simpa using h j hj]
/-- Every number of the list is one of 64 bits. -/
def WfT (l : List Tu) : Prop := ∀ p ∈ l, (Go.Lit.int .i64 p.1).wf = true ∧ (Go.Lit.int .i64 p.2.1).wf = true ∧ (Go.Lit.int .i64 p.2.2).wf = true
theorem WfT.at_ {l : List Tu} (h : WfT l) {k : Nat} (hk : k < l.length) : (Go.Lit.int .i64 (tt l k).2.2).wf = true :=
  (h _ (List.mem_of_getElem? (tt_at hk))).2.2
section
open Go Go.RowKit
variable {H : Type} {enc : TypeId × Value → H} {P : Program} {w : World} {base : Nat} {spare : Nat → Bool} {held : Bool}
theorem open_manyW {ts te : TypeId} {k : Nat} {fuel : Nat} {u : Value} {x : DataW H × List MemPlace} (hs : P.underlying ts = some (.slice te)) (hf : FlatArg.flatB P k te = true) (hC : P.cellsOf te = 3)
    (h : DataW.trod enc P w base spare held fuel ts [u] = some x) : ∃ (A : Option Addr) (n cap : Nat) (ps : List Tu), u = .slice A n cap ∧ n ≤ maxLen ∧ ps.length = n ∧ TsAt w w.heap.size A ps ∧ WfT ps := by
  obtain ⟨A, n, cap, Z, rfl, hn, hZ⟩ := FlatArg.flat_slice hs hf hC h
  refine ⟨A, n, cap, (List.range n).map fun j => ((Z j).getD 0 0, (Z j).getD 1 0, (Z j).getD 2 0), rfl, hn, by simp, ?_, ?_⟩
  · intro j hj
    have hj' : j < n := by simpa using hj
    obtain ⟨ad, rfl, _, hc, _⟩ := hZ j hj'
    refine ⟨ad, rfl, ?_, ?_, ?_, ?_⟩
    · have := World.block_lt_of_cell? w _ (hc 0 (by omega))
      rwa [Pts.block_add] at this
    · simp only [List.getElem_map, List.getElem_range]
      have := hc 0 (by omega); simpa using this
    · simp only [List.getElem_map, List.getElem_range]
      rw [← FlatArg.add_off ad (j * 3) 1 (by omega)]; exact hc 1 (by omega)
    · simp only [List.getElem_map, List.getElem_range]
      rw [← FlatArg.add_off ad (j * 3) 2 (by omega)]; exact hc 2 (by omega)
  · intro p hp
    obtain ⟨j, hj, rfl⟩ := List.mem_map.1 hp
    obtain ⟨ad, _, hl, _, hw⟩ := hZ j (List.mem_range.1 hj)
    have g : ∀ i, i < 3 → (Lit.int .i64 ((Z j).getD i 0)).wf = true := fun i hi => hw _ (by
      rw [List.getD_eq_getElem?_getD, List.getElem?_eq_getElem (by omega)]
      exact List.getElem_mem _)
    exact ⟨g 0 (by omega), g 1 (by omega), g 2 (by omega)⟩
end
end Go.Proofs.Ytonbpmabmjhdgaa.ReplMath
