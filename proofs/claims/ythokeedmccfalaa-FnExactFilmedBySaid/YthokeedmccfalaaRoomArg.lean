/-
  A struct of one slice of structs of two integers that comes in by value (a room: its corners), opened. No program stands here.
-/
import Derived.Deep.SlicePairs
import Derived.Lib.SmallJoins
import Derived.ChangeSame
import Derived.Test.YthokeedmccfalaaGround
namespace Go.Proofs.Ythokeedmccfalaa.RoomArg
open Go Go.ChangeShapes Go.WideShapes Go.Deep Pts

section
variable {H : Type} {enc : TypeId × Value → H} {P : Program} {w : World} {base : Nat} {spare : Nat → Bool} {held : Bool}

/-- What is known of the types of a slice of points. -/
structure ShapeS (P : Program) (ts te ti : TypeId) (g0 g1 : Field) : Prop where
  hs : P.underlying ts = some (.slice te)
  he : P.underlying te = some (.struct #[g0, g1])
  ce : P.cellsOf te = 2
  u0 : g0.type = ti
  u1 : g1.type = ti
  q0 : g0.offset = 0
  q1 : g1.offset = 1
  hi : P.underlying ti = some (.int .i64)
  hCi : P.cellsOf ti = 1

theorem points_of {ts te ti : TypeId} {g0 g1 : Field} {fuel : Nat} {u : Value} {x : DataW H × List MemPlace} (S : ShapeS P ts te ti g0 g1)
    (h : DataW.trod enc P w base spare held fuel ts [u] = some x) : ∃ (A : Option Addr) (n cap : Nat) (ps : List (Int × Int)), u = .slice A n cap ∧ n ≤ maxLen ∧ ps.length = n ∧ PtsAt w w.heap.size A ps := by
  rcases open_slice_pairs S.hs S.he S.ce S.q0 S.q1 (by rw [S.u0]; exact S.hCi) (by rw [S.u1]; exact S.hCi) h with ⟨hcs, _⟩ | ⟨a, l, c, m, k, V0, V1, D0, D1, P0, P1, hcs, _, hl, hm, hmm, _, hcell⟩
  · simp at hcs
    subst hcs
    exact ⟨none, 0, 0, [], rfl, Nat.zero_le _, rfl, fun j hj => absurd hj (by simp)⟩
  · simp at hcs
    subst hcs
    have hlm : l ≤ m := by rw [hmm]; split <;> omega
    have each : ∀ i, i < m → ∃ p : Int × Int, w.cell? (a.add (i * 2)) = some (.int .i64 p.1) ∧ w.cell? (a.add (i * 2 + 1)) = some (.int .i64 p.2) := by
      intro i hi
      obtain ⟨c0, c1, t0, t1⟩ := hcell i hi
      rw [S.u0] at t0
      rw [S.u1] at t1
      obtain ⟨x, e0, _⟩ := DataW.trod_int S.hi t0
      obtain ⟨y, e1, _⟩ := DataW.trod_int S.hi t1
      simp at e0 e1
      exact ⟨(x, y), by rw [c0, e0], by rw [c1, e1]⟩
    refine ⟨some a, l, c, (List.range l).map fun i => if h : i < m then Classical.choose (each i h) else (0, 0), rfl, by omega, by simp, ?_⟩
    intro j hj
    have hj' : j < l := by simpa using hj
    have hjm : j < m := by omega
    have hc := Classical.choose_spec (each j hjm)
    refine ⟨a, rfl, ?_, ?_, ?_⟩
    · have := World.block_lt_of_cell? w _ hc.1
      rwa [Pts.block_add] at this
    · simp only [List.getElem_map, List.getElem_range, hjm, dif_pos]
      exact hc.1
    · simp only [List.getElem_map, List.getElem_range, hjm, dif_pos]
      have e : (⟨(a.add (j * 2)).block, (a.add (j * 2)).off + 1, none⟩ : Addr) = a.add (j * 2 + 1) := by
        unfold Addr.add
        by_cases h0 : j * 2 = 0
        · simp [h0]
        · simp [h0, Nat.add_assoc]
      rw [e]
      exact hc.2

/-- What is known of the types of a room. -/
structure Shape (P : Program) (t ts te ti : TypeId) (f0 g0 g1 : Field) : Prop where
  ht : P.underlying t = some (.struct #[f0])
  t0 : f0.type = ts
  o0 : f0.offset = 0
  hC : P.cellsOf t = 1
  hCs : P.cellsOf ts = 1
  S : ShapeS P ts te ti g0 g1

theorem open_room {r : Reach} {b0 : Nat} {t ts te ti : TypeId} {f0 g0 g1 : Field} {v : Value} {d : DataW H} {p : List MemPlace} (S : Shape P t ts te ti f0 g0 g1)
    (hv : Value.okWide P w r b0 t v) (h : DataW.Trod enc P w base spare held t v d p) :
    ∃ (A : Option Addr) (n cap : Nat) (ps : List (Int × Int)), v = .agg #[.slice A n cap] ∧ n ≤ maxLen ∧ ps.length = n ∧ PtsAt w w.heap.size A ps := by
  obtain ⟨cs, rfl, hsz⟩ := okWide_struct S.ht hv
  obtain ⟨u, rfl⟩ : ∃ u, cs = #[u] := by
    obtain ⟨l⟩ := cs
    match l, hsz.trans S.hC with
    | [a], _ => exact ⟨a, rfl⟩
  obtain ⟨fuel, hf⟩ := h
  obtain ⟨y0, k, _, _, h0⟩ := trod_struct1 S.ht hf
  simp only [S.t0, S.o0, S.hCs, Value.cells] at h0
  simp at h0
  obtain ⟨A, n, cap, ps, rfl, hn, hl, hp⟩ := points_of S.S h0
  exact ⟨A, n, cap, ps, rfl, hn, hl, hp⟩
end
end Go.Proofs.Ythokeedmccfalaa.RoomArg
