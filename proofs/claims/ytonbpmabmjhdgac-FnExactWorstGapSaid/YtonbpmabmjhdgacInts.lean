/-
  Lists of integers that lie in memory, as slices of numbers; what reads them; a slice of numbers that comes in. No program stands here.
-/
import Derived.Test.YtonbpmabmjhdgacPts
import Derived.Test.YtonbpmabmjhdgacOwn
import Derived.ChangeSlices
namespace Go.Proofs.Ytonbpmabmjhdgac.Ints
open Go Go.RowKit PointOk Blk Own Go.ChangeShapes Go.WideShapes
open Pts (add_head)

/-- The slice at A holds these numbers, in blocks below b. -/
def IntsAt (w : World) (b : Nat) (A : Option Addr) (zs : List Int) : Prop :=
  ∀ j (h : j < zs.length), ∃ ad, A = some ad ∧ ad.block < b ∧ w.cell? (ad.add j) = some (.int .i64 zs[j])
theorem IntsAt.later {w w' : World} {b : Nat} {A : Option Addr} {zs : List Int} (h : IntsAt w b A zs) (hb : Below b w w') : IntsAt w' b A zs := by
  intro j hj
  obtain ⟨ad, h1, h2, h3⟩ := h j hj
  exact ⟨ad, h1, h2, (hb.cell (by rw [Pts.block_add]; exact h2)).trans h3⟩
theorem IntsAt.wide {w : World} {b b' : Nat} {A : Option Addr} {zs : List Int} (h : IntsAt w b A zs) (hb : b ≤ b') : IntsAt w b' A zs := by
  intro j hj
  obtain ⟨ad, h1, h2, h3⟩ := h j hj
  exact ⟨ad, h1, Nat.lt_of_lt_of_le h2 hb, h3⟩
/-- Number j of the slice at ad. -/
def IntAt (w : World) (ad : Addr) (j : Nat) (x : Int) : Prop := w.cell? (ad.add j) = some (.int .i64 x) ∧ True
theorem IntAt.later {w w' : World} {b : Nat} {ad : Addr} {j : Nat} {x : Int} (h : IntAt w ad j x) (ha : ad.block < b) (hb : Below b w w') : IntAt w' ad j x :=
  ⟨(hb.cell (by rw [Pts.block_add]; exact ha)).trans h.1, trivial⟩
theorem IntsAt.get {w : World} {b : Nat} {A : Option Addr} {zs : List Int} (h : IntsAt w b A zs) {j : Nat} {x : Int} (hj : zs[j]? = some x) : ∃ ad, A = some ad ∧ ad.block < b ∧ IntAt w ad j x := by
  obtain ⟨hl, e⟩ := List.getElem?_eq_some_iff.1 hj
  obtain ⟨ad, h1, h2, h3⟩ := h j hl
  exact ⟨ad, h1, h2, by rw [e] at h3; exact h3, trivial⟩

/-- The first number of the slice at ad. -/
def IntHere (w : World) (ad : Addr) (x : Int) : Prop := w.cell? ad = some (.int .i64 x) ∧ True
theorem IntHere.later {w w' : World} {b : Nat} {ad : Addr} {x : Int} (h : IntHere w ad x) (ha : ad.block < b) (hb : Below b w w') : IntHere w' ad x := ⟨(hb.cell ha).trans h.1, trivial⟩
theorem here {w : World} {ad : Addr} {x : Int} (h : IntAt w ad 0 x) : IntHere w ad x := by
  refine ⟨?_, trivial⟩
  have := h.1
  simpa [Addr.add] using this

/-- The second number of the slice at ad. -/
def IntNext (w : World) (ad : Addr) (x : Int) : Prop := w.cell? ⟨ad.block, ad.off + 1, none⟩ = some (.int .i64 x) ∧ True
theorem IntNext.later {w w' : World} {b : Nat} {ad : Addr} {x : Int} (h : IntNext w ad x) (ha : ad.block < b) (hb : Below b w w') : IntNext w' ad x := ⟨(hb.cell (by exact ha)).trans h.1, trivial⟩
theorem next {w : World} {ad : Addr} {x : Int} (h : IntAt w ad 1 x) : IntNext w ad x := by
  refine ⟨?_, trivial⟩
  have := h.1
  simpa [Addr.add] using this

/-- A block of the call's own that holds just these numbers. -/
def Row (w : World) (g : Nat) (T : TypeId) (zs : List Int) : Prop := Holds w g (icells zs).toArray T
theorem Row.facts {w : World} {g : Nat} {T : TypeId} {zs : List Int} (h : Row w g T zs) (j : Nat) (hj : j < zs.length) :
    w.cell? ⟨g, j, none⟩ = some (.int .i64 zs[j]) ∧ w.frozen? ⟨g, j, none⟩ = false := by
  have hx := icells_at hj
  have c0 := cell_of_row w g j _ _ _ h
  unfold Row Holds at h
  rw [List.getElem?_toArray] at c0
  exact ⟨c0.trans hx, by simp [World.frozen?, h]⟩
theorem Row.ints {w : World} {g b : Nat} {T : TypeId} {zs : List Int} (h : Row w g T zs) (hg : g < b) : IntsAt w b (some ⟨g, 0, none⟩) zs :=
  fun j hj => ⟨_, rfl, hg, by rw [add_head]; exact (h.facts j hj).1⟩
theorem Row.set {w : World} {g : Nat} {T : TypeId} {zs : List Int} (h : Row w g T zs) (j : Nat) (x : Int) : Row (w.setCell ⟨g, j, none⟩ (.int .i64 x)) g T (zs.set j x) := by
  have e := set_own h j (.int .i64 x)
  have e2 : (icells (zs.set j x)) = (icells zs).set j (.int .i64 x) := by simp [icells, List.map_set]
  unfold Row Holds
  rw [e2]
  simpa using e
theorem Row.below {w w' : World} {g : Nat} {T : TypeId} {zs : List Int} (h : Row w g T zs) (hb : Below w.heap.size w w') (hg : g < w.heap.size) : Row w' g T zs := Holds.below h hb hg
theorem Row.later {w w' : World} {g : Nat} {T : TypeId} {zs : List Int} (h : Row w g T zs) (hb : Below w.heap.size w w') : Row w' g T zs := Holds.later h hb
theorem Row.intsIn {w : World} {g : Nat} {T : TypeId} {zs : List Int} (h : Row w g T zs) : IntsAt w w.heap.size (some ⟨g, 0, none⟩) zs := h.ints (Array.getElem?_eq_some_iff.1 h).1
theorem Row.ptsIn {w : World} {g : Nat} {T : TypeId} {zs : List Int} (h : Row w g T zs) : IntsAt w w.heap.size (some ⟨g, 0, none⟩) zs := h.intsIn
theorem Row.of_owns {w : World} {b g n : Nat} {T : TypeId} {zs : List Int} (h : w.ownsRow b T 1 (.slice (some ⟨g, 0, none⟩) n n) n (icells zs)) : Row w g T zs ∧ b ≤ g ∧ g < w.heap.size := by
  rcases h.2 with ⟨h', _⟩ | ⟨g', cap', cu, h', hb, hg, _, _, hs, ht⟩
  · cases h'
  · injection h' with h1 h2 h3
    injection h1 with h1
    injection h1 with h1
    subst h1; subst h3
    refine ⟨?_, hb, (Array.getElem?_eq_some_iff.1 hg).1⟩
    unfold Row Holds
    rw [hg, ← ht, List.take_of_length_le (by simp [hs])]

section
variable {H : Type} {enc : TypeId × Value → H} {P : Program} {w : World} {base : Nat} {spare : Nat → Bool} {held : Bool}
/-- A slice of numbers that comes in. -/
theorem ints_of {t e : TypeId} {fuel : Nat} {u : Value} {x : DataW H × List MemPlace} (ht : P.underlying t = some (.slice e)) (he : P.underlying e = some (.int .i64)) (hc : P.cellsOf e = 1)
    (h : DataW.trod enc P w base spare held fuel t [u] = some x) : ∃ (A : Option Addr) (n cap : Nat) (zs : List Int), u = .slice A n cap ∧ n ≤ maxLen ∧ zs.length = n ∧ IntsAt w w.heap.size A zs := by
  rcases open_ints ht he hc h with ⟨hcs, _⟩ | ⟨a, l, c, zs, hcs, _, hl, hm, hz, _, hcell, _⟩
  · simp at hcs
    subst hcs
    exact ⟨none, 0, 0, [], rfl, Nat.zero_le _, rfl, fun j hj => absurd hj (by simp)⟩
  · simp at hcs
    subst hcs
    have hlm : l ≤ zs.length := by rw [hz]; split <;> omega
    refine ⟨some a, l, c, zs.take l, rfl, by omega, by rw [List.length_take]; omega, ?_⟩
    intro j hj
    have hj' : j < l ∧ j < zs.length := by rw [List.length_take] at hj; omega
    have hcj := hcell j hj'.2
    have e1 : (zs.take l)[j]'hj = zs[j]'hj'.2 := List.getElem_take
    have e2 : zs.getD j 0 = zs[j]'hj'.2 := by rw [List.getD_eq_getElem?_getD, List.getElem?_eq_getElem hj'.2]; rfl
    rw [e2] at hcj
    refine ⟨a, rfl, ?_, by rw [e1]; exact hcj⟩
    have := World.block_lt_of_cell? w _ hcj
    rwa [Pts.block_add] at this
end
end Go.Proofs.Ytonbpmabmjhdgac.Ints
