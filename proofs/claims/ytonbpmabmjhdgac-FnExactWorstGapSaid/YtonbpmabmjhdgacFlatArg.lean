/-
  Structs whose cells are all integers, also those of structs within, and slices of such structs, that come in: opened. No program stands here.
-/
import Derived.Deep.Slices
import Derived.Lib.SmallJoins
import Derived.ChangeSame
import Derived.ChangeOld
import Derived.Test.YtonbpmabmjhdgacPts
namespace Go.Proofs.Ytonbpmabmjhdgac.FlatArg
open Go Go.ChangeShapes Go.WideShapes Go.Deep

/-- The fields lie one behind the other, from cell o on; the cell behind them. -/
def stepB (P : Program) : List Field → Nat → Option Nat
  | [], o => some o
  | f :: fs, o => if f.offset = o then stepB P fs (o + P.cellsOf f.type) else none
/-- All cells of the type are integers. -/
def flatB (P : Program) : Nat → TypeId → Bool
  | 0, _ => false
  | k + 1, t => match P.underlying t with
    | some (.int .i64) => true
    | some (.struct fs) => decide (stepB P fs.toList 0 = some (P.cellsOf t)) && fs.toList.all fun f => flatB P k f.type
    | _ => false

section
variable {H : Type} {enc : TypeId × Value → H} {P : Program} {w : World} {base : Nat} {spare : Nat → Bool} {held : Bool}

def AllInt (cs : List Value) : Prop := ∃ zs : List Int, cs = zs.map (fun z => Value.int .i64 z) ∧ ∀ z ∈ zs, (Lit.int .i64 z).wf = true
theorem AllInt.app {a b : List Value} (ha : AllInt a) (hb : AllInt b) : AllInt (a ++ b) := by
  obtain ⟨x, rfl, hx⟩ := ha
  obtain ⟨y, rfl, hy⟩ := hb
  refine ⟨x ++ y, by simp, ?_⟩
  intro z hz
  rcases List.mem_append.1 hz with h | h
  · exact hx z h
  · exact hy z h
theorem pieces {cs : List Value} : ∀ (fs : List Field) (o e : Nat), stepB P fs o = some e → cs.length = e → (∀ f ∈ fs, AllInt ((cs.drop f.offset).take (P.cellsOf f.type))) → AllInt (cs.drop o)
  | [], o, e, hs, hl, _ => by
    simp only [stepB, Option.some.injEq] at hs
    rw [List.drop_of_length_le (by omega)]
    exact ⟨[], rfl, by simp⟩
  | f :: fs, o, e, hs, hl, h => by
    unfold stepB at hs
    split at hs
    · rename_i ho
      have h1 := h f (by simp)
      have h2 := pieces fs (o + P.cellsOf f.type) e hs hl (fun g hg => h g (by simp [hg]))
      rw [ho] at h1
      rw [← List.take_append_drop (P.cellsOf f.type) (cs.drop o), List.drop_drop]
      exact h1.app h2
    · cases hs
theorem flat_ints : ∀ (k : Nat) {t : TypeId} {fuel : Nat} {cs : List Value} {x : DataW H × List MemPlace}, flatB P k t = true → DataW.trod enc P w base spare held fuel t cs = some x → AllInt cs
  | 0, _, _, _, _, hf, _ => by simp [flatB] at hf
  | k + 1, t, fuel, cs, x, hf, h => by
    unfold flatB at hf
    split at hf
    · rename_i hu
      obtain ⟨z, rfl, _, hw⟩ := DataW.trod_int hu h
      exact ⟨[z], rfl, by simpa using hw⟩
    · rename_i fs hu
      simp only [Bool.and_eq_true, decide_eq_true_eq, List.all_eq_true] at hf
      obtain ⟨xs, n, _, _, hl, hxl, hx⟩ := DataW.trod_struct hu h
      have := pieces (P := P) (cs := cs) fs.toList 0 _ hf.1 hl (fun f hfm => by
        obtain ⟨i, hi, e⟩ := List.mem_iff_getElem.1 hfm
        have hi' : i < fs.size := by simpa using hi
        have e2 : fs[i]? = some f := by
          rw [Array.getElem?_eq_getElem hi']
          simpa using e
        have h3 := hx i f e2
        rw [List.getElem?_eq_getElem (by omega)] at h3
        exact flat_ints k (hf.2 f hfm) h3)
      simpa using this
    · cases hf
theorem flat_open {r : Reach} {b0 k m : Nat} {t : TypeId} {fs : Array Field} {v : Value} {d : DataW H} {p : List MemPlace} (hs : P.underlying t = some (.struct fs)) (hf : flatB P k t = true) (hC : P.cellsOf t = m)
    (hv : Value.okWide P w r b0 t v) (h : DataW.Trod enc P w base spare held t v d p) :
    ∃ zs : List Int, v = .agg (zs.map (fun z => Value.int .i64 z)).toArray ∧ zs.length = m ∧ ∀ z ∈ zs, (Lit.int .i64 z).wf = true := by
  obtain ⟨cs, rfl, hsz⟩ := okWide_struct hs hv
  obtain ⟨fuel, hfu⟩ := h
  obtain ⟨zs, e, hw⟩ := flat_ints k hf hfu
  have e2 : cs = (zs.map (fun z => Value.int .i64 z)).toArray := by
    obtain ⟨l⟩ := cs
    simpa [Value.cells] using e
  refine ⟨zs, by rw [e2], ?_, hw⟩
  have : cs.size = zs.length := by rw [e2]; simp
  omega
theorem flat_slice {ts te : TypeId} {k m : Nat} {fuel : Nat} {u : Value} {x : DataW H × List MemPlace} (hs : P.underlying ts = some (.slice te)) (hf : flatB P k te = true) (hC : P.cellsOf te = m)
    (h : DataW.trod enc P w base spare held fuel ts [u] = some x) : ∃ (A : Option Addr) (n cap : Nat) (Z : Nat → List Int), u = .slice A n cap ∧ n ≤ maxLen ∧
      ∀ j, j < n → ∃ ad, A = some ad ∧ (Z j).length = m ∧ (∀ i, i < m → w.cell? (ad.add (j * m + i)) = some (.int .i64 ((Z j).getD i 0))) ∧ ∀ z ∈ Z j, (Lit.int .i64 z).wf = true := by
  rcases open_slice hs h with ⟨hcs, _⟩ | ⟨a, l, c, q, n, D, Pl, hcs, _, hl, hm, hqq, _, hx⟩
  · simp at hcs
    subst hcs
    exact ⟨none, 0, 0, fun _ => [], rfl, Nat.zero_le _, fun j hj => absurd hj (by omega)⟩
  · simp at hcs
    subst hcs
    have hlq : l ≤ q := by rw [hqq]; split <;> omega
    have each : ∀ j, j < l → ∃ zs : List Int, zs.length = m ∧ (∀ i, i < m → w.cell? (a.add (j * m + i)) = some (.int .i64 (zs.getD i 0))) ∧ ∀ z ∈ zs, (Lit.int .i64 z).wf = true := by
      intro j hj
      obtain ⟨cs', h1, h2⟩ := hx j (by omega)
      rw [hC] at h1
      obtain ⟨_, hlen, hcell⟩ := World.cells?_some h1
      obtain ⟨zs, rfl, hw⟩ := flat_ints k hf h2
      have hzl : zs.length = m := by simpa using hlen
      refine ⟨zs, hzl, fun i hi => ?_, hw⟩
      have := hcell i hi
      rw [add_add] at this
      rw [this, List.getElem?_map, List.getD_eq_getElem?_getD, List.getElem?_eq_getElem (by omega)]
      rfl
    obtain ⟨Z, hZ⟩ := choose_lt each
    exact ⟨some a, l, c, Z, rfl, by omega, fun j hj => ⟨a, rfl, (hZ j hj).1, (hZ j hj).2.1, (hZ j hj).2.2⟩⟩
theorem add_off (a : Addr) (j i : Nat) (hi : 0 < i) : a.add (j + i) = ⟨(a.add j).block, (a.add j).off + i, none⟩ := by
  unfold Addr.add
  by_cases h0 : j = 0
  · simp [h0]; omega
  · simp [h0, Nat.add_assoc]
end
end Go.Proofs.Ytonbpmabmjhdgac.FlatArg
