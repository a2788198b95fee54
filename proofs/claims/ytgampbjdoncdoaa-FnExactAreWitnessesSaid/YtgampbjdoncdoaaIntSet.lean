/-
  A set of numbers of the call's own: a map from numbers to bools that the call itself has made. What it answers, how a number is laid into it; at the operation, for the walk.
-/
import Derived.Maps.OwnOps
import Derived.Maps.Views
import Derived.DeepKeys4
import Derived.Test.YtgampbjdoncdoaaGround
namespace Go.Proofs.Ytgampbjdoncdoaa.IntSet
open Go Go.RowKit Go.Maps Own

theorem keyed : Keyed Try.prog 3 := int_keyed Try.underlying3
theorem zero (w : World) : (zeroValue 4).run Try.prog w = .ok (.bool false) w := by kernel_rfl
theorem key_some {x : Int} (hx : (Lit.int .i64 x).wf = true) : ∃ kl, keyOf Try.prog 3 (.int .i64 x) = some kl := ⟨_, keyOf_int_mk Try.underlying3 hx⟩

set_option maxRecDepth 100000 in
theorem bool_inv {v : Value} {b : Bool} {ps : List MemPlace} (h : plainElem (H := Unit) Try.prog 4 v = some (.lit (.bool b), ps)) : v = .bool b := by
  unfold plainElem at h
  rw [Try.underlying4] at h
  cases v <;> simp at h
  rw [h.1]

/-- The map in block b holds just the numbers of which f says yes. -/
def SetAt (w : World) (b n : Nat) (f : Int → Bool) : Prop :=
  ∃ D : DataW Unit, w.ownsMap Try.prog 3 (plainElem Try.prog 4) b n D ∧ IsMap D ∧ ∀ x kl, keyOf Try.prog 3 (.int .i64 x) = some kl → D.atKey kl (.lit (.bool false)) = .lit (.bool (f x))

theorem made (w : World) : SetAt (w.alloc (.map #[] 0)) w.heap.size 0 (fun _ => false) :=
  ⟨.map [], World.ownsMap_made w _ _ _, isMap_empty, fun _ _ _ => rfl⟩
theorem SetAt.kept {w w' : World} {b n : Nat} {f : Int → Bool} {row : Option Nat} (h : SetAt w b n f) (hg : w.grownBy w' row) (hne : some b ≠ row) : SetAt w' b n f := by
  obtain ⟨D, h1, h2, h3⟩ := h
  exact ⟨D, h1.kept hg hne, h2, h3⟩
theorem SetAt.later {w w' : World} {b n : Nat} {f : Int → Bool} (h : SetAt w b n f) (hb : Below w.heap.size w w') : SetAt w' b n f := h.kept (grown_of_below hb none) (by simp)
theorem wf_small {x : Int} (h : -1000000 ≤ x ∧ x ≤ 1000000) : (Lit.int .i64 x).wf = true := by
  have h1 : IntKind.i64.min = -9223372036854775808 := by decide
  have h2 : IntKind.i64.max = 9223372036854775807 := by decide
  simp only [Lit.wf, h1, h2, Bool.and_eq_true, decide_eq_true_eq]
  omega
theorem SetAt.mono {w : World} {b n n' : Nat} {f : Int → Bool} (h : SetAt w b n f) (hn : n ≤ n') : SetAt w b n' f := by
  obtain ⟨D, h1, h2, h3⟩ := h
  exact ⟨D, h1.mono hn, h2, h3⟩
theorem SetAt.lt {w : World} {b n : Nat} {f : Int → Bool} (h : SetAt w b n f) : b < w.heap.size := by
  obtain ⟨D, h1, _⟩ := h
  exact h1.lt

section
variable {ops : Array Oper} {rest : List Oper} {o : Oper} {a : Act} {Q : Exit → Act → World → Prop}
set_option maxRecDepth 100000 in
theorem wpList_lookup_set (w : World) (hg : o.guard = none) (m x : Operand) (t : TypeId) (hop : o.op = Op.lookup t m x false)
    (ht : Try.prog.underlying t = some (.map 3 4)) (b n : Nat) (f : Int → Bool) (hm : a.eval m = .map (some b)) (hs : SetAt w b n f)
    (px : Int) (hx : a.eval x = .int .i64 px) (wx : (Lit.int .i64 px).wf = true) (c : Bool) (hc : f px = c)
    (hK : wpList Try.prog ops Q rest (a.put o.dst (.bool c)) w) : wpList Try.prog ops Q (o :: rest) a w := by
  refine wpList_plain hg fun K' hK' => ?_
  obtain ⟨D, hown, _, hat⟩ := hs
  obtain ⟨kl, hkey⟩ := key_some wx
  obtain ⟨v, ps, hrun, hv⟩ := hown.lookup keyed ht (zero w) (plainElem_bool Try.underlying4 false) hkey
  rw [hat px kl hkey, hc] at hv
  obtain rfl := bool_inv hv
  unfold Oper.wp
  simp [execOp, hop, hm, hx, hrun, Result.andThen]
  exact hK' _ _ hK

set_option maxRecDepth 100000 in
theorem wpList_update_set (w : World) (hg : o.guard = none) (m x v : Operand) (t : TypeId) (hop : o.op = Op.mapUpdate t m x v)
    (ht : Try.prog.underlying t = some (.map 3 4)) (b n : Nat) (f : Int → Bool) (hm : a.eval m = .map (some b)) (hs : SetAt w b n f) (hn : n < maxLen)
    (px : Int) (hx : a.eval x = .int .i64 px) (wx : (Lit.int .i64 px).wf = true) (hv : a.eval v = .bool true)
    (hK : ∀ w', SetAt w' b (n + 1) (fun p => decide (p = px) || f p) → w.grownBy w' (some b) → wpList Try.prog ops Q rest (a.put o.dst undef) w') : wpList Try.prog ops Q (o :: rest) a w := by
  obtain ⟨D, hown, hmap, hat⟩ := hs
  obtain ⟨kl, hkey⟩ := key_some wx
  refine wpList_mapUpdate_own w hg m x v t hop _ _ keyed ht _ b n D hm hown hn _ _ kl hx hv hkey (.lit (.bool true)) [] (plainElem_bool Try.underlying4 true) ?_
  intro w' h1 h2
  refine hK w' ⟨_, h1, hmap.put _ _, ?_⟩ h2
  intro x' kl' hkl
  by_cases e : kl' = kl
  · subst e
    have e2 := keyed.inj hkl hkey
    injection e2 with e2 e3
    subst e3
    rw [atKey_put_same hmap (keyed.key hkl)]
    simp
  · rw [atKey_put_other e, hat x' kl' hkl]
    have hne : x' ≠ px := fun h => by
      subst h
      rw [hkey] at hkl
      injection hkl with hkl
      exact e hkl.symm
    simp [hne]
end
end Go.Proofs.Ytgampbjdoncdoaa.IntSet
