/-
  A map from numbers to numbers of the call's own: what it answers, how a number is laid into it; at the operation, for the walk.
-/
import Derived.Maps.OwnOps
import Derived.Maps.OwnSet
import Derived.Maps.Views
import Derived.DeepKeys4
import Derived.Test.YtkcodmafakjkfaaGreatGround
namespace Go.Proofs.YtkcodmafakjkfaaGreat.IntMap
open Go Go.RowKit Go.Maps Own

theorem keyed : Keyed Tryz.prog 3 := int_keyed Tryz.underlying3
theorem zero (w : World) : (zeroValue 3).run Tryz.prog w = .ok (.int .i64 0) w := by kernel_rfl
theorem key_some {x : Int} (hx : (Lit.int .i64 x).wf = true) : ∃ kl, keyOf Tryz.prog 3 (.int .i64 x) = some kl := ⟨_, keyOf_int_mk Tryz.underlying3 hx⟩

/-- The map in block b: what f says of a number, and no key where it says nothing. -/
def MapAt (w : World) (b n : Nat) (f : Int → Option Int) : Prop :=
  ∃ D : DataW Unit, w.ownsMap Tryz.prog 3 (plainElem Tryz.prog 3) b n D ∧ IsMap D ∧ ∀ x kl, keyOf Tryz.prog 3 (.int .i64 x) = some kl → D.atKey kl (.lit (.int .i64 0)) = .lit (.int .i64 ((f x).getD 0)) ∧ Maps.has D kl = (f x).isSome

theorem made (w : World) : MapAt (w.alloc (.map #[] 0)) w.heap.size 0 (fun _ => none) :=
  ⟨.map [], World.ownsMap_made w _ _ _, isMap_empty, fun _ _ _ => ⟨rfl, rfl⟩⟩
theorem MapAt.kept {w w' : World} {b n : Nat} {f : Int → Option Int} {row : Option Nat} (h : MapAt w b n f) (hg : w.grownBy w' row) (hne : some b ≠ row) : MapAt w' b n f := by
  obtain ⟨D, h1, h2, h3⟩ := h
  exact ⟨D, h1.kept hg hne, h2, h3⟩
theorem MapAt.later {w w' : World} {b n : Nat} {f : Int → Option Int} (h : MapAt w b n f) (hb : Below w.heap.size w w') : MapAt w' b n f := h.kept (grown_of_below hb none) (by simp)
theorem wf_small {x : Int} (h : -1000000000 ≤ x ∧ x ≤ 1000000000) : (Lit.int .i64 x).wf = true := by
  have h1 : IntKind.i64.min = -9223372036854775808 := by decide
  have h2 : IntKind.i64.max = 9223372036854775807 := by decide
  simp only [Lit.wf, h1, h2, Bool.and_eq_true, decide_eq_true_eq]
  omega
theorem MapAt.mono {w : World} {b n n' : Nat} {f : Int → Option Int} (h : MapAt w b n f) (hn : n ≤ n') : MapAt w b n' f := by
  obtain ⟨D, h1, h2, h3⟩ := h
  exact ⟨D, h1.mono hn, h2, h3⟩
theorem MapAt.lt {w : World} {b n : Nat} {f : Int → Option Int} (h : MapAt w b n f) : b < w.heap.size := by
  obtain ⟨D, h1, _⟩ := h
  exact h1.lt
theorem MapAt.congr {w : World} {b n : Nat} {f g : Int → Option Int} (h : MapAt w b n f) (e : ∀ x, f x = g x) : MapAt w b n g := by
  rw [show g = f from funext fun x => (e x).symm]; exact h
/-- No slice lies in the map's block. -/
theorem MapAt.ne {w : World} {b n : Nat} {f : Int → Option Int} (h : MapAt w b n f) {cs : Array Value} {T : TypeId} {fr : Nat × Nat} {g : Nat} (hg : w.heap[g]? = some (.cells cs T fr)) : g ≠ b := by
  obtain ⟨D, ⟨es, cl, h1, _⟩, _⟩ := h
  rintro rfl
  rw [h1] at hg
  cases hg

/-- One number more. -/
def upd (f : Int → Option Int) (k v : Int) : Int → Option Int := fun x => if x = k then some v else f x

section
variable {ops : Array Oper} {rest : List Oper} {o : Oper} {a : Act} {Q : Exit → Act → World → Prop}
set_option maxRecDepth 100000 in
theorem wpList_lookup_map (w : World) (hg : o.guard = none) (m x : Operand) (t : TypeId) (hop : o.op = Op.lookup t m x false)
    (ht : Tryz.prog.underlying t = some (.map 3 3)) (b n : Nat) (f : Int → Option Int) (hm : a.eval m = .map (some b)) (hs : MapAt w b n f)
    (px : Int) (hx : a.eval x = .int .i64 px) (wx : (Lit.int .i64 px).wf = true) (c : Int) (hc : (f px).getD 0 = c)
    (hK : wpList Tryz.prog ops Q rest (a.put o.dst (.int .i64 c)) w) : wpList Tryz.prog ops Q (o :: rest) a w := by
  obtain ⟨D, hown, _, hat⟩ := hs
  obtain ⟨kl, hkey⟩ := key_some wx
  refine wpList_lookup_own_int w hg m x t hop _ _ .i64 keyed ht Tryz.underlying3 (zero w) b n D hm hown _ kl hx hkey ?_
  intro c' h1 _
  rw [(hat px kl hkey).1, hc] at h1
  injection h1 with h1
  injection h1 with _ h1
  subst h1
  exact hK

set_option maxRecDepth 100000 in
theorem wpList_lookup_map_ok (w : World) (hg : o.guard = none) (m x : Operand) (t : TypeId) (hop : o.op = Op.lookup t m x true)
    (ht : Tryz.prog.underlying t = some (.map 3 3)) (b n : Nat) (f : Int → Option Int) (hm : a.eval m = .map (some b)) (hs : MapAt w b n f)
    (px : Int) (hx : a.eval x = .int .i64 px) (wx : (Lit.int .i64 px).wf = true) (c : Int) (hc : (f px).getD 0 = c) (y : Bool) (hy : (f px).isSome = y)
    (hK : wpList Tryz.prog ops Q rest (a.put o.dst (.tuple #[.int .i64 c, .bool y])) w) : wpList Tryz.prog ops Q (o :: rest) a w := by
  obtain ⟨D, hown, _, hat⟩ := hs
  obtain ⟨kl, hkey⟩ := key_some wx
  refine wpList_lookup_own_ok_int w hg m x t hop _ _ .i64 keyed ht Tryz.underlying3 (zero w) b n D hm hown _ kl hx hkey ?_
  intro c' h1 _
  rw [(hat px kl hkey).1, hc] at h1
  injection h1 with h1
  injection h1 with _ h1
  subst h1
  rw [(hat px kl hkey).2, hy]
  exact hK

set_option maxRecDepth 100000 in
theorem wpList_update_map (w : World) (hg : o.guard = none) (m x v : Operand) (t : TypeId) (hop : o.op = Op.mapUpdate t m x v)
    (ht : Tryz.prog.underlying t = some (.map 3 3)) (b n : Nat) (f : Int → Option Int) (hm : a.eval m = .map (some b)) (hs : MapAt w b n f) (hn : n < maxLen)
    (px : Int) (hx : a.eval x = .int .i64 px) (wx : (Lit.int .i64 px).wf = true) (c : Int) (hv : a.eval v = .int .i64 c) (wc : (Lit.int .i64 c).wf = true)
    (hK : ∀ w', MapAt w' b (n + 1) (upd f px c) → w.grownBy w' (some b) → wpList Tryz.prog ops Q rest (a.put o.dst undef) w') : wpList Tryz.prog ops Q (o :: rest) a w := by
  obtain ⟨D, hown, hmap, hat⟩ := hs
  obtain ⟨kl, hkey⟩ := key_some wx
  refine wpList_mapUpdate_own w hg m x v t hop _ _ keyed ht _ b n D hm hown hn _ _ kl hx hv hkey (.lit (.int .i64 c)) [] (plainElem_int Tryz.underlying3 wc) ?_
  intro w' h1 h2
  refine hK w' ⟨_, h1, hmap.put _ _, ?_⟩ h2
  intro x' kl' hkl
  unfold upd
  by_cases e : kl' = kl
  · subst e
    have e2 := keyed.inj hkl hkey
    injection e2 with e2 e3
    subst e3
    rw [atKey_put_same hmap (keyed.key hkl), has_put_same hmap (keyed.key hkl), if_pos rfl]
    exact ⟨rfl, rfl⟩
  · rw [atKey_put_other e, has_put_other e]
    have hne : x' ≠ px := fun h => by
      subst h
      rw [hkey] at hkl
      injection hkl with hkl
      exact e hkl.symm
    rw [if_neg hne]
    exact hat x' kl' hkl

/-- A number is laid into the map, at a step of a region that draws its order. -/
theorem step_insert_map (w : World) {K : Act → World → Prop} {Q : Exit → Act → World → Prop} {E : Prop} (hg : o.guard = none) (m x v : Operand) (t : TypeId) (hop : o.op = Op.insert t m x v)
    (ht : Tryz.prog.underlying t = some (.map 3 3)) (b n : Nat) (f : Int → Option Int) (hm : a.eval m = .map (some b)) (hs : MapAt w b n f) (hn : n < maxLen)
    (px : Int) (hx : a.eval x = .int .i64 px) (wx : (Lit.int .i64 px).wf = true) (c : Int) (hv : a.eval v = .int .i64 c) (wc : (Lit.int .i64 c).wf = true)
    (hK : ∀ w', MapAt w' b (n + 1) (upd f px c) → w.grownBy w' (some b) → K (a.put o.dst undef) w') : if Region.wanted o (yielded ops a.tmps) = true then Oper.wp Tryz.prog o a w K Q else E := by
  have hw : Region.wanted o (yielded ops a.tmps) = true := by simp [Region.wanted, hg]
  rw [if_pos hw]
  obtain ⟨D, hown, hmap, hat⟩ := hs
  obtain ⟨kl, hkey⟩ := key_some wx
  obtain ⟨w', hrun, r1, r2⟩ := hown.update keyed ht hn hkey (plainElem_int Tryz.underlying3 wc)
  unfold Oper.wp
  simp [execOp, hop, hm, hx, hv, hrun, Result.andThen]
  refine hK w' ⟨_, r1, hmap.put _ _, ?_⟩ r2
  intro x' kl' hkl
  unfold upd
  by_cases e : kl' = kl
  · subst e
    have e2 := keyed.inj hkl hkey
    injection e2 with e2 e3
    subst e3
    rw [atKey_put_same hmap (keyed.key hkl), has_put_same hmap (keyed.key hkl), if_pos rfl]
    exact ⟨rfl, rfl⟩
  · rw [atKey_put_other e, has_put_other e]
    have hne : x' ≠ px := fun h => by
      subst h
      rw [hkey] at hkl
      injection hkl with hkl
      exact e hkl.symm
    rw [if_neg hne]
    exact hat x' kl' hkl
theorem step_make_map (w : World) {K : Act → World → Prop} {Q : Exit → Act → World → Prop} {E : Prop} (hg : o.guard = none) (t : TypeId) (hop : o.op = Op.makeMap t none)
    (hK : MapAt (w.alloc (.map #[] 0)) w.heap.size 0 (fun _ => none) → K (a.put o.dst (.map (some w.heap.size))) (w.alloc (.map #[] 0))) : if Region.wanted o (yielded ops a.tmps) = true then Oper.wp Tryz.prog o a w K Q else E := by
  have hw : Region.wanted o (yielded ops a.tmps) = true := by simp [Region.wanted, hg]
  rw [if_pos hw]
  unfold Oper.wp
  have hrun := @run_makeMap Tryz.prog t w
  simp [execOp, hop, hrun, Result.andThen]
  exact hK (made w)
end
theorem upd_comm {f : Int → Option Int} {a b u v : Int} (h : a ≠ b) : upd (upd f a u) b v = upd (upd f b v) a u := by
  funext p
  unfold upd
  by_cases e1 : p = a
  · subst e1
    rw [if_neg h, if_pos rfl, if_pos rfl]
  · rw [if_neg e1, if_neg e1]
end Go.Proofs.YtkcodmafakjkfaaGreat.IntMap
