/-
  A map of the own from numbers to numbers, the colors of a room in it, how often each occurs; slices.Min; the landed step that colors one triangle.
-/
import Derived.Maps.OwnOps
import Derived.Maps.OwnSet
import Derived.Maps.Views
import Derived.DeepKeys4
import Derived.Test.YtkcodmafakjkfaaGreatGround
import Derived.Test.YtkcodmafakjkfaaGreatTrisPlain
import Derived.Test.YtkcodmafakjkfaaGreatJoinMath
import Derived.OwnWalk
import Derived.Test.YtkcodmafakjkfaaGreatTup3
import Derived.Test.YtkcodmafakjkfaaGreatBox3
import Derived.LoopIn

/-
  A map from numbers to numbers of the call's own: what it answers, how a number is laid into it; at the operation, for the walk.
-/
namespace Go.Proofs.YtkcodmafakjkfaaGreat.IntMap
open Go Go.RowKit Go.Maps Own

theorem keyed : Keyed Tryz.prog 3 := int_keyed Tryz.underlying3
theorem zero (w : World) : (zeroValue 3).run Tryz.prog w = .ok (.int .i64 0) w := by kernel_rfl
theorem key_some {x : Int} (hx : (Lit.int .i64 x).wf = true) : ∃ kl, keyOf Tryz.prog 3 (.int .i64 x) = some kl := ⟨_, keyOf_int_mk Tryz.underlying3 hx⟩

/-- The map in block b: what f says of a number, and no key where it says nothing. -/
def MapAt (w : World) (b n : Nat) (f : Int → Option Int) : Prop :=
  ∃ D : DataW Unit, w.ownsMap Tryz.prog 3 (plainElem Tryz.prog 3) b n D ∧ IsMap D ∧ ∀ x kl, keyOf Tryz.prog 3 (.int .i64 x) = some kl → D.atKey kl (.lit (.int .i64 0)) = .lit (.int .i64 ((f x).getD 0)) ∧ Maps.has D kl = (f x).isSome

theorem made (w : World) : MapAt (w.alloc (.map #[] 0)) w.heap.size 0 (fun _ => none) :=
  ⟨.map [], World.ownsMap_made w _ _ _, isMap_empty, fun _ _ _ => ⟨rfl, rfl⟩⟩
theorem MapAt.kept {w w' : World} {b n : Nat} {f : Int → Option Int} {row : Option Nat} (h : MapAt w b n f) (hg : w.grownBy w' row) (hne : some b ≠ row) : MapAt w' b n f := by
  obtain ⟨D, h1, h2, h3⟩ := h
  exact ⟨D, h1.kept hg hne, h2, h3⟩
theorem MapAt.later {w w' : World} {b n : Nat} {f : Int → Option Int} (h : MapAt w b n f) (hb : Below w.heap.size w w') : MapAt w' b n f := h.kept (grown_of_below hb none) (by simp)
theorem wf_small {x : Int} (h : -1000000000 ≤ x ∧ x ≤ 1000000000) : (Lit.int .i64 x).wf = true := by
  have h1 : IntKind.i64.min = -9223372036854775808 := by decide
  have h2 : IntKind.i64.max = 9223372036854775807 := by decide
  simp only [Lit.wf, h1, h2, Bool.and_eq_true, decide_eq_true_eq]
  omega
theorem MapAt.mono {w : World} {b n n' : Nat} {f : Int → Option Int} (h : MapAt w b n f) (hn : n ≤ n') : MapAt w b n' f := by
  obtain ⟨D, h1, h2, h3⟩ := h
  exact ⟨D, h1.mono hn, h2, h3⟩
theorem MapAt.lt {w : World} {b n : Nat} {f : Int → Option Int} (h : MapAt w b n f) : b < w.heap.size := by
  obtain ⟨D, h1, _⟩ := h
  exact h1.lt
theorem MapAt.congr {w : World} {b n : Nat} {f g : Int → Option Int} (h : MapAt w b n f) (e : ∀ x, f x = g x) : MapAt w b n g := by
  rw [show g = f from funext fun x => (e x).symm]; exact h
/-- No slice lies in the map's block. -/
theorem MapAt.ne {w : World} {b n : Nat} {f : Int → Option Int} (h : MapAt w b n f) {cs : Array Value} {T : TypeId} {fr : Nat × Nat} {g : Nat} (hg : w.heap[g]? = some (.cells cs T fr)) : g ≠ b := by
  obtain ⟨D, ⟨es, cl, h1, _⟩, _⟩ := h
  rintro rfl
  rw [h1] at hg
  cases hg

/-- One number more. -/
def upd (f : Int → Option Int) (k v : Int) : Int → Option Int := fun x => if x = k then some v else f x

section
variable {ops : Array Oper} {rest : List Oper} {o : Oper} {a : Act} {Q : Exit → Act → World → Prop}
set_option maxRecDepth 100000 in
theorem wpList_lookup_map (w : World) (hg : o.guard = none) (m x : Operand) (t : TypeId) (hop : o.op = Op.lookup t m x false)
    (ht : Tryz.prog.underlying t = some (.map 3 3)) (b n : Nat) (f : Int → Option Int) (hm : a.eval m = .map (some b)) (hs : MapAt w b n f)
    (px : Int) (hx : a.eval x = .int .i64 px) (wx : (Lit.int .i64 px).wf = true) (c : Int) (hc : (f px).getD 0 = c)
    (hK : wpList Tryz.prog ops Q rest (a.put o.dst (.int .i64 c)) w) : wpList Tryz.prog ops Q (o :: rest) a w := by
  obtain ⟨D, hown, _, hat⟩ := hs
  obtain ⟨kl, hkey⟩ := key_some wx
  refine wpList_lookup_own_int w hg m x t hop _ _ .i64 keyed ht Tryz.underlying3 (zero w) b n D hm hown _ kl hx hkey ?_
  intro c' h1 _
  rw [(hat px kl hkey).1, hc] at h1
  injection h1 with h1
  injection h1 with _ h1
  subst h1
  exact hK

set_option maxRecDepth 100000 in
theorem wpList_lookup_map_ok (w : World) (hg : o.guard = none) (m x : Operand) (t : TypeId) (hop : o.op = Op.lookup t m x true)
    (ht : Tryz.prog.underlying t = some (.map 3 3)) (b n : Nat) (f : Int → Option Int) (hm : a.eval m = .map (some b)) (hs : MapAt w b n f)
    (px : Int) (hx : a.eval x = .int .i64 px) (wx : (Lit.int .i64 px).wf = true) (c : Int) (hc : (f px).getD 0 = c) (y : Bool) (hy : (f px).isSome = y)
    (hK : wpList Tryz.prog ops Q rest (a.put o.dst (.tuple #[.int .i64 c, .bool y])) w) : wpList Tryz.prog ops Q (o :: rest) a w := by
  obtain ⟨D, hown, _, hat⟩ := hs
  obtain ⟨kl, hkey⟩ := key_some wx
  refine wpList_lookup_own_ok_int w hg m x t hop _ _ .i64 keyed ht Tryz.underlying3 (zero w) b n D hm hown _ kl hx hkey ?_
  intro c' h1 _
  rw [(hat px kl hkey).1, hc] at h1
  injection h1 with h1
  injection h1 with _ h1
  subst h1
  rw [(hat px kl hkey).2, hy]
  exact hK

set_option maxRecDepth 100000 in
theorem wpList_update_map (w : World) (hg : o.guard = none) (m x v : Operand) (t : TypeId) (hop : o.op = Op.mapUpdate t m x v)
    (ht : Tryz.prog.underlying t = some (.map 3 3)) (b n : Nat) (f : Int → Option Int) (hm : a.eval m = .map (some b)) (hs : MapAt w b n f) (hn : n < maxLen)
    (px : Int) (hx : a.eval x = .int .i64 px) (wx : (Lit.int .i64 px).wf = true) (c : Int) (hv : a.eval v = .int .i64 c) (wc : (Lit.int .i64 c).wf = true)
    (hK : ∀ w', MapAt w' b (n + 1) (upd f px c) → w.grownBy w' (some b) → wpList Tryz.prog ops Q rest (a.put o.dst undef) w') : wpList Tryz.prog ops Q (o :: rest) a w := by
  obtain ⟨D, hown, hmap, hat⟩ := hs
  obtain ⟨kl, hkey⟩ := key_some wx
  refine wpList_mapUpdate_own w hg m x v t hop _ _ keyed ht _ b n D hm hown hn _ _ kl hx hv hkey (.lit (.int .i64 c)) [] (plainElem_int Tryz.underlying3 wc) ?_
  intro w' h1 h2
  refine hK w' ⟨_, h1, hmap.put _ _, ?_⟩ h2
  intro x' kl' hkl
  unfold upd
  by_cases e : kl' = kl
  · subst e
    have e2 := keyed.inj hkl hkey
    injection e2 with e2 e3
    subst e3
    rw [atKey_put_same hmap (keyed.key hkl), has_put_same hmap (keyed.key hkl), if_pos rfl]
    exact ⟨rfl, rfl⟩
  · rw [atKey_put_other e, has_put_other e]
    have hne : x' ≠ px := fun h => by
      subst h
      rw [hkey] at hkl
      injection hkl with hkl
      exact e hkl.symm
    rw [if_neg hne]
    exact hat x' kl' hkl

/-- A number is laid into the map, at a step of a region that draws its order. -/
theorem step_insert_map (w : World) {K : Act → World → Prop} {Q : Exit → Act → World → Prop} {E : Prop} (hg : o.guard = none) (m x v : Operand) (t : TypeId) (hop : o.op = Op.insert t m x v)
    (ht : Tryz.prog.underlying t = some (.map 3 3)) (b n : Nat) (f : Int → Option Int) (hm : a.eval m = .map (some b)) (hs : MapAt w b n f) (hn : n < maxLen)
    (px : Int) (hx : a.eval x = .int .i64 px) (wx : (Lit.int .i64 px).wf = true) (c : Int) (hv : a.eval v = .int .i64 c) (wc : (Lit.int .i64 c).wf = true)
    (hK : ∀ w', MapAt w' b (n + 1) (upd f px c) → w.grownBy w' (some b) → K (a.put o.dst undef) w') : if Region.wanted o (yielded ops a.tmps) = true then Oper.wp Tryz.prog o a w K Q else E := by
  have hw : Region.wanted o (yielded ops a.tmps) = true := by simp [Region.wanted, hg]
  rw [if_pos hw]
  obtain ⟨D, hown, hmap, hat⟩ := hs
  obtain ⟨kl, hkey⟩ := key_some wx
  obtain ⟨w', hrun, r1, r2⟩ := hown.update keyed ht hn hkey (plainElem_int Tryz.underlying3 wc)
  unfold Oper.wp
  simp [execOp, hop, hm, hx, hv, hrun, Result.andThen]
  refine hK w' ⟨_, r1, hmap.put _ _, ?_⟩ r2
  intro x' kl' hkl
  unfold upd
  by_cases e : kl' = kl
  · subst e
    have e2 := keyed.inj hkl hkey
    injection e2 with e2 e3
    subst e3
    rw [atKey_put_same hmap (keyed.key hkl), has_put_same hmap (keyed.key hkl), if_pos rfl]
    exact ⟨rfl, rfl⟩
  · rw [atKey_put_other e, has_put_other e]
    have hne : x' ≠ px := fun h => by
      subst h
      rw [hkey] at hkl
      injection hkl with hkl
      exact e hkl.symm
    rw [if_neg hne]
    exact hat x' kl' hkl
theorem step_make_map (w : World) {K : Act → World → Prop} {Q : Exit → Act → World → Prop} {E : Prop} (hg : o.guard = none) (t : TypeId) (hop : o.op = Op.makeMap t none)
    (hK : MapAt (w.alloc (.map #[] 0)) w.heap.size 0 (fun _ => none) → K (a.put o.dst (.map (some w.heap.size))) (w.alloc (.map #[] 0))) : if Region.wanted o (yielded ops a.tmps) = true then Oper.wp Tryz.prog o a w K Q else E := by
  have hw : Region.wanted o (yielded ops a.tmps) = true := by simp [Region.wanted, hg]
  rw [if_pos hw]
  unfold Oper.wp
  have hrun := @run_makeMap Tryz.prog t w
  simp [execOp, hop, hrun, Result.andThen]
  exact hK (made w)
end
theorem upd_comm {f : Int → Option Int} {a b u v : Int} (h : a ≠ b) : upd (upd f a u) b v = upd (upd f b v) a u := by
  funext p
  unfold upd
  by_cases e1 : p = a
  · subst e1
    rw [if_neg h, if_pos rfl, if_pos rfl]
  · rw [if_neg e1, if_neg e1]
end Go.Proofs.YtkcodmafakjkfaaGreat.IntMap

/-
  Plain facts: the colors of a room's corners as a map from numbers to numbers, triangle by triangle.
-/
namespace Go.Proofs.YtkcodmafakjkfaaGreat.ColRun
open PointMath WallMath RoomMath AreaMath DiagMath TriMath TrisMath ColMath IntMap

/-- The map that holds the colors c. -/
def fOf (c : List Int) : Int → Option Int := fun x => if 0 ≤ x ∧ 0 ≤ cg c x.toNat then some (cg c x.toNat) else none
theorem fOf_get (c : List Int) (k : Nat) : (fOf c (k : Int)).getD 0 = if 0 ≤ cg c k then cg c k else 0 := by
  unfold fOf
  rw [Int.toNat_natCast]
  by_cases h : 0 ≤ cg c k
  · rw [if_pos ⟨by omega, h⟩, if_pos h]; rfl
  · rw [if_neg (fun x => h x.2), if_neg h]; rfl
theorem fOf_some (c : List Int) (k : Nat) : (fOf c (k : Int)).isSome = decide (0 ≤ cg c k) := by
  unfold fOf
  rw [Int.toNat_natCast]
  by_cases h : 0 ≤ cg c k
  · rw [if_pos ⟨by omega, h⟩, decide_eq_true h]; rfl
  · rw [if_neg (fun x => h x.2), decide_eq_false h]; rfl
theorem cg_base {n x y z : Nat} (hxy : x < y) (hyz : y < z) (hz : z < n) (k : Nat) : cg (colBase n ((x : Int), (y : Int), (z : Int))) k = if k = z then 2 else if k = y then 1 else if k = x then 0 else -1 := by
  unfold colBase
  simp only [Int.toNat_natCast]
  rw [cg_set (by simp; omega), cg_set (by simp; omega), cg_set (by simp; omega), cg_rep]
theorem fOf_base {n x y z : Nat} (hxy : x < y) (hyz : y < z) (hz : z < n) (p : Int) :
    upd (upd (upd (fun _ => none) x 0) y 1) z 2 p = fOf (colBase n ((x : Int), (y : Int), (z : Int))) p := by
  unfold upd fOf
  by_cases h0 : 0 ≤ p
  · obtain ⟨k, rfl⟩ := Int.eq_ofNat_of_zero_le h0
    rw [Int.toNat_natCast, cg_base hxy hyz hz]
    by_cases e1 : k = z
    · subst e1; simp
    · by_cases e2 : k = y
      · subst e2; simp [show k ≠ z by omega, show (k : Int) ≠ (z : Int) by omega]
      · by_cases e3 : k = x
        · subst e3; simp [show k ≠ z by omega, show (k : Int) ≠ (z : Int) by omega, show k ≠ y by omega, show (k : Int) ≠ (y : Int) by omega]
        · simp [e1, e2, e3, show (k : Int) ≠ (z : Int) by omega, show (k : Int) ≠ (y : Int) by omega, show (k : Int) ≠ (x : Int) by omega]
  · rw [if_neg (by omega), if_neg (by omega), if_neg (by omega), if_neg (by omega)]
/-- The triangle's corner that has no color, and the color that is left, as the landed code comes by them. -/
def thirdL (_ox oy oz : Bool) (x y z : Int) : Nat → Int
  | 0 => x
  | 1 => x
  | 2 => if oy then x else y
  | _ => if oz then (if oy then x else y) else z
def restL (cx cy cz : Int) : Nat → Int
  | 0 => 3
  | 1 => 3 - cx
  | 2 => 3 - cx - cy
  | _ => 3 - cx - cy - cz
theorem fOf_step {n : Nat} {c : List Int} {x y z : Nat} (hm : Miss n c ((x : Int), (y : Int), (z : Int))) (hl : c.length = n) (p : Int) :
    upd (fOf c) (thirdL (fOf c (x : Int)).isSome (fOf c (y : Int)).isSome (fOf c (z : Int)).isSome x y z 3) (restL ((fOf c (x : Int)).getD 0) ((fOf c (y : Int)).getD 0) ((fOf c (z : Int)).getD 0) 3) p = fOf (colStep c ((x : Int), (y : Int), (z : Int))) p := by
  obtain ⟨x', y', z', e, hxy, hyz, hz, h⟩ := hm
  obtain ⟨rfl, rfl, rfl⟩ : x' = x ∧ y' = y ∧ z' = z := by
    injection e with e1 e2; injection e2 with e2 e3
    exact ⟨by omega, by omega, by omega⟩
  clear e
  have key : ∀ (b i j : Nat), b < n → cg c b = -1 → Has c i → Has c j → cg c i ≠ cg c j → colAt c ((x' : Int), (y' : Int), (z' : Int)) = ((b : Int), 3 - cg c i - cg c j) →
      upd (fOf c) b (3 - cg c i - cg c j) p = fOf (colStep c ((x' : Int), (y' : Int), (z' : Int))) p := by
    intro b i j hb hcb hi hj hij hat
    unfold colStep
    rw [hat, if_pos (by simp)]
    dsimp only
    rw [Int.toNat_natCast]
    unfold upd fOf
    have hv : 0 ≤ 3 - cg c i - cg c j := by have := hi.1; have := hi.2; have := hj.1; have := hj.2; omega
    by_cases h0 : 0 ≤ p
    · obtain ⟨k, rfl⟩ := Int.eq_ofNat_of_zero_le h0
      rw [Int.toNat_natCast, cg_set (by omega)]
      by_cases e : k = b
      · subst e
        rw [if_pos rfl, if_pos rfl, if_pos ⟨by omega, hv⟩]
      · rw [if_neg (by omega), if_neg e]
    · rw [if_neg (by omega), if_neg (by omega), if_neg (by omega)]
  rcases h with ⟨h1, h2, h3, h4⟩ | ⟨h1, h2, h3, h4⟩ | ⟨h1, h2, h3, h4⟩
  · have hat := miss_at (t := ((x' : Int), (y' : Int), (z' : Int))) h1 h3 h2 (.inr (.inl rfl))
    have := key x' z' y' (by omega) h1 h3 h2 (fun e => h4 e.symm) hat
    rw [← this, fOf_get, fOf_get, fOf_get, fOf_some, fOf_some, fOf_some, decide_eq_true h2.1, decide_eq_true h3.1, if_neg (by omega), if_pos h2.1, if_pos h3.1]
    unfold thirdL restL
    rw [show (3 : Int) - 0 - cg c y' - cg c z' = 3 - cg c z' - cg c y' by omega]
    rfl
  · have hat := miss_at (t := ((x' : Int), (y' : Int), (z' : Int))) h1 h2 h3 (.inl rfl)
    have := key y' x' z' (by omega) h1 h2 h3 h4 hat
    rw [← this, fOf_get, fOf_get, fOf_get, fOf_some, fOf_some, fOf_some, decide_eq_true h2.1, decide_eq_true h3.1, decide_eq_false (by omega), if_pos h2.1, if_pos h3.1, if_neg (by omega)]
    unfold thirdL restL
    rw [show (3 : Int) - cg c x' - 0 - cg c z' = 3 - cg c x' - cg c z' by omega]
    rfl
  · have hat := miss_at (t := ((x' : Int), (y' : Int), (z' : Int))) h1 h3 h2 (.inr (.inr rfl))
    have := key z' y' x' (by omega) h1 h3 h2 (fun e => h4 e.symm) hat
    rw [← this, fOf_get, fOf_get, fOf_get, fOf_some, fOf_some, fOf_some, decide_eq_true h2.1, decide_eq_true h3.1, decide_eq_false (show ¬ 0 ≤ cg c z' by omega), if_pos h2.1, if_pos h3.1, if_neg (by omega)]
    unfold thirdL restL
    rw [show (3 : Int) - cg c x' - cg c y' - 0 = 3 - cg c y' - cg c x' by omega]
    rfl
theorem fOf_small {n : Nat} {c : List Int} {x y z : Nat} (hm : Miss n c ((x : Int), (y : Int), (z : Int))) : (∀ k : Nat, k = x ∨ k = y ∨ k = z → 0 ≤ (fOf c (k : Int)).getD 0 ∧ (fOf c (k : Int)).getD 0 ≤ 2) := by
  obtain ⟨x', y', z', e, hxy, hyz, hz, h⟩ := hm
  obtain ⟨rfl, rfl, rfl⟩ : x' = x ∧ y' = y ∧ z' = z := by
    injection e with e1 e2; injection e2 with e2 e3
    exact ⟨by omega, by omega, by omega⟩
  intro k hk
  rw [fOf_get]
  unfold Has at h
  rcases hk with rfl | rfl | rfl <;> split <;> omega

/-- The colors of the triangles from number k on. -/
theorem colF_drop {n k : Nat} {L : List Tup3.Tu} (hk : k + 1 < L.length) : colF n (L.drop k) = colStep (colF n (L.drop (k + 1))) (Tup3.tt L k) := by
  have e1 : L.drop k = L[k] :: L.drop (k + 1) := List.drop_eq_getElem_cons (by omega)
  have e2 : L.drop (k + 1) = L[k + 1] :: L.drop (k + 2) := List.drop_eq_getElem_cons hk
  have e3 : Tup3.tt L k = L[k] := by
    have := Tup3.tt_at (ps := L) (k := k) (by omega)
    rw [List.getElem?_eq_getElem (by omega)] at this
    exact (Option.some.inj this).symm
  rw [e1, e2, e3]
  rfl
theorem colF_last {n : Nat} {L : List Tup3.Tu} (h : L ≠ []) : colF n (L.drop (L.length - 1)) = colBase n (Tup3.tt L (L.length - 1)) := by
  have hp : 0 < L.length := List.length_pos_iff.2 h
  have e1 : L.drop (L.length - 1) = L[L.length - 1]'(by omega) :: L.drop (L.length - 1 + 1) := List.drop_eq_getElem_cons (by omega)
  have e3 : Tup3.tt L (L.length - 1) = L[L.length - 1]'(by omega) := by
    have := Tup3.tt_at (ps := L) (k := L.length - 1) (by omega)
    rw [List.getElem?_eq_getElem (by omega)] at this
    exact (Option.some.inj this).symm
  rw [e1, e3, List.drop_of_length_le (by omega)]
  rfl
theorem steps_drop {n : Nat} : ∀ {L : List Tup3.Tu} {k : Nat}, ColMath.Steps n L → k + 1 < L.length → Miss n (colF n (L.drop (k + 1))) (Tup3.tt L k)
  | t :: s :: L, 0, h, _ => h.1
  | t :: s :: L, k + 1, h, hk => by
    have := steps_drop (L := s :: L) (k := k) h.2 (by simpa using hk)
    exact this
  | [], k, _, hk => by simp at hk
  | [t], k, _, hk => by simp at hk
theorem steps_last {n : Nat} : ∀ {L : List Tup3.Tu}, L ≠ [] → ColMath.Steps n L → ∃ x y z : Nat, Tup3.tt L (L.length - 1) = ((x : Int), (y : Int), (z : Int)) ∧ x < y ∧ y < z ∧ z < n
  | [], h, _ => absurd rfl h
  | [t], _, h => h
  | t :: s :: L, _, h => by
    have := steps_last (L := s :: L) (by simp) h.2
    exact this
theorem colF_dlen {n k : Nat} {L : List Tup3.Tu} (hk : k < L.length) : (colF n (L.drop k)).length = n :=
  colF_len _ _ (by intro e; have := congrArg List.length e; simp at this; omega)
theorem colL_le (ps : List (Int × Int)) : (colL ps).length ≤ ps.length := by
  by_cases h : trisL ps = []
  · rw [colL_nil h]; exact Nat.zero_le _
  · exact Nat.le_of_eq (colF_len _ _ h)
end Go.Proofs.YtkcodmafakjkfaaGreat.ColRun

/-
  Plain facts: how often each color occurs, and the rarest one.
-/
namespace Go.Proofs.YtkcodmafakjkfaaGreat.CntMath
open PointMath WallMath RoomMath AreaMath DiagMath TriMath TrisMath ColMath ColRun

/-- The counts of the first k colors of a list. -/
def cntTo (l : List Int) : Nat → List Int
  | 0 => [0, 0, 0]
  | k + 1 => (cntTo l k).set (l.getD k 0).toNat ((cntTo l k).getD (l.getD k 0).toNat 0 + 1)
theorem cntTo_len (l : List Int) : ∀ k, (cntTo l k).length = 3
  | 0 => rfl
  | k + 1 => by unfold cntTo; rw [List.length_set]; exact cntTo_len l k
theorem cntTo_in (l : List Int) : ∀ k j, 0 ≤ (cntTo l k).getD j 0 ∧ (cntTo l k).getD j 0 ≤ (k : Int)
  | 0, j => by
    match j with
    | 0 => show 0 ≤ (0 : Int) ∧ (0 : Int) ≤ 0; omega
    | 1 => show 0 ≤ (0 : Int) ∧ (0 : Int) ≤ 0; omega
    | 2 => show 0 ≤ (0 : Int) ∧ (0 : Int) ≤ 0; omega
    | j + 3 => show 0 ≤ (0 : Int) ∧ (0 : Int) ≤ 0; omega
  | k + 1, j => by
    have h1 := cntTo_in l k j
    have h2 := cntTo_in l k (l.getD k 0).toNat
    unfold cntTo
    by_cases e : (l.getD k 0).toNat = j
    · rw [← e]
      by_cases hl : (l.getD k 0).toNat < (cntTo l k).length
      · rw [List.getD_eq_getElem?_getD, List.getElem?_set_self hl]
        show 0 ≤ (cntTo l k).getD _ 0 + 1 ∧ (cntTo l k).getD _ 0 + 1 ≤ _
        omega
      · rw [List.set_eq_of_length_le (by omega)]
        omega
    · rw [List.getD_eq_getElem?_getD, List.getElem?_set_ne e, ← List.getD_eq_getElem?_getD]
      omega
def cntL (ps : List (Int × Int)) : List Int := if (colL ps).length = 0 then [] else cntTo (colL ps) (colL ps).length
theorem cntL_len (ps : List (Int × Int)) : (cntL ps).length ≤ 3 := by
  unfold cntL
  split
  · simp
  · exact Nat.le_of_eq (cntTo_len _ _)
theorem col_in {ps : List (Int × Int)} {k : Nat} (hk : k < (colL ps).length) : ∃ j : Nat, (colL ps).getD k 0 = (j : Int) ∧ j < 3 := by
  by_cases h : trisL ps = []
  · rw [colL_nil h] at hk; simp at hk
  · have h1 := roomB_yes (trisL_some h).1
    obtain ⟨h2, h3, _⟩ := col_all h h1.1.1
    have h4 := h3 k (by omega)
    have e : (colL ps).getD k 0 = cg (colL ps) k := by
      unfold cg
      rw [List.getD_eq_getElem?_getD, List.getD_eq_getElem?_getD, List.getElem?_eq_getElem hk]; rfl
    rw [e]
    unfold Has at h4
    exact ⟨(cg (colL ps) k).toNat, by omega, by omega⟩
theorem getD_at {l : List Int} {j : Nat} (h : j < l.length) : l[j]? = some (l.getD j 0) := by
  rw [List.getD_eq_getElem?_getD, List.getElem?_eq_getElem h]; rfl
/-- The first least one of three. -/
def rare3 (a b c : Int) : Int := if c < (if b < a then b else a) then 2 else if b < a then 1 else 0
def rareI (ps : List (Int × Int)) : Int := if (cntL ps).length = 0 then -1 else rare3 ((cntL ps).getD 0 0) ((cntL ps).getD 1 0) ((cntL ps).getD 2 0)
theorem cnt_three {ps : List (Int × Int)} (h : (cntL ps).length ≠ 0) : (cntL ps).length = 3 := by
  unfold cntL at h ⊢
  split
  · rename_i e; rw [if_pos e] at h; exact absurd rfl h
  · exact cntTo_len _ _
end Go.Proofs.YtkcodmafakjkfaaGreat.CntMath

/-
  Plain facts: the corners of the rarest color.
-/
namespace Go.Proofs.YtkcodmafakjkfaaGreat.CgdMath
open PointMath WallMath RoomMath AreaMath DiagMath TriMath TrisMath ColMath ColRun CntMath

def cgdL (ps : List (Int × Int)) : List Int := thatTo (fun k => decide ((colL ps).getD k 0 = rareI ps)) (colL ps).length
theorem cgd_le (ps : List (Int × Int)) : (cgdL ps).length ≤ ps.length := Nat.le_trans (thatTo_len _ _) (colL_le ps)
theorem col_full {ps : List (Int × Int)} (h : (colL ps).length ≠ 0) : (colL ps).length = ps.length := by
  by_cases e : trisL ps = []
  · rw [colL_nil e] at h; exact absurd rfl h
  · exact colF_len _ _ e
end Go.Proofs.YtkcodmafakjkfaaGreat.CgdMath

/-
  What slices.Min does over a slice of numbers, as a contract.
-/
namespace Go.Proofs.YtkcodmafakjkfaaGreat.MinOf
open Go.RowKit Own Blk Ints JoinMath
open PointOk (ret_bool ret_i64 below1 below2 below3)

def leastTo (f : Nat → Int) : Nat → Int
  | 0 => f 0
  | k + 1 => min (leastTo f k) (f (k + 1))
set_option maxRecDepth 100000 in
set_option maxHeartbeats 1600000 in
theorem minOf (B : Option Addr) (m cb : Nat) (w : World) (zs : List Int) (hz : zs.length = m) (hm : m ≤ 1048576) (h0 : 0 < m) (hq : IntsAt w w.heap.size B zs) :
    Calls Tryz.prog 75 #[.slice B m cb] w fun e w' => e = .returned (.int .i64 (leastTo (fun k => zs.getD k 0) (m - 1))) ∧ Below w.heap.size w w' := by
  obtain ⟨r, hr⟩ : ∃ r, leastTo (fun k => zs.getD k 0) (m - 1) = r := ⟨_, rfl⟩
  have HR := Lib.hid hr
  rw [hr]
  clear hr
  have HZ : leastTo (fun k => zs.getD k 0) 0 = zs.getD 0 0 := rfl
  have HS : Hid (∀ k, leastTo (fun k => zs.getD k 0) (k + 1) = min (leastTo (fun k => zs.getD k 0) k) (zs.getD (k + 1) 0)) := Lib.hid (fun k => rfl)
  generalize leastTo (fun k => zs.getD k 0) = lt at *
  have p0 := at_d (zs := zs) (k := 0) (by omega)
  obtain ⟨x, hx⟩ : ∃ x, zs.getD 0 0 = x := ⟨_, rfl⟩
  rw [hx] at p0 HZ
  obtain ⟨bd, eB, bB, pB⟩ := hq.get p0
  subst eB
  obtain ⟨_, _⟩ := here pB
  have hm1 : ¬ (m : Int) < 1 := by omega
  have hm0 : (0 : Int) < (m : Int) := by omega
  clear p0 hx
  go_enter Tryz.func75, Tryz.ntmps75
  go_wp2_with fail
  have HO : ∀ W W' : World, (IntsAt W w.heap.size (some bd) zs ∧ Below w.heap.size w W) → Below W.heap.size W W' → (IntsAt W' w.heap.size (some bd) zs ∧ Below w.heap.size w W') := fun W W' ⟨x0, hb⟩ h => ⟨x0.later (h.mono hb.size), hb.trans (h.mono hb.size)⟩
  have S0 : IntsAt w w.heap.size (some bd) zs ∧ Below w.heap.size w w := ⟨hq, Below.refl _ _⟩
  clear hq pB
  go_loopw [3, 4] (fun v q wr => ∃ k : Nat, k + 1 ≤ m ∧ q = .int .i64 (k + 1 : Nat) ∧ v = .int .i64 (lt k) ∧ (IntsAt wr w.heap.size (some bd) zs ∧ Below w.heap.size w wr))
    (fun _ q _ => m - (intOf q).toNat)
  case atStart => exact ⟨0, by omega, rfl, by rw [HZ], S0⟩
  case round =>
    clear S0
    obtain ⟨k, hk, rfl, rfl, S0⟩ := hrel
    obtain ⟨_, _⟩ := id S0
    obtain ⟨q, hqk⟩ : ∃ q, k + 1 = q := ⟨_, rfl⟩
    have hS := HS.out k
    rw [hqk] at hk hS ⊢
    by_cases hkm : q < m
    · have hk1 : (q : Int) < (m : Int) := by omega
      have hk0 : (0 : Int) ≤ (q : Int) := by omega
      have p0 := at_d (zs := zs) (k := q) (by omega)
      obtain ⟨x, hx⟩ : ∃ x, zs.getD q 0 = x := ⟨_, rfl⟩
      rw [hx] at p0 hS
      obtain ⟨ad, eA, bA, pA⟩ := S0.1.get p0
      cases eA
      obtain ⟨_, _⟩ := id pA
      replace hS := Lib.hid hS
      clear p0 hx pA HS HZ hz
      generalize lt k = lk at *
      go_wp2_with fail
      exact ⟨⟨q, by omega, by go_num, by rw [hS.out], S0⟩, by simp [intOf]; omega⟩
    · have hqm : m - 1 = k := by omega
      rw [hqm] at HR
      clear hS HS HZ hz
      generalize lt k = lk at *
      go_wp2_with fail
      go_ret
      exact ⟨ret_i64 (by first | exact HR.out | exact HR.out.symm), S0.2⟩

end Go.Proofs.YtkcodmafakjkfaaGreat.MinOf

/-
  What the landed colorThird does, as a contract: the corner without a color gets the one that is left.
-/
namespace Go.Proofs.YtkcodmafakjkfaaGreat.ColThird
open Go.RowKit Own PointMath Blk ColMath ColRun IntMap Tup3
open PointOk (ret_bool ret_i64 below1 below2 below3)

set_option maxHeartbeats 800000 in
theorem indices (a b c : Int) (w : World) : Calls Tryz.prog 107 #[.agg #[.int .i64 a, .int .i64 b, .int .i64 c]] w fun e w' => e = .returned (.agg #[.int .i64 a, .int .i64 b, .int .i64 c]) ∧ Below w.heap.size w w' := by
  go_enter Tryz.func107, Tryz.ntmps107
  go_wp2_with fail
  refine bodyPost_ret (v := .agg #[.int .i64 a, .int .i64 b, .int .i64 c]) (by simp [results, Tryz.results107, go_sem]) rfl ⟨rfl, ?_⟩
  exact below2 _ _ _

theorem third_in {ox oy oz : Bool} {x y z : Int} (hx : 0 ≤ x ∧ x ≤ 1048576) (hy : 0 ≤ y ∧ y ≤ 1048576) (hz : 0 ≤ z ∧ z ≤ 1048576) (k : Nat) : -1000000000 ≤ thirdL ox oy oz x y z k ∧ thirdL ox oy oz x y z k ≤ 1000000000 := by
  match k with
  | 0 => show -1000000000 ≤ x ∧ x ≤ 1000000000; omega
  | 1 => show -1000000000 ≤ x ∧ x ≤ 1000000000; omega
  | 2 => show -1000000000 ≤ (if oy then x else y) ∧ (if oy then x else y) ≤ 1000000000; split <;> omega
  | k + 3 => show -1000000000 ≤ (if oz then (if oy then x else y) else z) ∧ (if oz then (if oy then x else y) else z) ≤ 1000000000; cases oz <;> cases oy <;> simp <;> omega
theorem rest_in {K cx cy cz : Int} (hK : 3 ≤ K) (hx : -K ≤ cx ∧ cx ≤ K) (hy : -K ≤ cy ∧ cy ≤ K) (hz : -K ≤ cz ∧ cz ≤ K) (k : Nat) : -(4 * K) ≤ restL cx cy cz k ∧ restL cx cy cz k ≤ 4 * K := by
  match k with
  | 0 => show -(4 * K) ≤ (3 : Int) ∧ (3 : Int) ≤ 4 * K; omega
  | 1 => show -(4 * K) ≤ 3 - cx ∧ 3 - cx ≤ 4 * K; omega
  | 2 => show -(4 * K) ≤ 3 - cx - cy ∧ 3 - cx - cy ≤ 4 * K; omega
  | k + 3 => show -(4 * K) ≤ 3 - cx - cy - cz ∧ 3 - cx - cy - cz ≤ 4 * K; omega

set_option maxRecDepth 100000 in
set_option maxHeartbeats 6400000 in
theorem colorThird (K : Int) (hK : 3 ≤ K ∧ K ≤ 100000000) (b m : Nat) (f : Int → Option Int) (x y z : Nat) (w : World) (hm : m ≤ 1048576) (hx : x ≤ 1048576) (hy : y ≤ 1048576) (hz : z ≤ 1048576) (hf : ∀ k : Nat, k = x ∨ k = y ∨ k = z → -K ≤ (f (k : Int)).getD 0 ∧ (f (k : Int)).getD 0 ≤ K) (hM : MapAt w b m f) :
    Calls Tryz.prog 73 #[.map (some b), .agg #[.int .i64 (x : Int), .int .i64 (y : Int), .int .i64 (z : Int)]] w fun e w' => (∃ v, e = .returned v) ∧
      MapAt w' b (m + 1) (upd f (thirdL (f (x : Int)).isSome (f (y : Int)).isSome (f (z : Int)).isSome x y z 3) (restL ((f (x : Int)).getD 0) ((f (y : Int)).getD 0) ((f (z : Int)).getD 0) 3)) ∧ w.grownBy w' (some b) := by
  have fx := hf x (.inl rfl)
  have fy := hf y (.inr (.inl rfl))
  have fz := hf z (.inr (.inr rfl))
  obtain ⟨cx, hcx⟩ : ∃ c, (f (x : Int)).getD 0 = c := ⟨_, rfl⟩
  obtain ⟨cy, hcy⟩ : ∃ c, (f (y : Int)).getD 0 = c := ⟨_, rfl⟩
  obtain ⟨cz, hcz⟩ : ∃ c, (f (z : Int)).getD 0 = c := ⟨_, rfl⟩
  obtain ⟨ox, hox⟩ : ∃ c, (f (x : Int)).isSome = c := ⟨_, rfl⟩
  obtain ⟨oy, hoy⟩ : ∃ c, (f (y : Int)).isSome = c := ⟨_, rfl⟩
  obtain ⟨oz, hoz⟩ : ∃ c, (f (z : Int)).isSome = c := ⟨_, rfl⟩
  rw [hcx] at fx
  rw [hcy] at fy
  rw [hcz] at fz
  rw [hcx, hcy, hcz, hox, hoy, hoz]
  have HX := Lib.hid (And.intro hcx hox)
  have HY := Lib.hid (And.intro hcy hoy)
  have HZ := Lib.hid (And.intro hcz hoz)
  have wx : (Lit.int .i64 (x : Int)).wf = true := wf_small (by omega)
  have wy : (Lit.int .i64 (y : Int)).wf = true := wf_small (by omega)
  have wz : (Lit.int .i64 (z : Int)).wf = true := wf_small (by omega)
  clear hcx hcy hcz hox hoy hoz hf
  have hix0 : ∀ w : World, (Instr.index 108 (.agg #[.int .i64 (x : Int), .int .i64 (y : Int), .int .i64 (z : Int)]) (.int .i64 0)).run Tryz.prog w = .ok (.int .i64 (x : Int)) w := fun _ => by kernel_rfl
  have hix1 : ∀ w : World, (Instr.index 108 (.agg #[.int .i64 (x : Int), .int .i64 (y : Int), .int .i64 (z : Int)]) (.int .i64 1)).run Tryz.prog w = .ok (.int .i64 (y : Int)) w := fun _ => by kernel_rfl
  have hix2 : ∀ w : World, (Instr.index 108 (.agg #[.int .i64 (x : Int), .int .i64 (y : Int), .int .i64 (z : Int)]) (.int .i64 2)).run Tryz.prog w = .ok (.int .i64 (z : Int)) w := fun _ => by kernel_rfl
  obtain ⟨X, hX⟩ : ∃ X : Int, (x : Int) = X := ⟨_, rfl⟩
  obtain ⟨Y, hY⟩ : ∃ Y : Int, (y : Int) = Y := ⟨_, rfl⟩
  obtain ⟨Z, hZ⟩ : ∃ Z : Int, (z : Int) = Z := ⟨_, rfl⟩
  have bX : 0 ≤ X ∧ X ≤ 1048576 := by omega
  have bY : 0 ≤ Y ∧ Y ≤ 1048576 := by omega
  have bZ : 0 ≤ Z ∧ Z ≤ 1048576 := by omega
  rw [hX] at hix0 hix1 hix2 wx HX ⊢
  rw [hY] at hix0 hix1 hix2 wy HY ⊢
  rw [hZ] at hix0 hix1 hix2 wz HZ ⊢
  clear hX hY hZ hx hy hz x y z
  have HT : Hid (∀ k, -1000000000 ≤ thirdL ox oy oz X Y Z k ∧ thirdL ox oy oz X Y Z k ≤ 1000000000) := Lib.hid (third_in bX bY bZ)
  have HR : Hid (∀ k, -(4 * K) ≤ restL cx cy cz k ∧ restL cx cy cz k ≤ 4 * K) := Lib.hid (rest_in hK.1 fx fy fz)
  have T0 : Hid (thirdL ox oy oz X Y Z 0 = X) := Lib.hid rfl
  have R0 : Hid (restL cx cy cz 0 = 3) := Lib.hid rfl
  have T1 : Hid (thirdL ox oy oz X Y Z 1 = X) := Lib.hid rfl
  have R1 : Hid (restL cx cy cz 1 = 3 - cx) := Lib.hid rfl
  have T2 : Hid (thirdL ox oy oz X Y Z 2 = if oy then X else Y) := Lib.hid rfl
  have R2 : Hid (restL cx cy cz 2 = 3 - cx - cy) := Lib.hid rfl
  have T3 : Hid (thirdL ox oy oz X Y Z 3 = if oz then (if oy then X else Y) else Z) := Lib.hid rfl
  have R3 : Hid (restL cx cy cz 3 = 3 - cx - cy - cz) := Lib.hid rfl
  generalize thirdL ox oy oz X Y Z = tl at *
  generalize restL cx cy cz = rl at *
  go_enter Tryz.func73, Tryz.ntmps73
  go_wp2_with fail
  have X0 := Box3.box1 w X Y Z 65 (k := w.heap.size) (by simp)
  have b0 := PointOk.below1 w (Obj.cells #[.int .i64 X, .int .i64 Y, .int .i64 Z] 65)
  have HO : ∀ W W' : World, (Box3.Box W (w.heap.size) X Y Z ∧ MapAt W b m f ∧ Below w.heap.size w W) → Below W.heap.size W W' → (Box3.Box W' (w.heap.size) X Y Z ∧ MapAt W' b m f ∧ Below w.heap.size w W') := fun W W' ⟨h0, x0, hb⟩ h => ⟨h0.later h, x0.later h, hb.trans (h.mono hb.size)⟩
  have hz0_ : Hid (((w.alloc (Obj.cells #[.int .i64 X, .int .i64 Y, .int .i64 Z] 65))).heap.size = w.heap.size + 1) := Lib.hid (by simp)
  have Y0 : MapAt ((w.alloc (Obj.cells #[.int .i64 X, .int .i64 Y, .int .i64 Z] 65))) b m f := hM.later b0
  generalize (w.alloc (Obj.cells #[.int .i64 X, .int .i64 Y, .int .i64 Z] 65)) = w0 at X0 Y0 b0 hz0_ ⊢
  have S0 := (⟨X0, Y0, b0⟩ : Box3.Box w0 (w.heap.size) X Y Z ∧ MapAt w0 b m f ∧ Below w.heap.size w w0)
  clear X0 Y0 b0
  obtain ⟨⟨_, _, _⟩, _, _⟩ := id S0
  clear hM
  refine (indices X Y Z _).mono ?_
  rintro e w1 ⟨rfl, hb_⟩
  replace S0 := HO _ _ S0 hb_
  clear hb_
  obtain ⟨⟨_, _, _⟩, _, _⟩ := id S0
  go_wp2_with fail
  go_loopw [4, 5, 14] (fun v u q wr => ∃ k : Nat, k ≤ 3 ∧ q = .int .i64 k ∧ v = .int .i64 (tl k) ∧ u = .int .i64 (rl k) ∧ (Box3.Box wr (w.heap.size) X Y Z ∧ MapAt wr b m f ∧ Below w.heap.size w wr))
    (fun _ _ q _ => 3 - (intOf q).toNat)
  case atStart => exact ⟨0, Nat.zero_le _, rfl, by rw [T0.out], by rw [R0.out], S0⟩
  case round =>
    clear S0
    obtain ⟨k, hk, rfl, rfl, rfl, S0⟩ := hrel
    have S0 := Lib.hid S0
    have b0 := HR.out 0
    have b1 := HR.out 1
    have b2 := HR.out 2
    rcases (by omega : k = 0 ∨ k = 1 ∨ k = 2 ∨ k = 3) with rfl | rfl | rfl | rfl
    rotate_left 3
    · have b3 := HR.out 3
      have wt := wf_small (HT.out 3)
      have wr3 : (Lit.int .i64 (rl 3)).wf = true := wf_small (by omega)
      obtain ⟨t3, ht3⟩ : ∃ t, tl 3 = t := ⟨_, rfl⟩
      obtain ⟨r3, hr3⟩ : ∃ t, rl 3 = t := ⟨_, rfl⟩
      have H3 := Lib.hid ht3
      have G3 := Lib.hid hr3
      rw [ht3] at wt ⊢
      rw [hr3] at wr3 ⊢
      clear ht3 hr3
      go_wp2_with (at_mapUpdate; refine wpList_update_map _ rfl _ _ _ 79 rfl Tryz.underlying79 b m f rfl S0.out.2.1 (by unfold maxLen; omega) t3 rfl wt r3 rfl wr3 ?_)
      intro w5 h5 hg5
      have hgr := grown_trans (grown_of_below S0.out.2.2 (some b)) hg5
      clear S0
      go_wp2_with fail
      go_end0
      exact ⟨⟨_, rfl⟩, by first | exact h5 | (rw [H3.out, G3.out]; exact h5), hgr⟩
    · rw [T0.out, R0.out]
      have u1 : IntKind.i64.wrap (3 - cx) = 3 - cx := IntWalk.i64_in _ (by omega)
      clear T2 T3 R2 R3 HY HZ hix1 hix2 R0 T0
      cases ox
      · go_wp2_with (at_lookup; refine wpList_lookup_map_ok _ rfl _ _ 79 rfl Tryz.underlying79 b m f rfl S0.out.2.1 X rfl wx cx HX.out.1 false HX.out.2 ?_)
        first
          | exact ⟨⟨1, by omega, rfl, by rw [T1.out], by rw [R1.out], S0.out⟩, by simp [intOf]⟩
          | (go_roundw <;> first | exact ⟨1, by omega, rfl, by rw [T1.out], by rw [R1.out], S0.out⟩ | simp [intOf])
      · go_wp2_with (at_lookup; refine wpList_lookup_map_ok _ rfl _ _ 79 rfl Tryz.underlying79 b m f rfl S0.out.2.1 X rfl wx cx HX.out.1 true HX.out.2 ?_)
        first
          | exact ⟨⟨1, by omega, rfl, by rw [T1.out], by rw [R1.out], S0.out⟩, by simp [intOf]⟩
          | (go_roundw <;> first | exact ⟨1, by omega, rfl, by rw [T1.out], by rw [R1.out], S0.out⟩ | simp [intOf])
    · rw [T1.out, R1.out]
      have u1 : IntKind.i64.wrap (3 - cx - cy) = 3 - cx - cy := IntWalk.i64_in _ (by omega)
      clear T3 R3 HX HZ hix0 hix2 R0 T0 T1 R1
      cases oy
      · have E : Hid (tl 2 = Y) := Lib.hid (by rw [T2.out]; rfl)
        clear T2
        go_wp2_with (at_lookup; refine wpList_lookup_map_ok _ rfl _ _ 79 rfl Tryz.underlying79 b m f rfl S0.out.2.1 Y rfl wy cy HY.out.1 false HY.out.2 ?_)
        first
          | exact ⟨⟨2, by omega, rfl, by rw [E.out], by rw [R2.out], S0.out⟩, by simp [intOf]⟩
          | (go_roundw <;> first | exact ⟨2, by omega, rfl, by rw [E.out], by rw [R2.out], S0.out⟩ | simp [intOf])
      · have E : Hid (tl 2 = X) := Lib.hid (by rw [T2.out]; rfl)
        clear T2
        go_wp2_with (at_lookup; refine wpList_lookup_map_ok _ rfl _ _ 79 rfl Tryz.underlying79 b m f rfl S0.out.2.1 Y rfl wy cy HY.out.1 true HY.out.2 ?_)
        first
          | exact ⟨⟨2, by omega, rfl, by rw [E.out], by rw [R2.out], S0.out⟩, by simp [intOf]⟩
          | (go_roundw <;> first | exact ⟨2, by omega, rfl, by rw [E.out], by rw [R2.out], S0.out⟩ | simp [intOf])
    · have E2 : Hid (tl 3 = if oz then tl 2 else Z) := Lib.hid (by rw [T3.out, T2.out])
      rw [R2.out]
      have u1 : IntKind.i64.wrap (3 - cx - cy - cz) = 3 - cx - cy - cz := IntWalk.i64_in _ (by have := HR.out 3; rw [R3.out] at this; omega)
      generalize tl 2 = t2 at *
      clear HX HY hix0 hix1 R0 T0 T1 R1 T2 T3 R2
      cases oz
      · have E : Hid (tl 3 = Z) := Lib.hid (by rw [E2.out]; rfl)
        clear E2
        go_wp2_with (at_lookup; refine wpList_lookup_map_ok _ rfl _ _ 79 rfl Tryz.underlying79 b m f rfl S0.out.2.1 Z rfl wz cz HZ.out.1 false HZ.out.2 ?_)
        first
          | exact ⟨⟨3, by omega, rfl, by rw [E.out], by rw [R3.out], S0.out⟩, by simp [intOf]⟩
          | (go_roundw <;> first | exact ⟨3, by omega, rfl, by rw [E.out], by rw [R3.out], S0.out⟩ | simp [intOf])
      · have E : Hid (tl 3 = t2) := Lib.hid (by rw [E2.out]; rfl)
        clear E2
        go_wp2_with (at_lookup; refine wpList_lookup_map_ok _ rfl _ _ 79 rfl Tryz.underlying79 b m f rfl S0.out.2.1 Z rfl wz cz HZ.out.1 true HZ.out.2 ?_)
        first
          | exact ⟨⟨3, by omega, rfl, by rw [E.out], by rw [R3.out], S0.out⟩, by simp [intOf]⟩
          | (go_roundw <;> first | exact ⟨3, by omega, rfl, by rw [E.out], by rw [R3.out], S0.out⟩ | simp [intOf])
end Go.Proofs.YtkcodmafakjkfaaGreat.ColThird
