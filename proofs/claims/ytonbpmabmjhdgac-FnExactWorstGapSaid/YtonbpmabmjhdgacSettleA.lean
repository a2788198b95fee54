/-
  A region that draws its order, two of whose operations make a block each whenever they come up: whatever settles is walked in the order of the text,
  the two blocks are two new ones, and what follows comes last. No program stands here.
-/
import Derived.Test.YtonbpmabmjhdgacSettle
import Derived.WalkKit
namespace Go.Proofs.Ytonbpmabmjhdgac.SettleA
open Go Settle Go.RowKit
set_option linter.unusedVariables false

section
variable {P : Program} {ops : Array Oper} {Q : Exit → Act → World → Prop} {md : Region.Mode} {S : World → Prop} {R : Array Bool → Act → World → Prop}

/-- The run of an operation ends with value v in a world of the kind S, and all that was there stays. -/
def LeadsB (P : Program) (S : World → Prop) (w0 : World) (dst : Option Tmp) (v : Value) : Result Next → Prop
  | .ok (.value u) w' => (dst = none ∨ u = v) ∧ S w' ∧ Below w0.heap.size w0 w'
  | .ok .skip w' => (dst = none ∨ undef = v) ∧ S w' ∧ Below w0.heap.size w0 w'
  | .ok (.enter f args) w' => Calls P f args w' fun
      | .returned u, w'' => (dst = none ∨ u = v) ∧ S w'' ∧ Below w0.heap.size w0 w''
      | _, _ => False
  | _ => False
def YieldsB (P : Program) (ops : Array Oper) (S : World → Prop) (o : Oper) (v : Value) (a : Act) : Prop :=
  (Region.wanted o (yielded ops a.tmps) = true ∧ ∀ w, S w → LeadsB P S w o.dst v ((execOp a.eval o).run P w)) ∨
  (Region.wanted o (yielded ops a.tmps) = false ∧ v = undef)

theorem YieldsB.wpOp {i : Nat} {o : Oper} {v : Value} {a : Act} (hi : ops[i]? = some o) (hy : YieldsB P ops S o v a)
    {K : Act → World → Prop} {w : World} (hS : S w) (h : ∀ w', S w' → Below w.heap.size w w' → K (a.put o.dst v) w') : wpOp P ops Q i K a w := by
  unfold Go.wpOp
  simp only [hi]
  rcases hy with ⟨hw, hv⟩ | ⟨hw, rfl⟩
  · have h1 := hv w hS
    simp only [hw, if_true, Oper.wp]
    refine .inl ?_
    generalize (execOp a.eval o).run P w = r at *
    cases r with
    | ok n w' =>
      cases n <;> simp only [Oper.upon, LeadsB] at h1 ⊢
      case value u => rw [put_same h1.1]; exact h _ h1.2.1 h1.2.2
      case skip => rw [put_same h1.1]; exact h _ h1.2.1 h1.2.2
      case enter f args =>
        refine Calls.mono h1 fun e w'' he => ?_
        cases e with
        | returned u => simp only at he ⊢; rw [put_same he.1]; exact h _ he.2.1 he.2.2
        | panicked c => exact he.elim
        | outgrown => exact he.elim
    | halt x w' => exact h1.elim
  · simp only [hw, Bool.false_eq_true, if_false]; exact h _ hS (Below.refl _ _)

theorem YieldsB.of_same {o : Oper} {v : Value} {a a' : Act} (hy : YieldsB P ops S o v a) (he : execOp a'.eval o = execOp a.eval o)
    (hw : Region.wanted o (yielded ops a'.tmps) = Region.wanted o (yielded ops a.tmps)) : YieldsB P ops S o v a' := by
  unfold YieldsB at *
  rw [he, hw]
  exact hy

theorem wpOp_putY {j : Nat} {oi oj : Oper} {v : Value} {Y : Act → Prop} (keep : ∀ (a : Act), Y a → ∀ u, Y (a.put oj.dst u)) (keepD : ∀ (a : Act) d, Y a → Y { a with defers := d :: a.defers }) (hj : ops[j]? = some oj) (hap : oi.apart ops oj = true)
    (_hsi : ∀ cs b, oi.op ≠ .select cs b) (hsj : ∀ cs b, oj.op ≠ .select cs b)
    (hQ : ∀ c a w, Q (.panic c) (a.put oi.dst v) w → Q (.panic c) a w) {K : Act → World → Prop} {a : Act} {w : World}
    (hy : Y a) (h : wpOp P ops Q j K (a.put oi.dst v) w) :
    wpOp P ops Q j (fun a' w' => Y a' ∧ K (a'.put oi.dst v) w') a w := by
  obtain ⟨h1, h2, h3⟩ := Oper.apart_spec hap
  unfold wpOp at *
  simp only [hj] at *
  rw [wanted_put oj a oi.dst v h1] at h
  split
  · rename_i hw
    simp only [hw, if_true] at h
    rcases h with h | ⟨hasks, hlets⟩
    case inr => exact .inr ⟨by unfold Oper.asks at *; rw [execOp_put oj hsj a oi.dst v h1] at hasks; exact hasks, hlets⟩
    refine .inl ?_
    unfold Oper.wp at *
    rw [execOp_put oj hsj a oi.dst v h1] at h
    generalize (execOp a.eval oj).run P w = r at *
    cases r with
    | ok n w' =>
      cases n <;> simp only [Oper.upon] at h ⊢
      case value u => exact ⟨keep a hy u, by rw [← Act.put_comm a v u h2]; exact h⟩
      case skip => exact ⟨keep a hy _, by rw [← Act.put_comm a v undef h2]; exact h⟩
      case defer d =>
        refine ⟨keep _ (keepD _ _ hy) _, ?_⟩
        rw [← Act.put_comm _ v undef h2, ← Act.put_defers]
        exact h
      case enter f args =>
        refine Calls.mono h fun e w'' he => ?_
        cases e with
        | returned u => exact ⟨keep a hy u, by rw [← Act.put_comm a v u h2]; exact he⟩
        | panicked c => exact hQ _ _ _ he
        | outgrown => exact he
      case row row args => exact Rows.mono h fun u w'' he => ⟨keep a hy u, by rw [← Act.put_comm a v u h2]; exact he⟩
    | halt x w' =>
      cases x <;> simp only [Oper.upon] at h ⊢
      case panic u => exact hQ _ _ _ h
  · rename_i hw
    simp only [hw] at h
    exact ⟨keep a hy _, by rw [← Act.put_comm a v undef h2]; exact h⟩


def wpAnyR (P : Program) (md : Region.Mode) (ops : Array Oper) (Q : Exit → Act → World → Prop) (R : Array Bool → Act → World → Prop) (T : Array Bool → Act → World → Prop) (n : Nat) : Nat → Array Bool → Act → Prop
  | 0, listed, a => ∀ w, R listed a w → (∀ j, j < n → listed.getD j false = true) ∧ T listed a w
  | fuel + 1, listed, a => Region.ready md ops listed ≠ [] ∧
    ∀ i ∈ Region.ready md ops listed, ∀ w, R listed a w → wpOp P ops Q i (fun a' w' => R (listed.setIfInBounds i true) a' w' ∧ wpAnyR P md ops Q R T n fuel (listed.setIfInBounds i true) a') a w

theorem wpAny_of_R {T : Array Bool → Act → World → Prop} {n m : Nat} (hT : ∀ listed a w, T listed a w → wpAny P md ops Q m listed a w) :
    ∀ (fuel : Nat) (listed : Array Bool) (a : Act) (w : World), R listed a w → wpAnyR P md ops Q R T n fuel listed a → wpAny P md ops Q (fuel + m) listed a w
  | 0, _, _, w, hS, h => by rw [Nat.zero_add]; exact hT _ _ _ (h w hS).2
  | fuel + 1, _, _, w, hS, h => by
    rw [show fuel + 1 + m = (fuel + m) + 1 by omega]
    exact ⟨fun h0 => absurd h0 h.1, fun i hi => wpOp_mono (fun a' w' h' => wpAny_of_R hT fuel _ a' w' h'.1 h'.2) (h.2 i hi w hS)⟩

/-- What the kind of state forgets: an operation that settles. -/
structure Keeps (R : Array Bool → Act → World → Prop) (S : World → Prop) (i : Nat) (dst : Option Tmp) : Prop where
  r1 : ∀ listed a w, R listed a w → S w
  r2 : ∀ listed a w w' v, R listed a w → S w' → Below w.heap.size w w' → R (listed.setIfInBounds i true) (a.put dst v) w'
  r3 : ∀ listed a w v, R (listed.setIfInBounds i true) (a.put dst v) w → R listed a w

theorem wpAnyR_first {T : Array Bool → Act → World → Prop} {n : Nat} {i : Nat} {oi : Oper} {v : Value} (hk : Keeps R S i oi.dst) (hi : ops[i]? = some oi) (hin : i < n) (hsel : ∀ (j : Nat) (o : Oper) cs b, ops[j]? = some o → o.op ≠ .select cs b)
    (hQ : ∀ c a w, Q (.panic c) (a.put oi.dst v) w → Q (.panic c) a w) (hlast : ∀ listed j, n ≤ j → closed md ops listed → j ∈ Region.ready md ops listed → listed.getD i false = true) :
    ∀ (fuel : Nat) (listed : Array Bool) (a : Act), closed md ops listed →
      (∀ j oj, ops[j]? = some oj → j ≠ i → listed.getD j true = false → (∀ e ∈ oj.after, Region.binds md e = true → e.on ≠ i) → oi.apart ops oj = true) →
      i ∈ Region.ready md ops listed → YieldsB P ops S oi v a →
      wpAnyR P md ops Q R T n fuel (listed.setIfInBounds i true) (a.put oi.dst v) → wpAnyR P md ops Q R T n (fuel + 1) listed a := by
  intro fuel
  induction fuel with
  | zero =>
    intro listed a hcl _ hr hy H
    refine ⟨fun h => (by rw [h] at hr; cases hr), fun j hj w hS => ?_⟩
    have hun := (mem_ready.1 hr).1
    have hjn : j < n := by
      rcases Nat.lt_or_ge j n with h | h
      · exact h
      · have := hlast listed j h hcl hj
        rcases Nat.lt_or_ge i listed.size with h' | h'
        · simp [h'] at hun this; rw [hun] at this; cases this
        · simp [Array.getElem?_eq_none h'] at this
    by_cases hji : j = i
    · subst hji; exact hy.wpOp hi (hk.r1 _ _ _ hS) fun w' hS' hb => ⟨hk.r2 _ _ _ _ _ hS hS' hb, H⟩
    · have h1 := (H w (hk.r2 _ _ _ _ _ hS (hk.r1 _ _ _ hS) (Below.refl _ _))).1 j hjn
      rw [getD_set_ne false (Ne.symm hji)] at h1
      have hjun := (mem_ready.1 hj).1
      rcases Nat.lt_or_ge j listed.size with h' | h'
      · simp [h'] at hjun h1; rw [hjun] at h1; cases h1
      · simp [Array.getElem?_eq_none h'] at h1
  | succ fuel ih =>
    intro listed a hcl hfree hr hy H
    refine ⟨fun h => (by rw [h] at hr; cases hr), fun j hj w hS => ?_⟩
    by_cases hji : j = i
    · subst hji; exact hy.wpOp hi (hk.r1 _ _ _ hS) fun w' hS' hb => ⟨hk.r2 _ _ _ _ _ hS hS' hb, H⟩
    · have h1 := H.2 j (ready_mono hj hji) w (hk.r2 _ _ _ _ _ hS (hk.r1 _ _ _ hS) (Below.refl _ _))
      obtain ⟨hjun, oj, hoj, hall⟩ := mem_ready.1 hj
      have hnot : ∀ e ∈ oj.after, Region.binds md e = true → e.on ≠ i := fun e he hb heq => by
        have h1 := hall e he hb
        have h0 := (mem_ready.1 hr).1
        rw [heq] at h1
        rcases Nat.lt_or_ge i listed.size with h' | h'
        · simp [h'] at h0 h1; rw [h0] at h1; cases h1
        · simp [Array.getElem?_eq_none h'] at h1
      have h2 := wpOp_putY (Y := YieldsB P ops S oi v) (fun a hy u => hy.of_same (execOp_put oi (fun cs b => hsel i oi cs b hi) a oj.dst u (Oper.apart_spec (hfree j oj hoj hji hjun hnot)).2.2) (wanted_put oi a oj.dst u (Oper.apart_spec (hfree j oj hoj hji hjun hnot)).2.2)) (fun a d hy => hy.of_same rfl rfl) hoj (hfree j oj hoj hji hjun hnot) (fun cs b => hsel i oi cs b hi) (fun cs b => hsel j oj cs b hoj) hQ hy h1
      have hfree' : ∀ k ok, ops[k]? = some ok → k ≠ i → (listed.setIfInBounds j true).getD k true = false →
          (∀ e ∈ ok.after, Region.binds md e = true → e.on ≠ i) → oi.apart ops ok = true := fun k ok hk hki hun hno => by
        refine hfree k ok hk hki ?_ hno
        by_cases hjk : j = k
        · subst hjk; exact hjun
        · rw [getD_set_ne true hjk] at hun; exact hun
      have hr' := ready_mono hr (Ne.symm hji)
      refine wpOp_mono (fun a' w' h3 => ⟨hk.r3 _ _ _ _ (by have := h3.2.1; rw [Array.setIfInBounds_comm _ _ (Ne.symm hji)] at this; exact this), ih (listed.setIfInBounds j true) a' (closed_step hcl hj) hfree' hr' h3.1 ?_⟩) h2
      rw [Array.setIfInBounds_comm _ _ hji]
      exact h3.2.2


def SettlesB (P : Program) (ops : Array Oper) (S : World → Prop) (F : Act → Prop) : List Oper → Act → Prop
  | [], a => F a
  | o :: rest, a => ∃ v, YieldsB P ops S o v a ∧ SettlesB P ops S F rest (a.put o.dst v)

theorem any_of_settlesR {T : Array Bool → Act → World → Prop} {F : Act → Prop} {s n : Nat} (hsn : s ≤ n) (hn : n ≤ ops.size) (hsel : Region.noSelect ops = true) (hQ : ∀ (o : Option Tmp) v c a w, Q (.panic c) (a.put o v) w → Q (.panic c) a w)
    (hlast : ∀ i, i < n → ∀ listed j, n ≤ j → closed md ops listed → j ∈ Region.ready md ops listed → listed.getD i false = true)
    (hk : ∀ i o, i < s → ops[i]? = some o → Keeps R S i o.dst)
    (hF : ∀ a, F a → wpAnyR P md ops Q R T n (n - s) (upTo ops.size s) a) :
    ∀ (fuel k : Nat) (a : Act), fuel + k = s → closed md ops (upTo ops.size k) → seqOk md ops fuel k (upTo ops.size k) = true → SettlesB P ops S F ((ops.toList.take s).drop k) a → wpAnyR P md ops Q R T n (fuel + (n - s)) (upTo ops.size k) a := by
  intro fuel
  induction fuel with
  | zero =>
    intro k a hks _ _ h
    obtain rfl : k = s := by omega
    rw [List.drop_eq_nil_of_le (by simp; omega)] at h
    rw [Nat.zero_add]
    exact hF a h
  | succ fuel ih =>
    intro k a hks hcl hs h
    simp only [seqOk, Bool.and_eq_true] at hs
    obtain ⟨⟨hf, hr⟩, hrest⟩ := hs
    have hr' : k ∈ Region.ready md ops (upTo ops.size k) := by simpa using hr
    have hlt : k < (ops.toList.take s).length := by simp; omega
    rw [List.drop_eq_getElem_cons hlt] at h
    obtain ⟨v, hy, h⟩ := h
    have hi : ops[k]? = some (ops.toList.take s)[k] := by
      rw [Array.getElem?_eq_getElem (show k < ops.size by omega)]
      simp
    rw [show fuel + 1 + (n - s) = fuel + (n - s) + 1 by omega]
    exact wpAnyR_first (hk k _ (by omega) hi) hi (by omega) (Region.noSelect_spec hsel) (hQ _ _) (hlast k (by omega)) _ _ a hcl (Region.free_spec hi hf) hr' hy
      (ih (k + 1) _ (by omega) (closed_step hcl hr') hrest h)

def ptr (g : Nat) : Value := .pointer (some ⟨g, 0, none⟩)
theorem ptr_inj {g h : Nat} (e : ptr g = ptr h) : g = h := by
  unfold ptr at e
  injection e with e
  injection e with e
  injection e
theorem put_other {a : Act} {dst : Option Tmp} {d : Tmp} {v : Value} (h : dst ≠ some d) : (a.put dst v).tmps[d]? = a.tmps[d]? := by
  cases dst with
  | none => rfl
  | some e => simp only [Act.put]; exact Array.getElem?_setIfInBounds_ne (fun h' => h (by rw [h']))
theorem put_self {a : Act} {d : Tmp} {v : Value} (h : d < a.tmps.size) : (a.put (some d) v).tmps[d]? = some v := by
  simp [Act.put, h]
theorem put_size {a : Act} {dst : Option Tmp} {v : Value} : (a.put dst v).tmps.size = a.tmps.size := by
  cases dst <;> simp [Act.put]

/-- The two blocks, as far as they have come up. -/
def Two (S : World → Prop) (s d1 d2 base : Nat) (Z Z1 Z2 : Array Value) (T : TypeId) (listed : Array Bool) (a : Act) (w : World) : Prop :=
  S w ∧
  (listed.getD s false = true → ∃ g, a.tmps[d1]? = some (ptr g) ∧ base ≤ g ∧ w.heap[g]? = some (.cells (if listed.getD (s + 2) false then Z1 else Z) T (0, 0))) ∧
  (listed.getD (s + 1) false = true → ∃ g, a.tmps[d2]? = some (ptr g) ∧ base ≤ g ∧ w.heap[g]? = some (.cells (if listed.getD (s + 3) false then Z2 else Z) T (0, 0))) ∧
  (listed.getD s false = true → listed.getD (s + 1) false = true → ∀ g, a.tmps[d1]? = some (ptr g) → a.tmps[d2]? ≠ some (ptr g))

theorem lt_of_block {w : World} {g : Nat} {o : Obj} (h : w.heap[g]? = some o) : g < w.heap.size := (Array.getElem?_eq_some_iff.1 h).1

theorem two_keeps {s d1 d2 base i : Nat} {Z Z1 Z2 : Array Value} {T : TypeId} {dst : Option Tmp} (hi : i < s) (h1 : dst ≠ some d1) (h2 : dst ≠ some d2) : Keeps (Two S s d1 d2 base Z Z1 Z2 T) S i dst where
  r1 := fun _ _ _ h => h.1
  r2 := fun listed a w w' v h hS hb => by
    obtain ⟨_, f1, f2, f3⟩ := h
    refine ⟨hS, ?_, ?_, ?_⟩
    · rw [getD_set_ne false (by omega), getD_set_ne (j := s + 2) false (by omega), put_other h1]
      intro hl
      obtain ⟨g, e, hg, hh⟩ := f1 hl
      exact ⟨g, e, hg, (hb.block g (lt_of_block hh)).trans hh⟩
    · rw [getD_set_ne false (by omega), getD_set_ne (j := s + 3) false (by omega), put_other h2]
      intro hl
      obtain ⟨g, e, hg, hh⟩ := f2 hl
      exact ⟨g, e, hg, (hb.block g (lt_of_block hh)).trans hh⟩
    · rw [getD_set_ne false (by omega), getD_set_ne false (by omega), put_other h1, put_other h2]
      exact f3
  r3 := fun listed a w v h => by
    obtain ⟨hS, f1, f2, f3⟩ := h
    rw [getD_set_ne false (by omega), getD_set_ne (j := s + 2) false (by omega), put_other h1] at f1
    rw [getD_set_ne false (by omega), getD_set_ne (j := s + 3) false (by omega), put_other h2] at f2
    rw [getD_set_ne false (by omega), getD_set_ne false (by omega), put_other h1, put_other h2] at f3
    exact ⟨hS, f1, f2, f3⟩

theorem alloc_wp {o : Oper} {i d : Nat} {Z : Array Value} {T : TypeId} {K : Act → World → Prop} {a : Act} {w : World} (hi : ops[i]? = some o) (hg : o.guard = none) (hd : o.dst = some d)
    (hr : ∀ (a : Act) (w : World), (execOp a.eval o).run P w = .ok (.value (ptr w.heap.size)) (w.alloc (.cells Z T)))
    (h : K (a.put (some d) (ptr w.heap.size)) (w.alloc (.cells Z T))) : wpOp P ops Q i K a w := by
  unfold Go.wpOp
  simp only [hi]
  rw [if_pos (by simp [Region.wanted, hg])]
  refine .inl ?_
  unfold Oper.wp
  rw [hr]
  simp only [Oper.upon, hd]
  exact h

theorem heap_new (w : World) (o : Obj) : (w.alloc o).heap[w.heap.size]? = some o := heap_alloc_new w o
theorem heap_old (w : World) (o : Obj) {g : Nat} (h : g < w.heap.size) : (w.alloc o).heap[g]? = w.heap[g]? := ((Below.refl w.heap.size w).alloc (Nat.le_refl _) o).block g h

/-- Both blocks come up, in whichever order. -/
theorem two_allocs {T' : Array Bool → Act → World → Prop} {s d1 d2 base n f : Nat} {Z Z1 Z2 : Array Value} {T : TypeId} {o1 o2 : Oper} {a : Act}
    (hi1 : ops[s]? = some o1) (hi2 : ops[s + 1]? = some o2) (hg1 : o1.guard = none) (hg2 : o2.guard = none) (hd1 : o1.dst = some d1) (hd2 : o2.dst = some d2) (hne : d1 ≠ d2)
    (hr1 : ∀ (a : Act) (w : World), (execOp a.eval o1).run P w = .ok (.value (ptr w.heap.size)) (w.alloc (.cells Z T)))
    (hr2 : ∀ (a : Act) (w : World), (execOp a.eval o2).run P w = .ok (.value (ptr w.heap.size)) (w.alloc (.cells Z T)))
    (h0 : Region.ready md ops (upTo ops.size s) = [s, s + 1]) (h1 : Region.ready md ops ((upTo ops.size s).setIfInBounds s true) = [s + 1]) (h2 : Region.ready md ops ((upTo ops.size s).setIfInBounds (s + 1) true) = [s])
    (hsz : s + 3 < ops.size) (hs1 : d1 < a.tmps.size) (hs2 : d2 < a.tmps.size)
    (hSa : ∀ w, S w → S (w.alloc (.cells Z T))) (hSb : ∀ w, S w → base ≤ w.heap.size)
    (hfin : ∀ g1 g2, wpAnyR P md ops Q (Two S s d1 d2 base Z Z1 Z2 T) T' n f (upTo ops.size (s + 2)) ((a.put (some d1) (ptr g1)).put (some d2) (ptr g2))) :
    wpAnyR P md ops Q (Two S s d1 d2 base Z Z1 Z2 T) T' n (f + 2) (upTo ops.size s) a := by
  have lsz : ∀ k, (upTo ops.size k).size = ops.size := fun k => by
    induction k with
    | zero => simp [upTo]
    | succ k ih => simp [upTo, ih]
  have fs : ∀ k j, k ≤ j → (upTo ops.size k).getD j false = false := fun k => by
    induction k with
    | zero =>
      intro j _
      rcases Nat.lt_or_ge j ops.size with h | h
      · simp [upTo, h]
      · simp [upTo, Nat.not_lt.2 h]
    | succ k ih =>
      intro j hj
      simp only [upTo]
      rw [getD_set_ne false (by omega)]
      exact ih j (by omega)
  have e2 : ((upTo ops.size s).setIfInBounds (s + 1) true).setIfInBounds s true = upTo ops.size (s + 2) := by
    simp only [upTo]
    exact Array.setIfInBounds_comm _ _ (by omega)
  have set_at : ∀ (l : Array Bool) (i : Nat), i < l.size → (l.setIfInBounds i true).getD i false = true := fun l i h => by simp [h]
  refine ⟨by rw [h0]; simp, fun i hi w hR => ?_⟩
  rw [h0] at hi
  have hi : i = s ∨ i = s + 1 := by simpa using hi
  rcases hi with rfl | rfl
  · refine alloc_wp hi1 hg1 hd1 hr1 ⟨⟨hSa _ hR.1, ?_, ?_, ?_⟩, ?_⟩
    · intro _
      exact ⟨w.heap.size, put_self hs1, hSb _ hR.1, by rw [getD_set_ne false (by omega), fs _ _ (by omega)]; exact heap_new w _⟩
    · intro h
      rw [getD_set_ne false (by omega), fs _ _ (by omega)] at h
      cases h
    · intro _ h
      rw [getD_set_ne false (by omega), fs _ _ (by omega)] at h
      cases h
    · generalize w.heap.size = g1
      refine ⟨by rw [h1]; simp, fun i' hi' w2 hR2 => ?_⟩
      rw [h1] at hi'
      obtain rfl : i' = i + 1 := by simpa using hi'
      obtain ⟨q, eq, hq, hh⟩ := hR2.2.1 (set_at _ _ (by rw [lsz]; omega))
      rw [put_self hs1] at eq
      obtain rfl : g1 = q := ptr_inj (Option.some.inj eq)
      have hlt := lt_of_block hh
      refine alloc_wp hi2 hg2 hd2 hr2 ⟨⟨hSa _ hR2.1, ?_, ?_, ?_⟩, ?_⟩
      · intro _
        exact ⟨g1, by rw [put_other (by intro h; exact hne (Option.some.inj h).symm), put_self hs1], hq, by rw [getD_set_ne false (by omega)]; exact (heap_old w2 _ hlt).trans hh⟩
      · intro _
        exact ⟨w2.heap.size, put_self (by rw [put_size]; exact hs2), hSb _ hR2.1, by rw [getD_set_ne false (by omega), getD_set_ne false (by omega), fs _ _ (by omega)]; exact heap_new w2 _⟩
      · intro _ _ g e1 e3
        rw [put_other (by intro h; exact hne (Option.some.inj h).symm), put_self hs1] at e1
        rw [put_self (by rw [put_size]; exact hs2)] at e3
        have := ptr_inj (Option.some.inj (e1.trans e3.symm))
        omega
      · exact hfin g1 w2.heap.size
  · refine alloc_wp hi2 hg2 hd2 hr2 ⟨⟨hSa _ hR.1, ?_, ?_, ?_⟩, ?_⟩
    · intro h
      rw [getD_set_ne false (by omega), fs _ _ (by omega)] at h
      cases h
    · intro _
      exact ⟨w.heap.size, put_self hs2, hSb _ hR.1, by rw [getD_set_ne false (by omega), fs _ _ (by omega)]; exact heap_new w _⟩
    · intro h
      rw [getD_set_ne false (by omega), fs _ _ (by omega)] at h
      cases h
    · generalize w.heap.size = g2
      refine ⟨by rw [h2]; simp, fun i' hi' w2 hR2 => ?_⟩
      rw [h2] at hi'
      obtain rfl : i' = s := by simpa using hi'
      obtain ⟨q, eq, hq, hh⟩ := hR2.2.2.1 (set_at _ _ (by rw [lsz]; omega))
      rw [put_self hs2] at eq
      obtain rfl : g2 = q := ptr_inj (Option.some.inj eq)
      have hlt := lt_of_block hh
      have hp1 : d1 < (a.put (some d2) (ptr g2)).tmps.size := by rw [put_size]; exact hs1
      have hc : ∀ g1, (a.put (some d2) (ptr g2)).put (some d1) (ptr g1) = (a.put (some d1) (ptr g1)).put (some d2) (ptr g2) := fun g1 =>
        Act.put_comm a _ _ (fun d h h' => hne (by rw [← Option.some.inj h] at h'; exact Option.some.inj h'))
      refine alloc_wp hi1 hg1 hd1 hr1 ⟨⟨hSa _ hR2.1, ?_, ?_, ?_⟩, ?_⟩
      · intro _
        exact ⟨w2.heap.size, put_self hp1, hSb _ hR2.1, by rw [getD_set_ne false (by omega), getD_set_ne false (by omega), fs _ _ (by omega)]; exact heap_new w2 _⟩
      · intro _
        exact ⟨g2, by rw [put_other (by intro h; exact hne (Option.some.inj h)), put_self hs2], hq, by rw [getD_set_ne false (by omega)]; exact (heap_old w2 _ hlt).trans hh⟩
      · intro _ _ g e1 e3
        rw [put_self hp1] at e1
        rw [put_other (by intro h; exact hne (Option.some.inj h)), put_self hs2] at e3
        have := ptr_inj (Option.some.inj (e1.trans e3.symm))
        omega
      · rw [e2, hc]
        exact hfin w2.heap.size g2

theorem store_wp {o : Oper} {i : Nat} {n : Next} {K : Act → World → Prop} {a : Act} {w w' : World} (hi : ops[i]? = some o) (hg : o.guard = none) (hd : o.dst = none)
    (hn : n = .skip ∨ ∃ u, n = .value u) (hr : (execOp a.eval o).run P w = .ok n w') (h : K a w') : wpOp P ops Q i K a w := by
  unfold Go.wpOp
  simp only [hi]
  rw [if_pos (by simp [Region.wanted, hg])]
  refine .inl ?_
  unfold Oper.wp
  rw [hr]
  rcases hn with rfl | ⟨u, rfl⟩ <;> simp only [Oper.upon, hd] <;> exact h

/-- What is known of the two blocks. -/
def Blocks (S : World → Prop) (g1 g2 base : Nat) (Z1 Z2 : Array Value) (T : TypeId) (w : World) : Prop :=
  S w ∧ base ≤ g1 ∧ base ≤ g2 ∧ g1 ≠ g2 ∧ w.heap[g1]? = some (.cells Z1 T (0, 0)) ∧ w.heap[g2]? = some (.cells Z2 T (0, 0))

theorem two_stores {T' : Array Bool → Act → World → Prop} {s d1 d2 base : Nat} {Z Z1 Z2 : Array Value} {T : TypeId} {a : Act} {g1 g2 : Nat}
    (h1 : Region.ready md ops (upTo ops.size (s + 2)) = [s + 2]) (h2 : Region.ready md ops (upTo ops.size (s + 3)) = [s + 3]) (hsz : s + 4 = ops.size) (hne : d1 ≠ d2)
    (hs1 : d1 < a.tmps.size) (hs2 : d2 < a.tmps.size)
    (hst1 : ∀ w, Blocks S g1 g2 base Z Z T w → wpOp P ops Q (s + 2) (fun a' w' => a' = (a.put (some d1) (ptr g1)).put (some d2) (ptr g2) ∧ Blocks S g1 g2 base Z1 Z T w') ((a.put (some d1) (ptr g1)).put (some d2) (ptr g2)) w)
    (hst2 : ∀ w, Blocks S g1 g2 base Z1 Z T w → wpOp P ops Q (s + 3) (fun a' w' => a' = (a.put (some d1) (ptr g1)).put (some d2) (ptr g2) ∧ Blocks S g1 g2 base Z1 Z2 T w') ((a.put (some d1) (ptr g1)).put (some d2) (ptr g2)) w)
    (hT : ∀ w, Blocks S g1 g2 base Z1 Z2 T w → T' (upTo ops.size (s + 4)) ((a.put (some d1) (ptr g1)).put (some d2) (ptr g2)) w) :
    wpAnyR P md ops Q (Two S s d1 d2 base Z Z1 Z2 T) T' ops.size 2 (upTo ops.size (s + 2)) ((a.put (some d1) (ptr g1)).put (some d2) (ptr g2)) := by
  have all : ∀ k, k ≤ ops.size → ∀ j, j < k → (upTo ops.size k).getD j false = true := fun k hk j hj => (upTo_listed _ k j hj hk).2
  have fs : ∀ k j, k ≤ j → (upTo ops.size k).getD j false = false := fun k => by
    induction k with
    | zero =>
      intro j _
      rcases Nat.lt_or_ge j ops.size with h | h
      · simp [upTo, h]
      · simp [upTo, Nat.not_lt.2 h]
    | succ k ih =>
      intro j hj
      simp only [upTo]
      rw [getD_set_ne false (by omega)]
      exact ih j (by omega)
  have t1 : ((a.put (some d1) (ptr g1)).put (some d2) (ptr g2)).tmps[d1]? = some (ptr g1) := by rw [put_other (by intro h; exact hne (Option.some.inj h).symm), put_self hs1]
  have t2 : ((a.put (some d1) (ptr g1)).put (some d2) (ptr g2)).tmps[d2]? = some (ptr g2) := put_self (by rw [put_size]; exact hs2)
  generalize (a.put (some d1) (ptr g1)).put (some d2) (ptr g2) = a2 at *
  have out : ∀ k, s + 2 ≤ k → k ≤ ops.size → ∀ w, Two S s d1 d2 base Z Z1 Z2 T (upTo ops.size k) a2 w → Blocks S g1 g2 base (if s + 2 < k then Z1 else Z) (if s + 3 < k then Z2 else Z) T w := by
    intro k hk1 hk2 w hR
    obtain ⟨hS, f1, f2, f3⟩ := hR
    obtain ⟨q1, e1, b1, c1⟩ := f1 (all k hk2 s (by omega))
    obtain ⟨q2, e2, b2, c2⟩ := f2 (all k hk2 (s + 1) (by omega))
    rw [t1] at e1
    rw [t2] at e2
    obtain rfl : g1 = q1 := ptr_inj (Option.some.inj e1)
    obtain rfl : g2 = q2 := ptr_inj (Option.some.inj e2)
    have f4 := f3 (all k hk2 s (by omega)) (all k hk2 (s + 1) (by omega)) g1 t1
    rw [t2] at f4
    refine ⟨hS, b1, b2, fun h => f4 (by rw [h]), ?_, ?_⟩
    · rcases Nat.lt_or_ge (s + 2) k with h | h
      · rw [all k hk2 _ h, if_pos rfl] at c1; rw [if_pos h]; exact c1
      · rw [fs k _ h] at c1; rw [if_neg (by omega)]; simpa using c1
    · rcases Nat.lt_or_ge (s + 3) k with h | h
      · rw [all k hk2 _ h, if_pos rfl] at c2; rw [if_pos h]; exact c2
      · rw [fs k _ h] at c2; rw [if_neg (by omega)]; simpa using c2
  have inn : ∀ k, s + 2 ≤ k → k ≤ ops.size → ∀ w, Blocks S g1 g2 base (if s + 2 < k then Z1 else Z) (if s + 3 < k then Z2 else Z) T w → Two S s d1 d2 base Z Z1 Z2 T (upTo ops.size k) a2 w := by
    intro k hk1 hk2 w ⟨hS, b1, b2, hn, c1, c2⟩
    refine ⟨hS, fun _ => ⟨g1, t1, b1, ?_⟩, fun _ => ⟨g2, t2, b2, ?_⟩, fun _ _ g e1 e2 => ?_⟩
    · rcases Nat.lt_or_ge (s + 2) k with h | h
      · rw [all k hk2 _ h, if_pos rfl]; rw [if_pos h] at c1; exact c1
      · rw [fs k _ h]; rw [if_neg (by omega)] at c1; simpa using c1
    · rcases Nat.lt_or_ge (s + 3) k with h | h
      · rw [all k hk2 _ h, if_pos rfl]; rw [if_pos h] at c2; exact c2
      · rw [fs k _ h]; rw [if_neg (by omega)] at c2; simpa using c2
    · rw [t1] at e1
      rw [t2] at e2
      exact hn (ptr_inj (Option.some.inj (e1.trans e2.symm)))
  refine ⟨by rw [h1]; simp, fun i hi w hR => ?_⟩
  rw [h1] at hi
  obtain rfl : i = s + 2 := by simpa using hi
  have hB := out (s + 2) (by omega) (by omega) w hR
  rw [if_neg (by omega), if_neg (by omega)] at hB
  refine wpOp_mono (fun a' w' h => ?_) (hst1 w hB)
  obtain ⟨rfl, hB1⟩ := h
  have hR1 := inn (s + 3) (by omega) (by omega) w' (by rw [if_pos (by omega), if_neg (by omega)]; exact hB1)
  refine ⟨hR1, ?_⟩
  show wpAnyR P md ops Q _ T' ops.size 1 (upTo ops.size (s + 3)) a'
  refine ⟨by rw [h2]; simp, fun i hi w2 hR2 => ?_⟩
  rw [h2] at hi
  obtain rfl : i = s + 3 := by simpa using hi
  have hB2 := out (s + 3) (by omega) (by omega) w2 hR2
  rw [if_pos (by omega), if_neg (by omega)] at hB2
  refine wpOp_mono (fun a'' w'' h => ?_) (hst2 w2 hB2)
  obtain ⟨rfl, hB3⟩ := h
  have hR3 := inn (s + 4) (by omega) (by omega) w'' (by rw [if_pos (by omega), if_pos (by omega)]; exact hB3)
  refine ⟨hR3, ?_⟩
  show wpAnyR P md ops Q _ T' ops.size 0 (upTo ops.size (s + 4)) a''
  intro w3 hR4
  have hB4 := out (s + 4) (by omega) (by omega) w3 hR4
  rw [if_pos (by omega), if_pos (by omega)] at hB4
  exact ⟨fun j hj => all (s + 4) (by omega) j (by omega), hT w3 hB4⟩

theorem SettlesB.nil {F : Act → Prop} {a : Act} (h : F a) : SettlesB P ops S F [] a := h
theorem SettlesB.off {F : Act → Prop} {o : Oper} {rest : List Oper} {a : Act} (hw : Region.wanted o (yielded ops a.tmps) = false)
    (h : SettlesB P ops S F rest (a.put o.dst undef)) : SettlesB P ops S F (o :: rest) a :=
  ⟨undef, .inr ⟨hw, rfl⟩, h⟩
theorem SettlesB.quiet {F : Act → Prop} {o : Oper} {rest : List Oper} {a : Act} {v : Value} (hw : Region.wanted o (yielded ops a.tmps) = true)
    (hv : ∀ w, S w → (execOp a.eval o).run P w = .ok (.value v) w)
    (h : SettlesB P ops S F rest (a.put o.dst v)) : SettlesB P ops S F (o :: rest) a :=
  ⟨v, .inl ⟨hw, fun w hS => by rw [hv w hS]; exact ⟨.inr rfl, hS, Below.refl _ _⟩⟩, h⟩
theorem SettlesB.call {F : Act → Prop} {o : Oper} {rest : List Oper} {a : Act} {v : Value} {f : FuncId} {args : Array Value} (hw : Region.wanted o (yielded ops a.tmps) = true)
    (hr : ∀ w, (execOp a.eval o).run P w = .ok (.enter f args) w)
    (hc : ∀ w, S w → Calls P f args w fun e w' => e = .returned v ∧ S w' ∧ Below w.heap.size w w')
    (h : SettlesB P ops S F rest (a.put o.dst v)) : SettlesB P ops S F (o :: rest) a :=
  ⟨v, .inl ⟨hw, fun w hS => by
    rw [hr w]
    exact Calls.mono (hc w hS) fun e w' ⟨he, hS'⟩ => by subst he; exact ⟨.inr rfl, hS'⟩⟩, h⟩

/-- What is left to show behind the operations that settle. -/
def Ends (P : Program) (Q : Exit → Act → World → Prop) (S : World → Prop) (d1 d2 base : Nat) (Z Z1 Z2 : Array Value) (T : TypeId) (o3 o4 : Oper) (a : Act) : Prop :=
  d1 < a.tmps.size ∧ d2 < a.tmps.size ∧ ∀ g1 g2,
        (∀ w, Blocks S g1 g2 base Z Z T w → ∃ n w', (n = .skip ∨ ∃ u, n = .value u) ∧ (execOp ((a.put (some d1) (ptr g1)).put (some d2) (ptr g2)).eval o3).run P w = .ok n w' ∧ Blocks S g1 g2 base Z1 Z T w') ∧
        (∀ w, Blocks S g1 g2 base Z1 Z T w → ∃ n w', (n = .skip ∨ ∃ u, n = .value u) ∧ (execOp ((a.put (some d1) (ptr g1)).put (some d2) (ptr g2)).eval o4).run P w = .ok n w' ∧ Blocks S g1 g2 base Z1 Z2 T w') ∧
        (∀ w, Blocks S g1 g2 base Z1 Z2 T w → Q .normal ((a.put (some d1) (ptr g1)).put (some d2) (ptr g2)) w)

/-- THE LAW: s operations that settle, two that make a block each, and the two stores into them, which end the region. -/
theorem regionTwo (S : World → Prop) (s d1 d2 base : Nat) (Z Z1 Z2 : Array Value) (T : TypeId) {o1 o2 o3 o4 : Oper} {id : Nat} {a : Act} {w : World} (hm : P.follows .mixedOrders = true) (hsel : Region.noSelect ops = true) (hsz : s + 4 = ops.size)
    (hs : seqOk .any ops s 0 (upTo ops.size 0) = true)
    (hi1 : ops[s]? = some o1) (hi2 : ops[s + 1]? = some o2) (hi3 : ops[s + 2]? = some o3) (hi4 : ops[s + 3]? = some o4) (hg1 : o1.guard = none) (hg2 : o2.guard = none) (hg3 : o3.guard = none) (hg4 : o4.guard = none)
    (hd1 : o1.dst = some d1) (hd2 : o2.dst = some d2) (hd3 : o3.dst = none) (hd4 : o4.dst = none) (hne : d1 ≠ d2)
    (h0 : Region.ready .any ops (upTo ops.size s) = [s, s + 1]) (h1 : Region.ready .any ops ((upTo ops.size s).setIfInBounds s true) = [s + 1]) (h2 : Region.ready .any ops ((upTo ops.size s).setIfInBounds (s + 1) true) = [s])
    (h3 : Region.ready .any ops (upTo ops.size (s + 2)) = [s + 2]) (h4 : Region.ready .any ops (upTo ops.size (s + 3)) = [s + 3]) (h5 : (Region.ready .any ops (upTo ops.size (s + 4))).isEmpty = true)
    (hds : ((ops.toList.take s).all fun o => o.dst != some d1 && o.dst != some d2) = true)
    (hr1 : ∀ (a : Act) (w : World), (execOp a.eval o1).run P w = .ok (.value (ptr w.heap.size)) (w.alloc (.cells Z T)))
    (hr2 : ∀ (a : Act) (w : World), (execOp a.eval o2).run P w = .ok (.value (ptr w.heap.size)) (w.alloc (.cells Z T)))
    (hSa : ∀ w, S w → S (w.alloc (.cells Z T))) (hSb : ∀ w, S w → base ≤ w.heap.size) (hS : S w.drew)
    (h : SettlesB P ops S (Ends P Q S d1 d2 base Z Z1 Z2 T o3 o4) (ops.toList.take s) a) :
    (Code.region id ops true).wp P Q a w := by
  refine wp_region_noPanic (wp_region_any hm ?_)
  have h6 := any_of_settlesR (md := .any) (ops := ops) (Q := NoPanic Q) (S := S) (R := Two S s d1 d2 base Z Z1 Z2 T) (P := P)
    (T := fun listed a w => listed = upTo ops.size (s + 4) ∧ NoPanic Q .normal a w) (F := Ends P Q S d1 d2 base Z Z1 Z2 T o3 o4) (s := s) (n := ops.size)
    (by omega) (Nat.le_refl _) hsel (fun _ _ _ _ _ h => h)
    (fun i hi listed j hj hcl hr => by
      obtain ⟨_, o, ho, _⟩ := mem_ready.1 hr
      have := (Array.getElem?_eq_some_iff.1 ho).1
      omega)
    (fun i o hi ho => by
      have hmem : o ∈ ops.toList.take s := by
        have : (ops.toList.take s)[i]? = some o := by
          rw [List.getElem?_take_of_lt hi]
          simpa using ho
        exact List.mem_of_getElem? this
      have := (List.all_eq_true.1 hds) o hmem
      simp at this
      exact two_keeps hi this.1 this.2)
    (fun a hF => by
      rw [show ops.size - s = 2 + 2 by omega]
      obtain ⟨z1, z2, hF⟩ := hF
      refine two_allocs hi1 hi2 hg1 hg2 hd1 hd2 hne hr1 hr2 h0 h1 h2 (by omega) z1 z2 hSa hSb fun g1 g2 => ?_
      obtain ⟨k1, k2, k3⟩ := hF g1 g2
      refine two_stores h3 h4 hsz hne z1 z2 (fun w hB => ?_) (fun w hB => ?_) (fun w hB => ⟨rfl, k3 w hB⟩)
      · obtain ⟨n, w', hn, hr, hB'⟩ := k1 w hB
        exact store_wp hi3 hg3 hd3 hn hr ⟨rfl, hB'⟩
      · obtain ⟨n, w', hn, hr, hB'⟩ := k2 w hB
        exact store_wp hi4 hg4 hd4 hn hr ⟨rfl, hB'⟩)
    s 0 a (by simp) closed_none hs (by simpa only [List.drop_zero] using h)
  have h7 := wpAny_of_R (m := 0) (fun listed a w h => by
    obtain ⟨rfl, hq⟩ := h
    exact ⟨by simpa using h5, hq⟩) _ _ _ _ (by
    have hz : ∀ i, (upTo ops.size 0).getD i false = false := fun i => by
      rcases Nat.lt_or_ge i ops.size with h | h
      · simp [upTo, h]
      · simp [upTo, Nat.not_lt.2 h]
    exact ⟨hS, fun h => (by rw [hz] at h; cases h), fun h => (by rw [hz] at h; cases h), fun h => (by rw [hz] at h; cases h)⟩) h6
  rw [show s + (ops.size - s) + 0 = ops.size by omega] at h7
  simpa [upTo] using h7
end
end Go.Proofs.Ytonbpmabmjhdgac.SettleA
