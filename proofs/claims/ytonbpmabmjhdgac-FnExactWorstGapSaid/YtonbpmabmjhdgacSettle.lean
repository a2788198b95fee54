/-
  A region that draws its order, whose operations each yield one value whatever world of a kind they meet, and keep that kind:
  then they may be walked in the order of the text, the calls too, and the world behind them is some world of that kind. No program stands here.
-/
import Derived.Deep.RegionHeld3
namespace Go.Proofs.Ytonbpmabmjhdgac.Settle
open Go

section
variable {P : Program} {ops : Array Oper} {Q : Exit → Act → World → Prop} {md : Region.Mode} {S : World → Prop}

/-- The run of an operation ends with value v (if it is kept at all) in a world of the kind S. -/
def Leads (P : Program) (S : World → Prop) (dst : Option Tmp) (v : Value) : Result Next → Prop
  | .ok (.value u) w' => (dst = none ∨ u = v) ∧ S w'
  | .ok .skip w' => (dst = none ∨ undef = v) ∧ S w'
  | .ok (.enter f args) w' => Calls P f args w' fun
      | .returned u, w'' => (dst = none ∨ u = v) ∧ S w''
      | _, _ => False
  | _ => False

/-- In state a, in every world of the kind S, operation o leaves v and keeps the kind. -/
def YieldsTo (P : Program) (ops : Array Oper) (S : World → Prop) (o : Oper) (v : Value) (a : Act) : Prop :=
  (Region.wanted o (yielded ops a.tmps) = true ∧ ∀ w, S w → Leads P S o.dst v ((execOp a.eval o).run P w)) ∨
  (Region.wanted o (yielded ops a.tmps) = false ∧ v = undef)

theorem put_same {a : Act} {dst : Option Tmp} {u v : Value} (h : dst = none ∨ u = v) : a.put dst u = a.put dst v := by
  rcases h with h | h
  · subst h; rfl
  · rw [h]

theorem YieldsTo.wpOp {i : Nat} {o : Oper} {v : Value} {a : Act} (hi : ops[i]? = some o) (hy : YieldsTo P ops S o v a)
    {K : Act → World → Prop} {w : World} (hS : S w) (h : ∀ w', S w' → K (a.put o.dst v) w') : wpOp P ops Q i K a w := by
  unfold Go.wpOp
  simp only [hi]
  rcases hy with ⟨hw, hv⟩ | ⟨hw, rfl⟩
  · have h1 := hv w hS
    simp only [hw, if_true, Oper.wp]
    refine .inl ?_
    generalize (execOp a.eval o).run P w = r at *
    cases r with
    | ok n w' =>
      cases n <;> simp only [Oper.upon, Leads] at h1 ⊢
      case value u => rw [put_same h1.1]; exact h _ h1.2
      case skip => rw [put_same h1.1]; exact h _ h1.2
      case enter f args =>
        refine Calls.mono h1 fun e w'' he => ?_
        cases e with
        | returned u => simp only at he ⊢; rw [put_same he.1]; exact h _ he.2
        | panicked c => exact he.elim
        | outgrown => exact he.elim
    | halt x w' => exact h1.elim
  · simp only [hw, Bool.false_eq_true, if_false]; exact h _ hS

theorem YieldsTo.of_same {o : Oper} {v : Value} {a a' : Act} (hy : YieldsTo P ops S o v a) (he : execOp a'.eval o = execOp a.eval o)
    (hw : Region.wanted o (yielded ops a'.tmps) = Region.wanted o (yielded ops a.tmps)) : YieldsTo P ops S o v a' := by
  unfold YieldsTo at *
  rw [he, hw]
  exact hy

theorem wpOp_putTo {j : Nat} {oi oj : Oper} {v : Value} (hj : ops[j]? = some oj) (hap : oi.apart ops oj = true)
    (hsi : ∀ cs b, oi.op ≠ .select cs b) (hsj : ∀ cs b, oj.op ≠ .select cs b)
    (hQ : ∀ c a w, Q (.panic c) (a.put oi.dst v) w → Q (.panic c) a w) {K : Act → World → Prop} {a : Act} {w : World}
    (hy : YieldsTo P ops S oi v a) (h : wpOp P ops Q j K (a.put oi.dst v) w) :
    wpOp P ops Q j (fun a' w' => YieldsTo P ops S oi v a' ∧ K (a'.put oi.dst v) w') a w := by
  obtain ⟨h1, h2, h3⟩ := Oper.apart_spec hap
  have keep : ∀ (a : Act), YieldsTo P ops S oi v a → ∀ u, YieldsTo P ops S oi v (a.put oj.dst u) := fun a hy u =>
    hy.of_same (execOp_put oi hsi a oj.dst u h3) (wanted_put oi a oj.dst u h3)
  have keepD : ∀ d, YieldsTo P ops S oi v { a with defers := d :: a.defers } := fun d => hy.of_same rfl rfl
  unfold wpOp at *
  simp only [hj] at *
  rw [wanted_put oj a oi.dst v h1] at h
  split
  · rename_i hw
    simp only [hw, if_true] at h
    rcases h with h | ⟨hasks, hlets⟩
    case inr => exact .inr ⟨by unfold Oper.asks at *; rw [execOp_put oj hsj a oi.dst v h1] at hasks; exact hasks, hlets⟩
    refine .inl ?_
    unfold Oper.wp at *
    rw [execOp_put oj hsj a oi.dst v h1] at h
    generalize (execOp a.eval oj).run P w = r at *
    cases r with
    | ok n w' =>
      cases n <;> simp only [Oper.upon] at h ⊢
      case value u => exact ⟨keep a hy u, by rw [← Act.put_comm a v u h2]; exact h⟩
      case skip => exact ⟨keep a hy _, by rw [← Act.put_comm a v undef h2]; exact h⟩
      case defer d =>
        refine ⟨keep _ (keepD d) _, ?_⟩
        rw [← Act.put_comm _ v undef h2, ← Act.put_defers]
        exact h
      case enter f args =>
        refine Calls.mono h fun e w'' he => ?_
        cases e with
        | returned u => exact ⟨keep a hy u, by rw [← Act.put_comm a v u h2]; exact he⟩
        | panicked c => exact hQ _ _ _ he
        | outgrown => exact he
      case row row args => exact Rows.mono h fun u w'' he => ⟨keep a hy u, by rw [← Act.put_comm a v u h2]; exact he⟩
    | halt x w' =>
      cases x <;> simp only [Oper.upon] at h ⊢
      case panic u => exact hQ _ _ _ h
  · rename_i hw
    simp only [hw] at h
    exact ⟨keep a hy _, by rw [← Act.put_comm a v undef h2]; exact h⟩

/-- Whatever order is picked from here on, from every world of the kind S; behind the last of them T. -/
def wpAnyS (P : Program) (md : Region.Mode) (ops : Array Oper) (Q : Exit → Act → World → Prop) (S : World → Prop) (T : Array Bool → Act → World → Prop) (n : Nat) : Nat → Array Bool → Act → Prop
  | 0, listed, a => ∀ w, S w → (∀ j, j < n → listed.getD j false = true) ∧ T listed a w
  | fuel + 1, listed, a => Region.ready md ops listed ≠ [] ∧
    ∀ i ∈ Region.ready md ops listed, ∀ w, S w → wpOp P ops Q i (fun a' w' => S w' ∧ wpAnyS P md ops Q S T n fuel (listed.setIfInBounds i true) a') a w

theorem wpAny_of_S {T : Array Bool → Act → World → Prop} {n m : Nat} (hT : ∀ listed a w, T listed a w → wpAny P md ops Q m listed a w) :
    ∀ (fuel : Nat) (listed : Array Bool) (a : Act) (w : World), S w → wpAnyS P md ops Q S T n fuel listed a → wpAny P md ops Q (fuel + m) listed a w
  | 0, _, _, w, hS, h => by rw [Nat.zero_add]; exact hT _ _ _ (h w hS).2
  | fuel + 1, _, _, w, hS, h => by
    rw [show fuel + 1 + m = (fuel + m) + 1 by omega]
    exact ⟨fun h0 => absurd h0 h.1, fun i hi => wpOp_mono (fun a' w' h' => wpAny_of_S hT fuel _ a' w' h'.1 h'.2) (h.2 i hi w hS)⟩

/-- What has come up is closed: whatever it waited for has come up too. -/
def closed (md : Region.Mode) (ops : Array Oper) (listed : Array Bool) : Prop :=
  ∀ (j : Nat) (o : Oper), ops[j]? = some o → listed.getD j true = true → ∀ e ∈ o.after, Region.binds md e = true → listed.getD e.on false = true

theorem closed_step {listed : Array Bool} {i : Nat} (h : closed md ops listed) (hi : i ∈ Region.ready md ops listed) : closed md ops (listed.setIfInBounds i true) := by
  intro j o ho hl e he hb
  by_cases hji : i = j
  · subst hji
    obtain ⟨_, o', ho', hall⟩ := mem_ready.1 hi
    rw [ho] at ho'
    cases ho'
    exact getD_set_true (hall e he hb)
  · rw [getD_set_ne true hji] at hl
    exact getD_set_true (h j o ho hl e he hb)

/-- Each operation before number t is waited for by a later one, up to t. -/
def coverB (md : Region.Mode) (ops : Array Oper) (t : Nat) : Bool :=
  (List.range t).all fun i => (List.range (t + 1)).any fun j => Nat.blt i j && match ops[j]? with
    | some o => o.after.any fun e => Region.binds md e && e.on == i
    | none => false

/-- Number t comes up last of 0 .. t. -/
theorem last_of_cover {t : Nat} {listed : Array Bool} (hc : coverB md ops t = true) (hcl : closed md ops listed) (ht : t ∈ Region.ready md ops listed) :
    ∀ (d i : Nat), i + d = t → 0 < d → listed.getD i false = true := by
  intro d
  induction d using Nat.strongRecOn with
  | ind d ih =>
    intro i hid hd
    have h1 := (List.all_eq_true.1 hc) i (List.mem_range.2 (by omega))
    obtain ⟨j, hj, h2⟩ := List.any_eq_true.1 h1
    rw [Bool.and_eq_true] at h2
    obtain ⟨hij, h3⟩ := h2
    have hij' : i < j := by simpa [Nat.blt_eq] using hij
    have hjt : j ≤ t := by have := List.mem_range.1 hj; omega
    cases ho : ops[j]? with
    | none => simp [ho] at h3
    | some o =>
      simp only [ho] at h3
      obtain ⟨e, he, h4⟩ := Array.any_eq_true'.1 h3
      simp only [Bool.and_eq_true, beq_iff_eq] at h4
      rcases Nat.lt_or_ge j t with hlt | hge
      · have hl := ih (t - j) (by omega) j (by omega) (by omega)
        have hl' : listed.getD j true = true := by
          rcases Nat.lt_or_ge j listed.size with h' | h'
          · simpa [h'] using hl
          · simp [Array.getElem?_eq_none h'] at hl
        have := hcl j o ho hl' e he h4.1
        rw [h4.2] at this
        exact this
      · have : j = t := by omega
        subst this
        obtain ⟨_, o', ho', hall⟩ := mem_ready.1 ht
        rw [ho] at ho'
        cases ho'
        have := hall e he h4.1
        rw [h4.2] at this
        exact this

theorem wpAnyS_first {T : Array Bool → Act → World → Prop} {n : Nat} {i : Nat} {oi : Oper} {v : Value} (hi : ops[i]? = some oi) (hin : i < n) (hsel : ∀ (j : Nat) (o : Oper) cs b, ops[j]? = some o → o.op ≠ .select cs b)
    (hQ : ∀ c a w, Q (.panic c) (a.put oi.dst v) w → Q (.panic c) a w) (hlast : ∀ listed j, n ≤ j → closed md ops listed → j ∈ Region.ready md ops listed → listed.getD i false = true) :
    ∀ (fuel : Nat) (listed : Array Bool) (a : Act), closed md ops listed →
      (∀ j oj, ops[j]? = some oj → j ≠ i → listed.getD j true = false → (∀ e ∈ oj.after, Region.binds md e = true → e.on ≠ i) → oi.apart ops oj = true) →
      i ∈ Region.ready md ops listed → YieldsTo P ops S oi v a →
      wpAnyS P md ops Q S T n fuel (listed.setIfInBounds i true) (a.put oi.dst v) → wpAnyS P md ops Q S T n (fuel + 1) listed a := by
  intro fuel
  induction fuel with
  | zero =>
    intro listed a hcl _ hr hy H
    refine ⟨fun h => (by rw [h] at hr; cases hr), fun j hj w hS => ?_⟩
    have hun := (mem_ready.1 hr).1
    have hjn : j < n := by
      rcases Nat.lt_or_ge j n with h | h
      · exact h
      · have := hlast listed j h hcl hj
        rcases Nat.lt_or_ge i listed.size with h' | h'
        · simp [h'] at hun this; rw [hun] at this; cases this
        · simp [Array.getElem?_eq_none h'] at this
    by_cases hji : j = i
    · subst hji; exact hy.wpOp hi hS fun w' hS' => ⟨hS', H⟩
    · have h1 := (H w hS).1 j hjn
      rw [getD_set_ne false (Ne.symm hji)] at h1
      have hjun := (mem_ready.1 hj).1
      rcases Nat.lt_or_ge j listed.size with h' | h'
      · simp [h'] at hjun h1; rw [hjun] at h1; cases h1
      · simp [Array.getElem?_eq_none h'] at h1
  | succ fuel ih =>
    intro listed a hcl hfree hr hy H
    refine ⟨fun h => (by rw [h] at hr; cases hr), fun j hj w hS => ?_⟩
    by_cases hji : j = i
    · subst hji; exact hy.wpOp hi hS fun w' hS' => ⟨hS', H⟩
    · have h1 := H.2 j (ready_mono hj hji) w hS
      obtain ⟨hjun, oj, hoj, hall⟩ := mem_ready.1 hj
      have hnot : ∀ e ∈ oj.after, Region.binds md e = true → e.on ≠ i := fun e he hb heq => by
        have h1 := hall e he hb
        have h0 := (mem_ready.1 hr).1
        rw [heq] at h1
        rcases Nat.lt_or_ge i listed.size with h' | h'
        · simp [h'] at h0 h1; rw [h0] at h1; cases h1
        · simp [Array.getElem?_eq_none h'] at h1
      have h2 := wpOp_putTo hoj (hfree j oj hoj hji hjun hnot) (fun cs b => hsel i oi cs b hi) (fun cs b => hsel j oj cs b hoj) hQ hy h1
      have hfree' : ∀ k ok, ops[k]? = some ok → k ≠ i → (listed.setIfInBounds j true).getD k true = false →
          (∀ e ∈ ok.after, Region.binds md e = true → e.on ≠ i) → oi.apart ops ok = true := fun k ok hk hki hun hno => by
        refine hfree k ok hk hki ?_ hno
        by_cases hjk : j = k
        · subst hjk; exact hjun
        · rw [getD_set_ne true hjk] at hun; exact hun
      have hr' := ready_mono hr (Ne.symm hji)
      refine wpOp_mono (fun a' w' h3 => ⟨h3.2.1, ih (listed.setIfInBounds j true) a' (closed_step hcl hj) hfree' hr' h3.1 ?_⟩) h2
      rw [Array.setIfInBounds_comm _ _ hji]
      exact h3.2.2

/-- The order of the text is one that the edges allow, and what has not come up yet is apart from what comes up. -/
def seqOk (md : Region.Mode) (ops : Array Oper) : Nat → Nat → Array Bool → Bool
  | 0, _, _ => true
  | fuel + 1, k, listed => Region.free md ops listed k && (Region.ready md ops listed).contains k && seqOk md ops fuel (k + 1) (listed.setIfInBounds k true)

/-- Which have come up after the first k in the order of the text. -/
def upTo (n : Nat) : Nat → Array Bool
  | 0 => Array.replicate n false
  | k + 1 => (upTo n k).setIfInBounds k true

/-- The operations that are left, one after another; at the end what F says of the state. -/
def Settles (P : Program) (ops : Array Oper) (S : World → Prop) (F : Act → Prop) : List Oper → Act → Prop
  | [], a => F a
  | o :: rest, a => ∃ v, YieldsTo P ops S o v a ∧ Settles P ops S F rest (a.put o.dst v)

theorem upTo_listed (n : Nat) : ∀ k j, j < k → k ≤ n → (upTo n k).size = n ∧ (upTo n k).getD j false = true := by
  intro k
  induction k with
  | zero => intro j h _; omega
  | succ k ih =>
    intro j h hk
    have hsz : (upTo n k).size = n := by
      cases k with
      | zero => simp [upTo]
      | succ k => exact (ih k (by omega) (by omega)).1
    refine ⟨by simp [upTo, hsz], ?_⟩
    by_cases hjk : k = j
    · subst hjk
      simp [upTo, hsz, show k < n by omega]
    · simp only [upTo]
      rw [getD_set_ne false hjk]
      exact (ih j (by omega) (by omega)).2

theorem any_of_settles {T : Array Bool → Act → World → Prop} {F : Act → Prop} {n : Nat} (hn : n ≤ ops.size) (hsel : Region.noSelect ops = true) (hQ : ∀ (o : Option Tmp) v c a w, Q (.panic c) (a.put o v) w → Q (.panic c) a w)
    (hlast : ∀ i, i < n → ∀ listed j, n ≤ j → closed md ops listed → j ∈ Region.ready md ops listed → listed.getD i false = true)
    (hF : ∀ a, F a → ∀ w, S w → T (upTo ops.size n) a w) :
    ∀ (fuel k : Nat) (a : Act), fuel + k = n → closed md ops (upTo ops.size k) → seqOk md ops fuel k (upTo ops.size k) = true → Settles P ops S F ((ops.toList.take n).drop k) a → wpAnyS P md ops Q S T n fuel (upTo ops.size k) a := by
  intro fuel
  induction fuel with
  | zero =>
    intro k a hk _ _ h
    have hkn : k = n := by omega
    subst hkn
    rw [List.drop_eq_nil_of_le (by simp; omega)] at h
    exact fun w hS => ⟨fun j hj => (upTo_listed _ k j hj hn).2, hF a h w hS⟩
  | succ fuel ih =>
    intro k a hk hcl hs h
    simp only [seqOk, Bool.and_eq_true] at hs
    obtain ⟨⟨hf, hr⟩, hrest⟩ := hs
    have hr' : k ∈ Region.ready md ops (upTo ops.size k) := by simpa using hr
    have hlt : k < (ops.toList.take n).length := by simp; omega
    rw [List.drop_eq_getElem_cons hlt] at h
    obtain ⟨v, hy, h⟩ := h
    have hi : ops[k]? = some (ops.toList.take n)[k] := by
      rw [Array.getElem?_eq_getElem (show k < ops.size by omega)]
      simp
    exact wpAnyS_first hi (by omega) (Region.noSelect_spec hsel) (hQ _ _) (hlast k (by omega)) fuel _ a hcl (Region.free_spec hi hf) hr' hy
      (ih (k + 1) _ (by omega) (closed_step hcl hr') hrest h)

theorem closed_none : closed md ops (upTo ops.size 0) := by
  intro j o ho hl
  have h := (Array.getElem?_eq_some_iff.1 ho).1
  simp [upTo, h] at hl

section
variable {l : List Oper} {a : Act} {w : World} {id : Nat}

/-- THE LAW: a region that draws its order, walked in the order of the text. -/
theorem region (S : World → Prop) (hm : P.follows .mixedOrders = true) (hsel : Region.noSelect l.toArray = true)
    (hs : seqOk .any l.toArray l.length 0 (upTo l.length 0) = true) (hall : (Region.ready .any l.toArray (upTo l.length l.length)).isEmpty = true)
    (hS : S w.drew) (h : Settles P l.toArray S (fun a => ∀ w, S w → Q .normal a w) l a) : (Code.region id l.toArray true).wp P Q a w := by
  refine wp_region_noPanic (wp_region_any hm ?_)
  have h1 := any_of_settles (md := .any) (ops := l.toArray) (Q := NoPanic Q) (S := S) (P := P) (T := fun listed a w => listed = upTo l.length l.length ∧ NoPanic Q .normal a w) (F := fun a => ∀ w, S w → Q .normal a w) (n := l.length)
    (by simp) hsel (fun _ _ _ _ _ h => h)
    (fun i hi listed j hj _ hr => by
      obtain ⟨_, o, ho, _⟩ := mem_ready.1 hr
      have := (Array.getElem?_eq_some_iff.1 ho).1
      simp at this
      omega)
    (fun a hF w hS => ⟨by simp, hF w hS⟩) l.length 0 a (by simp) closed_none (by simpa using hs) (by simpa using h)
  have h2 := wpAny_of_S (m := 0) (fun listed a w ⟨hl, hq⟩ => by subst hl; exact ⟨by simpa using hall, hq⟩) _ _ _ _ hS h1
  simpa [upTo] using h2

/-- The same, and one operation comes up last, after all the others: it may do what it likes. -/
theorem regionTail (S : World → Prop) {t : Oper} (hm : P.follows .mixedOrders = true) (hsel : Region.noSelect (l ++ [t]).toArray = true)
    (hs : seqOk .any (l ++ [t]).toArray l.length 0 (upTo (l.length + 1) 0) = true) (hc : coverB .any (l ++ [t]).toArray l.length = true)
    (hlast : (Region.ready .any (l ++ [t]).toArray (upTo (l.length + 1) l.length)) = [l.length]) (hall : (Region.ready .any (l ++ [t]).toArray (upTo (l.length + 1) (l.length + 1))).isEmpty = true)
    (hS : S w.drew) (h : Settles P (l ++ [t]).toArray S (fun a => ∀ w, S w → ∀ K : Act → World → Prop, Shut (∀ a w, Q .normal a w → K a w) → if Region.wanted t (yielded (l ++ [t]).toArray a.tmps) = true then Oper.wp P t a w K (NoPanic Q) else K (a.put t.dst undef) w) l a) :
    (Code.region id (l ++ [t]).toArray true).wp P Q a w := by
  refine wp_region_noPanic (wp_region_any hm ?_)
  have h1 := any_of_settles (md := .any) (ops := (l ++ [t]).toArray) (Q := NoPanic Q) (S := S) (P := P) (T := fun listed a w => listed = upTo (l.length + 1) l.length ∧ wpAny P .any (l ++ [t]).toArray (NoPanic Q) 1 listed a w) (F := fun a => ∀ w, S w → ∀ K : Act → World → Prop, Shut (∀ a w, Q .normal a w → K a w) → if Region.wanted t (yielded (l ++ [t]).toArray a.tmps) = true then Oper.wp P t a w K (NoPanic Q) else K (a.put t.dst undef) w) (n := l.length)
    (by simp) hsel (fun _ _ _ _ _ h => h)
    (fun i hi listed j hj hcl hr => by
      obtain ⟨_, o, ho, _⟩ := mem_ready.1 hr
      have hlt := (Array.getElem?_eq_some_iff.1 ho).1
      simp at hlt
      have hjl : j = l.length := by omega
      subst hjl
      exact last_of_cover hc hcl hr (l.length - i) i (by omega) (by omega))
    (fun a hF w hS => by
      refine ⟨by simp, fun h0 => ?_, fun i hi => ?_⟩
      · simp at h0
        rw [hlast] at h0
        cases h0
      · simp at hi
        rw [hlast] at hi
        obtain rfl : i = l.length := by simpa using hi
        refine wpOp_step (o := t) (by simp) fun K hK => hF w hS K fun a w hq => hK a w ?_
        refine ⟨?_, hq⟩
        have : Region.ready .any (l ++ [t]).toArray (upTo (l.length + 1) (l.length + 1)) = [] := by simpa using hall
        simpa [upTo] using this) l.length 0 a (by simp) closed_none (by simpa using hs) (by simpa using h)
  have h2 := wpAny_of_S (m := 1) (fun listed a w h => h.2) _ _ _ _ hS h1
  simpa [upTo] using h2
end

theorem settles_mono {F G : Act → Prop} (h : ∀ a, F a → G a) : ∀ (l : List Oper) (a : Act), Settles P ops S F l a → Settles P ops S G l a
  | [], a, hs => h a hs
  | _ :: rest, _, ⟨v, hy, hs⟩ => ⟨v, hy, settles_mono h rest _ hs⟩

/-- Nothing but an ordinary end. -/
theorem wp_calm {o : Oper} {a : Act} {w : World} {K next next' : Act → World → Prop} {Q2 : Exit → Act → World → Prop} (h : ∀ a w, next a w → next' a w)
    (hh : o.wp P a w next (Exit.then K fun _ _ _ => False)) : o.wp P a w next' Q2 := by
  unfold Oper.wp at *
  generalize (execOp a.eval o).run P w = r at *
  cases r with
  | ok n w' =>
    cases n <;> simp only [Oper.upon] at hh ⊢ <;>
      first
        | exact h _ _ hh
        | exact Calls.mono hh (fun e w'' he => by
            cases e with
            | returned u => exact h _ _ he
            | panicked c => exact (he : False).elim
            | outgrown => obtain ⟨_, _, f⟩ := (he : LetsOut _); exact (f : False).elim)
        | exact Rows.mono hh (fun _ _ he => h _ _ he)
  | halt x w' => cases x <;> simp only [Oper.upon] at hh ⊢ <;> exact (hh : False).elim

/-- From number k on one comes up after another. -/
def forcedB (md : Region.Mode) (ops : Array Oper) : Nat → Nat → Bool
  | 0, k => (Region.ready md ops (upTo ops.size k)).isEmpty
  | m + 1, k => Region.ready md ops (upTo ops.size k) == [k] && forcedB md ops m (k + 1)

theorem any_of_list {K : Act → World → Prop} (hK : ∀ a w, K a w → Q .normal a w) :
    ∀ (m k : Nat) (a : Act) (w : World), m + k = ops.size → forcedB md ops m k = true → wpList P ops (Exit.then K fun _ _ _ => False) (ops.toList.drop k) a w → wpAny P md ops Q m (upTo ops.size k) a w := by
  intro m
  induction m with
  | zero =>
    intro k a w hk hf h
    rw [List.drop_eq_nil_of_le (by simp; omega)] at h
    exact ⟨by simpa [forcedB] using hf, hK a w h⟩
  | succ m ih =>
    intro k a w hk hf h
    simp only [forcedB, Bool.and_eq_true, beq_iff_eq] at hf
    have hlt : k < ops.toList.length := by simp; omega
    rw [List.drop_eq_getElem_cons hlt] at h
    have hi : ops[k]? = some ops.toList[k] := by
      rw [Array.getElem?_eq_getElem (show k < ops.size by omega)]
      simp
    refine ⟨fun h0 => absurd (hf.1.symm.trans h0) (by simp), fun i hi' => ?_⟩
    rw [hf.1] at hi'
    obtain rfl : i = k := by simpa using hi'
    have ih' := fun a w => ih (i + 1) a w (by omega) hf.2
    unfold wpOp
    simp only [hi]
    unfold wpList at h
    split
    · rename_i hw
      rw [if_pos hw] at h
      rcases h with h | ⟨_, _, _, f⟩
      · exact .inl (wp_calm ih' h)
      · exact (f : False).elim
    · rename_i hw
      rw [if_neg hw] at h
      exact ih' _ _ h

/-- Each from number t + 1 on waits for one of t .. before it. -/
def tailB (md : Region.Mode) (ops : Array Oper) (t : Nat) : Bool :=
  (List.range (ops.size - t - 1)).all fun d => match ops[t + 1 + d]? with
    | some o => o.after.any fun e => Region.binds md e && Nat.ble t e.on && Nat.blt e.on (t + 1 + d)
    | none => false

theorem listed_back {t : Nat} {listed : Array Bool} (hc : coverB md ops t = true) (hcl : closed md ops listed) (ht : listed.getD t false = true) :
    ∀ (d i : Nat), i + d = t → 0 < d → listed.getD i false = true := by
  intro d
  induction d using Nat.strongRecOn with
  | ind d ih =>
    intro i hid hd
    have h1 := (List.all_eq_true.1 hc) i (List.mem_range.2 (by omega))
    obtain ⟨j, hj, h2⟩ := List.any_eq_true.1 h1
    rw [Bool.and_eq_true] at h2
    obtain ⟨hij, h3⟩ := h2
    have hij' : i < j := by simpa [Nat.blt_eq] using hij
    have hjt : j ≤ t := by have := List.mem_range.1 hj; omega
    cases ho : ops[j]? with
    | none => simp [ho] at h3
    | some o =>
      simp only [ho] at h3
      obtain ⟨e, he, h4⟩ := Array.any_eq_true'.1 h3
      simp only [Bool.and_eq_true, beq_iff_eq] at h4
      have hl : listed.getD j false = true := by
        rcases Nat.lt_or_ge j t with hlt | hge
        · exact ih (t - j) (by omega) j (by omega) (by omega)
        · rw [show j = t by omega]; exact ht
      have hl' : listed.getD j true = true := by
        rcases Nat.lt_or_ge j listed.size with h' | h'
        · simpa [h'] using hl
        · simp [Array.getElem?_eq_none h'] at hl
      have := hcl j o ho hl' e he h4.1
      rw [h4.2] at this
      exact this

/-- Whatever of t .. is up or comes up: what lies before t has come up. -/
theorem before_tail {t : Nat} {listed : Array Bool} (hc : coverB md ops t = true) (ht : tailB md ops t = true) (hcl : closed md ops listed) :
    ∀ j, j < ops.size → t ≤ j → (j ∈ Region.ready md ops listed ∨ listed.getD j false = true) → ∀ i, i < t → listed.getD i false = true := by
  intro j
  induction j using Nat.strongRecOn with
  | ind j ih =>
    intro hsz htj hj i hi
    rcases Nat.lt_or_ge t j with hlt | hge
    · have h1 := (List.all_eq_true.1 ht) (j - (t + 1)) (List.mem_range.2 (by omega))
      rw [show t + 1 + (j - (t + 1)) = j by omega] at h1
      cases ho : ops[j]? with
      | none => simp [ho] at h1
      | some o =>
        simp only [ho] at h1
        obtain ⟨e, he, h4⟩ := Array.any_eq_true'.1 h1
        simp only [Bool.and_eq_true, Nat.ble_eq, Nat.blt_eq] at h4
        have hon : listed.getD e.on false = true := by
          rcases hj with hj | hj
          · obtain ⟨_, o', ho', hall⟩ := mem_ready.1 hj
            rw [ho] at ho'
            cases ho'
            exact hall e he h4.1.1
          · have hl' : listed.getD j true = true := by
              rcases Nat.lt_or_ge j listed.size with h' | h'
              · simpa [h'] using hj
              · simp [Array.getElem?_eq_none h'] at hj
            exact hcl j o ho hl' e he h4.1.1
        exact ih e.on h4.2 (by omega) h4.1.2 (.inr hon) i hi
    · obtain rfl : j = t := by omega
      rcases hj with hj | hj
      · exact last_of_cover hc hcl hj (j - i) i (by omega) (by omega)
      · exact listed_back hc hcl hj (j - i) i (by omega) (by omega)

/-- THE LAW WITH A TAIL: number n and what follows come up last, one after another; they may do what they like. -/
theorem regionTails (S : World → Prop) (n : Nat) {id : Nat} {a : Act} {w : World} (hm : P.follows .mixedOrders = true) (hsel : Region.noSelect ops = true) (hn : n < ops.size)
    (hs : seqOk .any ops n 0 (upTo ops.size 0) = true) (hc : coverB .any ops n = true) (ht : tailB .any ops n = true) (hf : forcedB .any ops (ops.size - n) n = true)
    (hS : S w.drew) (h : Settles P ops S (fun a => ∀ w, S w → ∀ K : Act → World → Prop, (∀ a w, Q .normal a w → K a w) → wpList P ops (Exit.then K fun _ _ _ => False) (ops.toList.drop n) a w) (ops.toList.take n) a) :
    (Code.region id ops true).wp P Q a w := by
  refine wp_region_noPanic (wp_region_any hm ?_)
  have h1 := any_of_settles (md := .any) (ops := ops) (Q := NoPanic Q) (S := S) (P := P) (T := fun listed a w => listed = upTo ops.size n ∧ wpAny P .any ops (NoPanic Q) (ops.size - n) listed a w) (F := fun a => ∀ w, S w → wpList P ops (Exit.then (fun a w => Q .normal a w) fun _ _ _ => False) (ops.toList.drop n) a w) (n := n)
    (by omega) hsel (fun _ _ _ _ _ h => h)
    (fun i hi listed j hj hcl hr => before_tail hc ht hcl j (by obtain ⟨_, o, ho, _⟩ := mem_ready.1 hr; exact (Array.getElem?_eq_some_iff.1 ho).1) hj (.inl hr) i hi)
    (fun a hF w hS => ⟨rfl, any_of_list (Q := NoPanic Q) (K := fun a w => Q .normal a w) (fun a w h => h) (ops.size - n) n a w (by omega) hf (hF w hS)⟩)
    n 0 a (by simp) closed_none hs (by
      simp only [List.drop_zero]
      exact settles_mono (fun a hF w hS => hF w hS _ (fun _ _ h => h)) _ _ h)
  have h2 := wpAny_of_S (m := ops.size - n) (fun listed a w h => h.2) _ _ _ _ hS h1
  rw [show n + (ops.size - n) = ops.size by omega] at h2
  simpa [upTo] using h2

/-- At the end. -/
theorem Settles.nil {F : Act → Prop} {a : Act} (h : F a) : Settles P ops S F [] a := h

/-- The guard says no. -/
theorem Settles.off {F : Act → Prop} {o : Oper} {rest : List Oper} {a : Act} (hw : Region.wanted o (yielded ops a.tmps) = false)
    (h : Settles P ops S F rest (a.put o.dst undef)) : Settles P ops S F (o :: rest) a :=
  ⟨undef, .inr ⟨hw, rfl⟩, h⟩

/-- An operation that leaves the world alone. -/
theorem Settles.quiet {F : Act → Prop} {o : Oper} {rest : List Oper} {a : Act} {v : Value} (hw : Region.wanted o (yielded ops a.tmps) = true)
    (hv : ∀ w, S w → (execOp a.eval o).run P w = .ok (.value v) w)
    (h : Settles P ops S F rest (a.put o.dst v)) : Settles P ops S F (o :: rest) a :=
  ⟨v, .inl ⟨hw, fun w hS => by rw [hv w hS]; exact ⟨.inr rfl, hS⟩⟩, h⟩

/-- A call of a Go function: its contract. -/
theorem Settles.call {F : Act → Prop} {o : Oper} {rest : List Oper} {a : Act} {v : Value} {f : FuncId} {args : Array Value} (hw : Region.wanted o (yielded ops a.tmps) = true)
    (hr : ∀ w, (execOp a.eval o).run P w = .ok (.enter f args) w)
    (hc : ∀ w, S w → Calls P f args w fun e w' => e = .returned v ∧ S w')
    (h : Settles P ops S F rest (a.put o.dst v)) : Settles P ops S F (o :: rest) a :=
  ⟨v, .inl ⟨hw, fun w hS => by
    rw [hr w]
    exact Calls.mono (hc w hS) fun e w' ⟨he, hS'⟩ => by subst he; exact ⟨.inr rfl, hS'⟩⟩, h⟩

end
end Go.Proofs.Ytonbpmabmjhdgac.Settle
