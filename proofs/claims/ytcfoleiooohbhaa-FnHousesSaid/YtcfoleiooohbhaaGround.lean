/-
  Regions that draw their order, rows of the own, blocks, points, numbers and structs in memory: what the walks stand on.
-/
import Derived.Deep.RegionHeld3
import Derived.WalkKit
import Derived.Deep.AppendLies
import Derived.Laws.OwnMore
import Derived.Deep.Draws
import Derived.Test.YtcfoleiooohbhaaFacts
import Derived.Test.YtcfoleiooohbhaaChecked
import Derived.ProofKit
import Derived.WalkSpells
import Derived.Deep.QuietTactic
import Derived.BigQuiet
import Derived.Lib.MinMax
import Derived.Lib.Hide
import Derived.Outline
import Derived.ChangeSlices
import Derived.Deep.Slices
import Derived.Lib.SmallJoins
import Derived.ChangeSame
import Derived.ChangeOld

/-
  A region that draws its order, whose operations each yield one value whatever world of a kind they meet, and keep that kind:
  then they may be walked in the order of the text, the calls too, and the world behind them is some world of that kind. No program stands here.
-/
namespace Go.Proofs.Ytcfoleiooohbhaa.Settle
open Go

section
variable {P : Program} {ops : Array Oper} {Q : Exit → Act → World → Prop} {md : Region.Mode} {S : World → Prop}

/-- The run of an operation ends with value v (if it is kept at all) in a world of the kind S. -/
def Leads (P : Program) (S : World → Prop) (dst : Option Tmp) (v : Value) : Result Next → Prop
  | .ok (.value u) w' => (dst = none ∨ u = v) ∧ S w'
  | .ok .skip w' => (dst = none ∨ undef = v) ∧ S w'
  | .ok (.enter f args) w' => Calls P f args w' fun
      | .returned u, w'' => (dst = none ∨ u = v) ∧ S w''
      | _, _ => False
  | _ => False

/-- In state a, in every world of the kind S, operation o leaves v and keeps the kind. -/
def YieldsTo (P : Program) (ops : Array Oper) (S : World → Prop) (o : Oper) (v : Value) (a : Act) : Prop :=
  (Region.wanted o (yielded ops a.tmps) = true ∧ ∀ w, S w → Leads P S o.dst v ((execOp a.eval o).run P w)) ∨
  (Region.wanted o (yielded ops a.tmps) = false ∧ v = undef)

theorem put_same {a : Act} {dst : Option Tmp} {u v : Value} (h : dst = none ∨ u = v) : a.put dst u = a.put dst v := by
  rcases h with h | h
  · subst h; rfl
  · rw [h]

theorem YieldsTo.wpOp {i : Nat} {o : Oper} {v : Value} {a : Act} (hi : ops[i]? = some o) (hy : YieldsTo P ops S o v a)
    {K : Act → World → Prop} {w : World} (hS : S w) (h : ∀ w', S w' → K (a.put o.dst v) w') : wpOp P ops Q i K a w := by
  unfold Go.wpOp
  simp only [hi]
  rcases hy with ⟨hw, hv⟩ | ⟨hw, rfl⟩
  · have h1 := hv w hS
    simp only [hw, if_true, Oper.wp]
    refine .inl ?_
    generalize (execOp a.eval o).run P w = r at *
    cases r with
    | ok n w' =>
      cases n <;> simp only [Oper.upon, Leads] at h1 ⊢
      case value u => rw [put_same h1.1]; exact h _ h1.2
      case skip => rw [put_same h1.1]; exact h _ h1.2
      case enter f args =>
        refine Calls.mono h1 fun e w'' he => ?_
        cases e with
        | returned u => simp only at he ⊢; rw [put_same he.1]; exact h _ he.2
        | panicked c => exact he.elim
        | outgrown => exact he.elim
    | halt x w' => exact h1.elim
  · simp only [hw, Bool.false_eq_true, if_false]; exact h _ hS

theorem YieldsTo.of_same {o : Oper} {v : Value} {a a' : Act} (hy : YieldsTo P ops S o v a) (he : execOp a'.eval o = execOp a.eval o)
    (hw : Region.wanted o (yielded ops a'.tmps) = Region.wanted o (yielded ops a.tmps)) : YieldsTo P ops S o v a' := by
  unfold YieldsTo at *
  rw [he, hw]
  exact hy

theorem wpOp_putTo {j : Nat} {oi oj : Oper} {v : Value} (hj : ops[j]? = some oj) (hap : oi.apart ops oj = true)
    (hsi : ∀ cs b, oi.op ≠ .select cs b) (hsj : ∀ cs b, oj.op ≠ .select cs b)
    (hQ : ∀ c a w, Q (.panic c) (a.put oi.dst v) w → Q (.panic c) a w) {K : Act → World → Prop} {a : Act} {w : World}
    (hy : YieldsTo P ops S oi v a) (h : wpOp P ops Q j K (a.put oi.dst v) w) :
    wpOp P ops Q j (fun a' w' => YieldsTo P ops S oi v a' ∧ K (a'.put oi.dst v) w') a w := by
  obtain ⟨h1, h2, h3⟩ := Oper.apart_spec hap
  have keep : ∀ (a : Act), YieldsTo P ops S oi v a → ∀ u, YieldsTo P ops S oi v (a.put oj.dst u) := fun a hy u =>
    hy.of_same (execOp_put oi hsi a oj.dst u h3) (wanted_put oi a oj.dst u h3)
  have keepD : ∀ d, YieldsTo P ops S oi v { a with defers := d :: a.defers } := fun d => hy.of_same rfl rfl
  unfold wpOp at *
  simp only [hj] at *
  rw [wanted_put oj a oi.dst v h1] at h
  split
  · rename_i hw
    simp only [hw, if_true] at h
    rcases h with h | ⟨hasks, hlets⟩
    case inr => exact .inr ⟨by unfold Oper.asks at *; rw [execOp_put oj hsj a oi.dst v h1] at hasks; exact hasks, hlets⟩
    refine .inl ?_
    unfold Oper.wp at *
    rw [execOp_put oj hsj a oi.dst v h1] at h
    generalize (execOp a.eval oj).run P w = r at *
    cases r with
    | ok n w' =>
      cases n <;> simp only [Oper.upon] at h ⊢
      case value u => exact ⟨keep a hy u, by rw [← Act.put_comm a v u h2]; exact h⟩
      case skip => exact ⟨keep a hy _, by rw [← Act.put_comm a v undef h2]; exact h⟩
      case defer d =>
        refine ⟨keep _ (keepD d) _, ?_⟩
        rw [← Act.put_comm _ v undef h2, ← Act.put_defers]
        exact h
      case enter f args =>
        refine Calls.mono h fun e w'' he => ?_
        cases e with
        | returned u => exact ⟨keep a hy u, by rw [← Act.put_comm a v u h2]; exact he⟩
        | panicked c => exact hQ _ _ _ he
        | outgrown => exact he
      case row row args => exact Rows.mono h fun u w'' he => ⟨keep a hy u, by rw [← Act.put_comm a v u h2]; exact he⟩
    | halt x w' =>
      cases x <;> simp only [Oper.upon] at h ⊢
      case panic u => exact hQ _ _ _ h
  · rename_i hw
    simp only [hw] at h
    exact ⟨keep a hy _, by rw [← Act.put_comm a v undef h2]; exact h⟩

/-- Whatever order is picked from here on, from every world of the kind S; behind the last of them T. -/
def wpAnyS (P : Program) (md : Region.Mode) (ops : Array Oper) (Q : Exit → Act → World → Prop) (S : World → Prop) (T : Array Bool → Act → World → Prop) (n : Nat) : Nat → Array Bool → Act → Prop
  | 0, listed, a => ∀ w, S w → (∀ j, j < n → listed.getD j false = true) ∧ T listed a w
  | fuel + 1, listed, a => Region.ready md ops listed ≠ [] ∧
    ∀ i ∈ Region.ready md ops listed, ∀ w, S w → wpOp P ops Q i (fun a' w' => S w' ∧ wpAnyS P md ops Q S T n fuel (listed.setIfInBounds i true) a') a w

theorem wpAny_of_S {T : Array Bool → Act → World → Prop} {n m : Nat} (hT : ∀ listed a w, T listed a w → wpAny P md ops Q m listed a w) :
    ∀ (fuel : Nat) (listed : Array Bool) (a : Act) (w : World), S w → wpAnyS P md ops Q S T n fuel listed a → wpAny P md ops Q (fuel + m) listed a w
  | 0, _, _, w, hS, h => by rw [Nat.zero_add]; exact hT _ _ _ (h w hS).2
  | fuel + 1, _, _, w, hS, h => by
    rw [show fuel + 1 + m = (fuel + m) + 1 by omega]
    exact ⟨fun h0 => absurd h0 h.1, fun i hi => wpOp_mono (fun a' w' h' => wpAny_of_S hT fuel _ a' w' h'.1 h'.2) (h.2 i hi w hS)⟩

/-- What has come up is closed: whatever it waited for has come up too. -/
def closed (md : Region.Mode) (ops : Array Oper) (listed : Array Bool) : Prop :=
  ∀ (j : Nat) (o : Oper), ops[j]? = some o → listed.getD j true = true → ∀ e ∈ o.after, Region.binds md e = true → listed.getD e.on false = true

theorem closed_step {listed : Array Bool} {i : Nat} (h : closed md ops listed) (hi : i ∈ Region.ready md ops listed) : closed md ops (listed.setIfInBounds i true) := by
  intro j o ho hl e he hb
  by_cases hji : i = j
  · subst hji
    obtain ⟨_, o', ho', hall⟩ := mem_ready.1 hi
    rw [ho] at ho'
    cases ho'
    exact getD_set_true (hall e he hb)
  · rw [getD_set_ne true hji] at hl
    exact getD_set_true (h j o ho hl e he hb)

/-- Each operation before number t is waited for by a later one, up to t. -/
def coverB (md : Region.Mode) (ops : Array Oper) (t : Nat) : Bool :=
  (List.range t).all fun i => (List.range (t + 1)).any fun j => Nat.blt i j && match ops[j]? with
    | some o => o.after.any fun e => Region.binds md e && e.on == i
    | none => false

/-- Number t comes up last of 0 .. t. -/
theorem last_of_cover {t : Nat} {listed : Array Bool} (hc : coverB md ops t = true) (hcl : closed md ops listed) (ht : t ∈ Region.ready md ops listed) :
    ∀ (d i : Nat), i + d = t → 0 < d → listed.getD i false = true := by
  intro d
  induction d using Nat.strongRecOn with
  | ind d ih =>
    intro i hid hd
    have h1 := (List.all_eq_true.1 hc) i (List.mem_range.2 (by omega))
    obtain ⟨j, hj, h2⟩ := List.any_eq_true.1 h1
    rw [Bool.and_eq_true] at h2
    obtain ⟨hij, h3⟩ := h2
    have hij' : i < j := by simpa [Nat.blt_eq] using hij
    have hjt : j ≤ t := by have := List.mem_range.1 hj; omega
    cases ho : ops[j]? with
    | none => simp [ho] at h3
    | some o =>
      simp only [ho] at h3
      obtain ⟨e, he, h4⟩ := Array.any_eq_true'.1 h3
      simp only [Bool.and_eq_true, beq_iff_eq] at h4
      rcases Nat.lt_or_ge j t with hlt | hge
      · have hl := ih (t - j) (by omega) j (by omega) (by omega)
        have hl' : listed.getD j true = true := by
          rcases Nat.lt_or_ge j listed.size with h' | h'
          · simpa [h'] using hl
          · simp [Array.getElem?_eq_none h'] at hl
        have := hcl j o ho hl' e he h4.1
        rw [h4.2] at this
        exact this
      · have : j = t := by omega
        subst this
        obtain ⟨_, o', ho', hall⟩ := mem_ready.1 ht
        rw [ho] at ho'
        cases ho'
        have := hall e he h4.1
        rw [h4.2] at this
        exact this

theorem wpAnyS_first {T : Array Bool → Act → World → Prop} {n : Nat} {i : Nat} {oi : Oper} {v : Value} (hi : ops[i]? = some oi) (hin : i < n) (hsel : ∀ (j : Nat) (o : Oper) cs b, ops[j]? = some o → o.op ≠ .select cs b)
    (hQ : ∀ c a w, Q (.panic c) (a.put oi.dst v) w → Q (.panic c) a w) (hlast : ∀ listed j, n ≤ j → closed md ops listed → j ∈ Region.ready md ops listed → listed.getD i false = true) :
    ∀ (fuel : Nat) (listed : Array Bool) (a : Act), closed md ops listed →
      (∀ j oj, ops[j]? = some oj → j ≠ i → listed.getD j true = false → (∀ e ∈ oj.after, Region.binds md e = true → e.on ≠ i) → oi.apart ops oj = true) →
      i ∈ Region.ready md ops listed → YieldsTo P ops S oi v a →
      wpAnyS P md ops Q S T n fuel (listed.setIfInBounds i true) (a.put oi.dst v) → wpAnyS P md ops Q S T n (fuel + 1) listed a := by
  intro fuel
  induction fuel with
  | zero =>
    intro listed a hcl _ hr hy H
    refine ⟨fun h => (by rw [h] at hr; cases hr), fun j hj w hS => ?_⟩
    have hun := (mem_ready.1 hr).1
    have hjn : j < n := by
      rcases Nat.lt_or_ge j n with h | h
      · exact h
      · have := hlast listed j h hcl hj
        rcases Nat.lt_or_ge i listed.size with h' | h'
        · simp [h'] at hun this; rw [hun] at this; cases this
        · simp [Array.getElem?_eq_none h'] at this
    by_cases hji : j = i
    · subst hji; exact hy.wpOp hi hS fun w' hS' => ⟨hS', H⟩
    · have h1 := (H w hS).1 j hjn
      rw [getD_set_ne false (Ne.symm hji)] at h1
      have hjun := (mem_ready.1 hj).1
      rcases Nat.lt_or_ge j listed.size with h' | h'
      · simp [h'] at hjun h1; rw [hjun] at h1; cases h1
      · simp [Array.getElem?_eq_none h'] at h1
  | succ fuel ih =>
    intro listed a hcl hfree hr hy H
    refine ⟨fun h => (by rw [h] at hr; cases hr), fun j hj w hS => ?_⟩
    by_cases hji : j = i
    · subst hji; exact hy.wpOp hi hS fun w' hS' => ⟨hS', H⟩
    · have h1 := H.2 j (ready_mono hj hji) w hS
      obtain ⟨hjun, oj, hoj, hall⟩ := mem_ready.1 hj
      have hnot : ∀ e ∈ oj.after, Region.binds md e = true → e.on ≠ i := fun e he hb heq => by
        have h1 := hall e he hb
        have h0 := (mem_ready.1 hr).1
        rw [heq] at h1
        rcases Nat.lt_or_ge i listed.size with h' | h'
        · simp [h'] at h0 h1; rw [h0] at h1; cases h1
        · simp [Array.getElem?_eq_none h'] at h1
      have h2 := wpOp_putTo hoj (hfree j oj hoj hji hjun hnot) (fun cs b => hsel i oi cs b hi) (fun cs b => hsel j oj cs b hoj) hQ hy h1
      have hfree' : ∀ k ok, ops[k]? = some ok → k ≠ i → (listed.setIfInBounds j true).getD k true = false →
          (∀ e ∈ ok.after, Region.binds md e = true → e.on ≠ i) → oi.apart ops ok = true := fun k ok hk hki hun hno => by
        refine hfree k ok hk hki ?_ hno
        by_cases hjk : j = k
        · subst hjk; exact hjun
        · rw [getD_set_ne true hjk] at hun; exact hun
      have hr' := ready_mono hr (Ne.symm hji)
      refine wpOp_mono (fun a' w' h3 => ⟨h3.2.1, ih (listed.setIfInBounds j true) a' (closed_step hcl hj) hfree' hr' h3.1 ?_⟩) h2
      rw [Array.setIfInBounds_comm _ _ hji]
      exact h3.2.2

/-- The order of the text is one that the edges allow, and what has not come up yet is apart from what comes up. -/
def seqOk (md : Region.Mode) (ops : Array Oper) : Nat → Nat → Array Bool → Bool
  | 0, _, _ => true
  | fuel + 1, k, listed => Region.free md ops listed k && (Region.ready md ops listed).contains k && seqOk md ops fuel (k + 1) (listed.setIfInBounds k true)

/-- Which have come up after the first k in the order of the text. -/
def upTo (n : Nat) : Nat → Array Bool
  | 0 => Array.replicate n false
  | k + 1 => (upTo n k).setIfInBounds k true

/-- The operations that are left, one after another; at the end what F says of the state. -/
def Settles (P : Program) (ops : Array Oper) (S : World → Prop) (F : Act → Prop) : List Oper → Act → Prop
  | [], a => F a
  | o :: rest, a => ∃ v, YieldsTo P ops S o v a ∧ Settles P ops S F rest (a.put o.dst v)

theorem upTo_listed (n : Nat) : ∀ k j, j < k → k ≤ n → (upTo n k).size = n ∧ (upTo n k).getD j false = true := by
  intro k
  induction k with
  | zero => intro j h _; omega
  | succ k ih =>
    intro j h hk
    have hsz : (upTo n k).size = n := by
      cases k with
      | zero => simp [upTo]
      | succ k => exact (ih k (by omega) (by omega)).1
    refine ⟨by simp [upTo, hsz], ?_⟩
    by_cases hjk : k = j
    · subst hjk
      simp [upTo, hsz, show k < n by omega]
    · simp only [upTo]
      rw [getD_set_ne false hjk]
      exact (ih j (by omega) (by omega)).2

theorem any_of_settles {T : Array Bool → Act → World → Prop} {F : Act → Prop} {n : Nat} (hn : n ≤ ops.size) (hsel : Region.noSelect ops = true) (hQ : ∀ (o : Option Tmp) v c a w, Q (.panic c) (a.put o v) w → Q (.panic c) a w)
    (hlast : ∀ i, i < n → ∀ listed j, n ≤ j → closed md ops listed → j ∈ Region.ready md ops listed → listed.getD i false = true)
    (hF : ∀ a, F a → ∀ w, S w → T (upTo ops.size n) a w) :
    ∀ (fuel k : Nat) (a : Act), fuel + k = n → closed md ops (upTo ops.size k) → seqOk md ops fuel k (upTo ops.size k) = true → Settles P ops S F ((ops.toList.take n).drop k) a → wpAnyS P md ops Q S T n fuel (upTo ops.size k) a := by
  intro fuel
  induction fuel with
  | zero =>
    intro k a hk _ _ h
    have hkn : k = n := by omega
    subst hkn
    rw [List.drop_eq_nil_of_le (by simp; omega)] at h
    exact fun w hS => ⟨fun j hj => (upTo_listed _ k j hj hn).2, hF a h w hS⟩
  | succ fuel ih =>
    intro k a hk hcl hs h
    simp only [seqOk, Bool.and_eq_true] at hs
    obtain ⟨⟨hf, hr⟩, hrest⟩ := hs
    have hr' : k ∈ Region.ready md ops (upTo ops.size k) := by simpa using hr
    have hlt : k < (ops.toList.take n).length := by simp; omega
    rw [List.drop_eq_getElem_cons hlt] at h
    obtain ⟨v, hy, h⟩ := h
    have hi : ops[k]? = some (ops.toList.take n)[k] := by
      rw [Array.getElem?_eq_getElem (show k < ops.size by omega)]
      simp
    exact wpAnyS_first hi (by omega) (Region.noSelect_spec hsel) (hQ _ _) (hlast k (by omega)) fuel _ a hcl (Region.free_spec hi hf) hr' hy
      (ih (k + 1) _ (by omega) (closed_step hcl hr') hrest h)

theorem closed_none : closed md ops (upTo ops.size 0) := by
  intro j o ho hl
  have h := (Array.getElem?_eq_some_iff.1 ho).1
  simp [upTo, h] at hl

section
variable {l : List Oper} {a : Act} {w : World} {id : Nat}

/-- THE LAW: a region that draws its order, walked in the order of the text. -/
theorem region (S : World → Prop) (hm : P.follows .mixedOrders = true) (hsel : Region.noSelect l.toArray = true)
    (hs : seqOk .any l.toArray l.length 0 (upTo l.length 0) = true) (hall : (Region.ready .any l.toArray (upTo l.length l.length)).isEmpty = true)
    (hS : S w.drew) (h : Settles P l.toArray S (fun a => ∀ w, S w → Q .normal a w) l a) : (Code.region id l.toArray true).wp P Q a w := by
  refine wp_region_noPanic (wp_region_any hm ?_)
  have h1 := any_of_settles (md := .any) (ops := l.toArray) (Q := NoPanic Q) (S := S) (P := P) (T := fun listed a w => listed = upTo l.length l.length ∧ NoPanic Q .normal a w) (F := fun a => ∀ w, S w → Q .normal a w) (n := l.length)
    (by simp) hsel (fun _ _ _ _ _ h => h)
    (fun i hi listed j hj _ hr => by
      obtain ⟨_, o, ho, _⟩ := mem_ready.1 hr
      have := (Array.getElem?_eq_some_iff.1 ho).1
      simp at this
      omega)
    (fun a hF w hS => ⟨by simp, hF w hS⟩) l.length 0 a (by simp) closed_none (by simpa using hs) (by simpa using h)
  have h2 := wpAny_of_S (m := 0) (fun listed a w ⟨hl, hq⟩ => by subst hl; exact ⟨by simpa using hall, hq⟩) _ _ _ _ hS h1
  simpa [upTo] using h2

/-- The same, and one operation comes up last, after all the others: it may do what it likes. -/
theorem regionTail (S : World → Prop) {t : Oper} (hm : P.follows .mixedOrders = true) (hsel : Region.noSelect (l ++ [t]).toArray = true)
    (hs : seqOk .any (l ++ [t]).toArray l.length 0 (upTo (l.length + 1) 0) = true) (hc : coverB .any (l ++ [t]).toArray l.length = true)
    (hlast : (Region.ready .any (l ++ [t]).toArray (upTo (l.length + 1) l.length)) = [l.length]) (hall : (Region.ready .any (l ++ [t]).toArray (upTo (l.length + 1) (l.length + 1))).isEmpty = true)
    (hS : S w.drew) (h : Settles P (l ++ [t]).toArray S (fun a => ∀ w, S w → ∀ K : Act → World → Prop, Shut (∀ a w, Q .normal a w → K a w) → if Region.wanted t (yielded (l ++ [t]).toArray a.tmps) = true then Oper.wp P t a w K (NoPanic Q) else K (a.put t.dst undef) w) l a) :
    (Code.region id (l ++ [t]).toArray true).wp P Q a w := by
  refine wp_region_noPanic (wp_region_any hm ?_)
  have h1 := any_of_settles (md := .any) (ops := (l ++ [t]).toArray) (Q := NoPanic Q) (S := S) (P := P) (T := fun listed a w => listed = upTo (l.length + 1) l.length ∧ wpAny P .any (l ++ [t]).toArray (NoPanic Q) 1 listed a w) (F := fun a => ∀ w, S w → ∀ K : Act → World → Prop, Shut (∀ a w, Q .normal a w → K a w) → if Region.wanted t (yielded (l ++ [t]).toArray a.tmps) = true then Oper.wp P t a w K (NoPanic Q) else K (a.put t.dst undef) w) (n := l.length)
    (by simp) hsel (fun _ _ _ _ _ h => h)
    (fun i hi listed j hj hcl hr => by
      obtain ⟨_, o, ho, _⟩ := mem_ready.1 hr
      have hlt := (Array.getElem?_eq_some_iff.1 ho).1
      simp at hlt
      have hjl : j = l.length := by omega
      subst hjl
      exact last_of_cover hc hcl hr (l.length - i) i (by omega) (by omega))
    (fun a hF w hS => by
      refine ⟨by simp, fun h0 => ?_, fun i hi => ?_⟩
      · simp at h0
        rw [hlast] at h0
        cases h0
      · simp at hi
        rw [hlast] at hi
        obtain rfl : i = l.length := by simpa using hi
        refine wpOp_step (o := t) (by simp) fun K hK => hF w hS K fun a w hq => hK a w ?_
        refine ⟨?_, hq⟩
        have : Region.ready .any (l ++ [t]).toArray (upTo (l.length + 1) (l.length + 1)) = [] := by simpa using hall
        simpa [upTo] using this) l.length 0 a (by simp) closed_none (by simpa using hs) (by simpa using h)
  have h2 := wpAny_of_S (m := 1) (fun listed a w h => h.2) _ _ _ _ hS h1
  simpa [upTo] using h2
end

theorem settles_mono {F G : Act → Prop} (h : ∀ a, F a → G a) : ∀ (l : List Oper) (a : Act), Settles P ops S F l a → Settles P ops S G l a
  | [], a, hs => h a hs
  | _ :: rest, _, ⟨v, hy, hs⟩ => ⟨v, hy, settles_mono h rest _ hs⟩

/-- Nothing but an ordinary end. -/
theorem wp_calm {o : Oper} {a : Act} {w : World} {K next next' : Act → World → Prop} {Q2 : Exit → Act → World → Prop} (h : ∀ a w, next a w → next' a w)
    (hh : o.wp P a w next (Exit.then K fun _ _ _ => False)) : o.wp P a w next' Q2 := by
  unfold Oper.wp at *
  generalize (execOp a.eval o).run P w = r at *
  cases r with
  | ok n w' =>
    cases n <;> simp only [Oper.upon] at hh ⊢ <;>
      first
        | exact h _ _ hh
        | exact Calls.mono hh (fun e w'' he => by
            cases e with
            | returned u => exact h _ _ he
            | panicked c => exact (he : False).elim
            | outgrown => obtain ⟨_, _, f⟩ := (he : LetsOut _); exact (f : False).elim)
        | exact Rows.mono hh (fun _ _ he => h _ _ he)
  | halt x w' => cases x <;> simp only [Oper.upon] at hh ⊢ <;> exact (hh : False).elim

/-- From number k on one comes up after another. -/
def forcedB (md : Region.Mode) (ops : Array Oper) : Nat → Nat → Bool
  | 0, k => (Region.ready md ops (upTo ops.size k)).isEmpty
  | m + 1, k => Region.ready md ops (upTo ops.size k) == [k] && forcedB md ops m (k + 1)

theorem any_of_list {K : Act → World → Prop} (hK : ∀ a w, K a w → Q .normal a w) :
    ∀ (m k : Nat) (a : Act) (w : World), m + k = ops.size → forcedB md ops m k = true → wpList P ops (Exit.then K fun _ _ _ => False) (ops.toList.drop k) a w → wpAny P md ops Q m (upTo ops.size k) a w := by
  intro m
  induction m with
  | zero =>
    intro k a w hk hf h
    rw [List.drop_eq_nil_of_le (by simp; omega)] at h
    exact ⟨by simpa [forcedB] using hf, hK a w h⟩
  | succ m ih =>
    intro k a w hk hf h
    simp only [forcedB, Bool.and_eq_true, beq_iff_eq] at hf
    have hlt : k < ops.toList.length := by simp; omega
    rw [List.drop_eq_getElem_cons hlt] at h
    have hi : ops[k]? = some ops.toList[k] := by
      rw [Array.getElem?_eq_getElem (show k < ops.size by omega)]
      simp
    refine ⟨fun h0 => absurd (hf.1.symm.trans h0) (by simp), fun i hi' => ?_⟩
    rw [hf.1] at hi'
    obtain rfl : i = k := by simpa using hi'
    have ih' := fun a w => ih (i + 1) a w (by omega) hf.2
    unfold wpOp
    simp only [hi]
    unfold wpList at h
    split
    · rename_i hw
      rw [if_pos hw] at h
      rcases h with h | ⟨_, _, _, f⟩
      · exact .inl (wp_calm ih' h)
      · exact (f : False).elim
    · rename_i hw
      rw [if_neg hw] at h
      exact ih' _ _ h

/-- Each from number t + 1 on waits for one of t .. before it. -/
def tailB (md : Region.Mode) (ops : Array Oper) (t : Nat) : Bool :=
  (List.range (ops.size - t - 1)).all fun d => match ops[t + 1 + d]? with
    | some o => o.after.any fun e => Region.binds md e && Nat.ble t e.on && Nat.blt e.on (t + 1 + d)
    | none => false

theorem listed_back {t : Nat} {listed : Array Bool} (hc : coverB md ops t = true) (hcl : closed md ops listed) (ht : listed.getD t false = true) :
    ∀ (d i : Nat), i + d = t → 0 < d → listed.getD i false = true := by
  intro d
  induction d using Nat.strongRecOn with
  | ind d ih =>
    intro i hid hd
    have h1 := (List.all_eq_true.1 hc) i (List.mem_range.2 (by omega))
    obtain ⟨j, hj, h2⟩ := List.any_eq_true.1 h1
    rw [Bool.and_eq_true] at h2
    obtain ⟨hij, h3⟩ := h2
    have hij' : i < j := by simpa [Nat.blt_eq] using hij
    have hjt : j ≤ t := by have := List.mem_range.1 hj; omega
    cases ho : ops[j]? with
    | none => simp [ho] at h3
    | some o =>
      simp only [ho] at h3
      obtain ⟨e, he, h4⟩ := Array.any_eq_true'.1 h3
      simp only [Bool.and_eq_true, beq_iff_eq] at h4
      have hl : listed.getD j false = true := by
        rcases Nat.lt_or_ge j t with hlt | hge
        · exact ih (t - j) (by omega) j (by omega) (by omega)
        · rw [show j = t by omega]; exact ht
      have hl' : listed.getD j true = true := by
        rcases Nat.lt_or_ge j listed.size with h' | h'
        · simpa [h'] using hl
        · simp [Array.getElem?_eq_none h'] at hl
      have := hcl j o ho hl' e he h4.1
      rw [h4.2] at this
      exact this

/-- Whatever of t .. is up or comes up: what lies before t has come up. -/
theorem before_tail {t : Nat} {listed : Array Bool} (hc : coverB md ops t = true) (ht : tailB md ops t = true) (hcl : closed md ops listed) :
    ∀ j, j < ops.size → t ≤ j → (j ∈ Region.ready md ops listed ∨ listed.getD j false = true) → ∀ i, i < t → listed.getD i false = true := by
  intro j
  induction j using Nat.strongRecOn with
  | ind j ih =>
    intro hsz htj hj i hi
    rcases Nat.lt_or_ge t j with hlt | hge
    · have h1 := (List.all_eq_true.1 ht) (j - (t + 1)) (List.mem_range.2 (by omega))
      rw [show t + 1 + (j - (t + 1)) = j by omega] at h1
      cases ho : ops[j]? with
      | none => simp [ho] at h1
      | some o =>
        simp only [ho] at h1
        obtain ⟨e, he, h4⟩ := Array.any_eq_true'.1 h1
        simp only [Bool.and_eq_true, Nat.ble_eq, Nat.blt_eq] at h4
        have hon : listed.getD e.on false = true := by
          rcases hj with hj | hj
          · obtain ⟨_, o', ho', hall⟩ := mem_ready.1 hj
            rw [ho] at ho'
            cases ho'
            exact hall e he h4.1.1
          · have hl' : listed.getD j true = true := by
              rcases Nat.lt_or_ge j listed.size with h' | h'
              · simpa [h'] using hj
              · simp [Array.getElem?_eq_none h'] at hj
            exact hcl j o ho hl' e he h4.1.1
        exact ih e.on h4.2 (by omega) h4.1.2 (.inr hon) i hi
    · obtain rfl : j = t := by omega
      rcases hj with hj | hj
      · exact last_of_cover hc hcl hj (j - i) i (by omega) (by omega)
      · exact listed_back hc hcl hj (j - i) i (by omega) (by omega)

/-- THE LAW WITH A TAIL: number n and what follows come up last, one after another; they may do what they like. -/
theorem regionTails (S : World → Prop) (n : Nat) {id : Nat} {a : Act} {w : World} (hm : P.follows .mixedOrders = true) (hsel : Region.noSelect ops = true) (hn : n < ops.size)
    (hs : seqOk .any ops n 0 (upTo ops.size 0) = true) (hc : coverB .any ops n = true) (ht : tailB .any ops n = true) (hf : forcedB .any ops (ops.size - n) n = true)
    (hS : S w.drew) (h : Settles P ops S (fun a => ∀ w, S w → ∀ K : Act → World → Prop, (∀ a w, Q .normal a w → K a w) → wpList P ops (Exit.then K fun _ _ _ => False) (ops.toList.drop n) a w) (ops.toList.take n) a) :
    (Code.region id ops true).wp P Q a w := by
  refine wp_region_noPanic (wp_region_any hm ?_)
  have h1 := any_of_settles (md := .any) (ops := ops) (Q := NoPanic Q) (S := S) (P := P) (T := fun listed a w => listed = upTo ops.size n ∧ wpAny P .any ops (NoPanic Q) (ops.size - n) listed a w) (F := fun a => ∀ w, S w → wpList P ops (Exit.then (fun a w => Q .normal a w) fun _ _ _ => False) (ops.toList.drop n) a w) (n := n)
    (by omega) hsel (fun _ _ _ _ _ h => h)
    (fun i hi listed j hj hcl hr => before_tail hc ht hcl j (by obtain ⟨_, o, ho, _⟩ := mem_ready.1 hr; exact (Array.getElem?_eq_some_iff.1 ho).1) hj (.inl hr) i hi)
    (fun a hF w hS => ⟨rfl, any_of_list (Q := NoPanic Q) (K := fun a w => Q .normal a w) (fun a w h => h) (ops.size - n) n a w (by omega) hf (hF w hS)⟩)
    n 0 a (by simp) closed_none hs (by
      simp only [List.drop_zero]
      exact settles_mono (fun a hF w hS => hF w hS _ (fun _ _ h => h)) _ _ h)
  have h2 := wpAny_of_S (m := ops.size - n) (fun listed a w h => h.2) _ _ _ _ hS h1
  rw [show n + (ops.size - n) = ops.size by omega] at h2
  simpa [upTo] using h2

/-- At the end. -/
theorem Settles.nil {F : Act → Prop} {a : Act} (h : F a) : Settles P ops S F [] a := h

/-- The guard says no. -/
theorem Settles.off {F : Act → Prop} {o : Oper} {rest : List Oper} {a : Act} (hw : Region.wanted o (yielded ops a.tmps) = false)
    (h : Settles P ops S F rest (a.put o.dst undef)) : Settles P ops S F (o :: rest) a :=
  ⟨undef, .inr ⟨hw, rfl⟩, h⟩

/-- An operation that leaves the world alone. -/
theorem Settles.quiet {F : Act → Prop} {o : Oper} {rest : List Oper} {a : Act} {v : Value} (hw : Region.wanted o (yielded ops a.tmps) = true)
    (hv : ∀ w, S w → (execOp a.eval o).run P w = .ok (.value v) w)
    (h : Settles P ops S F rest (a.put o.dst v)) : Settles P ops S F (o :: rest) a :=
  ⟨v, .inl ⟨hw, fun w hS => by rw [hv w hS]; exact ⟨.inr rfl, hS⟩⟩, h⟩

/-- A call of a Go function: its contract. -/
theorem Settles.call {F : Act → Prop} {o : Oper} {rest : List Oper} {a : Act} {v : Value} {f : FuncId} {args : Array Value} (hw : Region.wanted o (yielded ops a.tmps) = true)
    (hr : ∀ w, (execOp a.eval o).run P w = .ok (.enter f args) w)
    (hc : ∀ w, S w → Calls P f args w fun e w' => e = .returned v ∧ S w')
    (h : Settles P ops S F rest (a.put o.dst v)) : Settles P ops S F (o :: rest) a :=
  ⟨v, .inl ⟨hw, fun w hS => by
    rw [hr w]
    exact Calls.mono (hc w hS) fun e w' ⟨he, hS'⟩ => by subst he; exact ⟨.inr rfl, hS'⟩⟩, h⟩

end
end Go.Proofs.Ytcfoleiooohbhaa.Settle

/-
  A region that draws its order, two of whose operations make a block each whenever they come up: whatever settles is walked in the order of the text,
  the two blocks are two new ones, and what follows comes last. No program stands here.
-/
namespace Go.Proofs.Ytcfoleiooohbhaa.SettleA
open Go Settle Go.RowKit
set_option linter.unusedVariables false

section
variable {P : Program} {ops : Array Oper} {Q : Exit → Act → World → Prop} {md : Region.Mode} {S : World → Prop} {R : Array Bool → Act → World → Prop}

/-- The run of an operation ends with value v in a world of the kind S, and all that was there stays. -/
def LeadsB (P : Program) (S : World → Prop) (w0 : World) (dst : Option Tmp) (v : Value) : Result Next → Prop
  | .ok (.value u) w' => (dst = none ∨ u = v) ∧ S w' ∧ Below w0.heap.size w0 w'
  | .ok .skip w' => (dst = none ∨ undef = v) ∧ S w' ∧ Below w0.heap.size w0 w'
  | .ok (.enter f args) w' => Calls P f args w' fun
      | .returned u, w'' => (dst = none ∨ u = v) ∧ S w'' ∧ Below w0.heap.size w0 w''
      | _, _ => False
  | _ => False
def YieldsB (P : Program) (ops : Array Oper) (S : World → Prop) (o : Oper) (v : Value) (a : Act) : Prop :=
  (Region.wanted o (yielded ops a.tmps) = true ∧ ∀ w, S w → LeadsB P S w o.dst v ((execOp a.eval o).run P w)) ∨
  (Region.wanted o (yielded ops a.tmps) = false ∧ v = undef)

theorem YieldsB.wpOp {i : Nat} {o : Oper} {v : Value} {a : Act} (hi : ops[i]? = some o) (hy : YieldsB P ops S o v a)
    {K : Act → World → Prop} {w : World} (hS : S w) (h : ∀ w', S w' → Below w.heap.size w w' → K (a.put o.dst v) w') : wpOp P ops Q i K a w := by
  unfold Go.wpOp
  simp only [hi]
  rcases hy with ⟨hw, hv⟩ | ⟨hw, rfl⟩
  · have h1 := hv w hS
    simp only [hw, if_true, Oper.wp]
    refine .inl ?_
    generalize (execOp a.eval o).run P w = r at *
    cases r with
    | ok n w' =>
      cases n <;> simp only [Oper.upon, LeadsB] at h1 ⊢
      case value u => rw [put_same h1.1]; exact h _ h1.2.1 h1.2.2
      case skip => rw [put_same h1.1]; exact h _ h1.2.1 h1.2.2
      case enter f args =>
        refine Calls.mono h1 fun e w'' he => ?_
        cases e with
        | returned u => simp only at he ⊢; rw [put_same he.1]; exact h _ he.2.1 he.2.2
        | panicked c => exact he.elim
        | outgrown => exact he.elim
    | halt x w' => exact h1.elim
  · simp only [hw, Bool.false_eq_true, if_false]; exact h _ hS (Below.refl _ _)

theorem YieldsB.of_same {o : Oper} {v : Value} {a a' : Act} (hy : YieldsB P ops S o v a) (he : execOp a'.eval o = execOp a.eval o)
    (hw : Region.wanted o (yielded ops a'.tmps) = Region.wanted o (yielded ops a.tmps)) : YieldsB P ops S o v a' := by
  unfold YieldsB at *
  rw [he, hw]
  exact hy

theorem wpOp_putY {j : Nat} {oi oj : Oper} {v : Value} {Y : Act → Prop} (keep : ∀ (a : Act), Y a → ∀ u, Y (a.put oj.dst u)) (keepD : ∀ (a : Act) d, Y a → Y { a with defers := d :: a.defers }) (hj : ops[j]? = some oj) (hap : oi.apart ops oj = true)
    (_hsi : ∀ cs b, oi.op ≠ .select cs b) (hsj : ∀ cs b, oj.op ≠ .select cs b)
    (hQ : ∀ c a w, Q (.panic c) (a.put oi.dst v) w → Q (.panic c) a w) {K : Act → World → Prop} {a : Act} {w : World}
    (hy : Y a) (h : wpOp P ops Q j K (a.put oi.dst v) w) :
    wpOp P ops Q j (fun a' w' => Y a' ∧ K (a'.put oi.dst v) w') a w := by
  obtain ⟨h1, h2, h3⟩ := Oper.apart_spec hap
  unfold wpOp at *
  simp only [hj] at *
  rw [wanted_put oj a oi.dst v h1] at h
  split
  · rename_i hw
    simp only [hw, if_true] at h
    rcases h with h | ⟨hasks, hlets⟩
    case inr => exact .inr ⟨by unfold Oper.asks at *; rw [execOp_put oj hsj a oi.dst v h1] at hasks; exact hasks, hlets⟩
    refine .inl ?_
    unfold Oper.wp at *
    rw [execOp_put oj hsj a oi.dst v h1] at h
    generalize (execOp a.eval oj).run P w = r at *
    cases r with
    | ok n w' =>
      cases n <;> simp only [Oper.upon] at h ⊢
      case value u => exact ⟨keep a hy u, by rw [← Act.put_comm a v u h2]; exact h⟩
      case skip => exact ⟨keep a hy _, by rw [← Act.put_comm a v undef h2]; exact h⟩
      case defer d =>
        refine ⟨keep _ (keepD _ _ hy) _, ?_⟩
        rw [← Act.put_comm _ v undef h2, ← Act.put_defers]
        exact h
      case enter f args =>
        refine Calls.mono h fun e w'' he => ?_
        cases e with
        | returned u => exact ⟨keep a hy u, by rw [← Act.put_comm a v u h2]; exact he⟩
        | panicked c => exact hQ _ _ _ he
        | outgrown => exact he
      case row row args => exact Rows.mono h fun u w'' he => ⟨keep a hy u, by rw [← Act.put_comm a v u h2]; exact he⟩
    | halt x w' =>
      cases x <;> simp only [Oper.upon] at h ⊢
      case panic u => exact hQ _ _ _ h
  · rename_i hw
    simp only [hw] at h
    exact ⟨keep a hy _, by rw [← Act.put_comm a v undef h2]; exact h⟩


def wpAnyR (P : Program) (md : Region.Mode) (ops : Array Oper) (Q : Exit → Act → World → Prop) (R : Array Bool → Act → World → Prop) (T : Array Bool → Act → World → Prop) (n : Nat) : Nat → Array Bool → Act → Prop
  | 0, listed, a => ∀ w, R listed a w → (∀ j, j < n → listed.getD j false = true) ∧ T listed a w
  | fuel + 1, listed, a => Region.ready md ops listed ≠ [] ∧
    ∀ i ∈ Region.ready md ops listed, ∀ w, R listed a w → wpOp P ops Q i (fun a' w' => R (listed.setIfInBounds i true) a' w' ∧ wpAnyR P md ops Q R T n fuel (listed.setIfInBounds i true) a') a w

theorem wpAny_of_R {T : Array Bool → Act → World → Prop} {n m : Nat} (hT : ∀ listed a w, T listed a w → wpAny P md ops Q m listed a w) :
    ∀ (fuel : Nat) (listed : Array Bool) (a : Act) (w : World), R listed a w → wpAnyR P md ops Q R T n fuel listed a → wpAny P md ops Q (fuel + m) listed a w
  | 0, _, _, w, hS, h => by rw [Nat.zero_add]; exact hT _ _ _ (h w hS).2
  | fuel + 1, _, _, w, hS, h => by
    rw [show fuel + 1 + m = (fuel + m) + 1 by omega]
    exact ⟨fun h0 => absurd h0 h.1, fun i hi => wpOp_mono (fun a' w' h' => wpAny_of_R hT fuel _ a' w' h'.1 h'.2) (h.2 i hi w hS)⟩

/-- What the kind of state forgets: an operation that settles. -/
structure Keeps (R : Array Bool → Act → World → Prop) (S : World → Prop) (i : Nat) (dst : Option Tmp) : Prop where
  r1 : ∀ listed a w, R listed a w → S w
  r2 : ∀ listed a w w' v, R listed a w → S w' → Below w.heap.size w w' → R (listed.setIfInBounds i true) (a.put dst v) w'
  r3 : ∀ listed a w v, R (listed.setIfInBounds i true) (a.put dst v) w → R listed a w

theorem wpAnyR_first {T : Array Bool → Act → World → Prop} {n : Nat} {i : Nat} {oi : Oper} {v : Value} (hk : Keeps R S i oi.dst) (hi : ops[i]? = some oi) (hin : i < n) (hsel : ∀ (j : Nat) (o : Oper) cs b, ops[j]? = some o → o.op ≠ .select cs b)
    (hQ : ∀ c a w, Q (.panic c) (a.put oi.dst v) w → Q (.panic c) a w) (hlast : ∀ listed j, n ≤ j → closed md ops listed → j ∈ Region.ready md ops listed → listed.getD i false = true) :
    ∀ (fuel : Nat) (listed : Array Bool) (a : Act), closed md ops listed →
      (∀ j oj, ops[j]? = some oj → j ≠ i → listed.getD j true = false → (∀ e ∈ oj.after, Region.binds md e = true → e.on ≠ i) → oi.apart ops oj = true) →
      i ∈ Region.ready md ops listed → YieldsB P ops S oi v a →
      wpAnyR P md ops Q R T n fuel (listed.setIfInBounds i true) (a.put oi.dst v) → wpAnyR P md ops Q R T n (fuel + 1) listed a := by
  intro fuel
  induction fuel with
  | zero =>
    intro listed a hcl _ hr hy H
    refine ⟨fun h => (by rw [h] at hr; cases hr), fun j hj w hS => ?_⟩
    have hun := (mem_ready.1 hr).1
    have hjn : j < n := by
      rcases Nat.lt_or_ge j n with h | h
      · exact h
      · have := hlast listed j h hcl hj
        rcases Nat.lt_or_ge i listed.size with h' | h'
        · simp [h'] at hun this; rw [hun] at this; cases this
        · simp [Array.getElem?_eq_none h'] at this
    by_cases hji : j = i
    · subst hji; exact hy.wpOp hi (hk.r1 _ _ _ hS) fun w' hS' hb => ⟨hk.r2 _ _ _ _ _ hS hS' hb, H⟩
    · have h1 := (H w (hk.r2 _ _ _ _ _ hS (hk.r1 _ _ _ hS) (Below.refl _ _))).1 j hjn
      rw [getD_set_ne false (Ne.symm hji)] at h1
      have hjun := (mem_ready.1 hj).1
      rcases Nat.lt_or_ge j listed.size with h' | h'
      · simp [h'] at hjun h1; rw [hjun] at h1; cases h1
      · simp [Array.getElem?_eq_none h'] at h1
  | succ fuel ih =>
    intro listed a hcl hfree hr hy H
    refine ⟨fun h => (by rw [h] at hr; cases hr), fun j hj w hS => ?_⟩
    by_cases hji : j = i
    · subst hji; exact hy.wpOp hi (hk.r1 _ _ _ hS) fun w' hS' hb => ⟨hk.r2 _ _ _ _ _ hS hS' hb, H⟩
    · have h1 := H.2 j (ready_mono hj hji) w (hk.r2 _ _ _ _ _ hS (hk.r1 _ _ _ hS) (Below.refl _ _))
      obtain ⟨hjun, oj, hoj, hall⟩ := mem_ready.1 hj
      have hnot : ∀ e ∈ oj.after, Region.binds md e = true → e.on ≠ i := fun e he hb heq => by
        have h1 := hall e he hb
        have h0 := (mem_ready.1 hr).1
        rw [heq] at h1
        rcases Nat.lt_or_ge i listed.size with h' | h'
        · simp [h'] at h0 h1; rw [h0] at h1; cases h1
        · simp [Array.getElem?_eq_none h'] at h1
      have h2 := wpOp_putY (Y := YieldsB P ops S oi v) (fun a hy u => hy.of_same (execOp_put oi (fun cs b => hsel i oi cs b hi) a oj.dst u (Oper.apart_spec (hfree j oj hoj hji hjun hnot)).2.2) (wanted_put oi a oj.dst u (Oper.apart_spec (hfree j oj hoj hji hjun hnot)).2.2)) (fun a d hy => hy.of_same rfl rfl) hoj (hfree j oj hoj hji hjun hnot) (fun cs b => hsel i oi cs b hi) (fun cs b => hsel j oj cs b hoj) hQ hy h1
      have hfree' : ∀ k ok, ops[k]? = some ok → k ≠ i → (listed.setIfInBounds j true).getD k true = false →
          (∀ e ∈ ok.after, Region.binds md e = true → e.on ≠ i) → oi.apart ops ok = true := fun k ok hk hki hun hno => by
        refine hfree k ok hk hki ?_ hno
        by_cases hjk : j = k
        · subst hjk; exact hjun
        · rw [getD_set_ne true hjk] at hun; exact hun
      have hr' := ready_mono hr (Ne.symm hji)
      refine wpOp_mono (fun a' w' h3 => ⟨hk.r3 _ _ _ _ (by have := h3.2.1; rw [Array.setIfInBounds_comm _ _ (Ne.symm hji)] at this; exact this), ih (listed.setIfInBounds j true) a' (closed_step hcl hj) hfree' hr' h3.1 ?_⟩) h2
      rw [Array.setIfInBounds_comm _ _ hji]
      exact h3.2.2


def SettlesB (P : Program) (ops : Array Oper) (S : World → Prop) (F : Act → Prop) : List Oper → Act → Prop
  | [], a => F a
  | o :: rest, a => ∃ v, YieldsB P ops S o v a ∧ SettlesB P ops S F rest (a.put o.dst v)

theorem any_of_settlesR {T : Array Bool → Act → World → Prop} {F : Act → Prop} {s n : Nat} (hsn : s ≤ n) (hn : n ≤ ops.size) (hsel : Region.noSelect ops = true) (hQ : ∀ (o : Option Tmp) v c a w, Q (.panic c) (a.put o v) w → Q (.panic c) a w)
    (hlast : ∀ i, i < n → ∀ listed j, n ≤ j → closed md ops listed → j ∈ Region.ready md ops listed → listed.getD i false = true)
    (hk : ∀ i o, i < s → ops[i]? = some o → Keeps R S i o.dst)
    (hF : ∀ a, F a → wpAnyR P md ops Q R T n (n - s) (upTo ops.size s) a) :
    ∀ (fuel k : Nat) (a : Act), fuel + k = s → closed md ops (upTo ops.size k) → seqOk md ops fuel k (upTo ops.size k) = true → SettlesB P ops S F ((ops.toList.take s).drop k) a → wpAnyR P md ops Q R T n (fuel + (n - s)) (upTo ops.size k) a := by
  intro fuel
  induction fuel with
  | zero =>
    intro k a hks _ _ h
    obtain rfl : k = s := by omega
    rw [List.drop_eq_nil_of_le (by simp; omega)] at h
    rw [Nat.zero_add]
    exact hF a h
  | succ fuel ih =>
    intro k a hks hcl hs h
    simp only [seqOk, Bool.and_eq_true] at hs
    obtain ⟨⟨hf, hr⟩, hrest⟩ := hs
    have hr' : k ∈ Region.ready md ops (upTo ops.size k) := by simpa using hr
    have hlt : k < (ops.toList.take s).length := by simp; omega
    rw [List.drop_eq_getElem_cons hlt] at h
    obtain ⟨v, hy, h⟩ := h
    have hi : ops[k]? = some (ops.toList.take s)[k] := by
      rw [Array.getElem?_eq_getElem (show k < ops.size by omega)]
      simp
    rw [show fuel + 1 + (n - s) = fuel + (n - s) + 1 by omega]
    exact wpAnyR_first (hk k _ (by omega) hi) hi (by omega) (Region.noSelect_spec hsel) (hQ _ _) (hlast k (by omega)) _ _ a hcl (Region.free_spec hi hf) hr' hy
      (ih (k + 1) _ (by omega) (closed_step hcl hr') hrest h)

def ptr (g : Nat) : Value := .pointer (some ⟨g, 0, none⟩)
theorem ptr_inj {g h : Nat} (e : ptr g = ptr h) : g = h := by
  unfold ptr at e
  injection e with e
  injection e with e
  injection e
theorem put_other {a : Act} {dst : Option Tmp} {d : Tmp} {v : Value} (h : dst ≠ some d) : (a.put dst v).tmps[d]? = a.tmps[d]? := by
  cases dst with
  | none => rfl
  | some e => simp only [Act.put]; exact Array.getElem?_setIfInBounds_ne (fun h' => h (by rw [h']))
theorem put_self {a : Act} {d : Tmp} {v : Value} (h : d < a.tmps.size) : (a.put (some d) v).tmps[d]? = some v := by
  simp [Act.put, h]
theorem put_size {a : Act} {dst : Option Tmp} {v : Value} : (a.put dst v).tmps.size = a.tmps.size := by
  cases dst <;> simp [Act.put]

/-- The two blocks, as far as they have come up. -/
def Two (S : World → Prop) (s d1 d2 base : Nat) (Z Z1 Z2 : Array Value) (T : TypeId) (listed : Array Bool) (a : Act) (w : World) : Prop :=
  S w ∧
  (listed.getD s false = true → ∃ g, a.tmps[d1]? = some (ptr g) ∧ base ≤ g ∧ w.heap[g]? = some (.cells (if listed.getD (s + 2) false then Z1 else Z) T (0, 0))) ∧
  (listed.getD (s + 1) false = true → ∃ g, a.tmps[d2]? = some (ptr g) ∧ base ≤ g ∧ w.heap[g]? = some (.cells (if listed.getD (s + 3) false then Z2 else Z) T (0, 0))) ∧
  (listed.getD s false = true → listed.getD (s + 1) false = true → ∀ g, a.tmps[d1]? = some (ptr g) → a.tmps[d2]? ≠ some (ptr g))

theorem lt_of_block {w : World} {g : Nat} {o : Obj} (h : w.heap[g]? = some o) : g < w.heap.size := (Array.getElem?_eq_some_iff.1 h).1

theorem two_keeps {s d1 d2 base i : Nat} {Z Z1 Z2 : Array Value} {T : TypeId} {dst : Option Tmp} (hi : i < s) (h1 : dst ≠ some d1) (h2 : dst ≠ some d2) : Keeps (Two S s d1 d2 base Z Z1 Z2 T) S i dst where
  r1 := fun _ _ _ h => h.1
  r2 := fun listed a w w' v h hS hb => by
    obtain ⟨_, f1, f2, f3⟩ := h
    refine ⟨hS, ?_, ?_, ?_⟩
    · rw [getD_set_ne false (by omega), getD_set_ne (j := s + 2) false (by omega), put_other h1]
      intro hl
      obtain ⟨g, e, hg, hh⟩ := f1 hl
      exact ⟨g, e, hg, (hb.block g (lt_of_block hh)).trans hh⟩
    · rw [getD_set_ne false (by omega), getD_set_ne (j := s + 3) false (by omega), put_other h2]
      intro hl
      obtain ⟨g, e, hg, hh⟩ := f2 hl
      exact ⟨g, e, hg, (hb.block g (lt_of_block hh)).trans hh⟩
    · rw [getD_set_ne false (by omega), getD_set_ne false (by omega), put_other h1, put_other h2]
      exact f3
  r3 := fun listed a w v h => by
    obtain ⟨hS, f1, f2, f3⟩ := h
    rw [getD_set_ne false (by omega), getD_set_ne (j := s + 2) false (by omega), put_other h1] at f1
    rw [getD_set_ne false (by omega), getD_set_ne (j := s + 3) false (by omega), put_other h2] at f2
    rw [getD_set_ne false (by omega), getD_set_ne false (by omega), put_other h1, put_other h2] at f3
    exact ⟨hS, f1, f2, f3⟩

theorem alloc_wp {o : Oper} {i d : Nat} {Z : Array Value} {T : TypeId} {K : Act → World → Prop} {a : Act} {w : World} (hi : ops[i]? = some o) (hg : o.guard = none) (hd : o.dst = some d)
    (hr : ∀ (a : Act) (w : World), (execOp a.eval o).run P w = .ok (.value (ptr w.heap.size)) (w.alloc (.cells Z T)))
    (h : K (a.put (some d) (ptr w.heap.size)) (w.alloc (.cells Z T))) : wpOp P ops Q i K a w := by
  unfold Go.wpOp
  simp only [hi]
  rw [if_pos (by simp [Region.wanted, hg])]
  refine .inl ?_
  unfold Oper.wp
  rw [hr]
  simp only [Oper.upon, hd]
  exact h

theorem heap_new (w : World) (o : Obj) : (w.alloc o).heap[w.heap.size]? = some o := heap_alloc_new w o
theorem heap_old (w : World) (o : Obj) {g : Nat} (h : g < w.heap.size) : (w.alloc o).heap[g]? = w.heap[g]? := ((Below.refl w.heap.size w).alloc (Nat.le_refl _) o).block g h

/-- Both blocks come up, in whichever order. -/
theorem two_allocs {T' : Array Bool → Act → World → Prop} {s d1 d2 base n f : Nat} {Z Z1 Z2 : Array Value} {T : TypeId} {o1 o2 : Oper} {a : Act}
    (hi1 : ops[s]? = some o1) (hi2 : ops[s + 1]? = some o2) (hg1 : o1.guard = none) (hg2 : o2.guard = none) (hd1 : o1.dst = some d1) (hd2 : o2.dst = some d2) (hne : d1 ≠ d2)
    (hr1 : ∀ (a : Act) (w : World), (execOp a.eval o1).run P w = .ok (.value (ptr w.heap.size)) (w.alloc (.cells Z T)))
    (hr2 : ∀ (a : Act) (w : World), (execOp a.eval o2).run P w = .ok (.value (ptr w.heap.size)) (w.alloc (.cells Z T)))
    (h0 : Region.ready md ops (upTo ops.size s) = [s, s + 1]) (h1 : Region.ready md ops ((upTo ops.size s).setIfInBounds s true) = [s + 1]) (h2 : Region.ready md ops ((upTo ops.size s).setIfInBounds (s + 1) true) = [s])
    (hsz : s + 3 < ops.size) (hs1 : d1 < a.tmps.size) (hs2 : d2 < a.tmps.size)
    (hSa : ∀ w, S w → S (w.alloc (.cells Z T))) (hSb : ∀ w, S w → base ≤ w.heap.size)
    (hfin : ∀ g1 g2, wpAnyR P md ops Q (Two S s d1 d2 base Z Z1 Z2 T) T' n f (upTo ops.size (s + 2)) ((a.put (some d1) (ptr g1)).put (some d2) (ptr g2))) :
    wpAnyR P md ops Q (Two S s d1 d2 base Z Z1 Z2 T) T' n (f + 2) (upTo ops.size s) a := by
  have lsz : ∀ k, (upTo ops.size k).size = ops.size := fun k => by
    induction k with
    | zero => simp [upTo]
    | succ k ih => simp [upTo, ih]
  have fs : ∀ k j, k ≤ j → (upTo ops.size k).getD j false = false := fun k => by
    induction k with
    | zero =>
      intro j _
      rcases Nat.lt_or_ge j ops.size with h | h
      · simp [upTo, h]
      · simp [upTo, Nat.not_lt.2 h]
    | succ k ih =>
      intro j hj
      simp only [upTo]
      rw [getD_set_ne false (by omega)]
      exact ih j (by omega)
  have e2 : ((upTo ops.size s).setIfInBounds (s + 1) true).setIfInBounds s true = upTo ops.size (s + 2) := by
    simp only [upTo]
    exact Array.setIfInBounds_comm _ _ (by omega)
  have set_at : ∀ (l : Array Bool) (i : Nat), i < l.size → (l.setIfInBounds i true).getD i false = true := fun l i h => by simp [h]
  refine ⟨by rw [h0]; simp, fun i hi w hR => ?_⟩
  rw [h0] at hi
  have hi : i = s ∨ i = s + 1 := by simpa using hi
  rcases hi with rfl | rfl
  · refine alloc_wp hi1 hg1 hd1 hr1 ⟨⟨hSa _ hR.1, ?_, ?_, ?_⟩, ?_⟩
    · intro _
      exact ⟨w.heap.size, put_self hs1, hSb _ hR.1, by rw [getD_set_ne false (by omega), fs _ _ (by omega)]; exact heap_new w _⟩
    · intro h
      rw [getD_set_ne false (by omega), fs _ _ (by omega)] at h
      cases h
    · intro _ h
      rw [getD_set_ne false (by omega), fs _ _ (by omega)] at h
      cases h
    · generalize w.heap.size = g1
      refine ⟨by rw [h1]; simp, fun i' hi' w2 hR2 => ?_⟩
      rw [h1] at hi'
      obtain rfl : i' = i + 1 := by simpa using hi'
      obtain ⟨q, eq, hq, hh⟩ := hR2.2.1 (set_at _ _ (by rw [lsz]; omega))
      rw [put_self hs1] at eq
      obtain rfl : g1 = q := ptr_inj (Option.some.inj eq)
      have hlt := lt_of_block hh
      refine alloc_wp hi2 hg2 hd2 hr2 ⟨⟨hSa _ hR2.1, ?_, ?_, ?_⟩, ?_⟩
      · intro _
        exact ⟨g1, by rw [put_other (by intro h; exact hne (Option.some.inj h).symm), put_self hs1], hq, by rw [getD_set_ne false (by omega)]; exact (heap_old w2 _ hlt).trans hh⟩
      · intro _
        exact ⟨w2.heap.size, put_self (by rw [put_size]; exact hs2), hSb _ hR2.1, by rw [getD_set_ne false (by omega), getD_set_ne false (by omega), fs _ _ (by omega)]; exact heap_new w2 _⟩
      · intro _ _ g e1 e3
        rw [put_other (by intro h; exact hne (Option.some.inj h).symm), put_self hs1] at e1
        rw [put_self (by rw [put_size]; exact hs2)] at e3
        have := ptr_inj (Option.some.inj (e1.trans e3.symm))
        omega
      · exact hfin g1 w2.heap.size
  · refine alloc_wp hi2 hg2 hd2 hr2 ⟨⟨hSa _ hR.1, ?_, ?_, ?_⟩, ?_⟩
    · intro h
      rw [getD_set_ne false (by omega), fs _ _ (by omega)] at h
      cases h
    · intro _
      exact ⟨w.heap.size, put_self hs2, hSb _ hR.1, by rw [getD_set_ne false (by omega), fs _ _ (by omega)]; exact heap_new w _⟩
    · intro h
      rw [getD_set_ne false (by omega), fs _ _ (by omega)] at h
      cases h
    · generalize w.heap.size = g2
      refine ⟨by rw [h2]; simp, fun i' hi' w2 hR2 => ?_⟩
      rw [h2] at hi'
      obtain rfl : i' = s := by simpa using hi'
      obtain ⟨q, eq, hq, hh⟩ := hR2.2.2.1 (set_at _ _ (by rw [lsz]; omega))
      rw [put_self hs2] at eq
      obtain rfl : g2 = q := ptr_inj (Option.some.inj eq)
      have hlt := lt_of_block hh
      have hp1 : d1 < (a.put (some d2) (ptr g2)).tmps.size := by rw [put_size]; exact hs1
      have hc : ∀ g1, (a.put (some d2) (ptr g2)).put (some d1) (ptr g1) = (a.put (some d1) (ptr g1)).put (some d2) (ptr g2) := fun g1 =>
        Act.put_comm a _ _ (fun d h h' => hne (by rw [← Option.some.inj h] at h'; exact Option.some.inj h'))
      refine alloc_wp hi1 hg1 hd1 hr1 ⟨⟨hSa _ hR2.1, ?_, ?_, ?_⟩, ?_⟩
      · intro _
        exact ⟨w2.heap.size, put_self hp1, hSb _ hR2.1, by rw [getD_set_ne false (by omega), getD_set_ne false (by omega), fs _ _ (by omega)]; exact heap_new w2 _⟩
      · intro _
        exact ⟨g2, by rw [put_other (by intro h; exact hne (Option.some.inj h)), put_self hs2], hq, by rw [getD_set_ne false (by omega)]; exact (heap_old w2 _ hlt).trans hh⟩
      · intro _ _ g e1 e3
        rw [put_self hp1] at e1
        rw [put_other (by intro h; exact hne (Option.some.inj h)), put_self hs2] at e3
        have := ptr_inj (Option.some.inj (e1.trans e3.symm))
        omega
      · rw [e2, hc]
        exact hfin w2.heap.size g2

theorem store_wp {o : Oper} {i : Nat} {n : Next} {K : Act → World → Prop} {a : Act} {w w' : World} (hi : ops[i]? = some o) (hg : o.guard = none) (hd : o.dst = none)
    (hn : n = .skip ∨ ∃ u, n = .value u) (hr : (execOp a.eval o).run P w = .ok n w') (h : K a w') : wpOp P ops Q i K a w := by
  unfold Go.wpOp
  simp only [hi]
  rw [if_pos (by simp [Region.wanted, hg])]
  refine .inl ?_
  unfold Oper.wp
  rw [hr]
  rcases hn with rfl | ⟨u, rfl⟩ <;> simp only [Oper.upon, hd] <;> exact h

/-- What is known of the two blocks. -/
def Blocks (S : World → Prop) (g1 g2 base : Nat) (Z1 Z2 : Array Value) (T : TypeId) (w : World) : Prop :=
  S w ∧ base ≤ g1 ∧ base ≤ g2 ∧ g1 ≠ g2 ∧ w.heap[g1]? = some (.cells Z1 T (0, 0)) ∧ w.heap[g2]? = some (.cells Z2 T (0, 0))

theorem two_stores {T' : Array Bool → Act → World → Prop} {s d1 d2 base : Nat} {Z Z1 Z2 : Array Value} {T : TypeId} {a : Act} {g1 g2 : Nat}
    (h1 : Region.ready md ops (upTo ops.size (s + 2)) = [s + 2]) (h2 : Region.ready md ops (upTo ops.size (s + 3)) = [s + 3]) (hsz : s + 4 = ops.size) (hne : d1 ≠ d2)
    (hs1 : d1 < a.tmps.size) (hs2 : d2 < a.tmps.size)
    (hst1 : ∀ w, Blocks S g1 g2 base Z Z T w → wpOp P ops Q (s + 2) (fun a' w' => a' = (a.put (some d1) (ptr g1)).put (some d2) (ptr g2) ∧ Blocks S g1 g2 base Z1 Z T w') ((a.put (some d1) (ptr g1)).put (some d2) (ptr g2)) w)
    (hst2 : ∀ w, Blocks S g1 g2 base Z1 Z T w → wpOp P ops Q (s + 3) (fun a' w' => a' = (a.put (some d1) (ptr g1)).put (some d2) (ptr g2) ∧ Blocks S g1 g2 base Z1 Z2 T w') ((a.put (some d1) (ptr g1)).put (some d2) (ptr g2)) w)
    (hT : ∀ w, Blocks S g1 g2 base Z1 Z2 T w → T' (upTo ops.size (s + 4)) ((a.put (some d1) (ptr g1)).put (some d2) (ptr g2)) w) :
    wpAnyR P md ops Q (Two S s d1 d2 base Z Z1 Z2 T) T' ops.size 2 (upTo ops.size (s + 2)) ((a.put (some d1) (ptr g1)).put (some d2) (ptr g2)) := by
  have all : ∀ k, k ≤ ops.size → ∀ j, j < k → (upTo ops.size k).getD j false = true := fun k hk j hj => (upTo_listed _ k j hj hk).2
  have fs : ∀ k j, k ≤ j → (upTo ops.size k).getD j false = false := fun k => by
    induction k with
    | zero =>
      intro j _
      rcases Nat.lt_or_ge j ops.size with h | h
      · simp [upTo, h]
      · simp [upTo, Nat.not_lt.2 h]
    | succ k ih =>
      intro j hj
      simp only [upTo]
      rw [getD_set_ne false (by omega)]
      exact ih j (by omega)
  have t1 : ((a.put (some d1) (ptr g1)).put (some d2) (ptr g2)).tmps[d1]? = some (ptr g1) := by rw [put_other (by intro h; exact hne (Option.some.inj h).symm), put_self hs1]
  have t2 : ((a.put (some d1) (ptr g1)).put (some d2) (ptr g2)).tmps[d2]? = some (ptr g2) := put_self (by rw [put_size]; exact hs2)
  generalize (a.put (some d1) (ptr g1)).put (some d2) (ptr g2) = a2 at *
  have out : ∀ k, s + 2 ≤ k → k ≤ ops.size → ∀ w, Two S s d1 d2 base Z Z1 Z2 T (upTo ops.size k) a2 w → Blocks S g1 g2 base (if s + 2 < k then Z1 else Z) (if s + 3 < k then Z2 else Z) T w := by
    intro k hk1 hk2 w hR
    obtain ⟨hS, f1, f2, f3⟩ := hR
    obtain ⟨q1, e1, b1, c1⟩ := f1 (all k hk2 s (by omega))
    obtain ⟨q2, e2, b2, c2⟩ := f2 (all k hk2 (s + 1) (by omega))
    rw [t1] at e1
    rw [t2] at e2
    obtain rfl : g1 = q1 := ptr_inj (Option.some.inj e1)
    obtain rfl : g2 = q2 := ptr_inj (Option.some.inj e2)
    have f4 := f3 (all k hk2 s (by omega)) (all k hk2 (s + 1) (by omega)) g1 t1
    rw [t2] at f4
    refine ⟨hS, b1, b2, fun h => f4 (by rw [h]), ?_, ?_⟩
    · rcases Nat.lt_or_ge (s + 2) k with h | h
      · rw [all k hk2 _ h, if_pos rfl] at c1; rw [if_pos h]; exact c1
      · rw [fs k _ h] at c1; rw [if_neg (by omega)]; simpa using c1
    · rcases Nat.lt_or_ge (s + 3) k with h | h
      · rw [all k hk2 _ h, if_pos rfl] at c2; rw [if_pos h]; exact c2
      · rw [fs k _ h] at c2; rw [if_neg (by omega)]; simpa using c2
  have inn : ∀ k, s + 2 ≤ k → k ≤ ops.size → ∀ w, Blocks S g1 g2 base (if s + 2 < k then Z1 else Z) (if s + 3 < k then Z2 else Z) T w → Two S s d1 d2 base Z Z1 Z2 T (upTo ops.size k) a2 w := by
    intro k hk1 hk2 w ⟨hS, b1, b2, hn, c1, c2⟩
    refine ⟨hS, fun _ => ⟨g1, t1, b1, ?_⟩, fun _ => ⟨g2, t2, b2, ?_⟩, fun _ _ g e1 e2 => ?_⟩
    · rcases Nat.lt_or_ge (s + 2) k with h | h
      · rw [all k hk2 _ h, if_pos rfl]; rw [if_pos h] at c1; exact c1
      · rw [fs k _ h]; rw [if_neg (by omega)] at c1; simpa using c1
    · rcases Nat.lt_or_ge (s + 3) k with h | h
      · rw [all k hk2 _ h, if_pos rfl]; rw [if_pos h] at c2; exact c2
      · rw [fs k _ h]; rw [if_neg (by omega)] at c2; simpa using c2
    · rw [t1] at e1
      rw [t2] at e2
      exact hn (ptr_inj (Option.some.inj (e1.trans e2.symm)))
  refine ⟨by rw [h1]; simp, fun i hi w hR => ?_⟩
  rw [h1] at hi
  obtain rfl : i = s + 2 := by simpa using hi
  have hB := out (s + 2) (by omega) (by omega) w hR
  rw [if_neg (by omega), if_neg (by omega)] at hB
  refine wpOp_mono (fun a' w' h => ?_) (hst1 w hB)
  obtain ⟨rfl, hB1⟩ := h
  have hR1 := inn (s + 3) (by omega) (by omega) w' (by rw [if_pos (by omega), if_neg (by omega)]; exact hB1)
  refine ⟨hR1, ?_⟩
  show wpAnyR P md ops Q _ T' ops.size 1 (upTo ops.size (s + 3)) a'
  refine ⟨by rw [h2]; simp, fun i hi w2 hR2 => ?_⟩
  rw [h2] at hi
  obtain rfl : i = s + 3 := by simpa using hi
  have hB2 := out (s + 3) (by omega) (by omega) w2 hR2
  rw [if_pos (by omega), if_neg (by omega)] at hB2
  refine wpOp_mono (fun a'' w'' h => ?_) (hst2 w2 hB2)
  obtain ⟨rfl, hB3⟩ := h
  have hR3 := inn (s + 4) (by omega) (by omega) w'' (by rw [if_pos (by omega), if_pos (by omega)]; exact hB3)
  refine ⟨hR3, ?_⟩
  show wpAnyR P md ops Q _ T' ops.size 0 (upTo ops.size (s + 4)) a''
  intro w3 hR4
  have hB4 := out (s + 4) (by omega) (by omega) w3 hR4
  rw [if_pos (by omega), if_pos (by omega)] at hB4
  exact ⟨fun j hj => all (s + 4) (by omega) j (by omega), hT w3 hB4⟩

theorem SettlesB.nil {F : Act → Prop} {a : Act} (h : F a) : SettlesB P ops S F [] a := h
theorem SettlesB.off {F : Act → Prop} {o : Oper} {rest : List Oper} {a : Act} (hw : Region.wanted o (yielded ops a.tmps) = false)
    (h : SettlesB P ops S F rest (a.put o.dst undef)) : SettlesB P ops S F (o :: rest) a :=
  ⟨undef, .inr ⟨hw, rfl⟩, h⟩
theorem SettlesB.quiet {F : Act → Prop} {o : Oper} {rest : List Oper} {a : Act} {v : Value} (hw : Region.wanted o (yielded ops a.tmps) = true)
    (hv : ∀ w, S w → (execOp a.eval o).run P w = .ok (.value v) w)
    (h : SettlesB P ops S F rest (a.put o.dst v)) : SettlesB P ops S F (o :: rest) a :=
  ⟨v, .inl ⟨hw, fun w hS => by rw [hv w hS]; exact ⟨.inr rfl, hS, Below.refl _ _⟩⟩, h⟩
theorem SettlesB.call {F : Act → Prop} {o : Oper} {rest : List Oper} {a : Act} {v : Value} {f : FuncId} {args : Array Value} (hw : Region.wanted o (yielded ops a.tmps) = true)
    (hr : ∀ w, (execOp a.eval o).run P w = .ok (.enter f args) w)
    (hc : ∀ w, S w → Calls P f args w fun e w' => e = .returned v ∧ S w' ∧ Below w.heap.size w w')
    (h : SettlesB P ops S F rest (a.put o.dst v)) : SettlesB P ops S F (o :: rest) a :=
  ⟨v, .inl ⟨hw, fun w hS => by
    rw [hr w]
    exact Calls.mono (hc w hS) fun e w' ⟨he, hS'⟩ => by subst he; exact ⟨.inr rfl, hS'⟩⟩, h⟩

/-- What is left to show behind the operations that settle. -/
def Ends (P : Program) (Q : Exit → Act → World → Prop) (S : World → Prop) (d1 d2 base : Nat) (Z Z1 Z2 : Array Value) (T : TypeId) (o3 o4 : Oper) (a : Act) : Prop :=
  d1 < a.tmps.size ∧ d2 < a.tmps.size ∧ ∀ g1 g2,
        (∀ w, Blocks S g1 g2 base Z Z T w → ∃ n w', (n = .skip ∨ ∃ u, n = .value u) ∧ (execOp ((a.put (some d1) (ptr g1)).put (some d2) (ptr g2)).eval o3).run P w = .ok n w' ∧ Blocks S g1 g2 base Z1 Z T w') ∧
        (∀ w, Blocks S g1 g2 base Z1 Z T w → ∃ n w', (n = .skip ∨ ∃ u, n = .value u) ∧ (execOp ((a.put (some d1) (ptr g1)).put (some d2) (ptr g2)).eval o4).run P w = .ok n w' ∧ Blocks S g1 g2 base Z1 Z2 T w') ∧
        (∀ w, Blocks S g1 g2 base Z1 Z2 T w → Q .normal ((a.put (some d1) (ptr g1)).put (some d2) (ptr g2)) w)

/-- THE LAW: s operations that settle, two that make a block each, and the two stores into them, which end the region. -/
theorem regionTwo (S : World → Prop) (s d1 d2 base : Nat) (Z Z1 Z2 : Array Value) (T : TypeId) {o1 o2 o3 o4 : Oper} {id : Nat} {a : Act} {w : World} (hm : P.follows .mixedOrders = true) (hsel : Region.noSelect ops = true) (hsz : s + 4 = ops.size)
    (hs : seqOk .any ops s 0 (upTo ops.size 0) = true)
    (hi1 : ops[s]? = some o1) (hi2 : ops[s + 1]? = some o2) (hi3 : ops[s + 2]? = some o3) (hi4 : ops[s + 3]? = some o4) (hg1 : o1.guard = none) (hg2 : o2.guard = none) (hg3 : o3.guard = none) (hg4 : o4.guard = none)
    (hd1 : o1.dst = some d1) (hd2 : o2.dst = some d2) (hd3 : o3.dst = none) (hd4 : o4.dst = none) (hne : d1 ≠ d2)
    (h0 : Region.ready .any ops (upTo ops.size s) = [s, s + 1]) (h1 : Region.ready .any ops ((upTo ops.size s).setIfInBounds s true) = [s + 1]) (h2 : Region.ready .any ops ((upTo ops.size s).setIfInBounds (s + 1) true) = [s])
    (h3 : Region.ready .any ops (upTo ops.size (s + 2)) = [s + 2]) (h4 : Region.ready .any ops (upTo ops.size (s + 3)) = [s + 3]) (h5 : (Region.ready .any ops (upTo ops.size (s + 4))).isEmpty = true)
    (hds : ((ops.toList.take s).all fun o => o.dst != some d1 && o.dst != some d2) = true)
    (hr1 : ∀ (a : Act) (w : World), (execOp a.eval o1).run P w = .ok (.value (ptr w.heap.size)) (w.alloc (.cells Z T)))
    (hr2 : ∀ (a : Act) (w : World), (execOp a.eval o2).run P w = .ok (.value (ptr w.heap.size)) (w.alloc (.cells Z T)))
    (hSa : ∀ w, S w → S (w.alloc (.cells Z T))) (hSb : ∀ w, S w → base ≤ w.heap.size) (hS : S w.drew)
    (h : SettlesB P ops S (Ends P Q S d1 d2 base Z Z1 Z2 T o3 o4) (ops.toList.take s) a) :
    (Code.region id ops true).wp P Q a w := by
  refine wp_region_noPanic (wp_region_any hm ?_)
  have h6 := any_of_settlesR (md := .any) (ops := ops) (Q := NoPanic Q) (S := S) (R := Two S s d1 d2 base Z Z1 Z2 T) (P := P)
    (T := fun listed a w => listed = upTo ops.size (s + 4) ∧ NoPanic Q .normal a w) (F := Ends P Q S d1 d2 base Z Z1 Z2 T o3 o4) (s := s) (n := ops.size)
    (by omega) (Nat.le_refl _) hsel (fun _ _ _ _ _ h => h)
    (fun i hi listed j hj hcl hr => by
      obtain ⟨_, o, ho, _⟩ := mem_ready.1 hr
      have := (Array.getElem?_eq_some_iff.1 ho).1
      omega)
    (fun i o hi ho => by
      have hmem : o ∈ ops.toList.take s := by
        have : (ops.toList.take s)[i]? = some o := by
          rw [List.getElem?_take_of_lt hi]
          simpa using ho
        exact List.mem_of_getElem? this
      have := (List.all_eq_true.1 hds) o hmem
      simp at this
      exact two_keeps hi this.1 this.2)
    (fun a hF => by
      rw [show ops.size - s = 2 + 2 by omega]
      obtain ⟨z1, z2, hF⟩ := hF
      refine two_allocs hi1 hi2 hg1 hg2 hd1 hd2 hne hr1 hr2 h0 h1 h2 (by omega) z1 z2 hSa hSb fun g1 g2 => ?_
      obtain ⟨k1, k2, k3⟩ := hF g1 g2
      refine two_stores h3 h4 hsz hne z1 z2 (fun w hB => ?_) (fun w hB => ?_) (fun w hB => ⟨rfl, k3 w hB⟩)
      · obtain ⟨n, w', hn, hr, hB'⟩ := k1 w hB
        exact store_wp hi3 hg3 hd3 hn hr ⟨rfl, hB'⟩
      · obtain ⟨n, w', hn, hr, hB'⟩ := k2 w hB
        exact store_wp hi4 hg4 hd4 hn hr ⟨rfl, hB'⟩)
    s 0 a (by simp) closed_none hs (by simpa only [List.drop_zero] using h)
  have h7 := wpAny_of_R (m := 0) (fun listed a w h => by
    obtain ⟨rfl, hq⟩ := h
    exact ⟨by simpa using h5, hq⟩) _ _ _ _ (by
    have hz : ∀ i, (upTo ops.size 0).getD i false = false := fun i => by
      rcases Nat.lt_or_ge i ops.size with h | h
      · simp [upTo, h]
      · simp [upTo, Nat.not_lt.2 h]
    exact ⟨hS, fun h => (by rw [hz] at h; cases h), fun h => (by rw [hz] at h; cases h), fun h => (by rw [hz] at h; cases h)⟩) h6
  rw [show s + (ops.size - s) + 0 = ops.size by omega] at h7
  simpa [upTo] using h7
end
end Go.Proofs.Ytcfoleiooohbhaa.SettleA

/-
  Rows that the call itself made: their shape, their cells, that they stay.
-/
namespace Go.Proofs.Ytcfoleiooohbhaa.Own
open Go.RowKit

theorem own_shape {w : World} {b e sz n : Nat} {v : Value} {xs : List Value} (h : w.ownsRow b e sz v n xs) : ∃ A cap, v = .slice A n cap := by
  rcases h.2 with ⟨rfl, rfl⟩ | ⟨g, cap, cu, rfl, _⟩
  · exact ⟨_, _, rfl⟩
  · exact ⟨_, _, rfl⟩
/-- The cell of a row's element. -/
theorem own_cell {w : World} {b e n cap j : Nat} {A : Option Addr} {xs : List Value} {x : Value} (h : w.ownsRow b e 1 (.slice A n cap) n xs) (hj : j < n) (hx : xs[j]? = some x) :
    ∃ g, A = some ⟨g, 0, none⟩ ∧ b ≤ g ∧ g < w.heap.size ∧ w.cell? ⟨g, j, none⟩ = some x ∧ w.frozen? ⟨g, j, none⟩ = false := by
  obtain ⟨g, cap', hv, hb, hlt⟩ := h.form (by omega)
  obtain ⟨rfl, rfl⟩ : A = some ⟨g, 0, none⟩ ∧ cap = cap' := by injection hv with h1 _ h3; exact ⟨h1, h3⟩
  exact ⟨g, rfl, hb, hlt, by rw [h.cellAt j (by omega)]; exact hx, h.frozenAt j⟩
theorem own_below {w w' : World} {b e sz n : Nat} {v : Value} {xs : List Value} (h : w.ownsRow b e sz v n xs) (hb : Below w.heap.size w w') : w'.ownsRow b e sz v n xs := by
  refine h.kept (row := none) ⟨hb.os, hb.tape, hb.output, hb.size, fun k hk _ => hb.block k hk⟩ ?_
  cases hv : v.ownBlock with
  | none => exact .inl rfl
  | some g => exact .inr (by simp)
theorem grown_of_below {w w' : World} (h : Below w.heap.size w w') (row : Option Nat) : w.grownBy w' row := ⟨h.os, h.tape, h.output, h.size, fun k hk _ => h.block k hk⟩
theorem grown_trans {a b c : World} {row : Option Nat} (h : a.grownBy b row) (k : b.grownBy c row) : a.grownBy c row :=
  ⟨k.os.trans h.os, k.tape.trans h.tape, k.output.trans h.output, Nat.le_trans h.size k.size, fun i hi hne => (k.block i (Nat.lt_of_lt_of_le hi h.size) hne).trans (h.block i hi hne)⟩

/-- An elder row and one that was made later lie in different blocks. -/
theorem own_elder {w w' : World} {b e1 e2 s1 s2 n1 n2 : Nat} {v f : Value} {xs ys : List Value} (h1 : w.ownsRow b e1 s1 v n1 xs) (h2 : w'.ownsRow w.heap.size e2 s2 f n2 ys) : v.ownBlock = none ∨ v.ownBlock ≠ f.ownBlock := by
  cases hv : v.ownBlock with
  | none => exact .inl rfl
  | some g =>
    refine .inr fun e => ?_
    have := (h1.lt g hv).2
    have := (h2.lt g e.symm).1
    omega
theorem drewN_below {w : World} (k : Nat) : Below w.heap.size w (w.drewN k) := ⟨rfl, rfl, rfl, Nat.le_refl _, fun _ _ => rfl⟩
def icells (l : List Int) : List Value := l.map (.int .i64)
theorem icells_length (l : List Int) : (icells l).length = l.length := by simp [icells]
theorem icells_at {l : List Int} {j : Nat} (h : j < l.length) : (icells l)[j]? = some (.int .i64 l[j]) := by simp [icells, h]
theorem icells_snoc (l : List Int) (x : Int) : icells (l ++ [x]) = icells l ++ [.int .i64 x] := by simp [icells]

/-- A row of the call's own is one of a lower base. -/
theorem own_base {w : World} {b b' e sz n : Nat} {v : Value} {xs : List Value} (h : w.ownsRow b e sz v n xs) (hb : b' ≤ b) : w.ownsRow b' e sz v n xs := by
  refine ⟨h.1, ?_⟩
  rcases h.2 with h' | ⟨g, cap, cur, h1, h2, h3⟩
  · exact .inl h'
  · exact .inr ⟨g, cap, cur, h1, Nat.le_trans hb h2, h3⟩
/-- A slice of no elements that the call has just made. -/
theorem own_empty (w : World) (e sz : Nat) : (w.alloc (.cells #[] e)).ownsRow w.heap.size e sz (.slice (some ⟨w.heap.size, 0, none⟩) 0 0) 0 [] :=
  ⟨by simp, .inr ⟨w.heap.size, 0, #[], rfl, Nat.le_refl _, heap_alloc_new w _, Nat.le_refl _, Nat.zero_le _, by simp, by simp⟩⟩
theorem kept_ne {w w' : World} {b e sz n g : Nat} {v : Value} {xs : List Value} (h : w.ownsRow b e sz v n xs) (hg : w.grownBy w' (some g)) (hne : ∀ k, v.ownBlock = some k → k ≠ g) : w'.ownsRow b e sz v n xs := by
  refine h.kept hg ?_
  cases hv : v.ownBlock with
  | none => exact .inl rfl
  | some k => exact .inr (fun e => hne k hv (by injection e))
theorem kept_apart {w w' : World} {b e sz n : Nat} {v u : Value} {xs : List Value} (h : w.ownsRow b e sz v n xs) (hg : w.grownBy w' u.ownBlock) (hne : ∀ k j, v.ownBlock = some k → u.ownBlock = some j → k ≠ j) : w'.ownsRow b e sz v n xs := by
  refine h.kept hg ?_
  cases hv : v.ownBlock with
  | none => exact .inl rfl
  | some k => exact .inr (fun e => hne k k hv e.symm rfl)
/-- Points came back in new memory. -/
def GivesC (T : TypeId) (sz : Nat) (w : World) (n : Nat) (xs : List Value) (en : Ending) (w' : World) : Prop :=
  ∃ A c, en = .returned (.slice A n c) ∧ w'.ownsRow w.heap.size T sz (.slice A n c) n xs ∧ Below w.heap.size w w'
/-- Numbers came back in new memory. -/
def GivesI (T : TypeId) (w : World) (l : List Int) (en : Ending) (w' : World) : Prop :=
  ∃ A c, en = .returned (.slice A l.length c) ∧ w'.ownsRow w.heap.size T 1 (.slice A l.length c) l.length (icells l) ∧ Below w.heap.size w w'
end Go.Proofs.Ytcfoleiooohbhaa.Own

/-
  What the model's test on points does, as a contract; the boxes that a call makes of its points; new memory alone is written.
-/
namespace Go.Proofs.Ytcfoleiooohbhaa.PointOk
open Go.RowKit PointMath

theorem ret_bool {a b : Bool} (h : a = b) : Ending.returned (.bool a) = .returned (.bool b) := by rw [h]
theorem ret_i64 {a b : Int} (h : a = b) : Ending.returned (.int .i64 a) = .returned (.int .i64 b) := by rw [h]

theorem l01In (x a b : Int) (w : World) : Calls Try.prog 74 #[.int .i64 x, .int .i64 a, .int .i64 b] w fun e w' => e = .returned (.bool (decide (a ≤ x ∧ x ≤ b))) ∧ w = w' := by
  by_cases h1 : a ≤ x
  · by_cases h2 : x ≤ b
    · have H : Hid (decide (a ≤ x ∧ x ≤ b) = true) := Lib.hid (by simp [h1, h2])
      generalize decide (a ≤ x ∧ x ≤ b) = r at H ⊢
      go_enter Try.func74, Try.ntmps74
      go_wp2_with fail
      go_ret
      exact ⟨ret_bool (by rw [H.out]), rfl⟩
    · have H : Hid (decide (a ≤ x ∧ x ≤ b) = false) := Lib.hid (by simp; omega)
      generalize decide (a ≤ x ∧ x ≤ b) = r at H ⊢
      go_enter Try.func74, Try.ntmps74
      go_wp2_with fail
      go_ret
      exact ⟨ret_bool (by rw [H.out]), rfl⟩
  · have H : Hid (decide (a ≤ x ∧ x ≤ b) = false) := Lib.hid (by simp; omega)
    generalize decide (a ≤ x ∧ x ≤ b) = r at H ⊢
    go_enter Try.func74, Try.ntmps74
    go_wp2_with fail
    go_ret
    exact ⟨ret_bool (by rw [H.out]), rfl⟩

theorem below1 (w : World) (o : Obj) : Below w.heap.size w (w.alloc o) := (Below.refl _ _).alloc (Nat.le_refl _) o
theorem below2 (w : World) (o1 o2 : Obj) : Below w.heap.size w ((w.alloc o1).alloc o2) := (below1 w o1).alloc (by simp) o2
theorem below3 (w : World) (o1 o2 o3 : Obj) : Below w.heap.size w (((w.alloc o1).alloc o2).alloc o3) := (below2 w o1 o2).alloc (by simp; omega) o3

/-- A box of the call's own that holds a point. -/
def Box (w : World) (k : Nat) (x y : Int) : Prop := w.cell? ⟨k, 0, none⟩ = some (.int .i64 x) ∧ w.cell? ⟨k, 1, none⟩ = some (.int .i64 y)
theorem Box.later {w w' : World} {k : Nat} {x y : Int} (h : Box w k x y) (hb : Below w.heap.size w w') : Box w' k x y := ⟨cell_later hb h.1, cell_later hb h.2⟩
theorem Box.laterB {w w' : World} {b k : Nat} {x y : Int} (h : Box w k x y) (hk : k < b) (hb : Below b w w') : Box w' k x y := ⟨(hb.cell hk).trans h.1, (hb.cell hk).trans h.2⟩
theorem Box.alloc {w : World} {k : Nat} {x y : Int} (h : Box w k x y) (o : Obj) : Box (w.alloc o) k x y := h.later (below1 w o)
theorem box1 (w : World) (x y : Int) (T : TypeId) {k : Nat} (hk : k = w.heap.size) : Box (w.alloc (.cells #[.int .i64 x, .int .i64 y] T)) k x y := by
  subst hk
  have hn := heap_alloc_new w (.cells #[.int .i64 x, .int .i64 y] T)
  exact ⟨World.news_of_block hn 0 _ (by simp), World.news_of_block hn 1 _ (by simp)⟩

theorem below4 (w : World) (o1 o2 o3 o4 : Obj) : Below w.heap.size w ((((w.alloc o1).alloc o2).alloc o3).alloc o4) := (below3 w o1 o2 o3).alloc (by simp; omega) o4

/-- A box of the call's own that holds a wall: two points. -/
def Box4 (w : World) (k : Nat) (a b c d : Int) : Prop :=
  w.cell? ⟨k, 0, none⟩ = some (.int .i64 a) ∧ w.cell? ⟨k, 1, none⟩ = some (.int .i64 b) ∧ w.cell? ⟨k, 2, none⟩ = some (.int .i64 c) ∧ w.cell? ⟨k, 3, none⟩ = some (.int .i64 d)
theorem Box4.later {w w' : World} {k : Nat} {a b c d : Int} (h : Box4 w k a b c d) (hb : Below w.heap.size w w') : Box4 w' k a b c d :=
  ⟨cell_later hb h.1, cell_later hb h.2.1, cell_later hb h.2.2.1, cell_later hb h.2.2.2⟩
theorem Box4.alloc {w : World} {k : Nat} {a b c d : Int} (h : Box4 w k a b c d) (o : Obj) : Box4 (w.alloc o) k a b c d := h.later (below1 w o)
theorem box4 (w : World) (a b c d : Int) (T : TypeId) {k : Nat} (hk : k = w.heap.size) : Box4 (w.alloc (.cells #[.int .i64 a, .int .i64 b, .int .i64 c, .int .i64 d] T)) k a b c d := by
  subst hk
  have hn := heap_alloc_new w (.cells #[.int .i64 a, .int .i64 b, .int .i64 c, .int .i64 d] T)
  exact ⟨World.news_of_block hn 0 _ (by simp), World.news_of_block hn 1 _ (by simp), World.news_of_block hn 2 _ (by simp), World.news_of_block hn 3 _ (by simp)⟩

end Go.Proofs.Ytcfoleiooohbhaa.PointOk

/-
  Blocks of a call's own, whole: what they hold, what stays, what a store leaves. No program stands here.
-/
namespace Go.Proofs.Ytcfoleiooohbhaa.Blk
open Go.RowKit PointOk

theorem set_own {w : World} {cb : Nat} {cs : Array Value} {t : TypeId} {fr : Nat × Nat} (h : w.heap[cb]? = some (.cells cs t fr)) (k : Nat) (v : Value) :
    (w.setCell ⟨cb, k, none⟩ v).heap[cb]? = some (.cells (cs.setIfInBounds k v) t fr) := by
  simp [World.setCell, Array.getElem?_modify, h]
/-- A block of the call's own, not frozen. -/
def Holds (w : World) (k : Nat) (cs : Array Value) (T : TypeId) : Prop := w.heap[k]? = some (.cells cs T (0, 0))
theorem Holds.below {w w' : World} {k : Nat} {cs : Array Value} {T : TypeId} (h : Holds w k cs T) (hb : Below w.heap.size w w') (hk : k < w.heap.size) : Holds w' k cs T := (hb.block k hk).trans h
theorem Holds.later {w w' : World} {k : Nat} {cs : Array Value} {T : TypeId} (h : Holds w k cs T) (hb : Below w.heap.size w w') : Holds w' k cs T := h.below hb (Array.getElem?_eq_some_iff.1 h).1
theorem Holds.new (w : World) (cs : Array Value) (T : TypeId) : Holds (w.alloc (Obj.cells cs T)) w.heap.size cs T := heap_alloc_new w _
theorem Holds.lt {w : World} {k : Nat} {cs : Array Value} {T : TypeId} (h : Holds w k cs T) : k < w.heap.size := (Array.getElem?_eq_some_iff.1 h).1
theorem Holds.alloc {w : World} {k : Nat} {cs : Array Value} {T : TypeId} (h : Holds w k cs T) (o : Obj) : Holds (w.alloc o) k cs T := h.later (below1 w o)
theorem Holds.box (w : World) (cs : Array Value) (T : TypeId) {k : Nat} (hk : k = w.heap.size) : Holds (w.alloc (Obj.cells cs T)) k cs T := by subst hk; exact Holds.new w cs T
theorem Holds.far {w : World} {k : Nat} {cs : Array Value} {T : TypeId} (h : Holds w k cs T) (p : Addr) (v : Value) (hne : k ≠ p.block) : Holds (w.setCell p v) k cs T := (Below.heap_setCell w p v k hne).trans h
theorem Holds.four {w : World} {k : Nat} {a b c d : Value} {T : TypeId} (h : Holds w k #[a, b, c, d] T) :
    (w.cell? ⟨k, 0, none⟩ = some a ∧ w.cell? ⟨k, 1, none⟩ = some b ∧ w.cell? ⟨k, 2, none⟩ = some c ∧ w.cell? ⟨k, 3, none⟩ = some d) ∧
    w.frozen? ⟨k, 0, none⟩ = false ∧ w.frozen? ⟨k, 1, none⟩ = false ∧ w.frozen? ⟨k, 2, none⟩ = false ∧ w.frozen? ⟨k, 3, none⟩ = false := by
  have c0 := cell_of_row w k 0 _ _ _ h
  have c1 := cell_of_row w k 1 _ _ _ h
  have c2 := cell_of_row w k 2 _ _ _ h
  have c3 := cell_of_row w k 3 _ _ _ h
  unfold Holds at h
  simp at c0 c1 c2 c3
  exact ⟨⟨c0, c1, c2, c3⟩, by simp [World.frozen?, h], by simp [World.frozen?, h], by simp [World.frozen?, h], by simp [World.frozen?, h]⟩
theorem Holds.three {w : World} {k : Nat} {a b c : Value} {T : TypeId} (h : Holds w k #[a, b, c] T) : w.cell? ⟨k, 0, none⟩ = some a ∧ w.cell? ⟨k, 1, none⟩ = some b ∧ w.cell? ⟨k, 2, none⟩ = some c := by
  have c0 := cell_of_row w k 0 _ _ _ h
  have c1 := cell_of_row w k 1 _ _ _ h
  have c2 := cell_of_row w k 2 _ _ _ h
  exact ⟨c0, c1, c2⟩
theorem boxI (w : World) (z : Int) (T : TypeId) {k : Nat} (hk : k = w.heap.size) : (w.alloc (.cells #[.int .i64 z] T)).cell? ⟨k, 0, none⟩ = some (.int .i64 z) := by
  subst hk
  exact World.news_of_block (heap_alloc_new w (.cells #[.int .i64 z] T)) 0 _ (by simp)
theorem Holds.one {w : World} {k : Nat} {a : Value} {T : TypeId} (h : Holds w k #[a] T) : w.cell? ⟨k, 0, none⟩ = some a ∧ w.frozen? ⟨k, 0, none⟩ = false := by
  have c0 := cell_of_row w k 0 _ _ _ h
  unfold Holds at h
  simp at c0
  exact ⟨c0, by simp [World.frozen?, h]⟩
theorem Holds.two {w : World} {k : Nat} {a b : Value} {T : TypeId} (h : Holds w k #[a, b] T) :
    (w.cell? ⟨k, 0, none⟩ = some a ∧ w.cell? ⟨k, 1, none⟩ = some b) ∧ w.frozen? ⟨k, 0, none⟩ = false ∧ w.frozen? ⟨k, 1, none⟩ = false := by
  have c0 := cell_of_row w k 0 _ _ _ h
  have c1 := cell_of_row w k 1 _ _ _ h
  unfold Holds at h
  simp at c0 c1
  exact ⟨⟨c0, c1⟩, by simp [World.frozen?, h], by simp [World.frozen?, h]⟩
end Go.Proofs.Ytcfoleiooohbhaa.Blk

/-
  Lists of points that lie in memory, as slices of structs of two numbers; what reads them. No program stands here.
-/
namespace Go.Proofs.Ytcfoleiooohbhaa.Pts
open Go.RowKit PointOk Blk

/-- The slice at A holds these points, in blocks below b. -/
def PtsAt (w : World) (b : Nat) (A : Option Addr) (ps : List (Int × Int)) : Prop :=
  ∀ j (h : j < ps.length), ∃ ad, A = some ad ∧ ad.block < b ∧ w.cell? (ad.add (j * 2)) = some (.int .i64 ps[j].1) ∧ w.cell? ⟨(ad.add (j * 2)).block, (ad.add (j * 2)).off + 1, none⟩ = some (.int .i64 ps[j].2)
theorem block_add (a : Addr) (j : Nat) : (a.add j).block = a.block := by unfold Addr.add; split <;> rfl
theorem PtsAt.later {w w' : World} {b : Nat} {A : Option Addr} {ps : List (Int × Int)} (h : PtsAt w b A ps) (hb : Below b w w') : PtsAt w' b A ps := by
  intro j hj
  obtain ⟨ad, h1, h2, h3, h4⟩ := h j hj
  exact ⟨ad, h1, h2, (hb.cell (by rw [block_add]; exact h2)).trans h3, (hb.cell (by show (ad.add (j * 2)).block < b; rw [block_add]; exact h2)).trans h4⟩
theorem PtsAt.wide {w : World} {b b' : Nat} {A : Option Addr} {ps : List (Int × Int)} (h : PtsAt w b A ps) (hb : b ≤ b') : PtsAt w b' A ps := by
  intro j hj
  obtain ⟨ad, h1, h2, h3, h4⟩ := h j hj
  exact ⟨ad, h1, Nat.lt_of_lt_of_le h2 hb, h3, h4⟩

/-- Point number j of the slice at ad. -/
def PtAt (w : World) (ad : Addr) (j : Nat) (x y : Int) : Prop := w.cell? (ad.add (j * 2)) = some (.int .i64 x) ∧ w.cell? ⟨(ad.add (j * 2)).block, (ad.add (j * 2)).off + 1, none⟩ = some (.int .i64 y)
theorem PtAt.later {w w' : World} {b : Nat} {ad : Addr} {j : Nat} {x y : Int} (h : PtAt w ad j x y) (ha : ad.block < b) (hb : Below b w w') : PtAt w' ad j x y :=
  ⟨(hb.cell (by rw [block_add]; exact ha)).trans h.1, (hb.cell (by show (ad.add (j * 2)).block < b; rw [block_add]; exact ha)).trans h.2⟩
theorem PtsAt.at_ {w : World} {b : Nat} {A : Option Addr} {ps : List (Int × Int)} (h : PtsAt w b A ps) (j : Nat) (hj : j < ps.length) : ∃ ad, A = some ad ∧ ad.block < b ∧ PtAt w ad j ps[j].1 ps[j].2 := by
  obtain ⟨ad, h1, h2, h3, h4⟩ := h j hj
  exact ⟨ad, h1, h2, h3, h4⟩

theorem PtsAt.get {w : World} {b : Nat} {A : Option Addr} {ps : List (Int × Int)} (h : PtsAt w b A ps) {j : Nat} {x y : Int} (hj : ps[j]? = some (x, y)) : ∃ ad, A = some ad ∧ ad.block < b ∧ PtAt w ad j x y := by
  obtain ⟨hl, e⟩ := List.getElem?_eq_some_iff.1 hj
  have := h.at_ j hl
  rw [e] at this
  exact this

/-- The first point of the slice at ad. -/
def PtHere (w : World) (ad : Addr) (x y : Int) : Prop := w.cell? ad = some (.int .i64 x) ∧ w.cell? ⟨ad.block, ad.off + 1, none⟩ = some (.int .i64 y)
theorem PtHere.later {w w' : World} {b : Nat} {ad : Addr} {x y : Int} (h : PtHere w ad x y) (ha : ad.block < b) (hb : Below b w w') : PtHere w' ad x y :=
  ⟨(hb.cell ha).trans h.1, (hb.cell (by show ad.block < b; exact ha)).trans h.2⟩
theorem PtAt.zero {w : World} {ad : Addr} {x y : Int} (h : PtAt w ad 0 x y) : PtHere w ad x y := by
  obtain ⟨h1, h2⟩ := h
  simp [Addr.add] at h1 h2
  exact ⟨h1, h2⟩

/-- A box of the call's own that holds a slice (a room). -/
def BoxR (w : World) (k : Nat) (v : Value) : Prop := w.cell? ⟨k, 0, none⟩ = some v ∧ True
theorem BoxR.later {w w' : World} {k : Nat} {v : Value} (h : BoxR w k v) (hb : Below w.heap.size w w') : BoxR w' k v := ⟨cell_later hb h.1, trivial⟩
theorem BoxR.alloc {w : World} {k : Nat} {v : Value} (h : BoxR w k v) (o : Obj) : BoxR (w.alloc o) k v := h.later (below1 w o)
theorem boxR (w : World) (v : Value) (T : TypeId) {k : Nat} (hk : k = w.heap.size) : BoxR (w.alloc (.cells #[v] T)) k v := by
  subst hk
  exact ⟨World.news_of_block (heap_alloc_new w (.cells #[v] T)) 0 _ (by simp), trivial⟩

/-- The cells of a list of points. -/
def cellsP : List (Int × Int) → List Value
  | [] => []
  | p :: ps => .int .i64 p.1 :: .int .i64 p.2 :: cellsP ps
theorem cellsP_length : ∀ ps, (cellsP ps).length = ps.length * 2
  | [] => rfl
  | p :: ps => by simp [cellsP, cellsP_length ps]; omega
theorem cellsP_at : ∀ (ps : List (Int × Int)) (j : Nat) (h : j < ps.length), (cellsP ps)[j * 2]? = some (.int .i64 ps[j].1) ∧ (cellsP ps)[j * 2 + 1]? = some (.int .i64 ps[j].2)
  | [], _, h => by simp at h
  | p :: ps, 0, _ => by simp [cellsP]
  | p :: ps, j + 1, h => by
    have := cellsP_at ps j (by simpa using h)
    rw [show (j + 1) * 2 = j * 2 + 1 + 1 by omega]
    simpa [cellsP] using this
theorem cellsP_set : ∀ (ps : List (Int × Int)) (j : Nat) (x y : Int), ((cellsP ps).set (j * 2) (.int .i64 x)).set (j * 2 + 1) (.int .i64 y) = cellsP (ps.set j (x, y))
  | [], _, _, _ => by simp [cellsP]
  | p :: ps, 0, _, _ => by simp [cellsP]
  | p :: ps, j + 1, x, y => by
    rw [show (j + 1) * 2 = j * 2 + 1 + 1 by omega]
    simpa [cellsP] using cellsP_set ps j x y
theorem cellsP_zeros : ∀ n, cellsP (List.replicate n (0, 0)) = List.replicate (n * 2) (.int .i64 0)
  | 0 => rfl
  | n + 1 => by
    rw [show (n + 1) * 2 = n * 2 + 1 + 1 by omega, List.replicate_succ, List.replicate_succ, List.replicate_succ, ← cellsP_zeros n]
    rfl

/-- A block of the call's own that holds these points, and no more. -/
def Row (w : World) (g : Nat) (T : TypeId) (ps : List (Int × Int)) : Prop := Holds w g (cellsP ps).toArray T
theorem Row.facts {w : World} {g : Nat} {T : TypeId} {ps : List (Int × Int)} (h : Row w g T ps) (j : Nat) (hj : j < ps.length) :
    (w.cell? ⟨g, j * 2, none⟩ = some (.int .i64 ps[j].1) ∧ w.cell? ⟨g, j * 2 + 1, none⟩ = some (.int .i64 ps[j].2)) ∧ w.frozen? ⟨g, j * 2, none⟩ = false ∧ w.frozen? ⟨g, j * 2 + 1, none⟩ = false := by
  obtain ⟨e0, e1⟩ := cellsP_at ps j hj
  have c0 := cell_of_row w g (j * 2) _ _ _ h
  have c1 := cell_of_row w g (j * 2 + 1) _ _ _ h
  unfold Row Holds at h
  rw [List.getElem?_toArray] at c0 c1
  exact ⟨⟨c0.trans e0, c1.trans e1⟩, by simp [World.frozen?, h], by simp [World.frozen?, h]⟩
theorem add_head (g k : Nat) : (⟨g, 0, none⟩ : Addr).add k = ⟨g, k, none⟩ := by
  unfold Addr.add; split <;> simp_all
theorem Row.pts {w : World} {g b : Nat} {T : TypeId} {ps : List (Int × Int)} (h : Row w g T ps) (hg : g < b) : PtsAt w b (some ⟨g, 0, none⟩) ps := by
  intro j hj
  obtain ⟨⟨c0, c1⟩, _⟩ := h.facts j hj
  exact ⟨_, rfl, hg, by rw [add_head]; exact c0, by rw [add_head]; exact c1⟩
theorem Row.set {w : World} {g : Nat} {T : TypeId} {ps : List (Int × Int)} (h : Row w g T ps) (j : Nat) (x y : Int) :
    Row ((w.setCell ⟨g, j * 2, none⟩ (.int .i64 x)).setCell ⟨g, j * 2 + 1, none⟩ (.int .i64 y)) g T (ps.set j (x, y)) := by
  have := set_own (set_own h (j * 2) (.int .i64 x)) (j * 2 + 1) (.int .i64 y)
  rw [List.setIfInBounds_toArray, List.setIfInBounds_toArray, cellsP_set] at this
  exact this
theorem Row.below {w w' : World} {g : Nat} {T : TypeId} {ps : List (Int × Int)} (h : Row w g T ps) (hb : Below w.heap.size w w') (hg : g < w.heap.size) : Row w' g T ps := Holds.below h hb hg
theorem Row.later {w w' : World} {g : Nat} {T : TypeId} {ps : List (Int × Int)} (h : Row w g T ps) (hb : Below w.heap.size w w') : Row w' g T ps := Holds.later h hb
theorem Row.ptsIn {w : World} {g : Nat} {T : TypeId} {ps : List (Int × Int)} (h : Row w g T ps) : PtsAt w w.heap.size (some ⟨g, 0, none⟩) ps := h.pts (Array.getElem?_eq_some_iff.1 h).1
theorem Row.far {w : World} {g : Nat} {T : TypeId} {ps : List (Int × Int)} (h : Row w g T ps) (p : Addr) (v : Value) (hne : g ≠ p.block) : Row (w.setCell p v) g T ps := Holds.far h p v hne
theorem Row.of_owns {w : World} {b g n : Nat} {T : TypeId} {ps : List (Int × Int)} (h : w.ownsRow b T 2 (.slice (some ⟨g, 0, none⟩) n n) n (cellsP ps)) : Row w g T ps ∧ b ≤ g ∧ g < w.heap.size := by
  rcases h.2 with ⟨h', _⟩ | ⟨g', cap', cu, h', hb, hg, _, _, hs, ht⟩
  · cases h'
  · injection h' with h1 h2 h3
    injection h1 with h1
    injection h1 with h1
    subst h1; subst h3
    refine ⟨?_, hb, (Array.getElem?_eq_some_iff.1 hg).1⟩
    unfold Row Holds
    rw [hg, ← ht, List.take_of_length_le (by simp [hs])]
end Go.Proofs.Ytcfoleiooohbhaa.Pts

/-
  Lists of integers that lie in memory, as slices of numbers; what reads them; a slice of numbers that comes in. No program stands here.
-/
namespace Go.Proofs.Ytcfoleiooohbhaa.Ints
open Go Go.RowKit PointOk Blk Own Go.ChangeShapes Go.WideShapes
open Pts (add_head)

/-- The slice at A holds these numbers, in blocks below b. -/
def IntsAt (w : World) (b : Nat) (A : Option Addr) (zs : List Int) : Prop :=
  ∀ j (h : j < zs.length), ∃ ad, A = some ad ∧ ad.block < b ∧ w.cell? (ad.add j) = some (.int .i64 zs[j])
theorem IntsAt.later {w w' : World} {b : Nat} {A : Option Addr} {zs : List Int} (h : IntsAt w b A zs) (hb : Below b w w') : IntsAt w' b A zs := by
  intro j hj
  obtain ⟨ad, h1, h2, h3⟩ := h j hj
  exact ⟨ad, h1, h2, (hb.cell (by rw [Pts.block_add]; exact h2)).trans h3⟩
theorem IntsAt.wide {w : World} {b b' : Nat} {A : Option Addr} {zs : List Int} (h : IntsAt w b A zs) (hb : b ≤ b') : IntsAt w b' A zs := by
  intro j hj
  obtain ⟨ad, h1, h2, h3⟩ := h j hj
  exact ⟨ad, h1, Nat.lt_of_lt_of_le h2 hb, h3⟩
/-- Number j of the slice at ad. -/
def IntAt (w : World) (ad : Addr) (j : Nat) (x : Int) : Prop := w.cell? (ad.add j) = some (.int .i64 x) ∧ True
theorem IntAt.later {w w' : World} {b : Nat} {ad : Addr} {j : Nat} {x : Int} (h : IntAt w ad j x) (ha : ad.block < b) (hb : Below b w w') : IntAt w' ad j x :=
  ⟨(hb.cell (by rw [Pts.block_add]; exact ha)).trans h.1, trivial⟩
theorem IntsAt.get {w : World} {b : Nat} {A : Option Addr} {zs : List Int} (h : IntsAt w b A zs) {j : Nat} {x : Int} (hj : zs[j]? = some x) : ∃ ad, A = some ad ∧ ad.block < b ∧ IntAt w ad j x := by
  obtain ⟨hl, e⟩ := List.getElem?_eq_some_iff.1 hj
  obtain ⟨ad, h1, h2, h3⟩ := h j hl
  exact ⟨ad, h1, h2, by rw [e] at h3; exact h3, trivial⟩

/-- The first number of the slice at ad. -/
def IntHere (w : World) (ad : Addr) (x : Int) : Prop := w.cell? ad = some (.int .i64 x) ∧ True
theorem IntHere.later {w w' : World} {b : Nat} {ad : Addr} {x : Int} (h : IntHere w ad x) (ha : ad.block < b) (hb : Below b w w') : IntHere w' ad x := ⟨(hb.cell ha).trans h.1, trivial⟩
theorem here {w : World} {ad : Addr} {x : Int} (h : IntAt w ad 0 x) : IntHere w ad x := by
  refine ⟨?_, trivial⟩
  have := h.1
  simpa [Addr.add] using this

/-- The second number of the slice at ad. -/
def IntNext (w : World) (ad : Addr) (x : Int) : Prop := w.cell? ⟨ad.block, ad.off + 1, none⟩ = some (.int .i64 x) ∧ True
theorem IntNext.later {w w' : World} {b : Nat} {ad : Addr} {x : Int} (h : IntNext w ad x) (ha : ad.block < b) (hb : Below b w w') : IntNext w' ad x := ⟨(hb.cell (by exact ha)).trans h.1, trivial⟩
theorem next {w : World} {ad : Addr} {x : Int} (h : IntAt w ad 1 x) : IntNext w ad x := by
  refine ⟨?_, trivial⟩
  have := h.1
  simpa [Addr.add] using this

/-- A block of the call's own that holds just these numbers. -/
def Row (w : World) (g : Nat) (T : TypeId) (zs : List Int) : Prop := Holds w g (icells zs).toArray T
theorem Row.facts {w : World} {g : Nat} {T : TypeId} {zs : List Int} (h : Row w g T zs) (j : Nat) (hj : j < zs.length) :
    w.cell? ⟨g, j, none⟩ = some (.int .i64 zs[j]) ∧ w.frozen? ⟨g, j, none⟩ = false := by
  have hx := icells_at hj
  have c0 := cell_of_row w g j _ _ _ h
  unfold Row Holds at h
  rw [List.getElem?_toArray] at c0
  exact ⟨c0.trans hx, by simp [World.frozen?, h]⟩
theorem Row.ints {w : World} {g b : Nat} {T : TypeId} {zs : List Int} (h : Row w g T zs) (hg : g < b) : IntsAt w b (some ⟨g, 0, none⟩) zs :=
  fun j hj => ⟨_, rfl, hg, by rw [add_head]; exact (h.facts j hj).1⟩
theorem Row.set {w : World} {g : Nat} {T : TypeId} {zs : List Int} (h : Row w g T zs) (j : Nat) (x : Int) : Row (w.setCell ⟨g, j, none⟩ (.int .i64 x)) g T (zs.set j x) := by
  have e := set_own h j (.int .i64 x)
  have e2 : (icells (zs.set j x)) = (icells zs).set j (.int .i64 x) := by simp [icells, List.map_set]
  unfold Row Holds
  rw [e2]
  simpa using e
theorem Row.below {w w' : World} {g : Nat} {T : TypeId} {zs : List Int} (h : Row w g T zs) (hb : Below w.heap.size w w') (hg : g < w.heap.size) : Row w' g T zs := Holds.below h hb hg
theorem Row.later {w w' : World} {g : Nat} {T : TypeId} {zs : List Int} (h : Row w g T zs) (hb : Below w.heap.size w w') : Row w' g T zs := Holds.later h hb
theorem Row.intsIn {w : World} {g : Nat} {T : TypeId} {zs : List Int} (h : Row w g T zs) : IntsAt w w.heap.size (some ⟨g, 0, none⟩) zs := h.ints (Array.getElem?_eq_some_iff.1 h).1
theorem Row.ptsIn {w : World} {g : Nat} {T : TypeId} {zs : List Int} (h : Row w g T zs) : IntsAt w w.heap.size (some ⟨g, 0, none⟩) zs := h.intsIn
theorem Row.of_owns {w : World} {b g n : Nat} {T : TypeId} {zs : List Int} (h : w.ownsRow b T 1 (.slice (some ⟨g, 0, none⟩) n n) n (icells zs)) : Row w g T zs ∧ b ≤ g ∧ g < w.heap.size := by
  rcases h.2 with ⟨h', _⟩ | ⟨g', cap', cu, h', hb, hg, _, _, hs, ht⟩
  · cases h'
  · injection h' with h1 h2 h3
    injection h1 with h1
    injection h1 with h1
    subst h1; subst h3
    refine ⟨?_, hb, (Array.getElem?_eq_some_iff.1 hg).1⟩
    unfold Row Holds
    rw [hg, ← ht, List.take_of_length_le (by simp [hs])]

section
variable {H : Type} {enc : TypeId × Value → H} {P : Program} {w : World} {base : Nat} {spare : Nat → Bool} {held : Bool}
/-- A slice of numbers that comes in. -/
theorem ints_of {t e : TypeId} {fuel : Nat} {u : Value} {x : DataW H × List MemPlace} (ht : P.underlying t = some (.slice e)) (he : P.underlying e = some (.int .i64)) (hc : P.cellsOf e = 1)
    (h : DataW.trod enc P w base spare held fuel t [u] = some x) : ∃ (A : Option Addr) (n cap : Nat) (zs : List Int), u = .slice A n cap ∧ n ≤ maxLen ∧ zs.length = n ∧ IntsAt w w.heap.size A zs := by
  rcases open_ints ht he hc h with ⟨hcs, _⟩ | ⟨a, l, c, zs, hcs, _, hl, hm, hz, _, hcell, _⟩
  · simp at hcs
    subst hcs
    exact ⟨none, 0, 0, [], rfl, Nat.zero_le _, rfl, fun j hj => absurd hj (by simp)⟩
  · simp at hcs
    subst hcs
    have hlm : l ≤ zs.length := by rw [hz]; split <;> omega
    refine ⟨some a, l, c, zs.take l, rfl, by omega, by rw [List.length_take]; omega, ?_⟩
    intro j hj
    have hj' : j < l ∧ j < zs.length := by rw [List.length_take] at hj; omega
    have hcj := hcell j hj'.2
    have e1 : (zs.take l)[j]'hj = zs[j]'hj'.2 := List.getElem_take
    have e2 : zs.getD j 0 = zs[j]'hj'.2 := by rw [List.getD_eq_getElem?_getD, List.getElem?_eq_getElem hj'.2]; rfl
    rw [e2] at hcj
    refine ⟨a, rfl, ?_, by rw [e1]; exact hcj⟩
    have := World.block_lt_of_cell? w _ hcj
    rwa [Pts.block_add] at this
end
end Go.Proofs.Ytcfoleiooohbhaa.Ints

/-
  Structs whose cells are all integers, also those of structs within, and slices of such structs, that come in: opened. No program stands here.
-/
namespace Go.Proofs.Ytcfoleiooohbhaa.FlatArg
open Go Go.ChangeShapes Go.WideShapes Go.Deep

/-- The fields lie one behind the other, from cell o on; the cell behind them. -/
def stepB (P : Program) : List Field → Nat → Option Nat
  | [], o => some o
  | f :: fs, o => if f.offset = o then stepB P fs (o + P.cellsOf f.type) else none
/-- All cells of the type are integers. -/
def flatB (P : Program) : Nat → TypeId → Bool
  | 0, _ => false
  | k + 1, t => match P.underlying t with
    | some (.int .i64) => true
    | some (.struct fs) => decide (stepB P fs.toList 0 = some (P.cellsOf t)) && fs.toList.all fun f => flatB P k f.type
    | _ => false

section
variable {H : Type} {enc : TypeId × Value → H} {P : Program} {w : World} {base : Nat} {spare : Nat → Bool} {held : Bool}

def AllInt (cs : List Value) : Prop := ∃ zs : List Int, cs = zs.map (fun z => Value.int .i64 z) ∧ ∀ z ∈ zs, (Lit.int .i64 z).wf = true
theorem AllInt.app {a b : List Value} (ha : AllInt a) (hb : AllInt b) : AllInt (a ++ b) := by
  obtain ⟨x, rfl, hx⟩ := ha
  obtain ⟨y, rfl, hy⟩ := hb
  refine ⟨x ++ y, by simp, ?_⟩
  intro z hz
  rcases List.mem_append.1 hz with h | h
  · exact hx z h
  · exact hy z h
theorem pieces {cs : List Value} : ∀ (fs : List Field) (o e : Nat), stepB P fs o = some e → cs.length = e → (∀ f ∈ fs, AllInt ((cs.drop f.offset).take (P.cellsOf f.type))) → AllInt (cs.drop o)
  | [], o, e, hs, hl, _ => by
    simp only [stepB, Option.some.injEq] at hs
    rw [List.drop_of_length_le (by omega)]
    exact ⟨[], rfl, by simp⟩
  | f :: fs, o, e, hs, hl, h => by
    unfold stepB at hs
    split at hs
    · rename_i ho
      have h1 := h f (by simp)
      have h2 := pieces fs (o + P.cellsOf f.type) e hs hl (fun g hg => h g (by simp [hg]))
      rw [ho] at h1
      rw [← List.take_append_drop (P.cellsOf f.type) (cs.drop o), List.drop_drop]
      exact h1.app h2
    · cases hs
theorem flat_ints : ∀ (k : Nat) {t : TypeId} {fuel : Nat} {cs : List Value} {x : DataW H × List MemPlace}, flatB P k t = true → DataW.trod enc P w base spare held fuel t cs = some x → AllInt cs
  | 0, _, _, _, _, hf, _ => by simp [flatB] at hf
  | k + 1, t, fuel, cs, x, hf, h => by
    unfold flatB at hf
    split at hf
    · rename_i hu
      obtain ⟨z, rfl, _, hw⟩ := DataW.trod_int hu h
      exact ⟨[z], rfl, by simpa using hw⟩
    · rename_i fs hu
      simp only [Bool.and_eq_true, decide_eq_true_eq, List.all_eq_true] at hf
      obtain ⟨xs, n, _, _, hl, hxl, hx⟩ := DataW.trod_struct hu h
      have := pieces (P := P) (cs := cs) fs.toList 0 _ hf.1 hl (fun f hfm => by
        obtain ⟨i, hi, e⟩ := List.mem_iff_getElem.1 hfm
        have hi' : i < fs.size := by simpa using hi
        have e2 : fs[i]? = some f := by
          rw [Array.getElem?_eq_getElem hi']
          simpa using e
        have h3 := hx i f e2
        rw [List.getElem?_eq_getElem (by omega)] at h3
        exact flat_ints k (hf.2 f hfm) h3)
      simpa using this
    · cases hf
theorem flat_open {r : Reach} {b0 k m : Nat} {t : TypeId} {fs : Array Field} {v : Value} {d : DataW H} {p : List MemPlace} (hs : P.underlying t = some (.struct fs)) (hf : flatB P k t = true) (hC : P.cellsOf t = m)
    (hv : Value.okWide P w r b0 t v) (h : DataW.Trod enc P w base spare held t v d p) :
    ∃ zs : List Int, v = .agg (zs.map (fun z => Value.int .i64 z)).toArray ∧ zs.length = m ∧ ∀ z ∈ zs, (Lit.int .i64 z).wf = true := by
  obtain ⟨cs, rfl, hsz⟩ := okWide_struct hs hv
  obtain ⟨fuel, hfu⟩ := h
  obtain ⟨zs, e, hw⟩ := flat_ints k hf hfu
  have e2 : cs = (zs.map (fun z => Value.int .i64 z)).toArray := by
    obtain ⟨l⟩ := cs
    simpa [Value.cells] using e
  refine ⟨zs, by rw [e2], ?_, hw⟩
  have : cs.size = zs.length := by rw [e2]; simp
  omega
theorem flat_slice {ts te : TypeId} {k m : Nat} {fuel : Nat} {u : Value} {x : DataW H × List MemPlace} (hs : P.underlying ts = some (.slice te)) (hf : flatB P k te = true) (hC : P.cellsOf te = m)
    (h : DataW.trod enc P w base spare held fuel ts [u] = some x) : ∃ (A : Option Addr) (n cap : Nat) (Z : Nat → List Int), u = .slice A n cap ∧ n ≤ maxLen ∧
      ∀ j, j < n → ∃ ad, A = some ad ∧ (Z j).length = m ∧ (∀ i, i < m → w.cell? (ad.add (j * m + i)) = some (.int .i64 ((Z j).getD i 0))) ∧ ∀ z ∈ Z j, (Lit.int .i64 z).wf = true := by
  rcases open_slice hs h with ⟨hcs, _⟩ | ⟨a, l, c, q, n, D, Pl, hcs, _, hl, hm, hqq, _, hx⟩
  · simp at hcs
    subst hcs
    exact ⟨none, 0, 0, fun _ => [], rfl, Nat.zero_le _, fun j hj => absurd hj (by omega)⟩
  · simp at hcs
    subst hcs
    have hlq : l ≤ q := by rw [hqq]; split <;> omega
    have each : ∀ j, j < l → ∃ zs : List Int, zs.length = m ∧ (∀ i, i < m → w.cell? (a.add (j * m + i)) = some (.int .i64 (zs.getD i 0))) ∧ ∀ z ∈ zs, (Lit.int .i64 z).wf = true := by
      intro j hj
      obtain ⟨cs', h1, h2⟩ := hx j (by omega)
      rw [hC] at h1
      obtain ⟨_, hlen, hcell⟩ := World.cells?_some h1
      obtain ⟨zs, rfl, hw⟩ := flat_ints k hf h2
      have hzl : zs.length = m := by simpa using hlen
      refine ⟨zs, hzl, fun i hi => ?_, hw⟩
      have := hcell i hi
      rw [add_add] at this
      rw [this, List.getElem?_map, List.getD_eq_getElem?_getD, List.getElem?_eq_getElem (by omega)]
      rfl
    obtain ⟨Z, hZ⟩ := choose_lt each
    exact ⟨some a, l, c, Z, rfl, by omega, fun j hj => ⟨a, rfl, (hZ j hj).1, (hZ j hj).2.1, (hZ j hj).2.2⟩⟩
theorem add_off (a : Addr) (j i : Nat) (hi : 0 < i) : a.add (j + i) = ⟨(a.add j).block, (a.add j).off + i, none⟩ := by
  unfold Addr.add
  by_cases h0 : j = 0
  · simp [h0]; omega
  · simp [h0, Nat.add_assoc]
end
end Go.Proofs.Ytcfoleiooohbhaa.FlatArg

/-
  The law's own copy of a point, as a contract.
-/
namespace Go.Proofs.Ytcfoleiooohbhaa.LawPoint
open Go.RowKit PointOk

end Go.Proofs.Ytcfoleiooohbhaa.LawPoint
