/-
  A region that draws its order, one of whose operations makes a block whenever it comes up: whatever settles is walked in the order of the text,
  the block is a new one, and the store into it comes last. No program stands here.
-/
import Derived.Test.YtmmmnnncbpdinaaGround
namespace Go.Proofs.Ytmmmnnncbpdinaa.SettleB
open Go Settle SettleA Go.RowKit
set_option linter.unusedVariables false

section
variable {P : Program} {ops : Array Oper} {Q : Exit → Act → World → Prop} {md : Region.Mode} {S : World → Prop}

/-- The block, as far as it has come up. -/
def One (S : World → Prop) (s d base : Nat) (Z Z1 : Array Value) (T : TypeId) (listed : Array Bool) (a : Act) (w : World) : Prop :=
  S w ∧ (listed.getD s false = true → ∃ g, a.tmps[d]? = some (ptr g) ∧ base ≤ g ∧ w.heap[g]? = some (.cells (if listed.getD (s + 1) false then Z1 else Z) T (0, 0)))
theorem one_keeps {s d base i : Nat} {Z Z1 : Array Value} {T : TypeId} {dst : Option Tmp} (hi : i < s) (h1 : dst ≠ some d) : Keeps (One S s d base Z Z1 T) S i dst where
  r1 := fun _ _ _ h => h.1
  r2 := fun listed a w w' v h hS hb => by
    obtain ⟨_, f1⟩ := h
    refine ⟨hS, ?_⟩
    rw [getD_set_ne false (by omega), getD_set_ne (j := s + 1) false (by omega), put_other h1]
    intro hl
    obtain ⟨g, e, hg, hh⟩ := f1 hl
    exact ⟨g, e, hg, (hb.block g (lt_of_block hh)).trans hh⟩
  r3 := fun listed a w v h => by
    obtain ⟨hS, f1⟩ := h
    rw [getD_set_ne false (by omega), getD_set_ne (j := s + 1) false (by omega), put_other h1] at f1
    exact ⟨hS, f1⟩
/-- What is known of the block. -/
def Block (S : World → Prop) (g base : Nat) (Z : Array Value) (T : TypeId) (w : World) : Prop :=
  S w ∧ base ≤ g ∧ w.heap[g]? = some (.cells Z T (0, 0))
theorem one_all {T' : Array Bool → Act → World → Prop} {s d base : Nat} {Z Z1 : Array Value} {T : TypeId} {o1 : Oper} {a : Act}
    (hi1 : ops[s]? = some o1) (hg1 : o1.guard = none) (hd1 : o1.dst = some d)
    (hr1 : ∀ (a : Act) (w : World), (execOp a.eval o1).run P w = .ok (.value (ptr w.heap.size)) (w.alloc (.cells Z T)))
    (h0 : Region.ready md ops (upTo ops.size s) = [s]) (h1 : Region.ready md ops (upTo ops.size (s + 1)) = [s + 1])
    (hsz : s + 2 = ops.size) (hs1 : d < a.tmps.size) (hSa : ∀ w, S w → S (w.alloc (.cells Z T))) (hSb : ∀ w, S w → base ≤ w.heap.size)
    (hst : ∀ g w, Block S g base Z T w → wpOp P ops Q (s + 1) (fun a' w' => a' = a.put (some d) (ptr g) ∧ Block S g base Z1 T w') (a.put (some d) (ptr g)) w)
    (hT : ∀ g w, Block S g base Z1 T w → T' (upTo ops.size (s + 2)) (a.put (some d) (ptr g)) w) :
    wpAnyR P md ops Q (One S s d base Z Z1 T) T' ops.size 2 (upTo ops.size s) a := by
  have all : ∀ k, k ≤ ops.size → ∀ j, j < k → (upTo ops.size k).getD j false = true := fun k hk j hj => (upTo_listed _ k j hj hk).2
  have fs : ∀ k j, k ≤ j → (upTo ops.size k).getD j false = false := fun k => by
    induction k with
    | zero =>
      intro j _
      rcases Nat.lt_or_ge j ops.size with h | h
      · simp [upTo, h]
      · simp [upTo, Nat.not_lt.2 h]
    | succ k ih =>
      intro j hj
      simp only [upTo]
      rw [getD_set_ne false (by omega)]
      exact ih j (by omega)
  refine ⟨by rw [h0]; simp, fun i hi w hR => ?_⟩
  rw [h0] at hi
  obtain rfl : i = s := by simpa using hi
  refine alloc_wp hi1 hg1 hd1 hr1 ⟨⟨hSa _ hR.1, fun _ => ⟨w.heap.size, put_self hs1, hSb _ hR.1, by rw [getD_set_ne false (by omega), fs _ _ (by omega)]; exact heap_new w _⟩⟩, ?_⟩
  generalize w.heap.size = g
  show wpAnyR P md ops Q _ T' ops.size 1 (upTo ops.size (i + 1)) _
  have t1 : (a.put (some d) (ptr g)).tmps[d]? = some (ptr g) := put_self hs1
  have hst1 := hst g
  have hT1 := hT g
  generalize a.put (some d) (ptr g) = a2 at *
  refine ⟨by rw [h1]; simp, fun j hj w2 hR2 => ?_⟩
  rw [h1] at hj
  obtain rfl : j = i + 1 := by simpa using hj
  obtain ⟨hS2, f2⟩ := hR2
  obtain ⟨q, e, b1, c1⟩ := f2 (all (i + 1) (by omega) i (by omega))
  rw [t1] at e
  obtain rfl : g = q := ptr_inj (Option.some.inj e)
  rw [fs (i + 1) (i + 1) (by omega)] at c1
  refine wpOp_mono (fun a' w' h => ?_) (hst1 w2 ⟨hS2, b1, by simpa using c1⟩)
  obtain ⟨rfl, hB⟩ := h
  have e2 := all (i + 2) (by omega) (i + 1) (by omega)
  refine ⟨⟨hB.1, fun _ => ⟨g, t1, hB.2.1, ?_⟩⟩, ?_⟩
  · show w'.heap[g]? = some (.cells (if (upTo ops.size (i + 2)).getD (i + 1) false then Z1 else Z) T (0, 0))
    rw [e2, if_pos rfl]
    exact hB.2.2
  · show wpAnyR P md ops Q _ T' ops.size 0 (upTo ops.size (i + 2)) a'
    intro w3 hR3
    obtain ⟨hS3, f3⟩ := hR3
    obtain ⟨q, e, b3, c3⟩ := f3 (all (i + 2) (by omega) i (by omega))
    rw [t1] at e
    obtain rfl : g = q := ptr_inj (Option.some.inj e)
    rw [e2, if_pos rfl] at c3
    exact ⟨fun j hj => all (i + 2) (by omega) j (by omega), hT1 w3 ⟨hS3, b3, c3⟩⟩
/-- What is left to show behind the operations that settle. -/
def EndsOne (P : Program) (Q : Exit → Act → World → Prop) (S : World → Prop) (d base : Nat) (Z Z1 : Array Value) (T : TypeId) (o2 : Oper) (a : Act) : Prop :=
  d < a.tmps.size ∧ ∀ g,
        (∀ w, Block S g base Z T w → ∃ n w', (n = .skip ∨ ∃ u, n = .value u) ∧ (execOp (a.put (some d) (ptr g)).eval o2).run P w = .ok n w' ∧ Block S g base Z1 T w') ∧
        (∀ w, Block S g base Z1 T w → Q .normal (a.put (some d) (ptr g)) w)
theorem regionOne (S : World → Prop) (s d base : Nat) (Z Z1 : Array Value) (T : TypeId) {o1 o2 : Oper} {id : Nat} {a : Act} {w : World} (hm : P.follows .mixedOrders = true) (hsel : Region.noSelect ops = true) (hsz : s + 2 = ops.size)
    (hs : seqOk .any ops s 0 (upTo ops.size 0) = true)
    (hi1 : ops[s]? = some o1) (hi2 : ops[s + 1]? = some o2) (hg1 : o1.guard = none) (hg2 : o2.guard = none)
    (hd1 : o1.dst = some d) (hd2 : o2.dst = none)
    (h0 : Region.ready .any ops (upTo ops.size s) = [s]) (h1 : Region.ready .any ops (upTo ops.size (s + 1)) = [s + 1]) (h2 : (Region.ready .any ops (upTo ops.size (s + 2))).isEmpty = true)
    (hds : ((ops.toList.take s).all fun o => o.dst != some d) = true)
    (hr1 : ∀ (a : Act) (w : World), (execOp a.eval o1).run P w = .ok (.value (ptr w.heap.size)) (w.alloc (.cells Z T)))
    (hSa : ∀ w, S w → S (w.alloc (.cells Z T))) (hSb : ∀ w, S w → base ≤ w.heap.size) (hS : S w.drew)
    (h : SettlesB P ops S (EndsOne P Q S d base Z Z1 T o2) (ops.toList.take s) a) :
    (Code.region id ops true).wp P Q a w := by
  refine wp_region_noPanic (wp_region_any hm ?_)
  have h6 := any_of_settlesR (md := .any) (ops := ops) (Q := NoPanic Q) (S := S) (R := One S s d base Z Z1 T) (P := P)
    (T := fun listed a w => listed = upTo ops.size (s + 2) ∧ NoPanic Q .normal a w) (F := EndsOne P Q S d base Z Z1 T o2) (s := s) (n := ops.size)
    (by omega) (Nat.le_refl _) hsel (fun _ _ _ _ _ h => h)
    (fun i hi listed j hj hcl hr => by
      obtain ⟨_, o, ho, _⟩ := mem_ready.1 hr
      have := (Array.getElem?_eq_some_iff.1 ho).1
      omega)
    (fun i o hi ho => by
      have hmem : o ∈ ops.toList.take s := by
        have : (ops.toList.take s)[i]? = some o := by
          rw [List.getElem?_take_of_lt hi]
          simpa using ho
        exact List.mem_of_getElem? this
      have := (List.all_eq_true.1 hds) o hmem
      simp at this
      exact one_keeps hi this)
    (fun a hF => by
      rw [show ops.size - s = 2 by omega]
      obtain ⟨z1, hF⟩ := hF
      refine one_all hi1 hg1 hd1 hr1 h0 h1 hsz z1 hSa hSb (fun g w hB => ?_) (fun g w hB => ⟨rfl, (hF g).2 w hB⟩)
      obtain ⟨n, w', hn, hr, hB'⟩ := (hF g).1 w hB
      exact store_wp hi2 hg2 hd2 hn hr ⟨rfl, hB'⟩)
    s 0 a (by simp) closed_none hs (by simpa only [List.drop_zero] using h)
  have h7 := wpAny_of_R (m := 0) (fun listed a w h => by
    obtain ⟨rfl, hq⟩ := h
    exact ⟨by simpa using h2, hq⟩) _ _ _ _ (by
    have hz : ∀ i, (upTo ops.size 0).getD i false = false := fun i => by
      rcases Nat.lt_or_ge i ops.size with h | h
      · simp [upTo, h]
      · simp [upTo, Nat.not_lt.2 h]
    exact ⟨hS, fun h => (by rw [hz] at h; cases h)⟩) h6
  rw [show s + (ops.size - s) + 0 = ops.size by omega] at h7
  simpa [upTo] using h7
end
end Go.Proofs.Ytmmmnnncbpdinaa.SettleB
