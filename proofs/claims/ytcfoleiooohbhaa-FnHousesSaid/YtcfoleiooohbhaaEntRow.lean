/-
  Rows of entries of the call's own: a slice of entries, an empty one too, is appended; what the model's copy and slices.Clone make of a record.
-/
import Derived.Test.YtcfoleiooohbhaaTupISI
import Derived.Lib.AppendZerosOnto
import Derived.Lib.SliceRun
import Derived.Lib.Walk
import Derived.Deep.Upon
import Derived.OwnWalk
namespace Go.Proofs.Ytcfoleiooohbhaa.EntRow
open Go.RowKit PointOk Blk TupISI
open Pts (block_add)
open Go.Proofs.Ytcfoleiooohbhaa.Own (own_shape own_base own_empty)

theorem infoE : (Try.prog.info? 57).map (fun i => (i.zero, i.size, i.bytes)) = some (some (.agg #[.int .i64 0, .string ⟨#[]⟩, .int .i64 0]), 3, 32) := by kernel_rfl
theorem ents_one : ∀ (ps : List Tu), ∀ u ∈ cellsT ps, u.oneCell' = true
  | [], u, h => by cases h
  | p :: ps, u, h => by
    simp only [cellsT, List.mem_cons] at h
    rcases h with rfl | rfl | rfl | h
    · rfl
    · rfl
    · rfl
    · exact ents_one ps u h
theorem ents_cells {w : World} {b : Nat} {ad : Addr} {ps : List Tu} (h : TsAt w b (some ad) ps) (j : Nat) (u : Value) (hj : (cellsT ps)[j]? = some u) : w.cell? (ad.add j) = some u ∧ ad.block < b := by
  have hlt : j < ps.length * 3 := by rw [← cellsT_length]; exact (List.getElem?_eq_some_iff.1 hj).1
  obtain ⟨ad', e1, hb, h3, h4, h5⟩ := h (j / 3) (by omega)
  injection e1 with e1
  subst e1
  obtain ⟨c0, c1, c2⟩ := cellsT_at ps (j / 3) (by omega)
  refine ⟨?_, hb⟩
  have hm : j % 3 = 0 ∨ j % 3 = 1 ∨ j % 3 = 2 := by omega
  rcases hm with hm | hm | hm
  · have ej : j / 3 * 3 = j := by omega
    rw [ej] at h3 c0
    rw [h3, ← hj, c0]
  · have ej : j / 3 * 3 + 1 = j := by omega
    rw [ej] at c1
    rw [← hj, c1, ← h4]
    congr 1
    unfold Addr.add
    rw [if_neg (by omega)]
    split
    · first | (simp; done) | (simp; omega)
    · rename_i hne
      simp only [Addr.mk.injEq, true_and, and_true]
      omega
  · have ej : j / 3 * 3 + 2 = j := by omega
    rw [ej] at c2
    rw [← hj, c2, ← h5]
    congr 1
    unfold Addr.add
    rw [if_neg (by omega)]
    split
    · first | (simp; done) | (simp; omega)
    · rename_i hne
      simp only [Addr.mk.injEq, true_and, and_true]
      omega

theorem append_ents (w : World) {ops : Array Oper} {rest : List Oper} {o : Oper} {a : Act} {Q : Exit → Act → World → Prop} (hgd : o.guard = none) (s x : Operand)
    (ho : o.op = .call { callee := .builtin .append, args := #[s, x], argTypes := #[50, 50] })
    (B : Nat) (v : Value) (n : Nat) (xs : List Value) (hs : a.eval s = v) (hown : w.ownsRow B 57 3 v n xs)
    (A2 : Option Addr) (m c : Nat) (zs : List Tu) (hz : zs.length = m) (hx : a.eval x = .slice A2 m c) (hq : TsAt w w.heap.size A2 zs) (hN : n + m ≤ 1048576) (hB : B ≤ w.heap.size)
    (h : ∀ v' w', w'.ownsRow B 57 3 v' (n + m) (xs ++ cellsT zs) → w.grownBy w' v.ownBlock → wpList Try.prog ops Q rest (a.put o.dst v') w') : wpList Try.prog ops Q (o :: rest) a w := by
  obtain ⟨i0, hi, hz0, hz1, hz2⟩ := info_parts infoE
  obtain ⟨A0, c0, rfl⟩ := own_shape hown
  by_cases hm : m = 0
  · subst hm
    obtain rfl : zs = [] := List.length_eq_zero_iff.1 hz
    have hc : n ≤ c0 := by
      rcases hown.2 with ⟨h1, _⟩ | ⟨g', cap', cur, h1, _, _, h4, _⟩
      · injection h1 with _ h2 h3; omega
      · injection h1 with _ h2 h3; omega
    refine Lib.wpList_append_run w hgd s x _ _ ho _ _ hs hx _ _ (run_append_nothing w _ _ o.type _ i0 Try.underlying50 hi _ _ _ hc _ ?_) ?_
    · cases A2 with
      | none => exact Src.ofNil w Try.underlying50 _
      | some ad => exact Src.ofSlice w Try.underlying50 ad 0 c [] (by simp) (by simp) (by simp)
    · exact h _ _ (by simpa [cellsT] using hown) ⟨rfl, rfl, rfl, Nat.le_refl _, fun _ _ _ => rfl⟩
  · obtain ⟨ad, rfl⟩ : ∃ ad, A2 = some ad := by
      obtain ⟨ad, e, _⟩ := hq 0 (by omega)
      exact ⟨ad, e⟩
    refine wpList_append_own w hgd s x 50 ho B 57 i0 _ 3 32 Try.underlying50 hi hz0 hz1 hz2 rfl (by decide) _ n xs hs hown ad m c (cellsT zs) hx (by rw [cellsT_length, hz]) (fun j u hj => (ents_cells hq j u hj).1) (ents_one zs) (by unfold maxLen; omega) (by omega) hB ?_
    intro v' w' ho' hg _
    exact h _ _ ho' hg

/-- Entries came back in new memory. -/
def GivesE (w : World) (l : List Tu) (en : Ending) (w' : World) : Prop :=
  ∃ A c, en = .returned (.slice A l.length c) ∧ w'.ownsRow w.heap.size 57 3 (.slice A l.length c) l.length (cellsT l) ∧ Below w.heap.size w w'

set_option maxRecDepth 100000 in
set_option maxHeartbeats 1600000 in
theorem copy (A : Option Addr) (n cap : Nat) (w : World) (ps : List Tu) (hl : ps.length = n) (hn : n ≤ 1048576) (hp : TsAt w w.heap.size A ps) :
    Calls Try.prog 67 #[.slice A n cap] w (GivesE w ps) := by
  have HB := Lib.hid (below1 w (Obj.cells #[] 57))
  have HOWN := own_empty w 57 3
  have HC := Lib.hid ((hp.later HB.out).wide HB.out.size)
  have hsz : w.heap.size ≤ (w.alloc (Obj.cells #[] 57)).heap.size := HB.out.size
  go_enter Try.func67, Try.ntmps67
  go_wp2_with (at_builtin; refine append_ents _ rfl _ _ rfl w.heap.size _ 0 [] rfl HOWN A n cap ps hl rfl HC.out (by omega) hsz ?_)
  intro v' w1 hown hgrow
  have hb : Below w.heap.size w w1 := HB.out.grown hgrow hsz (by intro k hk; simp [Value.ownBlock] at hk; omega)
  try rw [Nat.zero_add, List.nil_append] at hown
  obtain ⟨A1, c1, rfl⟩ := own_shape hown
  replace hown := Lib.hid hown
  clear hgrow HOWN HB HC hsz
  go_wp2_with fail
  go_ret
  exact ⟨A1, c1, by rw [hl]; rfl, by rw [hl]; exact hown.out, hb⟩

set_option maxRecDepth 100000 in
set_option maxHeartbeats 1600000 in
theorem clone (A : Option Addr) (n cap : Nat) (w : World) (ps : List Tu) (hl : ps.length = n) (hn : n ≤ 1048576) (hp : TsAt w w.heap.size A ps) :
    Calls Try.prog 51 #[.slice A n cap] w (GivesE w ps) := by
  have hn0 : ∀ (l c : Nat) (w : World), (binOp .eql 50 (.slice none l c) (.slice none 0 0)).run Try.prog w = .ok (.bool true) w := fun _ _ _ => by kernel_rfl
  have hn1 : ∀ (a : Addr) (l c : Nat) (w : World), (binOp .eql 50 (.slice (some a) l c) (.slice none 0 0)).run Try.prog w = .ok (.bool false) w := fun _ _ _ _ => by kernel_rfl
  have HB := Lib.hid (below1 w (Obj.cells #[] 57))
  have HOWN := own_empty w 57 3
  have HC := Lib.hid ((hp.later HB.out).wide HB.out.size)
  have hsz : w.heap.size ≤ (w.alloc (Obj.cells #[] 57)).heap.size := HB.out.size
  cases hA : A with
  | none =>
    subst hA
    have h0 : n = 0 := by
      rcases Nat.eq_zero_or_pos n with h | h
      · exact h
      · obtain ⟨ad, e, _⟩ := hp 0 (by omega); cases e
    subst h0
    obtain rfl : ps = [] := List.length_eq_zero_iff.1 hl
    clear HB HOWN HC hsz hp
    go_enter Try.func51, Try.ntmps51
    go_wp2_with fail
    go_ret
    exact ⟨none, 0, rfl, World.ownsRow_nil _ _ _ _, Below.refl _ _⟩
  | some ad =>
    subst hA
    go_enter Try.func51, Try.ntmps51
    go_wp2_with (at_builtin; refine append_ents _ rfl _ _ rfl w.heap.size _ 0 [] rfl HOWN (some ad) n cap ps hl rfl HC.out (by omega) hsz ?_)
    intro v' w1 hown hgrow
    have hb : Below w.heap.size w w1 := HB.out.grown hgrow hsz (by intro k hk; simp [Value.ownBlock] at hk; omega)
    try rw [Nat.zero_add, List.nil_append] at hown
    obtain ⟨A1, c1, rfl⟩ := own_shape hown
    replace hown := Lib.hid hown
    clear hgrow HOWN HB HC hsz
    go_wp2_with fail
    go_ret
    exact ⟨A1, c1, by rw [hl]; rfl, by rw [hl]; exact hown.out, hb⟩
end Go.Proofs.Ytcfoleiooohbhaa.EntRow
