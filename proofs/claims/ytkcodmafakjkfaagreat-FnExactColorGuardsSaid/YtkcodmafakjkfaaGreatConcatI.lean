/-
  slices.Concat of two lists of integers, as the landed code reaches it: new memory that holds them one after the other; append of a slice of integers, an empty one too.
-/
import Derived.Test.YtkcodmafakjkfaaGreatGround
import Derived.Lib.AppendZerosOnto
import Derived.Lib.SliceRun
import Derived.Lib.Walk
import Derived.Deep.Upon
namespace Go.Proofs.YtkcodmafakjkfaaGreat.ConcatI
open Go.RowKit PointOk Blk Ints
open Go.Proofs.YtkcodmafakjkfaaGreat.Own (icells icells_length icells_at own_shape own_base)

theorem infoI : (Tryz.prog.info? 3).map (fun i => (i.zero, i.size, i.bytes)) = some (some (.int .i64 0), 1, 8) := by kernel_rfl
theorem icells_app (xs ys : List Int) : icells (xs ++ ys) = icells xs ++ icells ys := by simp [icells]
theorem icells_one (zs : List Int) : ∀ u ∈ icells zs, u.oneCell' = true := by
  intro u hu
  unfold icells at hu
  obtain ⟨z, _, rfl⟩ := List.mem_map.1 hu
  rfl
theorem news {w : World} {b : Nat} {ad : Addr} {zs : List Int} (h : IntsAt w b (some ad) zs) : ∀ j u, (icells zs)[j]? = some u → w.cell? (ad.add j) = some u := by
  intro j u hj
  obtain ⟨hlt, _⟩ := List.getElem?_eq_some_iff.1 hj
  rw [icells_length] at hlt
  obtain ⟨ad2, e, _, c0⟩ := h j hlt
  injection e with e
  subst e
  rw [icells_at hlt] at hj
  injection hj with hj
  rw [← hj]
  exact c0

theorem append_ints (w : World) {ops : Array Oper} {rest : List Oper} {o : Oper} {a : Act} {Q : Exit → Act → World → Prop} (hgd : o.guard = none) (s x : Operand)
    (ho : o.op = .call { callee := .builtin .append, args := #[s, x], argTypes := #[43, 43] })
    (B : Nat) (v : Value) (n : Nat) (xs : List Value) (hs : a.eval s = v) (hown : w.ownsRow B 3 1 v n xs)
    (A2 : Option Addr) (m c : Nat) (zs : List Int) (hz : zs.length = m) (hx : a.eval x = .slice A2 m c) (hq : IntsAt w w.heap.size A2 zs) (hN : n + m ≤ 1048576) (hB : B ≤ w.heap.size)
    (h : ∀ v' w', w'.ownsRow B 3 1 v' (n + m) (xs ++ icells zs) → w.grownBy w' v.ownBlock → wpList Tryz.prog ops Q rest (a.put o.dst v') w') : wpList Tryz.prog ops Q (o :: rest) a w := by
  obtain ⟨i0, hi, hz0, hz1, hz2⟩ := info_parts infoI
  obtain ⟨A0, c0, rfl⟩ := own_shape hown
  by_cases hm : m = 0
  · subst hm
    obtain rfl : zs = [] := List.length_eq_zero_iff.1 hz
    have hc : n ≤ c0 := by
      rcases hown.2 with ⟨h1, _⟩ | ⟨g', cap', cur, h1, _, _, h4, _⟩
      · injection h1 with _ h2 h3; omega
      · injection h1 with _ h2 h3; omega
    refine Lib.wpList_append_run w hgd s x _ _ ho _ _ hs hx _ _ (run_append_nothing w _ _ o.type _ i0 Tryz.underlying43 hi _ _ _ hc _ ?_) ?_
    · cases A2 with
      | none => exact Src.ofNil w Tryz.underlying43 _
      | some ad => exact Src.ofSlice w Tryz.underlying43 ad 0 c [] (by simp) (by simp) (by simp)
    · exact h _ _ (by simpa [icells] using hown) ⟨rfl, rfl, rfl, Nat.le_refl _, fun _ _ _ => rfl⟩
  · obtain ⟨ad, rfl⟩ : ∃ ad, A2 = some ad := by
      obtain ⟨ad, e, _⟩ := hq 0 (by omega)
      exact ⟨ad, e⟩
    refine wpList_append_lies w hgd s x _ ho B 3 i0 (.int .i64 0) 1 8 Tryz.underlying43 hi hz0 hz1 hz2 rfl (by decide) _ n xs hs hown ad m c (icells zs) hx (by rw [icells_length, hz, Nat.mul_one]) (news hq) (icells_one zs) (by omega) (by unfold maxLen; omega) (by omega) hB _ rfl ?_
    intro g cap w' ho' hg _ _
    exact h _ _ ho' hg

end Go.Proofs.YtkcodmafakjkfaaGreat.ConcatI
