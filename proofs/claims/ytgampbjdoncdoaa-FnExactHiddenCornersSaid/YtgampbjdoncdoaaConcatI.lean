/-
  slices.Concat of two lists of integers, as the landed code reaches it: new memory that holds them one after the other; append of a slice of integers, an empty one too.
-/
import Derived.Test.YtgampbjdoncdoaaGround
import Derived.Lib.AppendZerosOnto
import Derived.Lib.SliceRun
import Derived.Lib.Walk
import Derived.Deep.Upon
namespace Go.Proofs.Ytgampbjdoncdoaa.ConcatI
open Go.RowKit PointOk Blk Ints
open Go.Proofs.Ytgampbjdoncdoaa.Own (icells icells_length icells_at own_shape own_base)

theorem infoI : (Try.prog.info? 3).map (fun i => (i.zero, i.size, i.bytes)) = some (some (.int .i64 0), 1, 8) := by kernel_rfl
theorem icells_app (xs ys : List Int) : icells (xs ++ ys) = icells xs ++ icells ys := by simp [icells]
theorem icells_one (zs : List Int) : ∀ u ∈ icells zs, u.oneCell' = true := by
  intro u hu
  unfold icells at hu
  obtain ⟨z, _, rfl⟩ := List.mem_map.1 hu
  rfl
theorem news {w : World} {b : Nat} {ad : Addr} {zs : List Int} (h : IntsAt w b (some ad) zs) : ∀ j u, (icells zs)[j]? = some u → w.cell? (ad.add j) = some u := by
  intro j u hj
  obtain ⟨hlt, _⟩ := List.getElem?_eq_some_iff.1 hj
  rw [icells_length] at hlt
  obtain ⟨ad2, e, _, c0⟩ := h j hlt
  injection e with e
  subst e
  rw [icells_at hlt] at hj
  injection hj with hj
  rw [← hj]
  exact c0

theorem append_ints (w : World) {ops : Array Oper} {rest : List Oper} {o : Oper} {a : Act} {Q : Exit → Act → World → Prop} (hgd : o.guard = none) (s x : Operand)
    (ho : o.op = .call { callee := .builtin .append, args := #[s, x], argTypes := #[24, 24] })
    (B : Nat) (v : Value) (n : Nat) (xs : List Value) (hs : a.eval s = v) (hown : w.ownsRow B 3 1 v n xs)
    (A2 : Option Addr) (m c : Nat) (zs : List Int) (hz : zs.length = m) (hx : a.eval x = .slice A2 m c) (hq : IntsAt w w.heap.size A2 zs) (hN : n + m ≤ 1048576) (hB : B ≤ w.heap.size)
    (h : ∀ v' w', w'.ownsRow B 3 1 v' (n + m) (xs ++ icells zs) → w.grownBy w' v.ownBlock → wpList Try.prog ops Q rest (a.put o.dst v') w') : wpList Try.prog ops Q (o :: rest) a w := by
  obtain ⟨i0, hi, hz0, hz1, hz2⟩ := info_parts infoI
  obtain ⟨A0, c0, rfl⟩ := own_shape hown
  by_cases hm : m = 0
  · subst hm
    obtain rfl : zs = [] := List.length_eq_zero_iff.1 hz
    have hc : n ≤ c0 := by
      rcases hown.2 with ⟨h1, _⟩ | ⟨g', cap', cur, h1, _, _, h4, _⟩
      · injection h1 with _ h2 h3; omega
      · injection h1 with _ h2 h3; omega
    refine Lib.wpList_append_run w hgd s x _ _ ho _ _ hs hx _ _ (run_append_nothing w _ _ o.type _ i0 Try.underlying24 hi _ _ _ hc _ ?_) ?_
    · cases A2 with
      | none => exact Src.ofNil w Try.underlying24 _
      | some ad => exact Src.ofSlice w Try.underlying24 ad 0 c [] (by simp) (by simp) (by simp)
    · exact h _ _ (by simpa [icells] using hown) ⟨rfl, rfl, rfl, Nat.le_refl _, fun _ _ _ => rfl⟩
  · obtain ⟨ad, rfl⟩ : ∃ ad, A2 = some ad := by
      obtain ⟨ad, e, _⟩ := hq 0 (by omega)
      exact ⟨ad, e⟩
    refine wpList_append_lies w hgd s x _ ho B 3 i0 (.int .i64 0) 1 8 Try.underlying24 hi hz0 hz1 hz2 rfl (by decide) _ n xs hs hown ad m c (icells zs) hx (by rw [icells_length, hz, Nat.mul_one]) (news hq) (icells_one zs) (by omega) (by unfold maxLen; omega) (by omega) hB _ rfl ?_
    intro g cap w' ho' hg _ _
    exact h _ _ ho' hg

set_option maxHeartbeats 4000000 in
set_option maxRecDepth 100000 in
theorem growNil (n : Nat) (h0 : 0 < n) (hn : n ≤ 1048576) (w : World) :
    Calls Try.prog 181 #[.slice none 0 0, .int .i64 n] w fun e w' =>
      ∃ cap, n ≤ cap ∧ cap ≤ 9223372036854775807 ∧ e = .returned (.slice (some ⟨w.heap.size, 0, none⟩) 0 cap) ∧
        w' = (w.alloc (.cells (Builtin.zeroCells #[.int .i64 0] n ++ Builtin.zeroCells #[.int .i64 0] (cap - n)) 3)).drew := by
  obtain ⟨i0, hi, hz0, hz1, hz2⟩ := info_parts infoI
  have hold : (Builtin.firstCells i0.size 0 (.slice none 0 0)).run Try.prog w.drew = .ok ([] : List Value).toArray w.drew := run_firstCells_none w.drew i0.size 0 0 0
  have hrz : ∀ ty, (Builtin.append_ #[24, 3] ty #[.slice none 0 0, .int .i64 (n : Int)]).run Try.prog w =
      .ok (.slice (some ⟨w.heap.size, 0, none⟩) n (grownCap w n 0 3)) (w.drew.alloc (.cells (#[] ++ Builtin.zeroCells (Value.int .i64 0).cells n ++ Builtin.zeroCells (Value.int .i64 0).cells (grownCap w n 0 3 - n)) 3)) := fun ty => by
    have h := Lib.run_append_grow_zeros w 24 3 ty 3 i0 _ .i64 .i64 Try.underlying24 Try.underlying3 hi hz0 none 0 0 [] hold n h0 (by omega) (by omega) (by omega) (by rw [hz2]; omega) (growslice_fits (by omega) (by rw [hz2]; omega))
    simpa using h
  have hG := grownCap_ge w n 0 3
  have hG63 := grownCap_le_maxLen w n 0 3 (by unfold maxLen; omega)
  unfold maxLen at hG63
  generalize grownCap w n 0 3 = G at *
  have u1 : IntKind.i64.wrap (n : Int) = n := IntWalk.i64_in _ (by omega)
  clear hold
  go_enter Try.func181, Try.ntmps181
  go_wp2_with (at_builtin; refine Lib.wpList_append_run _ rfl _ _ _ _ rfl _ _ rfl rfl _ _ (hrz _) ?_)
  all_goals go_ret
  all_goals exact ⟨G, hG, by omega, rfl, rfl⟩
set_option maxHeartbeats 400000 in
theorem growZero (w : World) : Calls Try.prog 181 #[.slice none 0 0, .int .i64 0] w fun e w' => e = .returned (.slice none 0 0) ∧ w = w' := by
  go_enter Try.func181, Try.ntmps181
  go_wp2_with fail
  go_ret
  exact ⟨rfl, rfl⟩
theorem grow (n : Nat) (hn : n ≤ 1048576) (w : World) :
    Calls Try.prog 181 #[.slice none 0 0, .int .i64 n] w fun e w' =>
      ∃ v, e = .returned v ∧ w'.ownsRow w.heap.size 3 1 v 0 [] ∧ Below w.heap.size w w' := by
  by_cases h0 : n = 0
  · subst h0
    refine (growZero w).mono ?_
    rintro e w' ⟨rfl, rfl⟩
    exact ⟨_, rfl, World.ownsRow_nil _ _ _ _, Below.refl _ _⟩
  · refine (growNil n (by omega) hn w).mono ?_
    rintro e w' ⟨cap, h1, h2, rfl, rfl⟩
    refine ⟨_, rfl, ⟨rfl, .inr ⟨w.heap.size, cap, _, rfl, Nat.le_refl _, heap_alloc_new w _, Nat.zero_le _, by unfold maxLen; omega, ?_, by simp⟩⟩, (below1 w _).trans ((Below.refl _ _).drew)⟩
    simp [Builtin.zeroCells]
    omega

set_option maxHeartbeats 4000000 in
set_option maxRecDepth 100000 in
theorem concat (V : Nat) (A1 A2 : Option Addr) (n1 c1 n2 c2 N : Nat) (ps qs : List Int) (hl1 : ps.length = n1) (hl2 : qs.length = n2) (hN : n1 + n2 = N) (hn : N ≤ 1048576) (w : World)
    (hp : IntsAt w w.heap.size A1 ps) (hq : IntsAt w w.heap.size A2 qs) (hV : V < w.heap.size) (v0 : w.cell? ⟨V, 0, none⟩ = some (.slice A1 n1 c1)) (v1 : w.cell? ⟨V, 1, none⟩ = some (.slice A2 n2 c2)) (cc : Nat) :
    Calls Try.prog 151 #[.slice (some ⟨V, 0, none⟩) 2 cc] w fun e w' =>
      ∃ A c, e = .returned (.slice A N c) ∧ w'.ownsRow w.heap.size 3 1 (.slice A N c) N (icells (ps ++ qs)) ∧ Below w.heap.size w w' := by
  have u1 : IntKind.i64.wrap ((n1 : Int) + (n2 : Int)) = (N : Int) := by rw [show (n1 : Int) + n2 = N by omega]; exact IntWalk.i64_in _ (by omega)
  have u2 : IntKind.i64.wrap (n1 : Int) = (n1 : Int) := IntWalk.i64_in _ (by omega)
  have u3 : ¬ ((N : Int) < 0) := by omega
  have u4 : ¬ ((n1 : Int) < 0) := by omega
  go_enter Try.func151, Try.ntmps151
  go_wp2_with fail
  go_loopw [3, 11] (fun s i wr => ∃ k, k ≤ 2 ∧ i = .int .i64 ((k : Nat) : Int) ∧ s = .int .i64 (if k = 0 then 0 else if k = 1 then (n1 : Int) else (N : Int)) ∧ wr = w) (fun _ i _ => 2 - (intOf i).toNat)
  case atStart => exact ⟨0, by omega, rfl, rfl, rfl⟩
  case round =>
    obtain ⟨k, hk, rfl, rfl, rfl⟩ := hrel
    rcases (by omega : k = 0 ∨ k = 1 ∨ k = 2) with rfl | rfl | rfl
    · go_wp2_with fail
      exact ⟨⟨1, by omega, rfl, by simp⟩, by simp [intOf]⟩
    · go_wp2_with fail
      exact ⟨⟨2, by omega, rfl, by simp⟩, by simp [intOf]⟩
    · go_wp2_with fail
      refine (grow N hn _).mono ?_
      rintro e w1 ⟨vg, rfl, hown, hb⟩
      replace v0 := (hb.cell (p := ⟨V, 0, none⟩) hV).trans v0
      replace v1 := (hb.cell (p := ⟨V, 1, none⟩) hV).trans v1
      replace hp := hp.later hb
      replace hq := hq.later hb
      have hs1 := hb.size
      obtain ⟨B, hB⟩ : ∃ B, wr.heap.size = B := ⟨_, rfl⟩
      rw [hB] at hown hb hp hq hV hs1
      replace hB := Lib.hid hB
      go_wp2_with fail
      go_loopw [6, 27] (fun v i wr2 => ∃ k, k ≤ 2 ∧ i = .int .i64 ((k : Nat) : Int) ∧
        (k = 0 ∧ wr2.ownsRow B 3 1 v 0 [] ∨ k = 1 ∧ wr2.ownsRow B 3 1 v n1 (icells ps) ∨ k = 2 ∧ wr2.ownsRow B 3 1 v N (icells (ps ++ qs))) ∧
        Below B w1 wr2) (fun _ i _ => 2 - (intOf i).toNat)
      case atStart => exact ⟨0, by omega, rfl, .inl ⟨rfl, hown⟩, Below.refl _ _⟩
      case round =>
        obtain ⟨k, hk, rfl, hh, hb2⟩ := hrel
        replace v0 := (hb2.cell (p := ⟨V, 0, none⟩) hV).trans v0
        replace v1 := (hb2.cell (p := ⟨V, 1, none⟩) hV).trans v1
        replace hp := hp.later hb2
        replace hq := hq.later hb2
        have hs2 := hb2.size
        rcases hh with ⟨rfl, ho⟩ | ⟨rfl, ho⟩ | ⟨rfl, ho⟩
        · have ho2 := Lib.hid ho
          have hp2 := Lib.hid (hp.wide (Nat.le_trans hs1 hs2))
          clear ho hp hq
          go_wp2_with (at_builtin; refine append_ints _ rfl _ _ rfl B _ 0 [] rfl ho2.out A1 n1 c1 ps hl1 rfl hp2.out (by omega) (by omega) ?_)
          intro v' w' h1 hg
          have hb3 := hb2.grown hg (by omega) (fun g hg2 => (ho2.out.lt g hg2).1)
          replace h1 := Lib.hid h1
          go_wp2_with fail
          exact ⟨⟨1, by omega, rfl, .inr (.inl ⟨rfl, h1.out⟩), hb3⟩, by simp [intOf]⟩
        · have ho2 := Lib.hid ho
          have hq2 := Lib.hid (hq.wide (Nat.le_trans hs1 hs2))
          clear ho hp hq
          go_wp2_with (at_builtin; refine append_ints _ rfl _ _ rfl B _ n1 (icells ps) rfl ho2.out A2 n2 c2 qs hl2 rfl hq2.out (by omega) (by omega) ?_)
          intro v' w' h1 hg
          have hb3 := hb2.grown hg (by omega) (fun g hg2 => (ho2.out.lt g hg2).1)
          rw [← icells_app] at h1
          replace h1 := Lib.hid h1
          go_wp2_with fail
          exact ⟨⟨2, by omega, rfl, .inr (.inr ⟨rfl, h1.out⟩), hb3⟩, by simp [intOf]⟩
        · obtain ⟨A3, c3, rfl⟩ := own_shape ho
          have ho2 := Lib.hid ho
          clear ho
          go_wp2_with fail
          go_ret
          have hB2 := hB.out
          subst hB2
          exact ⟨A3, c3, rfl, ho2.out, hb.trans hb2⟩
end Go.Proofs.Ytgampbjdoncdoaa.ConcatI
