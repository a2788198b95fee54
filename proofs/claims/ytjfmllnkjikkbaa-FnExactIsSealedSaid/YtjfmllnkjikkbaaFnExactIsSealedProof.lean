/-
  For every argument, the landed IsSealed answers just as its model does: the law's call returns true, and the arguments read as they did. No condition.
-/
import Derived.Test.YtjfmllnkjikkbaaRows
import Derived.WalkKit
import Derived.ProofKit
import Derived.OpenShut
import Derived.ShutString
import Derived.Test.YtjfmllnkjikkbaaTupISI
import Derived.Test.YtjfmllnkjikkbaaEntrySpec
import Derived.Test.YtjfmllnkjikkbaaEntryImpl
import Derived.Test.YtjfmllnkjikkbaaLawRoom
import Derived.Test.YtjfmllnkjikkbaaGround
import Derived.Test.YtjfmllnkjikkbaaSizeEntry
import Derived.Test.YtjfmllnkjikkbaaLawEntry
namespace Go.Proofs.Ytjfmllnkjikkbaa.fnExactIsSealed
open Go.ChangeShapes Go.WideShapes Go.ChangeAt Go.RowKit
open Go.ChangeMaps (open_string shut_string)
open PointMath RoomMath Pts Blk LawRoom PointOk
set_option linter.unusedVariables false

theorem own : ownKnob Try.prog.godebug = none := by kernel_rfl
theorem laidOut : laidOutB Try.prog = true := by kernel_rfl

set_option maxRecDepth 100000 in
set_option maxHeartbeats 1600000 in
theorem small (w : World) (A0 : Option Addr) (n0 cap0 : Nat) (ps0 : List TupISI.Tu) (hn0 : n0 ≤ 1048576) (hl0 : ps0.length = n0) (hp0 : TupISI.TsAt w w.heap.size A0 ps0) (hs0 : ∀ p ∈ ps0, (Lit.int .i64 p.1).wf = true ∧ p.2.1.size ≤ maxLen ∧ (Lit.int .i64 p.2.2).wf = true) (ht0 : EntryMath.total ps0 ≤ 1048576) :
    Calls Try.prog 8 #[.slice A0 n0 cap0] w fun e w' => e = .returned (.bool true) ∧ Below w.heap.size w w' := by
  obtain ⟨r, hr⟩ : ∃ r, EntryMath.sealedB ps0 = r := ⟨_, rfl⟩
  have QS : Hid (∀ (A0 : Option Addr) (n0 : Nat) (w : World) (hl0 : ps0.length = n0) (hn0 : n0 ≤ 1048576) (hp0 : TupISI.TsAt w w.heap.size A0 ps0), _) := Lib.hid fun A0 n0 w hl0 hn0 hp0 => EntrySpec.isSealed A0 n0 n0 w ps0 hl0 hn0 hp0 (Nat.le_refl _)
  have QI : Hid (∀ (A0 : Option Addr) (n0 : Nat) (w : World) (hl0 : ps0.length = n0) (hn0 : n0 ≤ 1048576) (hp0 : TupISI.TsAt w w.heap.size A0 ps0), _) := Lib.hid fun A0 n0 w hl0 hn0 hp0 => EntryImpl.isSealed A0 n0 n0 w ps0 hl0 hn0 hp0 (Nat.le_refl _)
  rw [hr] at QS QI
  have HS0 := Lib.hid (fun w hp => SizeEntry.szEntrySL A0 n0 cap0 (1048576) (by omega) (by omega) w ps0 hl0 hp hs0)
  simp only [show (EntryMath.total ps0 : Int) ≤ 1048576 by omega, if_true] at HS0
  have htz0_ : ¬ (1048576 - (EntryMath.total ps0 : Int) < 0) := by omega
  clear hr
  go_enter Try.func8, Try.ntmps8
  go_wp2_with fail
  have HO : ∀ W W' : World, (TupISI.TsAt W w.heap.size A0 ps0 ∧ Below w.heap.size w W) → Below W.heap.size W W' → (TupISI.TsAt W' w.heap.size A0 ps0 ∧ Below w.heap.size w W') := fun W W' ⟨x0, hb⟩ h => ⟨x0.later (h.mono hb.size), hb.trans (h.mono hb.size)⟩
  have S0 : TupISI.TsAt w w.heap.size A0 ps0 ∧ Below w.heap.size w w := ⟨hp0, Below.refl _ _⟩
  clear hp0
  refine (HS0.out _ (S0.1.wide S0.2.size)).mono ?_
  rintro e w1 ⟨rfl, hb_⟩
  replace S0 := HO _ _ S0 hb_
  clear hb_
  obtain ⟨_, _⟩ := id S0
  go_wp2_with fail
  refine (LawEntry.toEntryS A0 ps0 n0 cap0 _ hl0 hn0 (S0.1.wide S0.2.size)).mono ?_
  rintro e w2 ⟨gs0, rfl, Rs0, es0_, ls0, hb_⟩
  replace S0 := HO _ _ S0 hb_
  clear hb_
  obtain ⟨_, _⟩ := id S0
  go_wp2_with fail
  refine (QS.out _ n0 _ hl0 hn0 Rs0.ptsIn).mono ?_
  rintro e w3 ⟨rfl, hb_⟩
  replace S0 := HO _ _ S0 hb_
  replace Rs0 := Rs0.later hb_
  clear hb_
  obtain ⟨_, _⟩ := id S0
  go_wp2_with fail
  refine (LawEntry.toEntryS A0 ps0 n0 cap0 _ hl0 hn0 (S0.1.wide S0.2.size)).mono ?_
  rintro e w4 ⟨gx0, rfl, Rx0, ex0_, lx0, hb_⟩
  replace S0 := HO _ _ S0 hb_
  replace Rs0 := Rs0.later hb_
  clear hb_
  obtain ⟨_, _⟩ := id S0
  go_wp2_with fail
  refine (QI.out _ n0 _ hl0 hn0 Rx0.ptsIn).mono ?_
  rintro e w5 ⟨rfl, hb_⟩
  replace S0 := HO _ _ S0 hb_
  replace Rs0 := Rs0.later hb_
  replace Rx0 := Rx0.later hb_
  clear hb_
  obtain ⟨_, _⟩ := id S0
  cases r
  · skip
    go_wp2_with fail
    refine (LawEntry.toEntryS A0 ps0 n0 cap0 _ hl0 hn0 (S0.1.wide S0.2.size)).mono ?_
    rintro e w6 ⟨gy0, rfl, Ry0, ey0_, ly0, hb_⟩
    replace S0 := HO _ _ S0 hb_
    replace Rs0 := Rs0.later hb_
    replace Rx0 := Rx0.later hb_
    clear hb_
    obtain ⟨_, _⟩ := id S0
    go_wp2_with fail
    refine (LawEntry.eqEntryS_same _ _ ps0 n0 n0 n0 _ hl0 hn0 Rx0.ptsIn Ry0.ptsIn).mono ?_
    rintro e w7 ⟨rfl, hb_⟩
    replace S0 := HO _ _ S0 hb_
    replace Rs0 := Rs0.later hb_
    replace Rx0 := Rx0.later hb_
    replace Ry0 := Ry0.later hb_
    clear hb_
    obtain ⟨_, _⟩ := id S0
    go_wp2_with fail
    go_ret
    exact ⟨rfl, S0.2⟩
  · skip
    go_wp2_with fail
    refine (LawEntry.toEntryS A0 ps0 n0 cap0 _ hl0 hn0 (S0.1.wide S0.2.size)).mono ?_
    rintro e w6 ⟨gy0, rfl, Ry0, ey0_, ly0, hb_⟩
    replace S0 := HO _ _ S0 hb_
    replace Rs0 := Rs0.later hb_
    replace Rx0 := Rx0.later hb_
    clear hb_
    obtain ⟨_, _⟩ := id S0
    go_wp2_with fail
    refine (LawEntry.eqEntryS_same _ _ ps0 n0 n0 n0 _ hl0 hn0 Rx0.ptsIn Ry0.ptsIn).mono ?_
    rintro e w7 ⟨rfl, hb_⟩
    replace S0 := HO _ _ S0 hb_
    replace Rs0 := Rs0.later hb_
    replace Rx0 := Rx0.later hb_
    replace Ry0 := Ry0.later hb_
    clear hb_
    obtain ⟨_, _⟩ := id S0
    go_wp2_with fail
    go_ret
    exact ⟨rfl, S0.2⟩

theorem walk (w : World) (A0 : Option Addr) (n0 cap0 : Nat) (ps0 : List TupISI.Tu) (hm0 : n0 ≤ maxLen) (hl0 : ps0.length = n0) (hp0 : TupISI.TsAt w w.heap.size A0 ps0) (hs0 : ∀ p ∈ ps0, (Lit.int .i64 p.1).wf = true ∧ p.2.1.size ≤ maxLen ∧ (Lit.int .i64 p.2.2).wf = true) :
    Calls Try.prog 8 #[.slice A0 n0 cap0] w fun e w' => e = .returned (.bool true) ∧ Below w.heap.size w w' := by
  have hx0 := EntryMath.le_total hl0
  by_cases hn : EntryMath.total ps0 ≤ 1048576
  · exact small w A0 n0 cap0 ps0 (by omega) hl0 hp0 hs0 (by omega)
  · skip
    have HS0 := Lib.hid (fun w hp => SizeEntry.szEntrySL A0 n0 cap0 (1048576) (by unfold maxLen at hm0; omega) (by omega) w ps0 hl0 hp hs0)
    simp only [show ¬ (EntryMath.total ps0 : Int) ≤ 1048576 by omega, if_false] at HS0
    clear hl0 hm0 hx0 hn hs0
    go_enter Try.func8, Try.ntmps8
    go_wp2_with fail
    have HO : ∀ W W' : World, (TupISI.TsAt W w.heap.size A0 ps0 ∧ Below w.heap.size w W) → Below W.heap.size W W' → (TupISI.TsAt W' w.heap.size A0 ps0 ∧ Below w.heap.size w W') := fun W W' ⟨x0, hb⟩ h => ⟨x0.later (h.mono hb.size), hb.trans (h.mono hb.size)⟩
    have S0 : TupISI.TsAt w w.heap.size A0 ps0 ∧ Below w.heap.size w w := ⟨hp0, Below.refl _ _⟩
    clear hp0
    refine (HS0.out _ (S0.1.wide S0.2.size)).mono ?_
    rintro e w1 ⟨rfl, hb_⟩
    replace S0 := HO _ _ S0 hb_
    clear hb_
    obtain ⟨_, _⟩ := id S0
    go_wp2_with fail
    go_ret
    exact ⟨rfl, S0.2⟩

set_option maxRecDepth 100000 in
theorem contract (H : Type) (enc : TypeId × Value → H) (W : World) (base : Nat) (args : Array Value) (ds gs : List (DataW H)) (before : List MemPlace)
    (hval : ∀ (j : Nat) t v, Try.f8.params[j]? = some t → args[j]? = some v → Value.okWide Try.prog W .any base t v)
    (hW : DataW.Whole enc Try.prog Try.f8.params.toList Rows.fnExactIsSealedSpec.vars false W args.toList ds gs before) :
    Calls Try.prog 8 args W fun e W' => ∃ v, e = .returned v ∧ Rows.fnExactIsSealedSpec.post enc Try.prog Try.f8 false true false false W args v W' := by
  have hW' := hW
  obtain ⟨p, q, hA0, hV, rfl, hfz, hnd⟩ := hW
  have hA : DataW.TrodAll enc Try.prog W 0 (fun _ => true) true Try.f8.params.toList args.toList ds p := hA0
  rw [Try.params8] at hA hval
  obtain ⟨v0, vs0, d0, ds0, p0, q0, hargs, rfl, rfl, h0, r0⟩ := trodAll_cons hA
  obtain ⟨rfl, rfl, rfl⟩ := trodAll_nil r0
  obtain rfl : args = #[v0] := by cases args; simp_all
  obtain ⟨rfl, rfl⟩ := trodVars_none hV
  obtain ⟨a0, len0, cap0, rfl⟩ := okWide_slice Try.underlying29 (hval 0 29 v0 rfl rfl)
  have k0 := h0
  have lt0 : ∀ x ∈ p0, x.block < W.heap.size := by obtain ⟨m, hm⟩ := k0; exact DataW.trod_lt m _ _ _ hm
  obtain ⟨z0, w0, l0, r0p, s0p⟩ : ∃ ps : List TupISI.Tu, len0 ≤ maxLen ∧ ps.length = len0 ∧ TupISI.TsAt W W.heap.size a0 ps ∧ ∀ p ∈ ps, (Lit.int .i64 p.1).wf = true ∧ p.2.1.size ≤ maxLen ∧ (Lit.int .i64 p.2.2).wf = true := by
    obtain ⟨fuel, hf⟩ := h0
    simp only [Value.cells] at hf
    obtain ⟨A_, n_, cp_, ps_, hu, h1, h2, h3, h4⟩ := TupISI.open_many (k := 4) Try.underlying29 (te := 57) (show MixArg.leavesB Try.prog 4 57 = some [3, 9, 3] by kernel_rfl) Try.underlying3 Try.underlying9 Try.underlying3 (by kernel_rfl) hf
    injection hu with e1 e2 e3
    subst e1 e2 e3
    exact ⟨ps_, h1, h2, h3, h4⟩
  clear hA0
  refine (walk W a0 len0 cap0 z0 w0 l0 r0p s0p).mono fun e W' ⟨he, hg⟩ => ?_
  subst he
  exact ⟨_, rfl, _, _, _, [], _, [], hW', (trodAll_cons_mk (shut_bool Try.underlying4 _) trodAll_mk0), (trodAll_cons_mk (Below.trod laidOut (by kernel_rfl) (of_decide_eq_true (by kernel_rfl)) k0 hg lt0) trodAll_mk0), rfl, hg.frame _, fun h => by cases h⟩

set_option maxRecDepth 100000 in
theorem lifted (os : Os) (started : os.Started) (H : Type) (enc : TypeId × Value → H) :
    ReturnsInHanded {} Try.checked os 8 .any (Rows.fnExactIsSealedSpec.pre6 enc Try.prog Try.f8 Rows.fnExactIsSealedRow.domain false) (Rows.fnExactIsSealedSpec.post enc Try.prog Try.f8 false true false false) := by
  refine returnsInHanded_of_change (C := Try.checked) own started (by kernel_rfl) Try.func8
    (ChangeSpec.witness6 (enc := enc) (C := Try.checked) false ⟨#[], #[Value.slice none 0 0], []⟩ 8 (by kernel_rfl) (by kernel_rfl) (by kernel_rfl) (by kernel_rfl)) ?_
  intro W base args ds gs before hval hW hcnd _
  exact contract H enc W base args ds gs before hval hW

theorem proved : Rows.FnExactIsSealedSaid :=
  OpenClaim.holds_of_wide 8 Try.f8 rfl rfl rfl rfl rfl rfl rfl ⟨rfl, rfl, rfl, rfl, rfl⟩ rfl rfl rfl rfl rfl (by kernel_rfl) Try.func8 (by kernel_rfl)
    (of_decide_eq_true (by kernel_rfl)) (by unfold Func.isWrapper; first | (rw [if_pos (by decide +kernel)]; kernel_rfl) | (rw [if_neg (by decide +kernel)]; exact ⟨rfl, rfl⟩))
    (fun os started H enc _ => lifted os started H enc)
#print axioms proved
end Go.Proofs.Ytjfmllnkjikkbaa.fnExactIsSealed
