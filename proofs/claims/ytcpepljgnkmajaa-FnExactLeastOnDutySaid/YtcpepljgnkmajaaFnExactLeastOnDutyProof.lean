/-
  For every argument, the landed LeastOnDuty answers just as its model does: the law's call returns true, and the arguments read as they did. No condition.
-/
import Derived.Test.YtcpepljgnkmajaaRows
import Derived.WalkKit
import Derived.ProofKit
import Derived.OpenShut
import Derived.ShutString
import Derived.Test.YtcpepljgnkmajaaTup3
import Derived.Test.YtcpepljgnkmajaaLeastSpec
import Derived.Test.YtcpepljgnkmajaaLeastImpl
import Derived.Test.YtcpepljgnkmajaaLawRoom
import Derived.Test.YtcpepljgnkmajaaGround
import Derived.Test.YtcpepljgnkmajaaLawShift
namespace Go.Proofs.Ytcpepljgnkmajaa.fnExactLeastOnDuty
open Go.ChangeShapes Go.WideShapes Go.ChangeAt Go.RowKit
open Go.ChangeMaps (open_string shut_string)
open PointMath RoomMath Pts Blk LawRoom PointOk
set_option linter.unusedVariables false

theorem own : ownKnob Try.prog.godebug = none := by kernel_rfl
theorem laidOut : laidOutB Try.prog = true := by kernel_rfl

set_option maxRecDepth 100000 in
set_option maxHeartbeats 1600000 in
theorem small (w : World) (A0 : Option Addr) (n0 cap0 : Nat) (ps0 : List Tup3.Tu) (hn0 : n0 ≤ 1048576) (hl0 : ps0.length = n0) (hp0 : Tup3.TsAt w w.heap.size A0 ps0) (f t : Int) :
    Calls Try.prog 9 #[.slice A0 n0 cap0, .int .i64 f, .int .i64 t] w fun e w' => e = .returned (.bool true) ∧ Below w.heap.size w w' := by
  obtain ⟨r, hr⟩ : ∃ r, LeastMath.leastI ps0 f t = r := ⟨_, rfl⟩
  have QS : Hid (∀ (A0 : Option Addr) (n0 cap0 : Nat) (w : World) (hl0 : ps0.length = n0) (hn0 : n0 ≤ 1048576) (hp0 : Tup3.TsAt w w.heap.size A0 ps0), _) := Lib.hid fun A0 n0 cap0 w hl0 hn0 hp0 => LeastSpec.leastOnDuty A0 n0 cap0 f t w ps0 hl0 hn0 hp0
  have QI : Hid (∀ (A0 : Option Addr) (n0 cap0 : Nat) (w : World) (hl0 : ps0.length = n0) (hn0 : n0 ≤ 1048576) (hp0 : Tup3.TsAt w w.heap.size A0 ps0), _) := Lib.hid fun A0 n0 cap0 w hl0 hn0 hp0 => LeastImpl.leastOnDuty A0 n0 cap0 f t w ps0 hl0 hn0 hp0
  rw [hr] at QS QI
  have HS0 := Lib.hid fun w => LawShift.szShiftSL A0 n0 cap0 1048576 (by omega) (by omega) w
  simp only [show (n0 : Int) ≤ 1048576 by omega, if_true] at HS0
  clear hr
  go_enter Try.func9, Try.ntmps9
  go_wp2_with fail
  have HO : ∀ W W' : World, (Tup3.TsAt W w.heap.size A0 ps0 ∧ Below w.heap.size w W) → Below W.heap.size W W' → (Tup3.TsAt W' w.heap.size A0 ps0 ∧ Below w.heap.size w W') := fun W W' ⟨x0, hb⟩ h => ⟨x0.later (h.mono hb.size), hb.trans (h.mono hb.size)⟩
  have S0 : Tup3.TsAt w w.heap.size A0 ps0 ∧ Below w.heap.size w w := ⟨hp0, Below.refl _ _⟩
  clear hp0
  refine (HS0.out _).mono ?_
  rintro e w_ ⟨rfl, rfl⟩
  go_wp2_with fail
  refine (LawShift.toShiftS A0 ps0 n0 cap0 _ hl0 hn0 (S0.1.wide S0.2.size)).mono ?_
  rintro e w2 ⟨gs0, rfl, Rs0, es0_, ls0, hb_⟩
  replace S0 := HO _ _ S0 hb_
  clear hb_
  obtain ⟨_, _⟩ := id S0
  go_wp2_with fail
  refine (QS.out _ n0 n0 _ hl0 hn0 Rs0.ptsIn).mono ?_
  rintro e w3 ⟨rfl, hb_⟩
  replace S0 := HO _ _ S0 hb_
  replace Rs0 := Rs0.later hb_
  clear hb_
  obtain ⟨_, _⟩ := id S0
  go_wp2_with fail
  refine (LawShift.toShiftS A0 ps0 n0 cap0 _ hl0 hn0 (S0.1.wide S0.2.size)).mono ?_
  rintro e w4 ⟨gx0, rfl, Rx0, ex0_, lx0, hb_⟩
  replace S0 := HO _ _ S0 hb_
  replace Rs0 := Rs0.later hb_
  clear hb_
  obtain ⟨_, _⟩ := id S0
  go_wp2_with fail
  refine (QI.out _ n0 n0 _ hl0 hn0 Rx0.ptsIn).mono ?_
  rintro e w5 ⟨rfl, hb_⟩
  replace S0 := HO _ _ S0 hb_
  replace Rs0 := Rs0.later hb_
  replace Rx0 := Rx0.later hb_
  clear hb_
  obtain ⟨_, _⟩ := id S0
  go_wp2_with fail
  refine (LawShift.toShiftS A0 ps0 n0 cap0 _ hl0 hn0 (S0.1.wide S0.2.size)).mono ?_
  rintro e w6 ⟨gy0, rfl, Ry0, ey0_, ly0, hb_⟩
  replace S0 := HO _ _ S0 hb_
  replace Rs0 := Rs0.later hb_
  replace Rx0 := Rx0.later hb_
  clear hb_
  obtain ⟨_, _⟩ := id S0
  go_wp2_with fail
  refine (LawShift.eqShiftS_same _ _ ps0 n0 n0 n0 _ hl0 hn0 Rx0.ptsIn Ry0.ptsIn).mono ?_
  rintro e w7 ⟨rfl, hb_⟩
  replace S0 := HO _ _ S0 hb_
  replace Rs0 := Rs0.later hb_
  replace Rx0 := Rx0.later hb_
  replace Ry0 := Ry0.later hb_
  clear hb_
  obtain ⟨_, _⟩ := id S0
  go_wp2_with fail
  go_ret
  exact ⟨rfl, S0.2⟩

theorem walk (w : World) (A0 : Option Addr) (n0 cap0 : Nat) (ps0 : List Tup3.Tu) (hm0 : n0 ≤ maxLen) (hl0 : ps0.length = n0) (hp0 : Tup3.TsAt w w.heap.size A0 ps0) (f : Int) (wf : (Lit.int .i64 f).wf = true) (t : Int) (wt : (Lit.int .i64 t).wf = true) :
    Calls Try.prog 9 #[.slice A0 n0 cap0, .int .i64 f, .int .i64 t] w fun e w' => e = .returned (.bool true) ∧ Below w.heap.size w w' := by
  by_cases hn : n0 ≤ 1048576
  · exact small w A0 n0 cap0 ps0 (by omega) hl0 hp0 f t
  · skip
    have HS0 := Lib.hid fun w => LawShift.szShiftSL A0 n0 cap0 (1048576) (by unfold maxLen at hm0; omega) (by omega) w
    simp only [show ¬ (n0 : Int) ≤ 1048576 by omega, if_false] at HS0
    clear hl0 hp0 hm0
    go_enter Try.func9, Try.ntmps9
    go_wp2_with fail
    refine (HS0.out _).mono ?_
    rintro e w_ ⟨rfl, rfl⟩
    go_wp2_with fail
    go_ret
    exact ⟨rfl, (Below.refl w.heap.size w )⟩

set_option maxRecDepth 100000 in
theorem contract (H : Type) (enc : TypeId × Value → H) (W : World) (base : Nat) (args : Array Value) (ds gs : List (DataW H)) (before : List MemPlace)
    (hval : ∀ (j : Nat) t v, Try.f9.params[j]? = some t → args[j]? = some v → Value.okWide Try.prog W .any base t v)
    (hW : DataW.Whole enc Try.prog Try.f9.params.toList Rows.fnExactLeastOnDutySpec.vars false W args.toList ds gs before) :
    Calls Try.prog 9 args W fun e W' => ∃ v, e = .returned v ∧ Rows.fnExactLeastOnDutySpec.post enc Try.prog Try.f9 false true false false W args v W' := by
  have hW' := hW
  obtain ⟨p, q, hA0, hV, rfl, hfz, hnd⟩ := hW
  have hA : DataW.TrodAll enc Try.prog W 0 (fun _ => true) true Try.f9.params.toList args.toList ds p := hA0
  rw [Try.params9] at hA hval
  obtain ⟨v0, vs0, d0, ds0, p0, q0, hargs, rfl, rfl, h0, r0⟩ := trodAll_cons hA
  obtain ⟨v1, vs1, d1, ds1, p1, q1, rfl, rfl, rfl, h1, r1⟩ := trodAll_cons r0
  obtain ⟨v2, vs2, d2, ds2, p2, q2, rfl, rfl, rfl, h2, r2⟩ := trodAll_cons r1
  obtain ⟨rfl, rfl, rfl⟩ := trodAll_nil r2
  obtain rfl : args = #[v0, v1, v2] := by cases args; simp_all
  obtain ⟨rfl, rfl⟩ := trodVars_none hV
  obtain ⟨a0, len0, cap0, rfl⟩ := okWide_slice Try.underlying57 (hval 0 57 v0 rfl rfl)
  have k0 := h0
  have lt0 : ∀ x ∈ p0, x.block < W.heap.size := by obtain ⟨m, hm⟩ := k0; exact DataW.trod_lt m _ _ _ hm
  obtain ⟨z0, w0, l0, r0p⟩ : ∃ ps : List Tup3.Tu, len0 ≤ maxLen ∧ ps.length = len0 ∧ Tup3.TsAt W W.heap.size a0 ps := by
    obtain ⟨fuel, hf⟩ := h0
    simp only [Value.cells] at hf
    obtain ⟨A_, n_, cp_, ps_, hu, h1, h2, h3⟩ := Tup3.open_many (k := 4) Try.underlying57 (te := 52) (by kernel_rfl) (by kernel_rfl) hf
    injection hu with e1 e2 e3
    subst e1 e2 e3
    exact ⟨ps_, h1, h2, h3⟩
  obtain ⟨a1, rfl, rfl, rfl, w1⟩ := open_int Try.underlying3 (hval 1 3 v1 rfl rfl) h1
  obtain ⟨a2, rfl, rfl, rfl, w2⟩ := open_int Try.underlying3 (hval 2 3 v2 rfl rfl) h2
  clear hA0
  refine (walk W a0 len0 cap0 z0 w0 l0 r0p a1 w1 a2 w2).mono fun e W' ⟨he, hg⟩ => ?_
  subst he
  exact ⟨_, rfl, _, _, _, [], _, [], hW', (trodAll_cons_mk (shut_bool Try.underlying4 _) trodAll_mk0), (trodAll_cons_mk (Below.trod laidOut (by kernel_rfl) (of_decide_eq_true (by kernel_rfl)) k0 hg lt0) (trodAll_cons_mk (shut_int Try.underlying3 w1) (trodAll_cons_mk (shut_int Try.underlying3 w2) trodAll_mk0))), rfl, hg.frame _, fun h => by cases h⟩

set_option maxRecDepth 100000 in
theorem lifted (os : Os) (started : os.Started) (H : Type) (enc : TypeId × Value → H) :
    ReturnsInHanded {} Try.checked os 9 .any (Rows.fnExactLeastOnDutySpec.pre6 enc Try.prog Try.f9 Rows.fnExactLeastOnDutyRow.domain false) (Rows.fnExactLeastOnDutySpec.post enc Try.prog Try.f9 false true false false) := by
  refine returnsInHanded_of_change (C := Try.checked) own started (by kernel_rfl) Try.func9
    (ChangeSpec.witness6 (enc := enc) (C := Try.checked) false ⟨#[], #[Value.slice none 0 0, Value.int .i64 0, Value.int .i64 0], []⟩ 8 (by kernel_rfl) (by kernel_rfl) (by kernel_rfl) (by kernel_rfl)) ?_
  intro W base args ds gs before hval hW hcnd _
  exact contract H enc W base args ds gs before hval hW

theorem proved : Rows.FnExactLeastOnDutySaid :=
  OpenClaim.holds_of_wide 9 Try.f9 rfl rfl rfl rfl rfl rfl rfl ⟨rfl, rfl, rfl, rfl, rfl⟩ rfl rfl rfl rfl rfl (by kernel_rfl) Try.func9 (by kernel_rfl)
    (of_decide_eq_true (by kernel_rfl)) (by unfold Func.isWrapper; first | (rw [if_pos (by decide +kernel)]; kernel_rfl) | (rw [if_neg (by decide +kernel)]; exact ⟨rfl, rfl⟩))
    (fun os started H enc _ => lifted os started H enc)
#print axioms proved
end Go.Proofs.Ytcpepljgnkmajaa.fnExactLeastOnDuty
