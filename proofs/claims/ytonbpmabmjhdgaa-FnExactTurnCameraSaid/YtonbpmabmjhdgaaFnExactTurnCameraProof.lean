/-
  For every argument, the landed TurnCamera answers just as its model does: the law's call returns true, and the arguments read as they did. No condition.
-/
import Derived.Test.YtonbpmabmjhdgaaRows
import Derived.WalkKit
import Derived.ProofKit
import Derived.OpenShut
import Derived.ShutString
import Derived.Test.YtonbpmabmjhdgaaTup7
import Derived.Test.YtonbpmabmjhdgaaTurncSpec
import Derived.Test.YtonbpmabmjhdgaaTurncImpl
import Derived.Test.YtonbpmabmjhdgaaTurncMath
import Derived.Test.YtonbpmabmjhdgaaGround
import Derived.Test.YtonbpmabmjhdgaaLawCamera
namespace Go.Proofs.Ytonbpmabmjhdgaa.fnExactTurnCamera
open Go.ChangeShapes Go.WideShapes Go.ChangeAt Go.RowKit
open Go.ChangeMaps (open_string shut_string)
open PointMath
set_option linter.unusedVariables false

theorem own : ownKnob Try.prog.godebug = none := by kernel_rfl
theorem laidOut : laidOutB Try.prog = true := by kernel_rfl

theorem walk (w : World) (ax ay rx ry lx ly q : Int) (wax : (Lit.int .i64 ax).wf = true) (way : (Lit.int .i64 ay).wf = true) (wrx : (Lit.int .i64 rx).wf = true) (wry : (Lit.int .i64 ry).wf = true) (wlx : (Lit.int .i64 lx).wf = true) (wly : (Lit.int .i64 ly).wf = true) (wq : (Lit.int .i64 q).wf = true) :
    Calls Try.prog 5 #[.agg #[.int .i64 ax, .int .i64 ay, .int .i64 rx, .int .i64 ry, .int .i64 lx, .int .i64 ly, .int .i64 q]] w fun e w' => e = .returned (.bool true) ∧ Below w.heap.size w w' := by
  have QS : Hid (∀ w, _) := Lib.hid fun w => TurncSpec.turnCamera ax ay rx ry lx ly q w
  have QI : Hid (∀ w, _) := Lib.hid fun w => TurncImpl.turnCamera ax ay rx ry lx ly q w
  unfold TurncMath.tcV at QS QI
  generalize TurncMath.sel (TurncMath.tcB ax ay rx ry lx ly q) (TurncMath.turnX ax ay rx ry) rx = R1 at *
  generalize TurncMath.sel (TurncMath.tcB ax ay rx ry lx ly q) (TurncMath.turnY ax ay rx ry) ry = R2 at *
  generalize TurncMath.sel (TurncMath.tcB ax ay rx ry lx ly q) (TurncMath.turnX ax ay lx ly) lx = R3 at *
  generalize TurncMath.sel (TurncMath.tcB ax ay rx ry lx ly q) (TurncMath.turnY ax ay lx ly) ly = R4 at *
  generalize TurncMath.tcB ax ay rx ry lx ly q = b at *
  clear wax way wrx wry wlx wly wq
  go_enter Try.func5, Try.ntmps5
  go_wp2_with fail
  have X0 := Tup7.box1 w ax ay rx ry lx ly q 25 (k := w.heap.size) (by simp)
  have b0 := PointOk.below1 w (Obj.cells #[.int .i64 ax, .int .i64 ay, .int .i64 rx, .int .i64 ry, .int .i64 lx, .int .i64 ly, .int .i64 q] 25)
  have HO : ∀ W W' : World, (Tup7.Box W (w.heap.size) ax ay rx ry lx ly q ∧ Below w.heap.size w W) → Below W.heap.size W W' → (Tup7.Box W' (w.heap.size) ax ay rx ry lx ly q ∧ Below w.heap.size w W') := fun W W' ⟨h0, hb⟩ h => ⟨h0.later h, hb.trans (h.mono hb.size)⟩
  have hz0_ : Hid (((w.alloc (Obj.cells #[.int .i64 ax, .int .i64 ay, .int .i64 rx, .int .i64 ry, .int .i64 lx, .int .i64 ly, .int .i64 q] 25))).heap.size = w.heap.size + 1) := Lib.hid (by simp)
  generalize (w.alloc (Obj.cells #[.int .i64 ax, .int .i64 ay, .int .i64 rx, .int .i64 ry, .int .i64 lx, .int .i64 ly, .int .i64 q] 25)) = w0 at X0 b0 hz0_ ⊢
  have S0 := (⟨X0, b0⟩ : Tup7.Box w0 (w.heap.size) ax ay rx ry lx ly q ∧ Below w.heap.size w w0)
  clear X0 b0
  obtain ⟨⟨_, _, _, _, _, _, _⟩, _⟩ := id S0
  refine (LawCamera.toCamera ax ay rx ry lx ly q _).mono ?_
  rintro e w1 ⟨rfl, hb_⟩
  replace S0 := HO _ _ S0 hb_
  clear hb_
  obtain ⟨⟨_, _, _, _, _, _, _⟩, _⟩ := id S0
  go_wp2_with fail
  refine (QS.out _).mono ?_
  rintro e w2 ⟨rfl, hb_⟩
  replace S0 := HO _ _ S0 hb_
  clear hb_
  have K1 := Tup7.box1 w2 ax ay R1 R2 R3 R4 q 29 (k := w2.heap.size) rfl
  have b1_ := PointOk.below1 w2 (Obj.cells #[.int .i64 ax, .int .i64 ay, .int .i64 R1, .int .i64 R2, .int .i64 R3, .int .i64 R4, .int .i64 q] 29)
  replace S0 := HO _ _ S0 b1_
  clear b1_
  obtain ⟨⟨_, _, _, _, _, _, _⟩, _⟩ := id S0
  go_wp2_with fail
  generalize w2.alloc (Obj.cells #[.int .i64 ax, .int .i64 ay, .int .i64 R1, .int .i64 R2, .int .i64 R3, .int .i64 R4, .int .i64 q] 29) = v2 at *
  generalize w2.heap.size = k1 at *
  refine (LawCamera.toCamera ax ay rx ry lx ly q _).mono ?_
  rintro e w3 ⟨rfl, hb_⟩
  replace S0 := HO _ _ S0 hb_
  replace K1 := K1.later hb_
  clear hb_
  obtain ⟨⟨_, _, _, _, _, _, _⟩, _⟩ := id S0
  go_wp2_with fail
  refine (QI.out _).mono ?_
  rintro e w4 ⟨rfl, hb_⟩
  replace S0 := HO _ _ S0 hb_
  replace K1 := K1.later hb_
  clear hb_
  have K2 := Tup7.box1 w4 ax ay R1 R2 R3 R4 q 29 (k := w4.heap.size) rfl
  have b1_ := PointOk.below1 w4 (Obj.cells #[.int .i64 ax, .int .i64 ay, .int .i64 R1, .int .i64 R2, .int .i64 R3, .int .i64 R4, .int .i64 q] 29)
  replace S0 := HO _ _ S0 b1_
  replace K1 := K1.later b1_
  clear b1_
  obtain ⟨_, _, _, _, _, _, _⟩ := id K1
  obtain ⟨_, _, _, _, _, _, _⟩ := id K2
  obtain ⟨⟨_, _, _, _, _, _, _⟩, _⟩ := id S0
  go_wp2_with fail
  generalize w4.alloc (Obj.cells #[.int .i64 ax, .int .i64 ay, .int .i64 R1, .int .i64 R2, .int .i64 R3, .int .i64 R4, .int .i64 q] 29) = v4 at *
  refine (LawCamera.eqCamera_same ax ay R1 R2 R3 R4 q _).mono ?_
  rintro e w5 ⟨rfl, hb_⟩
  replace S0 := HO _ _ S0 hb_
  clear hb_
  cases b
  all_goals go_wp2_with fail
  all_goals go_ret
  all_goals exact ⟨rfl, S0.2⟩

set_option maxRecDepth 100000 in
theorem contract (H : Type) (enc : TypeId × Value → H) (W : World) (base : Nat) (args : Array Value) (ds gs : List (DataW H)) (before : List MemPlace)
    (hval : ∀ (j : Nat) t v, Try.f5.params[j]? = some t → args[j]? = some v → Value.okWide Try.prog W .any base t v)
    (hW : DataW.Whole enc Try.prog Try.f5.params.toList Rows.fnExactTurnCameraSpec.vars false W args.toList ds gs before) :
    Calls Try.prog 5 args W fun e W' => ∃ v, e = .returned v ∧ Rows.fnExactTurnCameraSpec.post enc Try.prog Try.f5 false true false false W args v W' := by
  have hW' := hW
  obtain ⟨p, q, hA0, hV, rfl, hfz, hnd⟩ := hW
  have hA : DataW.TrodAll enc Try.prog W 0 (fun _ => true) true Try.f5.params.toList args.toList ds p := hA0
  rw [Try.params5] at hA hval
  obtain ⟨v0, vs0, d0, ds0, p0, q0, hargs, rfl, rfl, h0, r0⟩ := trodAll_cons hA
  obtain ⟨rfl, rfl, rfl⟩ := trodAll_nil r0
  obtain rfl : args = #[v0] := by cases args; simp_all
  obtain ⟨rfl, rfl⟩ := trodVars_none hV
  have k0 := h0
  have lt0 : ∀ x ∈ p0, x.block < W.heap.size := by obtain ⟨m, hm⟩ := k0; exact DataW.trod_lt m _ _ _ hm
  obtain ⟨f0_0, f0_1, f0_2, f0_3, f0_4, f0_5, f0_6, rfl, wf0_0, wf0_1, wf0_2, wf0_3, wf0_4, wf0_5, wf0_6⟩ := Tup7.open_one (k := 4) Try.underlying25 (by kernel_rfl) (by kernel_rfl) (hval 0 25 v0 rfl rfl) h0
  clear hA0
  refine (walk W f0_0 f0_1 f0_2 f0_3 f0_4 f0_5 f0_6 wf0_0 wf0_1 wf0_2 wf0_3 wf0_4 wf0_5 wf0_6).mono fun e W' ⟨he, hg⟩ => ?_
  subst he
  exact ⟨_, rfl, _, _, _, [], _, [], hW', (trodAll_cons_mk (shut_bool Try.underlying4 _) trodAll_mk0), (trodAll_cons_mk (Below.trod laidOut (by kernel_rfl) (of_decide_eq_true (by kernel_rfl)) k0 hg lt0) trodAll_mk0), rfl, hg.frame _, fun h => by cases h⟩

set_option maxRecDepth 100000 in
theorem lifted (os : Os) (started : os.Started) (H : Type) (enc : TypeId × Value → H) :
    ReturnsInHanded {} Try.checked os 5 .any (Rows.fnExactTurnCameraSpec.pre6 enc Try.prog Try.f5 Rows.fnExactTurnCameraRow.domain false) (Rows.fnExactTurnCameraSpec.post enc Try.prog Try.f5 false true false false) := by
  refine returnsInHanded_of_change (C := Try.checked) own started (by kernel_rfl) Try.func5
    (ChangeSpec.witness6 (enc := enc) (C := Try.checked) false ⟨#[], #[Value.agg #[.int .i64 0, .int .i64 0, .int .i64 0, .int .i64 0, .int .i64 0, .int .i64 0, .int .i64 0]], []⟩ 8 (by kernel_rfl) (by kernel_rfl) (by kernel_rfl) (by kernel_rfl)) ?_
  intro W base args ds gs before hval hW hcnd _
  exact contract H enc W base args ds gs before hval hW

theorem proved : Rows.FnExactTurnCameraSaid :=
  OpenClaim.holds_of_wide 5 Try.f5 rfl rfl rfl rfl rfl rfl rfl ⟨rfl, rfl, rfl, rfl, rfl⟩ rfl rfl rfl rfl rfl (by kernel_rfl) Try.func5 (by kernel_rfl)
    (of_decide_eq_true (by kernel_rfl)) (by unfold Func.isWrapper; first | (rw [if_pos (by decide +kernel)]; kernel_rfl) | (rw [if_neg (by decide +kernel)]; exact ⟨rfl, rfl⟩))
    (fun os started H enc _ => lifted os started H enc)
#print axioms proved
end Go.Proofs.Ytonbpmabmjhdgaa.fnExactTurnCamera
