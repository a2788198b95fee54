/-
  For every argument, the landed LatticeSteps answers just as its model does: the law's call returns true, and the arguments read as they did. No condition.
-/
import Derived.Test.YtkhgpdkabhahhabRows
import Derived.WalkKit
import Derived.ProofKit
import Derived.OpenShut
import Derived.ShutString
import Derived.Test.YtkhgpdkabhahhabWallArg
import Derived.Test.YtkhgpdkabhahhabGcdSpec
import Derived.Test.YtkhgpdkabhahhabGcdImpl
import Derived.Test.YtkhgpdkabhahhabLawPoint
import Derived.Test.YtkhgpdkabhahhabLawWall
import Derived.Test.YtkhgpdkabhahhabSettle
namespace Go.Proofs.Ytkhgpdkabhahhab.fnExactLatticeSteps
open Go.ChangeShapes Go.WideShapes Go.ChangeAt Go.RowKit
open Go.ChangeMaps (open_string shut_string)
open PointMath
set_option linter.unusedVariables false

theorem own : ownKnob Try.prog.godebug = none := by kernel_rfl

theorem walk (w : World) (x0 y0 u0 s0 : Int) (wx0 : (Lit.int .i64 x0).wf = true) (wy0 : (Lit.int .i64 y0).wf = true) (wu0 : (Lit.int .i64 u0).wf = true) (ws0 : (Lit.int .i64 s0).wf = true) :
    Calls Try.prog 5 #[.agg #[.int .i64 x0, .int .i64 y0, .int .i64 u0, .int .i64 s0]] w fun e w' => e = .returned (.bool true) ∧ Below w.heap.size w w' := by
  obtain ⟨r, hr⟩ : ∃ r, GcdMath.stepsI x0 y0 u0 s0 = r := ⟨_, rfl⟩
  have QS : Hid (∀ w, _) := Lib.hid fun w => GcdSpec.latticeSteps x0 y0 u0 s0 w
  have QI : Hid (∀ w, _) := Lib.hid fun w => GcdImpl.latticeSteps x0 y0 u0 s0 w
  rw [hr] at QS QI
  clear hr wx0 wy0 wu0 ws0
  go_enter Try.func5, Try.ntmps5
  go_wp2_with fail
  have X0 := PointOk.box4 w x0 y0 u0 s0 25 (k := w.heap.size) (by simp)
  have b0 := PointOk.below1 w (Obj.cells #[.int .i64 x0, .int .i64 y0, .int .i64 u0, .int .i64 s0] 25)
  have HO : ∀ W W' : World, (PointOk.Box4 W (w.heap.size) x0 y0 u0 s0 ∧ Below w.heap.size w W) → Below W.heap.size W W' → (PointOk.Box4 W' (w.heap.size) x0 y0 u0 s0 ∧ Below w.heap.size w W') := fun W W' ⟨h0, hb⟩ h => ⟨h0.later h, hb.trans (h.mono hb.size)⟩
  generalize (w.alloc (Obj.cells #[.int .i64 x0, .int .i64 y0, .int .i64 u0, .int .i64 s0] 25)) = w0 at X0 b0 ⊢
  have S0 := (⟨X0, b0⟩ : PointOk.Box4 w0 (w.heap.size) x0 y0 u0 s0 ∧ Below w.heap.size w w0)
  clear X0 b0
  obtain ⟨⟨_, _, _, _⟩, _⟩ := id S0
  refine (LawWall.toWall x0 y0 u0 s0 _).mono ?_
  rintro e w1 ⟨rfl, hb_⟩
  replace S0 := HO _ _ S0 hb_
  clear hb_
  obtain ⟨⟨_, _, _, _⟩, _⟩ := id S0
  go_wp2_with fail
  refine (QS.out _).mono ?_
  rintro e w2 ⟨rfl, hb_⟩
  replace S0 := HO _ _ S0 hb_
  clear hb_
  obtain ⟨⟨_, _, _, _⟩, _⟩ := id S0
  go_wp2_with fail
  refine (LawWall.toWall x0 y0 u0 s0 _).mono ?_
  rintro e w3 ⟨rfl, hb_⟩
  replace S0 := HO _ _ S0 hb_
  clear hb_
  obtain ⟨⟨_, _, _, _⟩, _⟩ := id S0
  go_wp2_with fail
  refine (QI.out _).mono ?_
  rintro e w4 ⟨rfl, hb_⟩
  replace S0 := HO _ _ S0 hb_
  clear hb_
  obtain ⟨⟨_, _, _, _⟩, _⟩ := id S0
  go_wp2_with fail
  go_ret
  exact ⟨rfl, S0.2⟩

theorem contract (H : Type) (enc : TypeId × Value → H) (W : World) (base : Nat) (args : Array Value) (ds gs : List (DataW H)) (before : List MemPlace)
    (hval : ∀ (j : Nat) t v, Try.f5.params[j]? = some t → args[j]? = some v → Value.okWide Try.prog W .any base t v)
    (hW : DataW.Whole enc Try.prog Try.f5.params.toList Rows.fnExactLatticeStepsSpec.vars false W args.toList ds gs before) :
    Calls Try.prog 5 args W fun e W' => ∃ v, e = .returned v ∧ Rows.fnExactLatticeStepsSpec.post enc Try.prog Try.f5 false true false false W args v W' := by
  have hW' := hW
  obtain ⟨p, q, hA0, hV, rfl, hfz, hnd⟩ := hW
  have hA : DataW.TrodAll enc Try.prog W 0 (fun _ => true) true Try.f5.params.toList args.toList ds p := hA0
  rw [Try.params5] at hA hval
  obtain ⟨v0, vs0, d0, ds0, p0, q0, hargs, rfl, rfl, h0, r0⟩ := trodAll_cons hA
  obtain ⟨rfl, rfl, rfl⟩ := trodAll_nil r0
  obtain rfl : args = #[v0] := by cases args; simp_all
  obtain ⟨rfl, rfl⟩ := trodVars_none hV
  have sw0 : WallArg.Shape Try.prog 25 23 3 _ _ _ _ := ⟨Try.underlying25, rfl, rfl, rfl, rfl, by kernel_rfl, Try.underlying23, rfl, rfl, rfl, rfl, by kernel_rfl, Try.underlying3, by kernel_rfl⟩
  obtain ⟨x0, y0, u0, s0, rfl, rfl, rfl, wx0, wy0, wu0, ws0⟩ := WallArg.open_wall sw0 (hval 0 25 v0 rfl rfl) h0
  clear hA0
  simp only [List.append_nil] at hW'
  refine (walk W x0 y0 u0 s0 wx0 wy0 wu0 ws0).mono fun e W' ⟨he, hg⟩ => ?_
  subst he
  exact ⟨_, rfl, _, _, _, [], [], [], hW', (trodAll_cons_mk (shut_bool Try.underlying4 _) trodAll_mk0), (trodAll_cons_mk (WallArg.shut_wall sw0 wx0 wy0 wu0 ws0) trodAll_mk0), rfl, hg.frame _, fun h => by cases h⟩

set_option maxRecDepth 100000 in
theorem lifted (os : Os) (started : os.Started) (H : Type) (enc : TypeId × Value → H) :
    ReturnsInHanded {} Try.checked os 5 .any (Rows.fnExactLatticeStepsSpec.pre6 enc Try.prog Try.f5 Rows.fnExactLatticeStepsRow.domain false) (Rows.fnExactLatticeStepsSpec.post enc Try.prog Try.f5 false true false false) := by
  refine returnsInHanded_of_change (C := Try.checked) own started (by kernel_rfl) Try.func5
    (ChangeSpec.witness6 (enc := enc) (C := Try.checked) false ⟨#[], #[Value.agg #[.int .i64 0, .int .i64 0, .int .i64 0, .int .i64 0]], []⟩ 8 (by kernel_rfl) (by kernel_rfl) (by kernel_rfl) (by kernel_rfl)) ?_
  intro W base args ds gs before hval hW hcnd _
  exact contract H enc W base args ds gs before hval hW

theorem proved : Rows.FnExactLatticeStepsSaid :=
  OpenClaim.holds_of_wide 5 Try.f5 rfl rfl rfl rfl rfl rfl rfl ⟨rfl, rfl, rfl, rfl, rfl⟩ rfl rfl rfl rfl rfl (by kernel_rfl) Try.func5 (by kernel_rfl)
    (of_decide_eq_true (by kernel_rfl)) (by unfold Func.isWrapper; first | (rw [if_pos (by decide +kernel)]; kernel_rfl) | (rw [if_neg (by decide +kernel)]; exact ⟨rfl, rfl⟩))
    (fun os started H enc _ => lifted os started H enc)
#print axioms proved
end Go.Proofs.Ytkhgpdkabhahhab.fnExactLatticeSteps
