/-
  For every argument, the landed InField answers just as its model does: the law's call returns true, and the arguments read as they did. No condition.
-/
import Derived.Test.YtonbpmabmjhdgaaRows
import Derived.WalkKit
import Derived.ProofKit
import Derived.OpenShut
import Derived.ShutString
import Derived.Lib.SmallJoins
import Derived.Test.YtonbpmabmjhdgaaTup7
import Derived.Test.YtonbpmabmjhdgaaTrackSpec
import Derived.Test.YtonbpmabmjhdgaaTrackImpl
import Derived.Test.YtonbpmabmjhdgaaLawPoint
import Derived.Test.YtonbpmabmjhdgaaLawCamera
import Derived.Test.YtonbpmabmjhdgaaSettle
namespace Go.Proofs.Ytonbpmabmjhdgaa.fnExactInField
open Go.ChangeShapes Go.WideShapes Go.ChangeAt Go.RowKit
open Go.ChangeMaps (open_string shut_string)
open PointMath
set_option linter.unusedVariables false

theorem own : ownKnob Try.prog.godebug = none := by kernel_rfl
theorem laidOut : laidOutB Try.prog = true := by kernel_rfl

theorem walk (w : World) (ax ay rx ry lx ly q : Int) (wax : (Lit.int .i64 ax).wf = true) (way : (Lit.int .i64 ay).wf = true) (wrx : (Lit.int .i64 rx).wf = true) (wry : (Lit.int .i64 ry).wf = true) (wlx : (Lit.int .i64 lx).wf = true) (wly : (Lit.int .i64 ly).wf = true) (wq : (Lit.int .i64 q).wf = true) (x y : Int) (wx : (Lit.int .i64 x).wf = true) (wy : (Lit.int .i64 y).wf = true) :
    Calls Try.prog 4 #[.agg #[.int .i64 ax, .int .i64 ay, .int .i64 rx, .int .i64 ry, .int .i64 lx, .int .i64 ly, .int .i64 q], .agg #[.int .i64 x, .int .i64 y]] w fun e w' => e = .returned (.bool true) ∧ Below w.heap.size w w' := by
  obtain ⟨r, hr⟩ : ∃ r, TrackMath.fieldB ax ay rx ry lx ly q x y = r := ⟨_, rfl⟩
  have QS : Hid (∀ w, _) := Lib.hid fun w => TrackSpec.inField ax ay rx ry lx ly q x y w
  have QI : Hid (∀ w, _) := Lib.hid fun w => TrackImpl.inField ax ay rx ry lx ly q x y w
  rw [hr] at QS QI
  clear hr wax way wrx wry wlx wly wq wx wy
  go_enter Try.func4, Try.ntmps4
  go_wp2_with fail
  have X0 := (Tup7.box1 w ax ay rx ry lx ly q 25 (k := w.heap.size) (by simp)).alloc (Obj.cells #[.int .i64 x, .int .i64 y] 23)
  have X1 := PointOk.box1 (w.alloc (Obj.cells #[.int .i64 ax, .int .i64 ay, .int .i64 rx, .int .i64 ry, .int .i64 lx, .int .i64 ly, .int .i64 q] 25)) x y 23 (k := w.heap.size + 1) (by simp)
  have b0 := PointOk.below2 w (Obj.cells #[.int .i64 ax, .int .i64 ay, .int .i64 rx, .int .i64 ry, .int .i64 lx, .int .i64 ly, .int .i64 q] 25) (Obj.cells #[.int .i64 x, .int .i64 y] 23)
  have HO : ∀ W W' : World, (Tup7.Box W (w.heap.size) ax ay rx ry lx ly q ∧ PointOk.Box W (w.heap.size + 1) x y ∧ Below w.heap.size w W) → Below W.heap.size W W' → (Tup7.Box W' (w.heap.size) ax ay rx ry lx ly q ∧ PointOk.Box W' (w.heap.size + 1) x y ∧ Below w.heap.size w W') := fun W W' ⟨h0, h1, hb⟩ h => ⟨h0.later h, h1.later h, hb.trans (h.mono hb.size)⟩
  have hz0_ : Hid ((((w.alloc (Obj.cells #[.int .i64 ax, .int .i64 ay, .int .i64 rx, .int .i64 ry, .int .i64 lx, .int .i64 ly, .int .i64 q] 25)).alloc (Obj.cells #[.int .i64 x, .int .i64 y] 23))).heap.size = w.heap.size + 1 + 1) := Lib.hid (by simp)
  generalize ((w.alloc (Obj.cells #[.int .i64 ax, .int .i64 ay, .int .i64 rx, .int .i64 ry, .int .i64 lx, .int .i64 ly, .int .i64 q] 25)).alloc (Obj.cells #[.int .i64 x, .int .i64 y] 23)) = w0 at X0 X1 b0 hz0_ ⊢
  have S0 := (⟨X0, X1, b0⟩ : Tup7.Box w0 (w.heap.size) ax ay rx ry lx ly q ∧ PointOk.Box w0 (w.heap.size + 1) x y ∧ Below w.heap.size w w0)
  clear X0 X1 b0
  obtain ⟨⟨_, _, _, _, _, _, _⟩, ⟨_, _⟩, _⟩ := id S0
  refine Settle.region (fun W => Tup7.Box W (w.heap.size) ax ay rx ry lx ly q ∧ PointOk.Box W (w.heap.size + 1) x y ∧ Below w.heap.size w W) (by kernel_rfl) (by kernel_rfl) (by kernel_rfl) (by kernel_rfl) (HO _ _ S0 ((Below.refl _ _).drew)) ?_
  clear S0
  repeat (first
    | (refine Settle.Settles.off (by rfl) ?_; simp only [Act.put, List.setIfInBounds_toArray, List.set_cons_zero, List.set_cons_succ])
    | (refine Settle.Settles.quiet (v := ?_) (by rfl) ?_ ?_
       rotate_left
       · (intro W hS; obtain ⟨⟨_, _, _, _, _, _, _⟩, ⟨_, _⟩, _⟩ := hS; go_simp; with_reducible rfl)
       simp only [Act.put, List.setIfInBounds_toArray, List.set_cons_zero, List.set_cons_succ])
    | (refine Settle.Settles.call (v := ?_) (f := ?_) (args := ?_) (by rfl) ?_ ?_ ?_
       rotate_left 3
       · (intro W; go_simp; refine ⟨?_, ?_⟩ <;> with_reducible rfl)
       · (intro W hS; first | (go_at_call 16; (with_reducible refine (LawCamera.toCamera _ _ _ _ _ _ _ _).mono ?_); rintro e W1 ⟨rfl, hb⟩; refine ⟨?_, HO _ _ hS hb⟩; with_reducible rfl) | (go_at_call 19; (with_reducible refine (LawPoint.toPoint _ _ _).mono ?_); rintro e W1 ⟨rfl, hb⟩; refine ⟨?_, HO _ _ hS hb⟩; with_reducible rfl) | (go_at_call 18; (with_reducible refine (QS.out _).mono ?_); rintro e W1 ⟨rfl, hb⟩; refine ⟨?_, HO _ _ hS hb⟩; with_reducible rfl))
       simp only [Act.put, List.setIfInBounds_toArray, List.set_cons_zero, List.set_cons_succ]))
  refine Settle.Settles.nil ?_
  intro wr S0
  obtain ⟨⟨_, _, _, _, _, _, _⟩, ⟨_, _⟩, _⟩ := id S0
  go_wp2_with fail
  refine Settle.region (fun W => Tup7.Box W (w.heap.size) ax ay rx ry lx ly q ∧ PointOk.Box W (w.heap.size + 1) x y ∧ Below w.heap.size w W) (by kernel_rfl) (by kernel_rfl) (by kernel_rfl) (by kernel_rfl) (HO _ _ S0 ((Below.refl _ _).drew)) ?_
  clear S0
  repeat (first
    | (refine Settle.Settles.off (by rfl) ?_; simp only [Act.put, List.setIfInBounds_toArray, List.set_cons_zero, List.set_cons_succ])
    | (refine Settle.Settles.quiet (v := ?_) (by rfl) ?_ ?_
       rotate_left
       · (intro W hS; obtain ⟨⟨_, _, _, _, _, _, _⟩, ⟨_, _⟩, _⟩ := hS; go_simp; with_reducible rfl)
       simp only [Act.put, List.setIfInBounds_toArray, List.set_cons_zero, List.set_cons_succ])
    | (refine Settle.Settles.call (v := ?_) (f := ?_) (args := ?_) (by rfl) ?_ ?_ ?_
       rotate_left 3
       · (intro W; go_simp; refine ⟨?_, ?_⟩ <;> with_reducible rfl)
       · (intro W hS; first | (go_at_call 16; (with_reducible refine (LawCamera.toCamera _ _ _ _ _ _ _ _).mono ?_); rintro e W1 ⟨rfl, hb⟩; refine ⟨?_, HO _ _ hS hb⟩; with_reducible rfl) | (go_at_call 19; (with_reducible refine (LawPoint.toPoint _ _ _).mono ?_); rintro e W1 ⟨rfl, hb⟩; refine ⟨?_, HO _ _ hS hb⟩; with_reducible rfl) | (go_at_call 20; (with_reducible refine (QI.out _).mono ?_); rintro e W1 ⟨rfl, hb⟩; refine ⟨?_, HO _ _ hS hb⟩; with_reducible rfl))
       simp only [Act.put, List.setIfInBounds_toArray, List.set_cons_zero, List.set_cons_succ]))
  refine Settle.Settles.nil ?_
  intro wr S0
  obtain ⟨⟨_, _, _, _, _, _, _⟩, ⟨_, _⟩, _⟩ := id S0
  go_wp2_with fail
  cases r
  all_goals go_wp2_with fail
  all_goals go_ret
  all_goals exact ⟨rfl, S0.2.2⟩

set_option maxRecDepth 100000 in
theorem contract (H : Type) (enc : TypeId × Value → H) (W : World) (base : Nat) (args : Array Value) (ds gs : List (DataW H)) (before : List MemPlace)
    (hval : ∀ (j : Nat) t v, Try.f4.params[j]? = some t → args[j]? = some v → Value.okWide Try.prog W .any base t v)
    (hW : DataW.Whole enc Try.prog Try.f4.params.toList Rows.fnExactInFieldSpec.vars false W args.toList ds gs before) :
    Calls Try.prog 4 args W fun e W' => ∃ v, e = .returned v ∧ Rows.fnExactInFieldSpec.post enc Try.prog Try.f4 false true false false W args v W' := by
  have hW' := hW
  obtain ⟨p, q, hA0, hV, rfl, hfz, hnd⟩ := hW
  have hA : DataW.TrodAll enc Try.prog W 0 (fun _ => true) true Try.f4.params.toList args.toList ds p := hA0
  rw [Try.params4] at hA hval
  obtain ⟨v0, vs0, d0, ds0, p0, q0, hargs, rfl, rfl, h0, r0⟩ := trodAll_cons hA
  obtain ⟨v1, vs1, d1, ds1, p1, q1, rfl, rfl, rfl, h1, r1⟩ := trodAll_cons r0
  obtain ⟨rfl, rfl, rfl⟩ := trodAll_nil r1
  obtain rfl : args = #[v0, v1] := by cases args; simp_all
  obtain ⟨rfl, rfl⟩ := trodVars_none hV
  have k0 := h0
  have lt0 : ∀ x ∈ p0, x.block < W.heap.size := by obtain ⟨m, hm⟩ := k0; exact DataW.trod_lt m _ _ _ hm
  obtain ⟨f0_0, f0_1, f0_2, f0_3, f0_4, f0_5, f0_6, rfl, wf0_0, wf0_1, wf0_2, wf0_3, wf0_4, wf0_5, wf0_6⟩ := Tup7.open_one (k := 4) Try.underlying25 (by kernel_rfl) (by kernel_rfl) (hval 0 25 v0 rfl rfl) h0
  have cp1 : Try.prog.cellsOf 23 = 2 := by kernel_rfl
  obtain ⟨c10, c11, y10, y11, m1, rfl, rfl, rfl, hy10, hy11⟩ := Go.Joins.open_agg2 Try.underlying23 (by kernel_rfl) cp1 (hval 1 23 v1 rfl rfl) h1
  obtain ⟨x1, e10, rfl, wx1⟩ := DataW.trod_int Try.underlying3 hy10
  obtain ⟨y1, e11, rfl, wy1⟩ := DataW.trod_int Try.underlying3 hy11
  simp at e10 e11
  subst e10 e11
  clear hA0
  refine (walk W f0_0 f0_1 f0_2 f0_3 f0_4 f0_5 f0_6 wf0_0 wf0_1 wf0_2 wf0_3 wf0_4 wf0_5 wf0_6 x1 y1 wx1 wy1).mono fun e W' ⟨he, hg⟩ => ?_
  subst he
  exact ⟨_, rfl, _, _, _, [], _, [], hW', (trodAll_cons_mk (shut_bool Try.underlying4 _) trodAll_mk0), (trodAll_cons_mk (Below.trod laidOut (by kernel_rfl) (of_decide_eq_true (by kernel_rfl)) k0 hg lt0) (trodAll_cons_mk (Go.Joins.shut_agg2 (y0 := (.lit (.int .i64 x1), [])) (y1 := (.lit (.int .i64 y1), [])) Try.underlying23 (by kernel_rfl) cp1 ⟨1, by simp [DataW.trod, Try.underlying3, wx1]⟩ ⟨1, by simp [DataW.trod, Try.underlying3, wy1]⟩) trodAll_mk0)), rfl, hg.frame _, fun h => by cases h⟩

set_option maxRecDepth 100000 in
theorem lifted (os : Os) (started : os.Started) (H : Type) (enc : TypeId × Value → H) :
    ReturnsInHanded {} Try.checked os 4 .any (Rows.fnExactInFieldSpec.pre6 enc Try.prog Try.f4 Rows.fnExactInFieldRow.domain false) (Rows.fnExactInFieldSpec.post enc Try.prog Try.f4 false true false false) := by
  refine returnsInHanded_of_change (C := Try.checked) own started (by kernel_rfl) Try.func4
    (ChangeSpec.witness6 (enc := enc) (C := Try.checked) false ⟨#[], #[Value.agg #[.int .i64 0, .int .i64 0, .int .i64 0, .int .i64 0, .int .i64 0, .int .i64 0, .int .i64 0], Value.agg #[.int .i64 0, .int .i64 0]], []⟩ 8 (by kernel_rfl) (by kernel_rfl) (by kernel_rfl) (by kernel_rfl)) ?_
  intro W base args ds gs before hval hW hcnd _
  exact contract H enc W base args ds gs before hval hW

theorem proved : Rows.FnExactInFieldSaid :=
  OpenClaim.holds_of_wide 4 Try.f4 rfl rfl rfl rfl rfl rfl rfl ⟨rfl, rfl, rfl, rfl, rfl⟩ rfl rfl rfl rfl rfl (by kernel_rfl) Try.func4 (by kernel_rfl)
    (of_decide_eq_true (by kernel_rfl)) (by unfold Func.isWrapper; first | (rw [if_pos (by decide +kernel)]; kernel_rfl) | (rw [if_neg (by decide +kernel)]; exact ⟨rfl, rfl⟩))
    (fun os started H enc _ => lifted os started H enc)
#print axioms proved
end Go.Proofs.Ytonbpmabmjhdgaa.fnExactInField
