/-
  For every argument, the landed DoMeet answers just as its model does: the law's call returns true, and the arguments read as they did. No condition.
-/
import Derived.Test.YtkohfbffmljmcacRows
import Derived.WalkKit
import Derived.ProofKit
import Derived.OpenShut
import Derived.ShutString
import Derived.Test.YtkohfbffmljmcacWallArg
import Derived.Test.YtkohfbffmljmcacWallSpec
import Derived.Test.YtkohfbffmljmcacWallImpl
import Derived.Test.YtkohfbffmljmcacLawPoint
import Derived.Test.YtkohfbffmljmcacLawWall
import Derived.Test.YtkohfbffmljmcacSettle
namespace Go.Proofs.Ytkohfbffmljmcac.fnExactDoMeet
open Go.ChangeShapes Go.WideShapes Go.ChangeAt Go.RowKit
open Go.ChangeMaps (open_string shut_string)
open PointMath
set_option linter.unusedVariables false

theorem own : ownKnob Try.prog.godebug = none := by kernel_rfl

theorem walk (w : World) (x0 y0 u0 s0 : Int) (wx0 : (Lit.int .i64 x0).wf = true) (wy0 : (Lit.int .i64 y0).wf = true) (wu0 : (Lit.int .i64 u0).wf = true) (ws0 : (Lit.int .i64 s0).wf = true) (x1 y1 u1 s1 : Int) (wx1 : (Lit.int .i64 x1).wf = true) (wy1 : (Lit.int .i64 y1).wf = true) (wu1 : (Lit.int .i64 u1).wf = true) (ws1 : (Lit.int .i64 s1).wf = true) :
    Calls Try.prog 9 #[.agg #[.int .i64 x0, .int .i64 y0, .int .i64 u0, .int .i64 s0], .agg #[.int .i64 x1, .int .i64 y1, .int .i64 u1, .int .i64 s1]] w fun e w' => e = .returned (.bool true) ∧ Below w.heap.size w w' := by
  obtain ⟨r, hr⟩ : ∃ r, WallMath.meetB x0 y0 u0 s0 x1 y1 u1 s1 = r := ⟨_, rfl⟩
  have QS : Hid (∀ w, _) := Lib.hid fun w => WallSpec.doMeet x0 y0 u0 s0 x1 y1 u1 s1 w
  have QI : Hid (∀ w, _) := Lib.hid fun w => WallImpl.doMeet x0 y0 u0 s0 x1 y1 u1 s1 w
  rw [hr] at QS QI
  clear hr wx0 wy0 wu0 ws0 wx1 wy1 wu1 ws1
  go_enter Try.func9, Try.ntmps9
  go_wp2_with fail
  have X0 := (PointOk.box4 w x0 y0 u0 s0 42 (k := w.heap.size) (by simp)).alloc (Obj.cells #[.int .i64 x1, .int .i64 y1, .int .i64 u1, .int .i64 s1] 42)
  have X1 := PointOk.box4 (w.alloc (Obj.cells #[.int .i64 x0, .int .i64 y0, .int .i64 u0, .int .i64 s0] 42)) x1 y1 u1 s1 42 (k := w.heap.size + 1) (by simp)
  have b0 := PointOk.below2 w (Obj.cells #[.int .i64 x0, .int .i64 y0, .int .i64 u0, .int .i64 s0] 42) (Obj.cells #[.int .i64 x1, .int .i64 y1, .int .i64 u1, .int .i64 s1] 42)
  have HO : ∀ W W' : World, (PointOk.Box4 W (w.heap.size) x0 y0 u0 s0 ∧ PointOk.Box4 W (w.heap.size + 1) x1 y1 u1 s1 ∧ Below w.heap.size w W) → Below W.heap.size W W' → (PointOk.Box4 W' (w.heap.size) x0 y0 u0 s0 ∧ PointOk.Box4 W' (w.heap.size + 1) x1 y1 u1 s1 ∧ Below w.heap.size w W') := fun W W' ⟨h0, h1, hb⟩ h => ⟨h0.later h, h1.later h, hb.trans (h.mono hb.size)⟩
  generalize ((w.alloc (Obj.cells #[.int .i64 x0, .int .i64 y0, .int .i64 u0, .int .i64 s0] 42)).alloc (Obj.cells #[.int .i64 x1, .int .i64 y1, .int .i64 u1, .int .i64 s1] 42)) = w0 at X0 X1 b0 ⊢
  have S0 := (⟨X0, X1, b0⟩ : PointOk.Box4 w0 (w.heap.size) x0 y0 u0 s0 ∧ PointOk.Box4 w0 (w.heap.size + 1) x1 y1 u1 s1 ∧ Below w.heap.size w w0)
  clear X0 X1 b0
  obtain ⟨⟨_, _, _, _⟩, ⟨_, _, _, _⟩, _⟩ := id S0
  refine Settle.region (fun W => PointOk.Box4 W (w.heap.size) x0 y0 u0 s0 ∧ PointOk.Box4 W (w.heap.size + 1) x1 y1 u1 s1 ∧ Below w.heap.size w W) (by kernel_rfl) (by kernel_rfl) (by kernel_rfl) (by kernel_rfl) (HO _ _ S0 ((Below.refl _ _).drew)) ?_
  clear S0
  repeat (first
    | (refine Settle.Settles.off (by rfl) ?_; simp only [Act.put, List.setIfInBounds_toArray, List.set_cons_zero, List.set_cons_succ])
    | (refine Settle.Settles.quiet (v := ?_) (by rfl) ?_ ?_
       rotate_left
       · (intro W hS; obtain ⟨⟨_, _, _, _⟩, ⟨_, _, _, _⟩, _⟩ := hS; go_simp; with_reducible rfl)
       simp only [Act.put, List.setIfInBounds_toArray, List.set_cons_zero, List.set_cons_succ])
    | (refine Settle.Settles.call (v := ?_) (f := ?_) (args := ?_) (by rfl) ?_ ?_ ?_
       rotate_left 3
       · (intro W; go_simp; refine ⟨?_, ?_⟩ <;> with_reducible rfl)
       · (intro W hS; first | (go_at_call 26; (with_reducible refine (LawWall.toWall _ _ _ _ _).mono ?_); rintro e W1 ⟨rfl, hb⟩; refine ⟨?_, HO _ _ hS hb⟩; with_reducible rfl) | (go_at_call 28; (with_reducible refine (QS.out _).mono ?_); rintro e W1 ⟨rfl, hb⟩; refine ⟨?_, HO _ _ hS hb⟩; with_reducible rfl))
       simp only [Act.put, List.setIfInBounds_toArray, List.set_cons_zero, List.set_cons_succ]))
  refine Settle.Settles.nil ?_
  intro wr S0
  obtain ⟨⟨_, _, _, _⟩, ⟨_, _, _, _⟩, _⟩ := id S0
  go_wp2_with fail
  refine Settle.region (fun W => PointOk.Box4 W (w.heap.size) x0 y0 u0 s0 ∧ PointOk.Box4 W (w.heap.size + 1) x1 y1 u1 s1 ∧ Below w.heap.size w W) (by kernel_rfl) (by kernel_rfl) (by kernel_rfl) (by kernel_rfl) (HO _ _ S0 ((Below.refl _ _).drew)) ?_
  clear S0
  repeat (first
    | (refine Settle.Settles.off (by rfl) ?_; simp only [Act.put, List.setIfInBounds_toArray, List.set_cons_zero, List.set_cons_succ])
    | (refine Settle.Settles.quiet (v := ?_) (by rfl) ?_ ?_
       rotate_left
       · (intro W hS; obtain ⟨⟨_, _, _, _⟩, ⟨_, _, _, _⟩, _⟩ := hS; go_simp; with_reducible rfl)
       simp only [Act.put, List.setIfInBounds_toArray, List.set_cons_zero, List.set_cons_succ])
    | (refine Settle.Settles.call (v := ?_) (f := ?_) (args := ?_) (by rfl) ?_ ?_ ?_
       rotate_left 3
       · (intro W; go_simp; refine ⟨?_, ?_⟩ <;> with_reducible rfl)
       · (intro W hS; first | (go_at_call 26; (with_reducible refine (LawWall.toWall _ _ _ _ _).mono ?_); rintro e W1 ⟨rfl, hb⟩; refine ⟨?_, HO _ _ hS hb⟩; with_reducible rfl) | (go_at_call 22; (with_reducible refine (QI.out _).mono ?_); rintro e W1 ⟨rfl, hb⟩; refine ⟨?_, HO _ _ hS hb⟩; with_reducible rfl))
       simp only [Act.put, List.setIfInBounds_toArray, List.set_cons_zero, List.set_cons_succ]))
  refine Settle.Settles.nil ?_
  intro wr S0
  obtain ⟨⟨_, _, _, _⟩, ⟨_, _, _, _⟩, _⟩ := id S0
  go_wp2_with fail
  cases r
  all_goals go_wp2_with fail
  all_goals go_ret
  all_goals exact ⟨rfl, S0.2.2⟩

theorem contract (H : Type) (enc : TypeId × Value → H) (W : World) (base : Nat) (args : Array Value) (ds gs : List (DataW H)) (before : List MemPlace)
    (hval : ∀ (j : Nat) t v, Try.f9.params[j]? = some t → args[j]? = some v → Value.okWide Try.prog W .any base t v)
    (hW : DataW.Whole enc Try.prog Try.f9.params.toList Rows.fnExactDoMeetSpec.vars false W args.toList ds gs before) :
    Calls Try.prog 9 args W fun e W' => ∃ v, e = .returned v ∧ Rows.fnExactDoMeetSpec.post enc Try.prog Try.f9 false true false false W args v W' := by
  have hW' := hW
  obtain ⟨p, q, hA0, hV, rfl, hfz, hnd⟩ := hW
  have hA : DataW.TrodAll enc Try.prog W 0 (fun _ => true) true Try.f9.params.toList args.toList ds p := hA0
  rw [Try.params9] at hA hval
  obtain ⟨v0, vs0, d0, ds0, p0, q0, hargs, rfl, rfl, h0, r0⟩ := trodAll_cons hA
  obtain ⟨v1, vs1, d1, ds1, p1, q1, rfl, rfl, rfl, h1, r1⟩ := trodAll_cons r0
  obtain ⟨rfl, rfl, rfl⟩ := trodAll_nil r1
  obtain rfl : args = #[v0, v1] := by cases args; simp_all
  obtain ⟨rfl, rfl⟩ := trodVars_none hV
  have sw0 : WallArg.Shape Try.prog 42 31 3 _ _ _ _ := ⟨Try.underlying42, rfl, rfl, rfl, rfl, by kernel_rfl, Try.underlying31, rfl, rfl, rfl, rfl, by kernel_rfl, Try.underlying3, by kernel_rfl⟩
  obtain ⟨x0, y0, u0, s0, rfl, rfl, rfl, wx0, wy0, wu0, ws0⟩ := WallArg.open_wall sw0 (hval 0 42 v0 rfl rfl) h0
  have sw1 : WallArg.Shape Try.prog 42 31 3 _ _ _ _ := ⟨Try.underlying42, rfl, rfl, rfl, rfl, by kernel_rfl, Try.underlying31, rfl, rfl, rfl, rfl, by kernel_rfl, Try.underlying3, by kernel_rfl⟩
  obtain ⟨x1, y1, u1, s1, rfl, rfl, rfl, wx1, wy1, wu1, ws1⟩ := WallArg.open_wall sw1 (hval 1 42 v1 rfl rfl) h1
  clear hA0
  simp only [List.append_nil] at hW'
  refine (walk W x0 y0 u0 s0 wx0 wy0 wu0 ws0 x1 y1 u1 s1 wx1 wy1 wu1 ws1).mono fun e W' ⟨he, hg⟩ => ?_
  subst he
  exact ⟨_, rfl, _, _, _, [], [], [], hW', (trodAll_cons_mk (shut_bool Try.underlying4 _) trodAll_mk0), (trodAll_cons_mk (WallArg.shut_wall sw0 wx0 wy0 wu0 ws0) (trodAll_cons_mk (WallArg.shut_wall sw1 wx1 wy1 wu1 ws1) trodAll_mk0)), rfl, hg.frame _, fun h => by cases h⟩

set_option maxRecDepth 100000 in
theorem lifted (os : Os) (started : os.Started) (H : Type) (enc : TypeId × Value → H) :
    ReturnsInHanded {} Try.checked os 9 .any (Rows.fnExactDoMeetSpec.pre6 enc Try.prog Try.f9 Rows.fnExactDoMeetRow.domain false) (Rows.fnExactDoMeetSpec.post enc Try.prog Try.f9 false true false false) := by
  refine returnsInHanded_of_change (C := Try.checked) own started (by kernel_rfl) Try.func9
    (ChangeSpec.witness6 (enc := enc) (C := Try.checked) false ⟨#[], #[Value.agg #[.int .i64 0, .int .i64 0, .int .i64 0, .int .i64 0], Value.agg #[.int .i64 0, .int .i64 0, .int .i64 0, .int .i64 0]], []⟩ 8 (by kernel_rfl) (by kernel_rfl) (by kernel_rfl) (by kernel_rfl)) ?_
  intro W base args ds gs before hval hW hcnd _
  exact contract H enc W base args ds gs before hval hW

theorem proved : Rows.FnExactDoMeetSaid :=
  OpenClaim.holds_of_wide 9 Try.f9 rfl rfl rfl rfl rfl rfl rfl ⟨rfl, rfl, rfl, rfl, rfl⟩ rfl rfl rfl rfl rfl (by kernel_rfl) Try.func9 (by kernel_rfl)
    (of_decide_eq_true (by kernel_rfl)) (by unfold Func.isWrapper; first | (rw [if_pos (by decide +kernel)]; kernel_rfl) | (rw [if_neg (by decide +kernel)]; exact ⟨rfl, rfl⟩))
    (fun os started H enc _ => lifted os started H enc)
#print axioms proved
end Go.Proofs.Ytkohfbffmljmcac.fnExactDoMeet
