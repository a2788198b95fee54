/-
  For every two loans, the landed JoinLoans answers just as its model does: the law's call returns true. No condition.
-/
import Derived.Test.YtcpepljgnkmajaaRows
import Derived.WalkKit
import Derived.ProofKit
import Derived.OpenShut
import Derived.ShutString
import Derived.Test.YtcpepljgnkmajaaTup4
import Derived.Test.YtcpepljgnkmajaaDutySpec
import Derived.Test.YtcpepljgnkmajaaDutyImpl
import Derived.Test.YtcpepljgnkmajaaDutyMath
import Derived.Test.YtcpepljgnkmajaaGround
import Derived.Test.YtcpepljgnkmajaaLawLoan
import Derived.Test.YtcpepljgnkmajaaSettleC
namespace Go.Proofs.Ytcpepljgnkmajaa.fnExactJoinLoans
open Go.ChangeShapes Go.WideShapes Go.ChangeAt Go.RowKit
open Go.ChangeMaps (open_string shut_string)
open PointMath DutyMath
set_option linter.unusedVariables false

theorem own : ownKnob Try.prog.godebug = none := by kernel_rfl
theorem laidOut : laidOutB Try.prog = true := by kernel_rfl

set_option maxRecDepth 100000 in
set_option maxHeartbeats 3200000 in
theorem walk (w : World) (a b c d : Int) (wa : (Lit.int .i64 a).wf = true) (wb : (Lit.int .i64 b).wf = true) (wc : (Lit.int .i64 c).wf = true) (wd : (Lit.int .i64 d).wf = true) (a2 b2 c2 d2 : Int) (wa2 : (Lit.int .i64 a2).wf = true) (wb2 : (Lit.int .i64 b2).wf = true) (wc2 : (Lit.int .i64 c2).wf = true) (wd2 : (Lit.int .i64 d2).wf = true) :
    Calls Try.prog 14 #[.agg #[.int .i64 a, .int .i64 b, .int .i64 c, .int .i64 d], .agg #[.int .i64 a2, .int .i64 b2, .int .i64 c2, .int .i64 d2]] w fun e w' => e = .returned (.bool true) ∧ Below w.heap.size w w' := by
  have QS : Hid (∀ w, _) := Lib.hid fun w => DutySpec.joinLoans a b c d a2 b2 c2 d2 w
  have QI : Hid (∀ w, _) := Lib.hid fun w => DutyImpl.joinLoans a b c d a2 b2 c2 d2 w
  obtain ⟨x1, x2, x3, x4, o, hv⟩ : ∃ x1 x2 x3 x4 : Int, ∃ o : Bool, joinV a b c d a2 b2 c2 d2 = .tuple #[.agg #[.int .i64 x1, .int .i64 x2, .int .i64 x3, .int .i64 x4], .bool o] := by
    unfold joinV
    split
    · exact ⟨_, _, _, _, _, rfl⟩
    · exact ⟨_, _, _, _, _, rfl⟩
  rw [hv] at QS QI
  clear hv wa wb wc wd wa2 wb2 wc2 wd2
  go_enter Try.func14, Try.ntmps14
  go_wp2_with fail
  have X0 := (Tup4.box1 w a b c d 68 (k := w.heap.size) (by simp)).alloc (Obj.cells #[.int .i64 a2, .int .i64 b2, .int .i64 c2, .int .i64 d2] 68)
  have X1 := Tup4.box1 (w.alloc (Obj.cells #[.int .i64 a, .int .i64 b, .int .i64 c, .int .i64 d] 68)) a2 b2 c2 d2 68 (k := w.heap.size + 1) (by simp)
  have b0 := PointOk.below2 w (Obj.cells #[.int .i64 a, .int .i64 b, .int .i64 c, .int .i64 d] 68) (Obj.cells #[.int .i64 a2, .int .i64 b2, .int .i64 c2, .int .i64 d2] 68)
  have HO : ∀ W W' : World, (Tup4.Box W (w.heap.size) a b c d ∧ Tup4.Box W (w.heap.size + 1) a2 b2 c2 d2 ∧ w.heap.size + 2 ≤ W.heap.size ∧ Below w.heap.size w W) → Below W.heap.size W W' → (Tup4.Box W' (w.heap.size) a b c d ∧ Tup4.Box W' (w.heap.size + 1) a2 b2 c2 d2 ∧ w.heap.size + 2 ≤ W'.heap.size ∧ Below w.heap.size w W') := fun W W' ⟨h0, h1, x0, hb⟩ h => ⟨h0.later h, h1.later h, Nat.le_trans x0 h.size, hb.trans (h.mono hb.size)⟩
  have hz0_ : Hid ((((w.alloc (Obj.cells #[.int .i64 a, .int .i64 b, .int .i64 c, .int .i64 d] 68)).alloc (Obj.cells #[.int .i64 a2, .int .i64 b2, .int .i64 c2, .int .i64 d2] 68))).heap.size = w.heap.size + 1 + 1) := Lib.hid (by simp)
  have Y0 : w.heap.size + 2 ≤ (((w.alloc (Obj.cells #[.int .i64 a, .int .i64 b, .int .i64 c, .int .i64 d] 68)).alloc (Obj.cells #[.int .i64 a2, .int .i64 b2, .int .i64 c2, .int .i64 d2] 68))).heap.size := by simp
  generalize ((w.alloc (Obj.cells #[.int .i64 a, .int .i64 b, .int .i64 c, .int .i64 d] 68)).alloc (Obj.cells #[.int .i64 a2, .int .i64 b2, .int .i64 c2, .int .i64 d2] 68)) = w0 at X0 X1 Y0 b0 hz0_ ⊢
  have S0 := (⟨X0, X1, Y0, b0⟩ : Tup4.Box w0 (w.heap.size) a b c d ∧ Tup4.Box w0 (w.heap.size + 1) a2 b2 c2 d2 ∧ w.heap.size + 2 ≤ w0.heap.size ∧ Below w.heap.size w w0)
  clear X0 X1 Y0 b0
  obtain ⟨⟨_, _, _, _⟩, ⟨_, _, _, _⟩, _, _⟩ := id S0
  have HO2 : ∀ W W' : World, (Tup4.Box W (w.heap.size) a b c d ∧ Tup4.Box W (w.heap.size + 1) a2 b2 c2 d2 ∧ w.heap.size + 2 ≤ W.heap.size ∧ Below w.heap.size w W) → Below (w.heap.size + 2) W W' → (Tup4.Box W' (w.heap.size) a b c d ∧ Tup4.Box W' (w.heap.size + 1) a2 b2 c2 d2 ∧ w.heap.size + 2 ≤ W'.heap.size ∧ Below w.heap.size w W') := fun W W' ⟨h0, h1, h2, hb⟩ h => ⟨h0.laterB (by omega) h, h1.laterB (by omega) h, Nat.le_trans h2 h.size, hb.trans (h.mono (by omega))⟩
  refine SettleC.regionOneA (fun W => Tup4.Box W (w.heap.size) a b c d ∧ Tup4.Box W (w.heap.size + 1) a2 b2 c2 d2 ∧ w.heap.size + 2 ≤ W.heap.size ∧ Below w.heap.size w W) 8 5 6 (w.heap.size + 2) #[.int .i64 0, .int .i64 0, .int .i64 0, .int .i64 0] #[.int .i64 x1, .int .i64 x2, .int .i64 x3, .int .i64 x4] 70 (by kernel_rfl) (by kernel_rfl) (by kernel_rfl) (by kernel_rfl) rfl rfl rfl rfl rfl rfl rfl rfl rfl (by decide) (by kernel_rfl) (by kernel_rfl) (by kernel_rfl) (by kernel_rfl) (by kernel_rfl) (fun a w => by go_simp; rfl) (fun W hS => HO _ _ hS (PointOk.below1 W _)) (fun W hS => hS.2.2.1) (HO _ _ S0 ((Below.refl _ _).drew)) ?_
  simp only [List.take_succ_cons, List.take_zero]
  clear S0
  repeat (first
    | (refine SettleA.SettlesB.off (by rfl) ?_; simp only [Act.put, List.setIfInBounds_toArray, List.set_cons_zero, List.set_cons_succ])
    | (refine SettleA.SettlesB.quiet (v := ?_) (by rfl) ?_ ?_
       rotate_left
       · (intro W hS; obtain ⟨⟨_, _, _, _⟩, ⟨_, _, _, _⟩, _, _⟩ := hS; go_simp; with_reducible rfl)
       simp only [Act.put, List.setIfInBounds_toArray, List.set_cons_zero, List.set_cons_succ])
    | (refine SettleA.SettlesB.call (v := ?_) (f := ?_) (args := ?_) (by rfl) ?_ ?_ ?_
       rotate_left 3
       · (intro W; go_simp; refine ⟨?_, ?_⟩ <;> with_reducible rfl)
       · (intro W hS; first | (go_at_call 47; (with_reducible refine (LawLoan.toLoan _ _ _ _ _).mono ?_); rintro e W1 ⟨rfl, hb⟩; refine ⟨?_, HO _ _ hS hb, hb⟩; with_reducible rfl) | (go_at_call 60; (with_reducible refine (QS.out _).mono ?_); rintro e W1 ⟨rfl, hb⟩; refine ⟨?_, HO _ _ hS hb, hb⟩; with_reducible rfl))
       simp only [Act.put, List.setIfInBounds_toArray, List.set_cons_zero, List.set_cons_succ]))
  refine SettleA.SettlesB.nil ⟨by simp, fun g1_ => ⟨?_, .bool o, ?_, ?_⟩⟩
  · skip
    rintro W ⟨hS, b1_, c1_⟩
    obtain ⟨⟨_, _, _, _⟩, _, _, _, _⟩ := Blk.Holds.four c1_
    simp only [Act.put, SettleA.ptr, List.setIfInBounds_toArray, List.set_cons_zero, List.set_cons_succ]
    first
      | refine ⟨.skip, _, .inl rfl, (by go_simp; rfl), ?_⟩
      | refine ⟨.value _, _, .inr ⟨_, rfl⟩, (by go_simp; rfl), ?_⟩
    exact ⟨HO2 _ _ hS (((((Below.refl _ _).setCell b1_ _).setCell b1_ _).setCell b1_ _).setCell b1_ _), b1_, (Blk.set_own (Blk.set_own (Blk.set_own (Blk.set_own c1_ 0 _) 1 _) 2 _) 3 _)⟩
  · skip
    intro W hB_
    simp only [Act.put, SettleA.ptr, List.setIfInBounds_toArray, List.set_cons_zero, List.set_cons_succ]
    go_simp
    try rfl
  rintro wr ⟨S0, b1_, B1_⟩
  simp only [Act.put, SettleA.ptr, List.setIfInBounds_toArray, List.set_cons_zero, List.set_cons_succ]
  replace B1_ : Blk.Holds wr g1_ #[.int .i64 x1, .int .i64 x2, .int .i64 x3, .int .i64 x4] 70 := B1_
  obtain ⟨⟨_, _, _, _⟩, ⟨_, _, _, _⟩, _, _⟩ := id S0
  have B1 := B1_
  obtain ⟨K, hK⟩ : ∃ K, wr.heap.size = K := ⟨_, rfl⟩
  have lt1 : g1_ < K := by rw [← hK]; exact B1.lt
  have hw2 : w.heap.size + 2 ≤ K := by rw [← hK]; exact S0.2.2.1
  have hKK : K ≤ wr.heap.size := by omega
  clear B1_ hK HO2 QS
  have HO : ∀ W W' : World, (Tup4.Box W (w.heap.size) a b c d ∧ Tup4.Box W (w.heap.size + 1) a2 b2 c2 d2 ∧ K ≤ W.heap.size ∧ Blk.Holds W g1_ #[.int .i64 x1, .int .i64 x2, .int .i64 x3, .int .i64 x4] 70 ∧ Below w.heap.size w W) → Below W.heap.size W W' → (Tup4.Box W' (w.heap.size) a b c d ∧ Tup4.Box W' (w.heap.size + 1) a2 b2 c2 d2 ∧ K ≤ W'.heap.size ∧ Blk.Holds W' g1_ #[.int .i64 x1, .int .i64 x2, .int .i64 x3, .int .i64 x4] 70 ∧ Below w.heap.size w W') := fun W W' ⟨h0, h1, x0, x1, hb⟩ h => ⟨h0.later h, h1.later h, Nat.le_trans x0 h.size, Blk.Holds.later x1 h, hb.trans (h.mono hb.size)⟩
  have HO2 : ∀ W W' : World, (Tup4.Box W (w.heap.size) a b c d ∧ Tup4.Box W (w.heap.size + 1) a2 b2 c2 d2 ∧ K ≤ W.heap.size ∧ Blk.Holds W g1_ #[.int .i64 x1, .int .i64 x2, .int .i64 x3, .int .i64 x4] 70 ∧ Below w.heap.size w W) → Below K W W' → (Tup4.Box W' (w.heap.size) a b c d ∧ Tup4.Box W' (w.heap.size + 1) a2 b2 c2 d2 ∧ K ≤ W'.heap.size ∧ Blk.Holds W' g1_ #[.int .i64 x1, .int .i64 x2, .int .i64 x3, .int .i64 x4] 70 ∧ Below w.heap.size w W') := fun W W' ⟨h0, h1, h2, h3, hb⟩ h => ⟨h0.laterB (by omega) h, h1.laterB (by omega) h, Nat.le_trans h2 h.size, (h.block _ lt1).trans h3, hb.trans (h.mono (by omega))⟩
  replace S0 : Tup4.Box wr (w.heap.size) a b c d ∧ Tup4.Box wr (w.heap.size + 1) a2 b2 c2 d2 ∧ K ≤ wr.heap.size ∧ Blk.Holds wr g1_ #[.int .i64 x1, .int .i64 x2, .int .i64 x3, .int .i64 x4] 70 ∧ Below w.heap.size w wr := ⟨S0.1, S0.2.1, hKK, B1, S0.2.2.2⟩
  clear B1 hKK b1_
  obtain ⟨⟨_, _, _, _⟩, ⟨_, _, _, _⟩, _, _, _⟩ := id S0
  go_wp2_with fail
  refine SettleC.regionOneA (fun W => Tup4.Box W (w.heap.size) a b c d ∧ Tup4.Box W (w.heap.size + 1) a2 b2 c2 d2 ∧ K ≤ W.heap.size ∧ Blk.Holds W g1_ #[.int .i64 x1, .int .i64 x2, .int .i64 x3, .int .i64 x4] 70 ∧ Below w.heap.size w W) 8 7 8 K #[.int .i64 0, .int .i64 0, .int .i64 0, .int .i64 0] #[.int .i64 x1, .int .i64 x2, .int .i64 x3, .int .i64 x4] 70 (by kernel_rfl) (by kernel_rfl) (by kernel_rfl) (by kernel_rfl) rfl rfl rfl rfl rfl rfl rfl rfl rfl (by decide) (by kernel_rfl) (by kernel_rfl) (by kernel_rfl) (by kernel_rfl) (by kernel_rfl) (fun a w => by go_simp; rfl) (fun W hS => HO _ _ hS (PointOk.below1 W _)) (fun W hS => hS.2.2.1) (HO _ _ S0 ((Below.refl _ _).drew)) ?_
  simp only [List.take_succ_cons, List.take_zero]
  clear S0
  repeat (first
    | (refine SettleA.SettlesB.off (by rfl) ?_; simp only [Act.put, List.setIfInBounds_toArray, List.set_cons_zero, List.set_cons_succ])
    | (refine SettleA.SettlesB.quiet (v := ?_) (by rfl) ?_ ?_
       rotate_left
       · (intro W hS; obtain ⟨⟨_, _, _, _⟩, ⟨_, _, _, _⟩, _, _, _⟩ := hS; go_simp; with_reducible rfl)
       simp only [Act.put, List.setIfInBounds_toArray, List.set_cons_zero, List.set_cons_succ])
    | (refine SettleA.SettlesB.call (v := ?_) (f := ?_) (args := ?_) (by rfl) ?_ ?_ ?_
       rotate_left 3
       · (intro W; go_simp; refine ⟨?_, ?_⟩ <;> with_reducible rfl)
       · (intro W hS; first | (go_at_call 47; (with_reducible refine (LawLoan.toLoan _ _ _ _ _).mono ?_); rintro e W1 ⟨rfl, hb⟩; refine ⟨?_, HO _ _ hS hb, hb⟩; with_reducible rfl) | (go_at_call 61; (with_reducible refine (QI.out _).mono ?_); rintro e W1 ⟨rfl, hb⟩; refine ⟨?_, HO _ _ hS hb, hb⟩; with_reducible rfl))
       simp only [Act.put, List.setIfInBounds_toArray, List.set_cons_zero, List.set_cons_succ]))
  refine SettleA.SettlesB.nil ⟨by simp, fun g1_ => ⟨?_, .bool o, ?_, ?_⟩⟩
  · skip
    rintro W ⟨hS, b1_, c1_⟩
    obtain ⟨⟨_, _, _, _⟩, _, _, _, _⟩ := Blk.Holds.four c1_
    simp only [Act.put, SettleA.ptr, List.setIfInBounds_toArray, List.set_cons_zero, List.set_cons_succ]
    first
      | refine ⟨.skip, _, .inl rfl, (by go_simp; rfl), ?_⟩
      | refine ⟨.value _, _, .inr ⟨_, rfl⟩, (by go_simp; rfl), ?_⟩
    exact ⟨HO2 _ _ hS (((((Below.refl _ _).setCell b1_ _).setCell b1_ _).setCell b1_ _).setCell b1_ _), b1_, (Blk.set_own (Blk.set_own (Blk.set_own (Blk.set_own c1_ 0 _) 1 _) 2 _) 3 _)⟩
  · skip
    intro W hB_
    simp only [Act.put, SettleA.ptr, List.setIfInBounds_toArray, List.set_cons_zero, List.set_cons_succ]
    go_simp
    try rfl
  rintro wr ⟨S0, b1_, B1_⟩
  simp only [Act.put, SettleA.ptr, List.setIfInBounds_toArray, List.set_cons_zero, List.set_cons_succ]
  replace B1_ : Blk.Holds wr g1_ #[.int .i64 x1, .int .i64 x2, .int .i64 x3, .int .i64 x4] 70 := B1_
  obtain ⟨⟨_, _, _, _⟩, ⟨_, _, _, _⟩, _, _, _⟩ := id S0
  have B2 := B1_
  clear B1_ HO2 QI
  obtain ⟨⟨_, _, _, _⟩, _⟩ := Blk.Holds.four B2
  obtain ⟨⟨_, _, _, _⟩, _⟩ := Blk.Holds.four S0.2.2.2.1
  cases o
  all_goals go_wp2_with fail
  all_goals refine (LawLoan.eqLoan_same x1 x2 x3 x4 _).mono ?_
  all_goals rintro e w9 ⟨rfl, hb_⟩
  all_goals go_wp2_with fail
  all_goals go_ret
  all_goals exact ⟨rfl, (HO _ _ S0 hb_).2.2.2.2⟩

set_option maxRecDepth 100000 in
theorem contract (H : Type) (enc : TypeId × Value → H) (W : World) (base : Nat) (args : Array Value) (ds gs : List (DataW H)) (before : List MemPlace)
    (hval : ∀ (j : Nat) t v, Try.f14.params[j]? = some t → args[j]? = some v → Value.okWide Try.prog W .any base t v)
    (hW : DataW.Whole enc Try.prog Try.f14.params.toList Rows.fnExactJoinLoansSpec.vars false W args.toList ds gs before) :
    Calls Try.prog 14 args W fun e W' => ∃ v, e = .returned v ∧ Rows.fnExactJoinLoansSpec.post enc Try.prog Try.f14 false true false false W args v W' := by
  have hW' := hW
  obtain ⟨p, q, hA0, hV, rfl, hfz, hnd⟩ := hW
  have hA : DataW.TrodAll enc Try.prog W 0 (fun _ => true) true Try.f14.params.toList args.toList ds p := hA0
  rw [Try.params14] at hA hval
  obtain ⟨v0, vs0, d0, ds0, p0, q0, hargs, rfl, rfl, h0, r0⟩ := trodAll_cons hA
  obtain ⟨v1, vs1, d1, ds1, p1, q1, rfl, rfl, rfl, h1, r1⟩ := trodAll_cons r0
  obtain ⟨rfl, rfl, rfl⟩ := trodAll_nil r1
  obtain rfl : args = #[v0, v1] := by cases args; simp_all
  obtain ⟨rfl, rfl⟩ := trodVars_none hV
  have k0 := h0
  have lt0 : ∀ x ∈ p0, x.block < W.heap.size := by obtain ⟨m, hm⟩ := k0; exact DataW.trod_lt m _ _ _ hm
  obtain ⟨f0_0, f0_1, f0_2, f0_3, rfl, wf0_0, wf0_1, wf0_2, wf0_3⟩ := Tup4.open_one (k := 4) Try.underlying68 (by kernel_rfl) (by kernel_rfl) (hval 0 68 v0 rfl rfl) h0
  have k1 := h1
  have lt1 : ∀ x ∈ p1, x.block < W.heap.size := by obtain ⟨m, hm⟩ := k1; exact DataW.trod_lt m _ _ _ hm
  obtain ⟨f1_0, f1_1, f1_2, f1_3, rfl, wf1_0, wf1_1, wf1_2, wf1_3⟩ := Tup4.open_one (k := 4) Try.underlying68 (by kernel_rfl) (by kernel_rfl) (hval 1 68 v1 rfl rfl) h1
  clear hA0
  refine (walk W f0_0 f0_1 f0_2 f0_3 wf0_0 wf0_1 wf0_2 wf0_3 f1_0 f1_1 f1_2 f1_3 wf1_0 wf1_1 wf1_2 wf1_3).mono fun e W' ⟨he, hg⟩ => ?_
  subst he
  exact ⟨_, rfl, _, _, _, [], _, [], hW', (trodAll_cons_mk (shut_bool Try.underlying4 _) trodAll_mk0), (trodAll_cons_mk (Below.trod laidOut (by kernel_rfl) (of_decide_eq_true (by kernel_rfl)) k0 hg lt0) (trodAll_cons_mk (Below.trod laidOut (by kernel_rfl) (of_decide_eq_true (by kernel_rfl)) k1 hg lt1) trodAll_mk0)), rfl, hg.frame _, fun h => by cases h⟩

set_option maxRecDepth 100000 in
theorem lifted (os : Os) (started : os.Started) (H : Type) (enc : TypeId × Value → H) :
    ReturnsInHanded {} Try.checked os 14 .any (Rows.fnExactJoinLoansSpec.pre6 enc Try.prog Try.f14 Rows.fnExactJoinLoansRow.domain false) (Rows.fnExactJoinLoansSpec.post enc Try.prog Try.f14 false true false false) := by
  refine returnsInHanded_of_change (C := Try.checked) own started (by kernel_rfl) Try.func14
    (ChangeSpec.witness6 (enc := enc) (C := Try.checked) false ⟨#[], #[Value.agg #[.int .i64 0, .int .i64 0, .int .i64 0, .int .i64 0], Value.agg #[.int .i64 0, .int .i64 0, .int .i64 0, .int .i64 0]], []⟩ 8 (by kernel_rfl) (by kernel_rfl) (by kernel_rfl) (by kernel_rfl)) ?_
  intro W base args ds gs before hval hW hcnd _
  exact contract H enc W base args ds gs before hval hW

theorem proved : Rows.FnExactJoinLoansSaid :=
  OpenClaim.holds_of_wide 14 Try.f14 rfl rfl rfl rfl rfl rfl rfl ⟨rfl, rfl, rfl, rfl, rfl⟩ rfl rfl rfl rfl rfl (by kernel_rfl) Try.func14 (by kernel_rfl)
    (of_decide_eq_true (by kernel_rfl)) (by unfold Func.isWrapper; first | (rw [if_pos (by decide +kernel)]; kernel_rfl) | (rw [if_neg (by decide +kernel)]; exact ⟨rfl, rfl⟩))
    (fun os started H enc _ => lifted os started H enc)
#print axioms proved
end Go.Proofs.Ytcpepljgnkmajaa.fnExactJoinLoans
