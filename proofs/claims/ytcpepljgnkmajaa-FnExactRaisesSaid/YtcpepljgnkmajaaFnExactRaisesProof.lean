/-
  For every argument, the landed Raises answers just as its model does: the law's call returns true, and the arguments read as they did. No condition.
-/
import Derived.Test.YtcpepljgnkmajaaRows
import Derived.WalkKit
import Derived.ProofKit
import Derived.OpenShut
import Derived.ShutString
import Derived.Test.YtcpepljgnkmajaaTup3
import Derived.Test.YtcpepljgnkmajaaAlarmSpec
import Derived.Test.YtcpepljgnkmajaaAlarmImpl
import Derived.Test.YtcpepljgnkmajaaLawRoom
import Derived.Test.YtcpepljgnkmajaaGround
import Derived.Test.YtcpepljgnkmajaaLawZone
import Derived.Test.YtcpepljgnkmajaaLawReport
namespace Go.Proofs.Ytcpepljgnkmajaa.fnExactRaises
open Go.ChangeShapes Go.WideShapes Go.ChangeAt Go.RowKit
open Go.ChangeMaps (open_string shut_string)
open PointMath RoomMath Pts Blk LawRoom PointOk
set_option linter.unusedVariables false

theorem own : ownKnob Try.prog.godebug = none := by kernel_rfl
theorem laidOut : laidOutB Try.prog = true := by kernel_rfl

set_option maxRecDepth 100000 in
set_option maxHeartbeats 1600000 in
theorem small (w : World) (A0 : Option Addr) (n0 cap0 : Nat) (ps0 : List Tup3.Tu) (hn0 : n0 ≤ 1048576) (hl0 : ps0.length = n0) (hp0 : Tup3.TsAt w w.heap.size A0 ps0) (a b c : Int) :
    Calls Try.prog 4 #[.slice A0 n0 cap0, .agg #[.int .i64 a, .int .i64 b, .int .i64 c]] w fun e w' => e = .returned (.bool true) ∧ Below w.heap.size w w' := by
  obtain ⟨r, hr⟩ : ∃ r, DutyMath.raisesB ps0 a b c = r := ⟨_, rfl⟩
  have QS : Hid (∀ (A0 : Option Addr) (n0 cap0 : Nat) (w : World) (hl0 : ps0.length = n0) (hn0 : n0 ≤ 1048576) (hp0 : Tup3.TsAt w w.heap.size A0 ps0), _) := Lib.hid fun A0 n0 cap0 w hl0 hn0 hp0 => AlarmSpec.raises A0 n0 cap0 a b c w ps0 hl0 hn0 hp0
  have QI : Hid (∀ (A0 : Option Addr) (n0 cap0 : Nat) (w : World) (hl0 : ps0.length = n0) (hn0 : n0 ≤ 1048576) (hp0 : Tup3.TsAt w w.heap.size A0 ps0), _) := Lib.hid fun A0 n0 cap0 w hl0 hn0 hp0 => AlarmImpl.raises A0 n0 cap0 a b c w ps0 hl0 hn0 hp0
  rw [hr] at QS QI
  have HS0 := Lib.hid fun w => LawZone.szZoneSL A0 n0 cap0 1048576 (by omega) (by omega) w
  simp only [show (n0 : Int) ≤ 1048576 by omega, if_true] at HS0
  clear hr
  go_enter Try.func4, Try.ntmps4
  go_wp2_with fail
  have X0 := Tup3.box1 w a b c 30 (k := w.heap.size) (by simp)
  have b0 := PointOk.below1 w (Obj.cells #[.int .i64 a, .int .i64 b, .int .i64 c] 30)
  have HO : ∀ W W' : World, (Tup3.Box W (w.heap.size) a b c ∧ Tup3.TsAt W w.heap.size A0 ps0 ∧ Below w.heap.size w W) → Below W.heap.size W W' → (Tup3.Box W' (w.heap.size) a b c ∧ Tup3.TsAt W' w.heap.size A0 ps0 ∧ Below w.heap.size w W') := fun W W' ⟨h0, x0, hb⟩ h => ⟨h0.later h, x0.later (h.mono hb.size), hb.trans (h.mono hb.size)⟩
  have hz0_ : Hid (((w.alloc (Obj.cells #[.int .i64 a, .int .i64 b, .int .i64 c] 30))).heap.size = w.heap.size + 1) := Lib.hid (by simp)
  have Y0 : Tup3.TsAt ((w.alloc (Obj.cells #[.int .i64 a, .int .i64 b, .int .i64 c] 30))) w.heap.size A0 ps0 := hp0.later b0
  generalize (w.alloc (Obj.cells #[.int .i64 a, .int .i64 b, .int .i64 c] 30)) = w0 at X0 Y0 b0 hz0_ ⊢
  have S0 := (⟨X0, Y0, b0⟩ : Tup3.Box w0 (w.heap.size) a b c ∧ Tup3.TsAt w0 w.heap.size A0 ps0 ∧ Below w.heap.size w w0)
  clear X0 Y0 b0
  obtain ⟨⟨_, _, _⟩, _, _⟩ := id S0
  refine (HS0.out _).mono ?_
  rintro e w_ ⟨rfl, rfl⟩
  go_wp2_with fail
  have S0_ := HO _ _ S0 ((Below.refl _ _).drew)
  have HS0_ : w0.drew.cell? ⟨w.heap.size, 0, none⟩ = some (.int .i64 a) ∧ w0.drew.cell? ⟨w.heap.size, 1, none⟩ = some (.int .i64 b) ∧ w0.drew.cell? ⟨w.heap.size, 2, none⟩ = some (.int .i64 c) := (by obtain ⟨⟨_, _, _⟩, _, _⟩ := id S0_; exact ⟨by assumption, by assumption, by assumption⟩)
  go_region_held3 (fun W => W.cell? ⟨w.heap.size, 0, none⟩ = some (.int .i64 a) ∧ W.cell? ⟨w.heap.size, 1, none⟩ = some (.int .i64 b) ∧ W.cell? ⟨w.heap.size, 2, none⟩ = some (.int .i64 c)) (first | exact HS0_ | assumption) (first | (go_at_call 20; refine (LawZone.toZoneS A0 ps0 n0 cap0 _ hl0 hn0 (S0_.2.1.wide S0_.2.2.size)).mono ?_; rintro e w2 ⟨gs0, rfl, Rs0, _, _, hb0_⟩; have S1_ := HO _ _ S0_ hb0_; have Rs0_1 := Rs0; have HS1_ : w2.cell? ⟨w.heap.size, 0, none⟩ = some (.int .i64 a) ∧ w2.cell? ⟨w.heap.size, 1, none⟩ = some (.int .i64 b) ∧ w2.cell? ⟨w.heap.size, 2, none⟩ = some (.int .i64 c) := (by obtain ⟨⟨_, _, _⟩, _, _⟩ := id S1_; exact ⟨by assumption, by assumption, by assumption⟩)) | (go_at_call 21; refine (LawReport.toReport a b c _).mono ?_; rintro e w3 ⟨rfl, hb1_⟩; have S2_ := HO _ _ S1_ hb1_; have Rs0_2 := Rs0_1.later hb1_; have HS2_ : w3.cell? ⟨w.heap.size, 0, none⟩ = some (.int .i64 a) ∧ w3.cell? ⟨w.heap.size, 1, none⟩ = some (.int .i64 b) ∧ w3.cell? ⟨w.heap.size, 2, none⟩ = some (.int .i64 c) := (by obtain ⟨⟨_, _, _⟩, _, _⟩ := id S2_; exact ⟨by assumption, by assumption, by assumption⟩)) | (go_at_call 19; refine (QS.out _ n0 n0 _ hl0 hn0 Rs0_2.ptsIn).mono ?_; rintro e w4 ⟨rfl, hb2_⟩; have S3_ := HO _ _ S2_ hb2_; have Rs0_3 := Rs0_2.later hb2_; have HS3_ : w4.cell? ⟨w.heap.size, 0, none⟩ = some (.int .i64 a) ∧ w4.cell? ⟨w.heap.size, 1, none⟩ = some (.int .i64 b) ∧ w4.cell? ⟨w.heap.size, 2, none⟩ = some (.int .i64 c) := (by obtain ⟨⟨_, _, _⟩, _, _⟩ := id S3_; exact ⟨by assumption, by assumption, by assumption⟩)))
  replace S0 := S3_
  have Rs0 := Rs0_3
  obtain ⟨⟨_, _, _⟩, _, _⟩ := id S0
  go_wp2_with fail
  refine (LawZone.toZoneS A0 ps0 n0 cap0 _ hl0 hn0 (S0.2.1.wide S0.2.2.size)).mono ?_
  rintro e w5 ⟨gx0, rfl, Rx0, ex0_, lx0, hb_⟩
  replace S0 := HO _ _ S0 hb_
  replace Rs0 := Rs0.later hb_
  clear hb_
  obtain ⟨⟨_, _, _⟩, _, _⟩ := id S0
  go_wp2_with fail
  refine (LawReport.toReport a b c _).mono ?_
  rintro e w6 ⟨rfl, hb_⟩
  replace S0 := HO _ _ S0 hb_
  replace Rs0 := Rs0.later hb_
  replace Rx0 := Rx0.later hb_
  clear hb_
  obtain ⟨⟨_, _, _⟩, _, _⟩ := id S0
  go_wp2_with fail
  refine (QI.out _ n0 n0 _ hl0 hn0 Rx0.ptsIn).mono ?_
  rintro e w7 ⟨rfl, hb_⟩
  replace S0 := HO _ _ S0 hb_
  replace Rs0 := Rs0.later hb_
  replace Rx0 := Rx0.later hb_
  clear hb_
  obtain ⟨⟨_, _, _⟩, _, _⟩ := id S0
  cases r
  · skip
    go_wp2_with fail
    refine (LawZone.toZoneS A0 ps0 n0 cap0 _ hl0 hn0 (S0.2.1.wide S0.2.2.size)).mono ?_
    rintro e w8 ⟨gy0, rfl, Ry0, ey0_, ly0, hb_⟩
    replace S0 := HO _ _ S0 hb_
    replace Rs0 := Rs0.later hb_
    replace Rx0 := Rx0.later hb_
    clear hb_
    obtain ⟨⟨_, _, _⟩, _, _⟩ := id S0
    go_wp2_with fail
    refine (LawZone.eqZoneS_same _ _ ps0 n0 n0 n0 _ hl0 hn0 Rx0.ptsIn Ry0.ptsIn).mono ?_
    rintro e w9 ⟨rfl, hb_⟩
    replace S0 := HO _ _ S0 hb_
    replace Rs0 := Rs0.later hb_
    replace Rx0 := Rx0.later hb_
    replace Ry0 := Ry0.later hb_
    clear hb_
    obtain ⟨⟨_, _, _⟩, _, _⟩ := id S0
    go_wp2_with fail
    go_ret
    exact ⟨rfl, S0.2.2⟩
  · skip
    go_wp2_with fail
    refine (LawZone.toZoneS A0 ps0 n0 cap0 _ hl0 hn0 (S0.2.1.wide S0.2.2.size)).mono ?_
    rintro e w8 ⟨gy0, rfl, Ry0, ey0_, ly0, hb_⟩
    replace S0 := HO _ _ S0 hb_
    replace Rs0 := Rs0.later hb_
    replace Rx0 := Rx0.later hb_
    clear hb_
    obtain ⟨⟨_, _, _⟩, _, _⟩ := id S0
    go_wp2_with fail
    refine (LawZone.eqZoneS_same _ _ ps0 n0 n0 n0 _ hl0 hn0 Rx0.ptsIn Ry0.ptsIn).mono ?_
    rintro e w9 ⟨rfl, hb_⟩
    replace S0 := HO _ _ S0 hb_
    replace Rs0 := Rs0.later hb_
    replace Rx0 := Rx0.later hb_
    replace Ry0 := Ry0.later hb_
    clear hb_
    obtain ⟨⟨_, _, _⟩, _, _⟩ := id S0
    go_wp2_with fail
    go_ret
    exact ⟨rfl, S0.2.2⟩

theorem walk (w : World) (A0 : Option Addr) (n0 cap0 : Nat) (ps0 : List Tup3.Tu) (hm0 : n0 ≤ maxLen) (hl0 : ps0.length = n0) (hp0 : Tup3.TsAt w w.heap.size A0 ps0) (a b c : Int) (wa : (Lit.int .i64 a).wf = true) (wb : (Lit.int .i64 b).wf = true) (wc : (Lit.int .i64 c).wf = true) :
    Calls Try.prog 4 #[.slice A0 n0 cap0, .agg #[.int .i64 a, .int .i64 b, .int .i64 c]] w fun e w' => e = .returned (.bool true) ∧ Below w.heap.size w w' := by
  by_cases hn : n0 ≤ 1048576
  · exact small w A0 n0 cap0 ps0 (by omega) hl0 hp0 a b c
  · skip
    have HS0 := Lib.hid fun w => LawZone.szZoneSL A0 n0 cap0 (1048576) (by unfold maxLen at hm0; omega) (by omega) w
    simp only [show ¬ (n0 : Int) ≤ 1048576 by omega, if_false] at HS0
    clear hl0 hp0 hm0
    go_enter Try.func4, Try.ntmps4
    go_wp2_with fail
    have X0 := Tup3.box1 w a b c 30 (k := w.heap.size) (by simp)
    have b0 := PointOk.below1 w (Obj.cells #[.int .i64 a, .int .i64 b, .int .i64 c] 30)
    have HO : ∀ W W' : World, (Tup3.Box W (w.heap.size) a b c ∧ Below w.heap.size w W) → Below W.heap.size W W' → (Tup3.Box W' (w.heap.size) a b c ∧ Below w.heap.size w W') := fun W W' ⟨h0, hb⟩ h => ⟨h0.later h, hb.trans (h.mono hb.size)⟩
    have hz0_ : Hid (((w.alloc (Obj.cells #[.int .i64 a, .int .i64 b, .int .i64 c] 30))).heap.size = w.heap.size + 1) := Lib.hid (by simp)
    generalize (w.alloc (Obj.cells #[.int .i64 a, .int .i64 b, .int .i64 c] 30)) = w0 at X0 b0 hz0_ ⊢
    have S0 := (⟨X0, b0⟩ : Tup3.Box w0 (w.heap.size) a b c ∧ Below w.heap.size w w0)
    clear X0 b0
    obtain ⟨⟨_, _, _⟩, _⟩ := id S0
    refine (HS0.out _).mono ?_
    rintro e w_ ⟨rfl, rfl⟩
    go_wp2_with fail
    go_ret
    exact ⟨rfl, S0.2⟩

set_option maxRecDepth 100000 in
theorem contract (H : Type) (enc : TypeId × Value → H) (W : World) (base : Nat) (args : Array Value) (ds gs : List (DataW H)) (before : List MemPlace)
    (hval : ∀ (j : Nat) t v, Try.f4.params[j]? = some t → args[j]? = some v → Value.okWide Try.prog W .any base t v)
    (hW : DataW.Whole enc Try.prog Try.f4.params.toList Rows.fnExactRaisesSpec.vars false W args.toList ds gs before) :
    Calls Try.prog 4 args W fun e W' => ∃ v, e = .returned v ∧ Rows.fnExactRaisesSpec.post enc Try.prog Try.f4 false true false false W args v W' := by
  have hW' := hW
  obtain ⟨p, q, hA0, hV, rfl, hfz, hnd⟩ := hW
  have hA : DataW.TrodAll enc Try.prog W 0 (fun _ => true) true Try.f4.params.toList args.toList ds p := hA0
  rw [Try.params4] at hA hval
  obtain ⟨v0, vs0, d0, ds0, p0, q0, hargs, rfl, rfl, h0, r0⟩ := trodAll_cons hA
  obtain ⟨v1, vs1, d1, ds1, p1, q1, rfl, rfl, rfl, h1, r1⟩ := trodAll_cons r0
  obtain ⟨rfl, rfl, rfl⟩ := trodAll_nil r1
  obtain rfl : args = #[v0, v1] := by cases args; simp_all
  obtain ⟨rfl, rfl⟩ := trodVars_none hV
  obtain ⟨a0, len0, cap0, rfl⟩ := okWide_slice Try.underlying28 (hval 0 28 v0 rfl rfl)
  have k0 := h0
  have lt0 : ∀ x ∈ p0, x.block < W.heap.size := by obtain ⟨m, hm⟩ := k0; exact DataW.trod_lt m _ _ _ hm
  obtain ⟨z0, w0, l0, r0p⟩ : ∃ ps : List Tup3.Tu, len0 ≤ maxLen ∧ ps.length = len0 ∧ Tup3.TsAt W W.heap.size a0 ps := by
    obtain ⟨fuel, hf⟩ := h0
    simp only [Value.cells] at hf
    obtain ⟨A_, n_, cp_, ps_, hu, h1, h2, h3⟩ := Tup3.open_many (k := 4) Try.underlying28 (te := 23) (by kernel_rfl) (by kernel_rfl) hf
    injection hu with e1 e2 e3
    subst e1 e2 e3
    exact ⟨ps_, h1, h2, h3⟩
  have k1 := h1
  have lt1 : ∀ x ∈ p1, x.block < W.heap.size := by obtain ⟨m, hm⟩ := k1; exact DataW.trod_lt m _ _ _ hm
  obtain ⟨f1_0, f1_1, f1_2, rfl, wf1_0, wf1_1, wf1_2⟩ := Tup3.open_one (k := 4) Try.underlying30 (by kernel_rfl) (by kernel_rfl) (hval 1 30 v1 rfl rfl) h1
  clear hA0
  refine (walk W a0 len0 cap0 z0 w0 l0 r0p f1_0 f1_1 f1_2 wf1_0 wf1_1 wf1_2).mono fun e W' ⟨he, hg⟩ => ?_
  subst he
  exact ⟨_, rfl, _, _, _, [], _, [], hW', (trodAll_cons_mk (shut_bool Try.underlying4 _) trodAll_mk0), (trodAll_cons_mk (Below.trod laidOut (by kernel_rfl) (of_decide_eq_true (by kernel_rfl)) k0 hg lt0) (trodAll_cons_mk (Below.trod laidOut (by kernel_rfl) (of_decide_eq_true (by kernel_rfl)) k1 hg lt1) trodAll_mk0)), rfl, hg.frame _, fun h => by cases h⟩

set_option maxRecDepth 100000 in
theorem lifted (os : Os) (started : os.Started) (H : Type) (enc : TypeId × Value → H) :
    ReturnsInHanded {} Try.checked os 4 .any (Rows.fnExactRaisesSpec.pre6 enc Try.prog Try.f4 Rows.fnExactRaisesRow.domain false) (Rows.fnExactRaisesSpec.post enc Try.prog Try.f4 false true false false) := by
  refine returnsInHanded_of_change (C := Try.checked) own started (by kernel_rfl) Try.func4
    (ChangeSpec.witness6 (enc := enc) (C := Try.checked) false ⟨#[], #[Value.slice none 0 0, Value.agg #[.int .i64 0, .int .i64 0, .int .i64 0]], []⟩ 8 (by kernel_rfl) (by kernel_rfl) (by kernel_rfl) (by kernel_rfl)) ?_
  intro W base args ds gs before hval hW hcnd _
  exact contract H enc W base args ds gs before hval hW

theorem proved : Rows.FnExactRaisesSaid :=
  OpenClaim.holds_of_wide 4 Try.f4 rfl rfl rfl rfl rfl rfl rfl ⟨rfl, rfl, rfl, rfl, rfl⟩ rfl rfl rfl rfl rfl (by kernel_rfl) Try.func4 (by kernel_rfl)
    (of_decide_eq_true (by kernel_rfl)) (by unfold Func.isWrapper; first | (rw [if_pos (by decide +kernel)]; kernel_rfl) | (rw [if_neg (by decide +kernel)]; exact ⟨rfl, rfl⟩))
    (fun os started H enc _ => lifted os started H enc)
#print axioms proved
end Go.Proofs.Ytcpepljgnkmajaa.fnExactRaises
