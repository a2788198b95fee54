/-
  For every argument, the landed LongestCalm answers just as its model does: the law's call returns true, and the arguments read as they did. No condition.
-/
import Derived.Test.YtmcjnldkhnebcaaRows
import Derived.WalkKit
import Derived.ProofKit
import Derived.OpenShut
import Derived.ShutString
import Derived.Test.YtmcjnldkhnebcaaTup3
import Derived.Test.YtmcjnldkhnebcaaCalmSpec
import Derived.Test.YtmcjnldkhnebcaaCalmImpl
import Derived.Test.YtmcjnldkhnebcaaLawRoom
import Derived.Test.YtmcjnldkhnebcaaGround
import Derived.Test.YtmcjnldkhnebcaaLawZone
import Derived.Test.YtmcjnldkhnebcaaLawReport
namespace Go.Proofs.Ytmcjnldkhnebcaa.fnExactLongestCalm
open Go.ChangeShapes Go.WideShapes Go.ChangeAt Go.RowKit
open Go.ChangeMaps (open_string shut_string)
open PointMath RoomMath Pts Blk LawRoom PointOk
set_option linter.unusedVariables false

theorem own : ownKnob Try.prog.godebug = none := by kernel_rfl
theorem laidOut : laidOutB Try.prog = true := by kernel_rfl

set_option maxRecDepth 100000 in
set_option maxHeartbeats 1600000 in
theorem small (w : World) (A0 : Option Addr) (n0 cap0 : Nat) (ps0 : List Tup3.Tu) (hn0 : n0 ≤ 1048576) (hl0 : ps0.length = n0) (hp0 : Tup3.TsAt w w.heap.size A0 ps0) (A1 : Option Addr) (n1 cap1 : Nat) (ps1 : List Tup3.Tu) (hn1 : n1 ≤ 1048576) (hl1 : ps1.length = n1) (hp1 : Tup3.TsAt w w.heap.size A1 ps1) (hsum : n0 + n1 ≤ 1048576) :
    Calls Try.prog 3 #[.slice A0 n0 cap0, .slice A1 n1 cap1] w fun e w' => e = .returned (.bool true) ∧ Below w.heap.size w w' := by
  obtain ⟨r, hr⟩ : ∃ r, CalmMath.calmI ps0 ps1 = r := ⟨_, rfl⟩
  have QS : Hid (∀ (A0 : Option Addr) (n0 cap0 : Nat) (A1 : Option Addr) (n1 cap1 : Nat) (w : World) (hl0 : ps0.length = n0) (hn0 : n0 ≤ 1048576) (hp0 : Tup3.TsAt w w.heap.size A0 ps0) (hl1 : ps1.length = n1) (hn1 : n1 ≤ 1048576) (hp1 : Tup3.TsAt w w.heap.size A1 ps1), _) := Lib.hid fun A0 n0 cap0 A1 n1 cap1 w hl0 hn0 hp0 hl1 hn1 hp1 => CalmSpec.longestCalm A0 n0 cap0 A1 n1 cap1 w ps0 hl0 hn0 hp0 ps1 hl1 hn1 hp1
  have QI : Hid (∀ (A0 : Option Addr) (n0 cap0 : Nat) (A1 : Option Addr) (n1 cap1 : Nat) (w : World) (hl0 : ps0.length = n0) (hn0 : n0 ≤ 1048576) (hp0 : Tup3.TsAt w w.heap.size A0 ps0) (hl1 : ps1.length = n1) (hn1 : n1 ≤ 1048576) (hp1 : Tup3.TsAt w w.heap.size A1 ps1), _) := Lib.hid fun A0 n0 cap0 A1 n1 cap1 w hl0 hn0 hp0 hl1 hn1 hp1 => CalmImpl.longestCalm A0 n0 cap0 A1 n1 cap1 w ps0 hl0 hn0 hp0 ps1 hl1 hn1 hp1
  rw [hr] at QS QI
  have HS0 := Lib.hid (fun w => LawZone.szZoneSL A0 n0 cap0 (1048576) (by omega) (by omega) w)
  simp only [show (n0 : Int) ≤ 1048576 by omega, if_true] at HS0
  have hs0_ : ¬ (1048576 - (n0 : Int) < 0) := by omega
  have HS1 := Lib.hid (fun w => LawReport.szReportSL A1 n1 cap1 (1048576 - (n0 : Int)) (by omega) (by omega) w)
  simp only [show (n1 : Int) ≤ 1048576 - (n0 : Int) by omega, if_true] at HS1
  have hs1_ : ¬ (1048576 - (n0 : Int) - (n1 : Int) < 0) := by omega
  clear hr
  go_enter Try.func3, Try.ntmps3
  go_wp2_with fail
  have HO : ∀ W W' : World, (Tup3.TsAt W w.heap.size A0 ps0 ∧ Tup3.TsAt W w.heap.size A1 ps1 ∧ Below w.heap.size w W) → Below W.heap.size W W' → (Tup3.TsAt W' w.heap.size A0 ps0 ∧ Tup3.TsAt W' w.heap.size A1 ps1 ∧ Below w.heap.size w W') := fun W W' ⟨x0, x1, hb⟩ h => ⟨x0.later (h.mono hb.size), x1.later (h.mono hb.size), hb.trans (h.mono hb.size)⟩
  have S0 : Tup3.TsAt w w.heap.size A0 ps0 ∧ Tup3.TsAt w w.heap.size A1 ps1 ∧ Below w.heap.size w w := ⟨hp0, hp1, Below.refl _ _⟩
  clear hp0 hp1
  refine (HS0.out _).mono ?_
  rintro e w_ ⟨rfl, rfl⟩
  go_wp2_with fail
  refine (HS1.out _).mono ?_
  rintro e w_ ⟨rfl, rfl⟩
  go_wp2_with fail
  refine (LawZone.toZoneS A0 ps0 n0 cap0 _ hl0 hn0 (S0.1.wide S0.2.2.size)).mono ?_
  rintro e w3 ⟨gs0, rfl, Rs0, es0_, ls0, hb_⟩
  replace S0 := HO _ _ S0 hb_
  clear hb_
  obtain ⟨_, _, _⟩ := id S0
  go_wp2_with fail
  refine (LawReport.toReportS A1 ps1 n1 cap1 _ hl1 hn1 (S0.2.1.wide S0.2.2.size)).mono ?_
  rintro e w4 ⟨gs1, rfl, Rs1, es1_, ls1, hb_⟩
  replace S0 := HO _ _ S0 hb_
  replace Rs0 := Rs0.later hb_
  clear hb_
  obtain ⟨_, _, _⟩ := id S0
  go_wp2_with fail
  refine (QS.out _ n0 n0 _ n1 n1 _ hl0 hn0 Rs0.ptsIn hl1 hn1 Rs1.ptsIn).mono ?_
  rintro e w5 ⟨rfl, hb_⟩
  replace S0 := HO _ _ S0 hb_
  replace Rs0 := Rs0.later hb_
  replace Rs1 := Rs1.later hb_
  clear hb_
  obtain ⟨_, _, _⟩ := id S0
  go_wp2_with fail
  refine (LawZone.toZoneS A0 ps0 n0 cap0 _ hl0 hn0 (S0.1.wide S0.2.2.size)).mono ?_
  rintro e w6 ⟨gx0, rfl, Rx0, ex0_, lx0, hb_⟩
  replace S0 := HO _ _ S0 hb_
  replace Rs0 := Rs0.later hb_
  replace Rs1 := Rs1.later hb_
  clear hb_
  obtain ⟨_, _, _⟩ := id S0
  go_wp2_with fail
  refine (LawReport.toReportS A1 ps1 n1 cap1 _ hl1 hn1 (S0.2.1.wide S0.2.2.size)).mono ?_
  rintro e w7 ⟨gx1, rfl, Rx1, ex1_, lx1, hb_⟩
  replace S0 := HO _ _ S0 hb_
  replace Rs0 := Rs0.later hb_
  replace Rs1 := Rs1.later hb_
  replace Rx0 := Rx0.later hb_
  clear hb_
  obtain ⟨_, _, _⟩ := id S0
  go_wp2_with fail
  refine (QI.out _ n0 n0 _ n1 n1 _ hl0 hn0 Rx0.ptsIn hl1 hn1 Rx1.ptsIn).mono ?_
  rintro e w8 ⟨rfl, hb_⟩
  replace S0 := HO _ _ S0 hb_
  replace Rs0 := Rs0.later hb_
  replace Rs1 := Rs1.later hb_
  replace Rx0 := Rx0.later hb_
  replace Rx1 := Rx1.later hb_
  clear hb_
  obtain ⟨_, _, _⟩ := id S0
  go_wp2_with fail
  refine (LawZone.toZoneS A0 ps0 n0 cap0 _ hl0 hn0 (S0.1.wide S0.2.2.size)).mono ?_
  rintro e w9 ⟨gy0, rfl, Ry0, ey0_, ly0, hb_⟩
  replace S0 := HO _ _ S0 hb_
  replace Rs0 := Rs0.later hb_
  replace Rs1 := Rs1.later hb_
  replace Rx0 := Rx0.later hb_
  replace Rx1 := Rx1.later hb_
  clear hb_
  obtain ⟨_, _, _⟩ := id S0
  go_wp2_with fail
  refine (LawZone.eqZoneS_same _ _ ps0 n0 n0 n0 _ hl0 hn0 Rx0.ptsIn Ry0.ptsIn).mono ?_
  rintro e w10 ⟨rfl, hb_⟩
  replace S0 := HO _ _ S0 hb_
  replace Rs0 := Rs0.later hb_
  replace Rs1 := Rs1.later hb_
  replace Rx0 := Rx0.later hb_
  replace Rx1 := Rx1.later hb_
  replace Ry0 := Ry0.later hb_
  clear hb_
  obtain ⟨_, _, _⟩ := id S0
  go_wp2_with fail
  refine (LawReport.toReportS A1 ps1 n1 cap1 _ hl1 hn1 (S0.2.1.wide S0.2.2.size)).mono ?_
  rintro e w11 ⟨gy1, rfl, Ry1, ey1_, ly1, hb_⟩
  replace S0 := HO _ _ S0 hb_
  replace Rs0 := Rs0.later hb_
  replace Rs1 := Rs1.later hb_
  replace Rx0 := Rx0.later hb_
  replace Rx1 := Rx1.later hb_
  replace Ry0 := Ry0.later hb_
  clear hb_
  obtain ⟨_, _, _⟩ := id S0
  go_wp2_with fail
  refine (LawReport.eqReportS_same _ _ ps1 n1 n1 n1 _ hl1 hn1 Rx1.ptsIn Ry1.ptsIn).mono ?_
  rintro e w12 ⟨rfl, hb_⟩
  replace S0 := HO _ _ S0 hb_
  replace Rs0 := Rs0.later hb_
  replace Rs1 := Rs1.later hb_
  replace Rx0 := Rx0.later hb_
  replace Rx1 := Rx1.later hb_
  replace Ry0 := Ry0.later hb_
  replace Ry1 := Ry1.later hb_
  clear hb_
  obtain ⟨_, _, _⟩ := id S0
  go_wp2_with fail
  go_ret
  exact ⟨rfl, S0.2.2⟩

theorem walk (w : World) (A0 : Option Addr) (n0 cap0 : Nat) (ps0 : List Tup3.Tu) (hm0 : n0 ≤ maxLen) (hl0 : ps0.length = n0) (hp0 : Tup3.TsAt w w.heap.size A0 ps0) (A1 : Option Addr) (n1 cap1 : Nat) (ps1 : List Tup3.Tu) (hm1 : n1 ≤ maxLen) (hl1 : ps1.length = n1) (hp1 : Tup3.TsAt w w.heap.size A1 ps1) :
    Calls Try.prog 3 #[.slice A0 n0 cap0, .slice A1 n1 cap1] w fun e w' => e = .returned (.bool true) ∧ Below w.heap.size w w' := by
  by_cases hn : n0 ≤ 1048576
  · by_cases hn1 : n0 + n1 ≤ 1048576
    · exact small w A0 n0 cap0 ps0 (by omega) hl0 hp0 A1 n1 cap1 ps1 (by omega) hl1 hp1 (by omega)
    · skip
      have HS0 := Lib.hid fun w => LawZone.szZoneSL A0 n0 cap0 (1048576) (by unfold maxLen at hm0; omega) (by omega) w
      simp only [show (n0 : Int) ≤ 1048576 by omega, if_true] at HS0
      have hs0_ : ¬ (1048576 - (n0 : Int) < 0) := by omega
      have HS1 := Lib.hid fun w => LawReport.szReportSL A1 n1 cap1 (1048576 - (n0 : Int)) (by unfold maxLen at hm1; omega) (by omega) w
      simp only [show ¬ (n1 : Int) ≤ 1048576 - (n0 : Int) by omega, if_false] at HS1
      clear hl0 hp0 hm0 hl1 hp1 hm1
      go_enter Try.func3, Try.ntmps3
      go_wp2_with fail
      refine (HS0.out _).mono ?_
      rintro e w_ ⟨rfl, rfl⟩
      go_wp2_with fail
      refine (HS1.out _).mono ?_
      rintro e w_ ⟨rfl, rfl⟩
      go_wp2_with fail
      go_ret
      exact ⟨rfl, (Below.refl w.heap.size w )⟩
  · skip
    have HS0 := Lib.hid fun w => LawZone.szZoneSL A0 n0 cap0 (1048576) (by unfold maxLen at hm0; omega) (by omega) w
    simp only [show ¬ (n0 : Int) ≤ 1048576 by omega, if_false] at HS0
    clear hl0 hp0 hm0 hl1 hp1 hm1
    go_enter Try.func3, Try.ntmps3
    go_wp2_with fail
    refine (HS0.out _).mono ?_
    rintro e w_ ⟨rfl, rfl⟩
    go_wp2_with fail
    go_ret
    exact ⟨rfl, (Below.refl w.heap.size w )⟩

set_option maxRecDepth 100000 in
theorem contract (H : Type) (enc : TypeId × Value → H) (W : World) (base : Nat) (args : Array Value) (ds gs : List (DataW H)) (before : List MemPlace)
    (hval : ∀ (j : Nat) t v, Try.f3.params[j]? = some t → args[j]? = some v → Value.okWide Try.prog W .any base t v)
    (hW : DataW.Whole enc Try.prog Try.f3.params.toList Rows.fnExactLongestCalmSpec.vars false W args.toList ds gs before) :
    Calls Try.prog 3 args W fun e W' => ∃ v, e = .returned v ∧ Rows.fnExactLongestCalmSpec.post enc Try.prog Try.f3 false true false false W args v W' := by
  have hW' := hW
  obtain ⟨p, q, hA0, hV, rfl, hfz, hnd⟩ := hW
  have hA : DataW.TrodAll enc Try.prog W 0 (fun _ => true) true Try.f3.params.toList args.toList ds p := hA0
  rw [Try.params3] at hA hval
  obtain ⟨v0, vs0, d0, ds0, p0, q0, hargs, rfl, rfl, h0, r0⟩ := trodAll_cons hA
  obtain ⟨v1, vs1, d1, ds1, p1, q1, rfl, rfl, rfl, h1, r1⟩ := trodAll_cons r0
  obtain ⟨rfl, rfl, rfl⟩ := trodAll_nil r1
  obtain rfl : args = #[v0, v1] := by cases args; simp_all
  obtain ⟨rfl, rfl⟩ := trodVars_none hV
  obtain ⟨a0, len0, cap0, rfl⟩ := okWide_slice Try.underlying22 (hval 0 22 v0 rfl rfl)
  have k0 := h0
  have lt0 : ∀ x ∈ p0, x.block < W.heap.size := by obtain ⟨m, hm⟩ := k0; exact DataW.trod_lt m _ _ _ hm
  obtain ⟨z0, w0, l0, r0p⟩ : ∃ ps : List Tup3.Tu, len0 ≤ maxLen ∧ ps.length = len0 ∧ Tup3.TsAt W W.heap.size a0 ps := by
    obtain ⟨fuel, hf⟩ := h0
    simp only [Value.cells] at hf
    obtain ⟨A_, n_, cp_, ps_, hu, h1, h2, h3⟩ := Tup3.open_many (k := 4) Try.underlying22 (te := 41) (by kernel_rfl) (by kernel_rfl) hf
    injection hu with e1 e2 e3
    subst e1 e2 e3
    exact ⟨ps_, h1, h2, h3⟩
  obtain ⟨a1, len1, cap1, rfl⟩ := okWide_slice Try.underlying23 (hval 1 23 v1 rfl rfl)
  have k1 := h1
  have lt1 : ∀ x ∈ p1, x.block < W.heap.size := by obtain ⟨m, hm⟩ := k1; exact DataW.trod_lt m _ _ _ hm
  obtain ⟨z1, w1, l1, r1p⟩ : ∃ ps : List Tup3.Tu, len1 ≤ maxLen ∧ ps.length = len1 ∧ Tup3.TsAt W W.heap.size a1 ps := by
    obtain ⟨fuel, hf⟩ := h1
    simp only [Value.cells] at hf
    obtain ⟨A_, n_, cp_, ps_, hu, h1, h2, h3⟩ := Tup3.open_many (k := 4) Try.underlying23 (te := 43) (by kernel_rfl) (by kernel_rfl) hf
    injection hu with e1 e2 e3
    subst e1 e2 e3
    exact ⟨ps_, h1, h2, h3⟩
  clear hA0
  refine (walk W a0 len0 cap0 z0 w0 l0 r0p a1 len1 cap1 z1 w1 l1 r1p).mono fun e W' ⟨he, hg⟩ => ?_
  subst he
  exact ⟨_, rfl, _, _, _, [], _, [], hW', (trodAll_cons_mk (shut_bool Try.underlying4 _) trodAll_mk0), (trodAll_cons_mk (Below.trod laidOut (by kernel_rfl) (of_decide_eq_true (by kernel_rfl)) k0 hg lt0) (trodAll_cons_mk (Below.trod laidOut (by kernel_rfl) (of_decide_eq_true (by kernel_rfl)) k1 hg lt1) trodAll_mk0)), rfl, hg.frame _, fun h => by cases h⟩

set_option maxRecDepth 100000 in
theorem lifted (os : Os) (started : os.Started) (H : Type) (enc : TypeId × Value → H) :
    ReturnsInHanded {} Try.checked os 3 .any (Rows.fnExactLongestCalmSpec.pre6 enc Try.prog Try.f3 Rows.fnExactLongestCalmRow.domain false) (Rows.fnExactLongestCalmSpec.post enc Try.prog Try.f3 false true false false) := by
  refine returnsInHanded_of_change (C := Try.checked) own started (by kernel_rfl) Try.func3
    (ChangeSpec.witness6 (enc := enc) (C := Try.checked) false ⟨#[], #[Value.slice none 0 0, Value.slice none 0 0], []⟩ 8 (by kernel_rfl) (by kernel_rfl) (by kernel_rfl) (by kernel_rfl)) ?_
  intro W base args ds gs before hval hW hcnd _
  exact contract H enc W base args ds gs before hval hW

theorem proved : Rows.FnExactLongestCalmSaid :=
  OpenClaim.holds_of_wide 3 Try.f3 rfl rfl rfl rfl rfl rfl rfl ⟨rfl, rfl, rfl, rfl, rfl⟩ rfl rfl rfl rfl rfl (by kernel_rfl) Try.func3 (by kernel_rfl)
    (of_decide_eq_true (by kernel_rfl)) (by unfold Func.isWrapper; first | (rw [if_pos (by decide +kernel)]; kernel_rfl) | (rw [if_neg (by decide +kernel)]; exact ⟨rfl, rfl⟩))
    (fun os started H enc _ => lifted os started H enc)
#print axioms proved
end Go.Proofs.Ytmcjnldkhnebcaa.fnExactLongestCalm
