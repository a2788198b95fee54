/-
  For every argument, the landed AlarmsOf answers just as its model does, in memory that it shares with nothing: the law's call returns true, and the arguments read as they did. No condition.
-/
import Derived.Test.YtcpepljgnkmajaaRows
import Derived.WalkKit
import Derived.ProofKit
import Derived.OpenShut
import Derived.ShutString
import Derived.Test.YtcpepljgnkmajaaTup3
import Derived.Test.YtcpepljgnkmajaaAlarmSpec
import Derived.Test.YtcpepljgnkmajaaAlarmImpl
import Derived.Test.YtcpepljgnkmajaaLawInt
import Derived.Test.YtcpepljgnkmajaaLawRoom
import Derived.Test.YtcpepljgnkmajaaGround
import Derived.Test.YtcpepljgnkmajaaLawZone
import Derived.Test.YtcpepljgnkmajaaLawReport
namespace Go.Proofs.Ytcpepljgnkmajaa.fnExactAlarmsOf
open Go.ChangeShapes Go.WideShapes Go.ChangeAt Go.RowKit
open Go.ChangeMaps (open_string shut_string)
open PointMath RoomMath Pts Blk LawRoom PointOk Own LawInt
set_option linter.unusedVariables false

theorem own : ownKnob Try.prog.godebug = none := by kernel_rfl
theorem laidOut : laidOutB Try.prog = true := by kernel_rfl

set_option maxRecDepth 100000 in
set_option maxHeartbeats 6400000 in
theorem small (w : World) (A0 : Option Addr) (n0 cap0 : Nat) (ps0 : List Tup3.Tu) (hn0 : n0 ≤ 1048576) (hl0 : ps0.length = n0) (hp0 : Tup3.TsAt w w.heap.size A0 ps0) (A1 : Option Addr) (n1 cap1 : Nat) (ps1 : List Tup3.Tu) (hn1 : n1 ≤ 1048576) (hl1 : ps1.length = n1) (hp1 : Tup3.TsAt w w.heap.size A1 ps1) (hsum : n0 + n1 ≤ 1048576) :
    Calls Try.prog 5 #[.slice A0 n0 cap0, .slice A1 n1 cap1] w fun e w' => e = .returned (.bool true) ∧ Below w.heap.size w w' := by
  obtain ⟨l, hlq⟩ : ∃ l, DutyMath.alarmsL ps0 ps1 = l := ⟨_, rfl⟩
  have QS : Hid (∀ (A0 : Option Addr) (n0 cap0 : Nat) (A1 : Option Addr) (n1 cap1 : Nat) (w : World) (hl0 : ps0.length = n0) (hn0 : n0 ≤ 1048576) (hp0 : Tup3.TsAt w w.heap.size A0 ps0) (hl1 : ps1.length = n1) (hn1 : n1 ≤ 1048576) (hp1 : Tup3.TsAt w w.heap.size A1 ps1), _) := Lib.hid fun A0 n0 cap0 A1 n1 cap1 w hl0 hn0 hp0 hl1 hn1 hp1 => AlarmSpec.alarmsOf A0 n0 cap0 A1 n1 cap1 w ps0 hl0 hn0 hp0 ps1 hl1 hn1 hp1
  have QI : Hid (∀ (A0 : Option Addr) (n0 cap0 : Nat) (A1 : Option Addr) (n1 cap1 : Nat) (w : World) (hl0 : ps0.length = n0) (hn0 : n0 ≤ 1048576) (hp0 : Tup3.TsAt w w.heap.size A0 ps0) (hl1 : ps1.length = n1) (hn1 : n1 ≤ 1048576) (hp1 : Tup3.TsAt w w.heap.size A1 ps1), _) := Lib.hid fun A0 n0 cap0 A1 n1 cap1 w hl0 hn0 hp0 hl1 hn1 hp1 => AlarmImpl.alarmsOf A0 n0 cap0 A1 n1 cap1 w ps0 hl0 hn0 hp0 ps1 hl1 hn1 hp1
  rw [hlq] at QS QI
  obtain ⟨m, hm⟩ : ∃ m, l.length = m := ⟨_, rfl⟩
  have hmb : m ≤ 1048576 := by rw [← hm, ← hlq]; exact DutyMath.alarmsL_le ps0 ps1 (by omega)
  unfold GivesI at QS QI
  rw [hm] at QS QI
  have HS0 := Lib.hid fun w => LawZone.szZoneSL A0 n0 cap0 (1048576) (by omega) (by omega) w
  simp only [show (n0 : Int) ≤ 1048576 by omega, if_true] at HS0
  have hs0_ : ¬ (1048576 - (n0 : Int) < 0) := by omega
  have HS1 := Lib.hid fun w => LawReport.szReportSL A1 n1 cap1 (1048576 - (n0 : Int)) (by omega) (by omega) w
  simp only [show (n1 : Int) ≤ 1048576 - (n0 : Int) by omega, if_true] at HS1
  have hs1_ : ¬ (1048576 - (n0 : Int) - (n1 : Int) < 0) := by omega
  have kq_ : ¬ (((1 + n0 * 3 + n1 * 3 : Nat) : Int) < 0) := by omega
  have kr_ : ¬ (((1 + m * 1 : Nat) : Int) < 0) := by omega
  clear hlq
  go_enter Try.func5, Try.ntmps5
  go_wp2_with fail
  have HO : ∀ W W' : World, (Tup3.TsAt W w.heap.size A0 ps0 ∧ Tup3.TsAt W w.heap.size A1 ps1 ∧ w.heap.size ≤ W.heap.size ∧ Below w.heap.size w W) → Below W.heap.size W W' → (Tup3.TsAt W' w.heap.size A0 ps0 ∧ Tup3.TsAt W' w.heap.size A1 ps1 ∧ w.heap.size ≤ W'.heap.size ∧ Below w.heap.size w W') := fun W W' ⟨x0, x1, x2, hb⟩ h => ⟨x0.later (h.mono hb.size), x1.later (h.mono hb.size), Nat.le_trans x2 h.size, hb.trans (h.mono hb.size)⟩
  have S0 : Tup3.TsAt w w.heap.size A0 ps0 ∧ Tup3.TsAt w w.heap.size A1 ps1 ∧ w.heap.size ≤ w.heap.size ∧ Below w.heap.size w w := ⟨hp0, hp1, Nat.le_refl _, Below.refl _ _⟩
  clear hp0 hp1
  have HO2 : ∀ W W' : World, (Tup3.TsAt W w.heap.size A0 ps0 ∧ Tup3.TsAt W w.heap.size A1 ps1 ∧ w.heap.size ≤ W.heap.size ∧ Below w.heap.size w W) → Below (w.heap.size) W W' → (Tup3.TsAt W' w.heap.size A0 ps0 ∧ Tup3.TsAt W' w.heap.size A1 ps1 ∧ w.heap.size ≤ W'.heap.size ∧ Below w.heap.size w W') := fun W W' ⟨x0, x1, x2, hb⟩ h => ⟨x0.later (h.mono (by omega)), x1.later (h.mono (by omega)), Nat.le_trans x2 h.size, hb.trans (h.mono (by omega))⟩
  refine (HS0.out _).mono ?_
  rintro e w_ ⟨rfl, rfl⟩
  go_wp2_with fail
  refine (HS1.out _).mono ?_
  rintro e w_ ⟨rfl, rfl⟩
  go_wp2_with fail
  refine (LawZone.toZoneS A0 ps0 n0 cap0 _ hl0 hn0 (S0.1.wide S0.2.2.2.size)).mono ?_
  rintro e w3 ⟨gs0, rfl, Rs0, es0_, ls0, hb_⟩
  replace S0 := HO _ _ S0 hb_
  clear hb_
  obtain ⟨_, _, _, _⟩ := id S0
  go_wp2_with fail
  refine (LawReport.toReportS A1 ps1 n1 cap1 _ hl1 hn1 (S0.2.1.wide S0.2.2.2.size)).mono ?_
  rintro e w4 ⟨gs1, rfl, Rs1, es1_, ls1, hb_⟩
  replace S0 := HO _ _ S0 hb_
  replace Rs0 := Rs0.later hb_
  clear hb_
  obtain ⟨_, _, _, _⟩ := id S0
  go_wp2_with fail
  refine (QS.out _ n0 n0 _ n1 n1 _ hl0 hn0 Rs0.ptsIn hl1 hn1 Rs1.ptsIn).mono ?_
  rintro e w5 ⟨A8, c8, rfl, O1, hb_⟩
  replace S0 := HO _ _ S0 hb_
  replace Rs0 := Rs0.later hb_
  replace Rs1 := Rs1.later hb_
  clear hb_
  obtain ⟨_, _, _, _⟩ := id S0
  go_wp2_with fail
  have zq_ : w.heap.size ≤ w5.heap.size := S0.2.2.1
  have ol1_ : ∀ k, (Value.slice A8 m c8).ownBlock = some k → k < w5.heap.size := fun k hk => (O1.lt k hk).2
  refine (LawZone.toZoneS A0 ps0 n0 cap0 _ hl0 hn0 (S0.1.wide S0.2.2.2.size)).mono ?_
  rintro e w6 ⟨gx0, rfl, Rx0, ex0_, lx0, hb_⟩
  replace S0 := HO _ _ S0 hb_
  replace Rs0 := Rs0.later hb_
  replace Rs1 := Rs1.later hb_
  replace O1 := own_below O1 hb_
  clear hb_
  obtain ⟨_, _, _, _⟩ := id S0
  have zx_ : w.heap.size ≤ gx0 := Nat.le_trans zq_ ex0_
  replace ol1_ : ∀ k, (Value.slice A8 m c8).ownBlock = some k → k < gx0 := fun k hk => Nat.lt_of_lt_of_le (ol1_ k hk) ex0_
  clear zq_ ex0_
  go_wp2_with fail
  have rl_ := Blk.Holds.lt Rx0
  refine (LawReport.toReportS A1 ps1 n1 cap1 _ hl1 hn1 (S0.2.1.wide S0.2.2.2.size)).mono ?_
  rintro e w7 ⟨gx1, rfl, Rx1, ex1_, lx1, hb_⟩
  replace S0 := HO _ _ S0 hb_
  replace Rs0 := Rs0.later hb_
  replace Rs1 := Rs1.later hb_
  replace O1 := own_below O1 hb_
  replace Rx0 := Rx0.later hb_
  clear hb_
  obtain ⟨_, _, _, _⟩ := id S0
  have hx1_ : gx0 < gx1 := Nat.lt_of_lt_of_le rl_ ex1_
  clear ex1_ rl_
  go_wp2_with fail
  have rl_ := Blk.Holds.lt Rx1
  refine (QI.out _ n0 n0 _ n1 n1 _ hl0 hn0 Rx0.ptsIn hl1 hn1 Rx1.ptsIn).mono ?_
  rintro e w8 ⟨A9, c9, rfl, O2, hb_⟩
  replace S0 := HO _ _ S0 hb_
  replace Rs0 := Rs0.later hb_
  replace Rs1 := Rs1.later hb_
  replace O1 := own_below O1 hb_
  replace Rx0 := Rx0.later hb_
  replace Rx1 := Rx1.later hb_
  clear hb_
  obtain ⟨_, _, _, _⟩ := id S0
  have ol2_ : ∀ k, (Value.slice A9 m c9).ownBlock = some k → gx1 < k := fun k hk => Nat.lt_of_lt_of_le rl_ (O2.lt k hk).1
  go_wp2_with fail
  refine (eqIB _ _ _ m hmb _ _ l O2 O1).mono ?_
  rintro e w9 ⟨rfl, hb_⟩
  replace S0 := HO _ _ S0 hb_
  replace Rs0 := Rs0.later hb_
  replace Rs1 := Rs1.later hb_
  replace O1 := own_below O1 hb_
  replace Rx0 := Rx0.later hb_
  replace Rx1 := Rx1.later hb_
  replace O2 := own_below O2 hb_
  clear hb_
  obtain ⟨_, _, _, _⟩ := id S0
  go_wp2_with fail
  refine (LawZone.toZoneS A0 ps0 n0 cap0 _ hl0 hn0 (S0.1.wide S0.2.2.2.size)).mono ?_
  rintro e w10 ⟨gy0, rfl, Ry0, ey0_, ly0, hb_⟩
  replace S0 := HO _ _ S0 hb_
  replace Rs0 := Rs0.later hb_
  replace Rs1 := Rs1.later hb_
  replace O1 := own_below O1 hb_
  replace Rx0 := Rx0.later hb_
  replace Rx1 := Rx1.later hb_
  replace O2 := own_below O2 hb_
  clear hb_
  obtain ⟨_, _, _, _⟩ := id S0
  go_wp2_with fail
  refine (LawZone.eqZoneS_same _ _ ps0 n0 n0 n0 _ hl0 hn0 Rx0.ptsIn Ry0.ptsIn).mono ?_
  rintro e w11 ⟨rfl, hb_⟩
  replace S0 := HO _ _ S0 hb_
  replace Rs0 := Rs0.later hb_
  replace Rs1 := Rs1.later hb_
  replace O1 := own_below O1 hb_
  replace Rx0 := Rx0.later hb_
  replace Rx1 := Rx1.later hb_
  replace O2 := own_below O2 hb_
  replace Ry0 := Ry0.later hb_
  clear hb_
  obtain ⟨_, _, _, _⟩ := id S0
  go_wp2_with fail
  refine (LawReport.toReportS A1 ps1 n1 cap1 _ hl1 hn1 (S0.2.1.wide S0.2.2.2.size)).mono ?_
  rintro e w12 ⟨gy1, rfl, Ry1, ey1_, ly1, hb_⟩
  replace S0 := HO _ _ S0 hb_
  replace Rs0 := Rs0.later hb_
  replace Rs1 := Rs1.later hb_
  replace O1 := own_below O1 hb_
  replace Rx0 := Rx0.later hb_
  replace Rx1 := Rx1.later hb_
  replace O2 := own_below O2 hb_
  replace Ry0 := Ry0.later hb_
  clear hb_
  obtain ⟨_, _, _, _⟩ := id S0
  go_wp2_with fail
  refine (LawReport.eqReportS_same _ _ ps1 n1 n1 n1 _ hl1 hn1 Rx1.ptsIn Ry1.ptsIn).mono ?_
  rintro e w13 ⟨rfl, hb_⟩
  replace S0 := HO _ _ S0 hb_
  replace Rs0 := Rs0.later hb_
  replace Rs1 := Rs1.later hb_
  replace O1 := own_below O1 hb_
  replace Rx0 := Rx0.later hb_
  replace Rx1 := Rx1.later hb_
  replace O2 := own_below O2 hb_
  replace Ry0 := Ry0.later hb_
  replace Ry1 := Ry1.later hb_
  clear hb_
  obtain ⟨_, _, _, _⟩ := id S0
  go_wp2_with fail
  have OX0 := LawZone.own_of_row Rx0 hl0 hn0 (Nat.le_refl _)
  have OX1 := LawReport.own_of_row Rx1 hl1 hn1 (Nat.le_refl _)
  refine (LawZone.markZoneSL _ gx0 n0 (1) hn0 (by omega) (by omega) _ _ OX0).mono ?_
  rintro e w14 ⟨rfl, _, hg_⟩
  have hbg_ : Below (w.heap.size) w13 w14 := (Below.refl _ _).grown hg_ S0.2.2.1 (fun k hk => by have e_ : some gx0 = some k := hk; injection e_ with e_; omega)
  replace S0 := HO2 _ _ S0 hbg_
  replace O1 := kept_ne (g := gx0) O1 hg_ (fun k hk => by have := ol1_ k hk; omega)
  replace O2 := kept_ne (g := gx0) O2 hg_ (fun k hk => by have := ol2_ k hk; omega)
  replace OX1 := kept_ne (g := gx0) OX1 hg_ (fun k hk => by have e_ : some gx1 = some k := hk; injection e_ with e_; omega)
  clear hbg_ hg_ OX0 Rs0 Rs1 Rx0 Rx1 Ry0 Ry1
  obtain ⟨_, _, _, _⟩ := id S0
  go_wp2_with fail
  refine (LawReport.markReportSL _ gx1 n1 (1 + n0 * 3) hn1 (by omega) (by omega) _ _ OX1).mono ?_
  rintro e w15 ⟨rfl, _, hg_⟩
  have hbg_ : Below (w.heap.size) w14 w15 := (Below.refl _ _).grown hg_ S0.2.2.1 (fun k hk => by have e_ : some gx1 = some k := hk; injection e_ with e_; omega)
  replace S0 := HO2 _ _ S0 hbg_
  replace O1 := kept_ne (g := gx1) O1 hg_ (fun k hk => by have := ol1_ k hk; omega)
  replace O2 := kept_ne (g := gx1) O2 hg_ (fun k hk => by have := ol2_ k hk; omega)
  clear hbg_ hg_ OX1
  obtain ⟨_, _, _, _⟩ := id S0
  go_wp2_with fail
  refine (eqIB _ _ _ m hmb _ _ l O2 O1).mono ?_
  rintro e w16 ⟨rfl, hb_⟩
  replace S0 := HO _ _ S0 hb_
  replace O1 := own_below O1 hb_
  replace O2 := own_below O2 hb_
  clear hb_
  obtain ⟨_, _, _, _⟩ := id S0
  go_wp2_with fail
  refine (markI _ _ m 1 hmb (by omega) (by omega) _ _ O2).mono ?_
  rintro e w17 ⟨rfl, O3, hg_⟩
  have hbg_ : Below (w.heap.size) w16 w17 := (Below.refl _ _).grown hg_ S0.2.2.1 (fun k hk => by have := ol2_ k hk; omega)
  replace S0 := HO2 _ _ S0 hbg_
  replace O1 := kept_apart O1 hg_ (fun k j hk hj => by have := ol1_ k hk; have := ol2_ j hj; omega)
  clear hbg_ hg_ O2
  obtain ⟨_, _, _, _⟩ := id S0
  go_wp2_with fail
  refine (heldI _ _ m 1 hmb (by omega) (by omega) _ O3).mono ?_
  rintro e w18 ⟨rfl, hb_⟩
  replace S0 := HO _ _ S0 hb_
  replace O1 := own_below O1 hb_
  replace O3 := own_below O3 hb_
  clear hb_
  obtain ⟨_, _, _, _⟩ := id S0
  go_wp2_with fail
  refine (LawZone.toZoneS A0 ps0 n0 cap0 _ hl0 hn0 (S0.1.wide S0.2.2.2.size)).mono ?_
  rintro e w19 ⟨gh0, rfl, Rh0, eh0_, lh0, hb_⟩
  replace S0 := HO _ _ S0 hb_
  replace O1 := own_below O1 hb_
  replace O3 := own_below O3 hb_
  clear hb_
  obtain ⟨_, _, _, _⟩ := id S0
  go_wp2_with fail
  refine (LawReport.toReportS A1 ps1 n1 cap1 _ hl1 hn1 (S0.2.1.wide S0.2.2.2.size)).mono ?_
  rintro e w20 ⟨gh1, rfl, Rh1, eh1_, lh1, hb_⟩
  replace S0 := HO _ _ S0 hb_
  replace O1 := own_below O1 hb_
  replace O3 := own_below O3 hb_
  replace Rh0 := Rh0.later hb_
  clear hb_
  obtain ⟨_, _, _, _⟩ := id S0
  go_wp2_with fail
  refine (QI.out _ n0 n0 _ n1 n1 _ hl0 hn0 Rh0.ptsIn hl1 hn1 Rh1.ptsIn).mono ?_
  rintro e w21 ⟨A10, c10, rfl, O4, hb_⟩
  replace S0 := HO _ _ S0 hb_
  replace O1 := own_below O1 hb_
  replace O3 := own_below O3 hb_
  replace Rh0 := Rh0.later hb_
  replace Rh1 := Rh1.later hb_
  clear hb_
  obtain ⟨_, _, _, _⟩ := id S0
  go_wp2_with fail
  refine (eqIB _ _ _ m hmb _ _ l O4 O1).mono ?_
  rintro e w22 ⟨rfl, hb_⟩
  replace S0 := HO _ _ S0 hb_
  replace O1 := own_below O1 hb_
  replace O3 := own_below O3 hb_
  replace Rh0 := Rh0.later hb_
  replace Rh1 := Rh1.later hb_
  replace O4 := own_below O4 hb_
  clear hb_
  obtain ⟨_, _, _, _⟩ := id S0
  go_wp2_with fail
  refine (heldI _ _ m 1 hmb (by omega) (by omega) _ O3).mono ?_
  rintro e w23 ⟨rfl, hb_⟩
  replace S0 := HO _ _ S0 hb_
  replace O1 := own_below O1 hb_
  replace O3 := own_below O3 hb_
  replace Rh0 := Rh0.later hb_
  replace Rh1 := Rh1.later hb_
  replace O4 := own_below O4 hb_
  clear hb_
  obtain ⟨_, _, _, _⟩ := id S0
  go_wp2_with fail
  go_ret
  exact ⟨rfl, S0.2.2.2⟩

theorem walk (w : World) (A0 : Option Addr) (n0 cap0 : Nat) (ps0 : List Tup3.Tu) (hm0 : n0 ≤ maxLen) (hl0 : ps0.length = n0) (hp0 : Tup3.TsAt w w.heap.size A0 ps0) (A1 : Option Addr) (n1 cap1 : Nat) (ps1 : List Tup3.Tu) (hm1 : n1 ≤ maxLen) (hl1 : ps1.length = n1) (hp1 : Tup3.TsAt w w.heap.size A1 ps1) :
    Calls Try.prog 5 #[.slice A0 n0 cap0, .slice A1 n1 cap1] w fun e w' => e = .returned (.bool true) ∧ Below w.heap.size w w' := by
  by_cases hs0 : n0 ≤ 1048576
  rotate_left
  · skip
    have HS0 := Lib.hid fun w => LawZone.szZoneSL A0 n0 cap0 (1048576) (by unfold maxLen at hm0; omega) (by omega) w
    simp only [show ¬ (n0 : Int) ≤ 1048576 by omega, if_false] at HS0
    clear hl0 hp0 hm0 hl1 hp1 hm1
    go_enter Try.func5, Try.ntmps5
    go_wp2_with fail
    have HO : ∀ W W' : World, (Below w.heap.size w W) → Below W.heap.size W W' → (Below w.heap.size w W') := fun W W' hb h => hb.trans (h.mono hb.size)
    have S0 : Below w.heap.size w w := Below.refl _ _
    refine (HS0.out _).mono ?_
    rintro e w_ ⟨rfl, rfl⟩
    go_wp2_with fail
    go_ret
    exact ⟨rfl, S0⟩
  by_cases hs1 : n0 + n1 ≤ 1048576
  rotate_left
  · skip
    have HS0 := Lib.hid fun w => LawZone.szZoneSL A0 n0 cap0 (1048576) (by unfold maxLen at hm0; omega) (by omega) w
    simp only [show (n0 : Int) ≤ 1048576 by omega, if_true] at HS0
    have hs0_ : ¬ (1048576 - (n0 : Int) < 0) := by omega
    have HS1 := Lib.hid fun w => LawReport.szReportSL A1 n1 cap1 (1048576 - (n0 : Int)) (by unfold maxLen at hm1; omega) (by omega) w
    simp only [show ¬ (n1 : Int) ≤ 1048576 - (n0 : Int) by omega, if_false] at HS1
    clear hl0 hp0 hm0 hl1 hp1 hm1
    go_enter Try.func5, Try.ntmps5
    go_wp2_with fail
    have HO : ∀ W W' : World, (Below w.heap.size w W) → Below W.heap.size W W' → (Below w.heap.size w W') := fun W W' hb h => hb.trans (h.mono hb.size)
    have S0 : Below w.heap.size w w := Below.refl _ _
    refine (HS0.out _).mono ?_
    rintro e w_ ⟨rfl, rfl⟩
    go_wp2_with fail
    refine (HS1.out _).mono ?_
    rintro e w_ ⟨rfl, rfl⟩
    go_wp2_with fail
    go_ret
    exact ⟨rfl, S0⟩
  exact small w A0 n0 cap0 ps0 (by omega) hl0 hp0 A1 n1 cap1 ps1 (by omega) hl1 hp1 (by omega)

set_option maxRecDepth 100000 in
theorem contract (H : Type) (enc : TypeId × Value → H) (W : World) (base : Nat) (args : Array Value) (ds gs : List (DataW H)) (before : List MemPlace)
    (hval : ∀ (j : Nat) t v, Try.f5.params[j]? = some t → args[j]? = some v → Value.okWide Try.prog W .any base t v)
    (hW : DataW.Whole enc Try.prog Try.f5.params.toList Rows.fnExactAlarmsOfSpec.vars false W args.toList ds gs before) :
    Calls Try.prog 5 args W fun e W' => ∃ v, e = .returned v ∧ Rows.fnExactAlarmsOfSpec.post enc Try.prog Try.f5 false true false false W args v W' := by
  have hW' := hW
  obtain ⟨p, q, hA0, hV, rfl, hfz, hnd⟩ := hW
  have hA : DataW.TrodAll enc Try.prog W 0 (fun _ => true) true Try.f5.params.toList args.toList ds p := hA0
  rw [Try.params5] at hA hval
  obtain ⟨v0, vs0, d0, ds0, p0, q0, hargs, rfl, rfl, h0, r0⟩ := trodAll_cons hA
  obtain ⟨v1, vs1, d1, ds1, p1, q1, rfl, rfl, rfl, h1, r1⟩ := trodAll_cons r0
  obtain ⟨rfl, rfl, rfl⟩ := trodAll_nil r1
  obtain rfl : args = #[v0, v1] := by cases args; simp_all
  obtain ⟨rfl, rfl⟩ := trodVars_none hV
  obtain ⟨a0, len0, cap0, rfl⟩ := okWide_slice Try.underlying28 (hval 0 28 v0 rfl rfl)
  have k0 := h0
  have lt0 : ∀ x ∈ p0, x.block < W.heap.size := by obtain ⟨m, hm⟩ := k0; exact DataW.trod_lt m _ _ _ hm
  obtain ⟨z0, w0, l0, r0p⟩ : ∃ ps : List Tup3.Tu, len0 ≤ maxLen ∧ ps.length = len0 ∧ Tup3.TsAt W W.heap.size a0 ps := by
    obtain ⟨fuel, hf⟩ := h0
    simp only [Value.cells] at hf
    obtain ⟨A_, n_, cp_, ps_, hu, h1, h2, h3⟩ := Tup3.open_many (k := 4) Try.underlying28 (te := 23) (by kernel_rfl) (by kernel_rfl) hf
    injection hu with e1 e2 e3
    subst e1 e2 e3
    exact ⟨ps_, h1, h2, h3⟩
  obtain ⟨a1, len1, cap1, rfl⟩ := okWide_slice Try.underlying39 (hval 1 39 v1 rfl rfl)
  have k1 := h1
  have lt1 : ∀ x ∈ p1, x.block < W.heap.size := by obtain ⟨m, hm⟩ := k1; exact DataW.trod_lt m _ _ _ hm
  obtain ⟨z1, w1, l1, r1p⟩ : ∃ ps : List Tup3.Tu, len1 ≤ maxLen ∧ ps.length = len1 ∧ Tup3.TsAt W W.heap.size a1 ps := by
    obtain ⟨fuel, hf⟩ := h1
    simp only [Value.cells] at hf
    obtain ⟨A_, n_, cp_, ps_, hu, h1, h2, h3⟩ := Tup3.open_many (k := 4) Try.underlying39 (te := 30) (by kernel_rfl) (by kernel_rfl) hf
    injection hu with e1 e2 e3
    subst e1 e2 e3
    exact ⟨ps_, h1, h2, h3⟩
  clear hA0
  refine (walk W a0 len0 cap0 z0 w0 l0 r0p a1 len1 cap1 z1 w1 l1 r1p).mono fun e W' ⟨he, hg⟩ => ?_
  subst he
  exact ⟨_, rfl, _, _, _, [], _, [], hW', (trodAll_cons_mk (shut_bool Try.underlying4 _) trodAll_mk0), (trodAll_cons_mk (Below.trod laidOut (by kernel_rfl) (of_decide_eq_true (by kernel_rfl)) k0 hg lt0) (trodAll_cons_mk (Below.trod laidOut (by kernel_rfl) (of_decide_eq_true (by kernel_rfl)) k1 hg lt1) trodAll_mk0)), rfl, hg.frame _, fun h => by cases h⟩

set_option maxRecDepth 100000 in
theorem lifted (os : Os) (started : os.Started) (H : Type) (enc : TypeId × Value → H) :
    ReturnsInHanded {} Try.checked os 5 .any (Rows.fnExactAlarmsOfSpec.pre6 enc Try.prog Try.f5 Rows.fnExactAlarmsOfRow.domain false) (Rows.fnExactAlarmsOfSpec.post enc Try.prog Try.f5 false true false false) := by
  refine returnsInHanded_of_change (C := Try.checked) own started (by kernel_rfl) Try.func5
    (ChangeSpec.witness6 (enc := enc) (C := Try.checked) false ⟨#[], #[Value.slice none 0 0, Value.slice none 0 0], []⟩ 8 (by kernel_rfl) (by kernel_rfl) (by kernel_rfl) (by kernel_rfl)) ?_
  intro W base args ds gs before hval hW hcnd _
  exact contract H enc W base args ds gs before hval hW

theorem proved : Rows.FnExactAlarmsOfSaid :=
  OpenClaim.holds_of_wide 5 Try.f5 rfl rfl rfl rfl rfl rfl rfl ⟨rfl, rfl, rfl, rfl, rfl⟩ rfl rfl rfl rfl rfl (by kernel_rfl) Try.func5 (by kernel_rfl)
    (of_decide_eq_true (by kernel_rfl)) (by unfold Func.isWrapper; first | (rw [if_pos (by decide +kernel)]; kernel_rfl) | (rw [if_neg (by decide +kernel)]; exact ⟨rfl, rfl⟩))
    (fun os started H enc _ => lifted os started H enc)
#print axioms proved
end Go.Proofs.Ytcpepljgnkmajaa.fnExactAlarmsOf
