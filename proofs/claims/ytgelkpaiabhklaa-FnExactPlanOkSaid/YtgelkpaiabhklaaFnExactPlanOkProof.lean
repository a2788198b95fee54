/-
  For every argument, the landed PlanOk answers just as its model does: the law's call returns true, and the arguments read as they did. No condition.
-/
import Derived.Test.YtgelkpaiabhklaaRows
import Derived.WalkKit
import Derived.ProofKit
import Derived.OpenShut
import Derived.ShutString
import Derived.Test.YtgelkpaiabhklaaGround
import Derived.Test.YtgelkpaiabhklaaTup3
import Derived.Test.YtgelkpaiabhklaaTup4
import Derived.Test.YtgelkpaiabhklaaPlnSpec
import Derived.Test.YtgelkpaiabhklaaPlnImpl
import Derived.Test.YtgelkpaiabhklaaLawInts
import Derived.Test.YtgelkpaiabhklaaLawRoom
import Derived.Test.YtgelkpaiabhklaaLawLoan
import Derived.Test.YtgelkpaiabhklaaLawClimate
namespace Go.Proofs.Ytgelkpaiabhklaa.fnExactPlanOk
open Go.ChangeShapes Go.WideShapes Go.ChangeAt Go.RowKit
open Go.ChangeMaps (open_string shut_string)
open PointMath RoomMath Pts Blk LawRoom PointOk Ints LawInts
set_option linter.unusedVariables false

theorem own : ownKnob Try.prog.godebug = none := by kernel_rfl
theorem laidOut : laidOutB Try.prog = true := by kernel_rfl

set_option maxRecDepth 100000 in
set_option maxHeartbeats 1600000 in
theorem small (w : World) (A0 : Option Addr) (n0 cap0 : Nat) (ps0 : List Tup4.Tu) (hn0 : n0 ≤ 1048576) (hl0 : ps0.length = n0) (hp0 : Tup4.TsAt w w.heap.size A0 ps0) (A1 : Option Addr) (n1 cap1 : Nat) (ps1 : List Tup3.Tu) (hn1 : n1 ≤ 1048576) (hl1 : ps1.length = n1) (hp1 : Tup3.TsAt w w.heap.size A1 ps1) (A2 : Option Addr) (n2 cap2 : Nat) (ps2 : List Int) (hn2 : n2 ≤ 1048576) (hl2 : ps2.length = n2) (hp2 : IntsAt w w.heap.size A2 ps2) (A3 : Option Addr) (n3 cap3 : Nat) (ps3 : List Int) (hn3 : n3 ≤ 1048576) (hl3 : ps3.length = n3) (hp3 : IntsAt w w.heap.size A3 ps3) (hsum : n0 + n1 ≤ 1048576) :
    Calls Try.prog 4 #[.slice A0 n0 cap0, .slice A1 n1 cap1, .slice A2 n2 cap2, .slice A3 n3 cap3] w fun e w' => e = .returned (.bool true) ∧ Below w.heap.size w w' := by
  obtain ⟨r, hr⟩ : ∃ r, PlanMath.planB ps0 ps1 ps2 ps3 = r := ⟨_, rfl⟩
  have QS : Hid (∀ (A0 : Option Addr) (n0 cap0 : Nat) (A1 : Option Addr) (n1 cap1 : Nat) (A2 : Option Addr) (n2 cap2 : Nat) (A3 : Option Addr) (n3 cap3 : Nat) (w : World) (hl0 : ps0.length = n0) (hn0 : n0 ≤ 1048576) (hp0 : Tup4.TsAt w w.heap.size A0 ps0) (hl1 : ps1.length = n1) (hn1 : n1 ≤ 1048576) (hp1 : Tup3.TsAt w w.heap.size A1 ps1) (hl2 : ps2.length = n2) (hn2 : n2 ≤ 1048576) (hp2 : IntsAt w w.heap.size A2 ps2) (hl3 : ps3.length = n3) (hn3 : n3 ≤ 1048576) (hp3 : IntsAt w w.heap.size A3 ps3), _) := Lib.hid fun A0 n0 cap0 A1 n1 cap1 A2 n2 cap2 A3 n3 cap3 w hl0 hn0 hp0 hl1 hn1 hp1 hl2 hn2 hp2 hl3 hn3 hp3 => PlnSpec.planOk A0 n0 cap0 A1 n1 cap1 A2 n2 cap2 A3 n3 cap3 w ps0 hl0 hn0 hp0 ps1 hl1 hn1 hp1 ps2 hl2 hn2 hp2 ps3 hl3 hn3 hp3
  have QI : Hid (∀ (A0 : Option Addr) (n0 cap0 : Nat) (A1 : Option Addr) (n1 cap1 : Nat) (A2 : Option Addr) (n2 cap2 : Nat) (A3 : Option Addr) (n3 cap3 : Nat) (w : World) (hl0 : ps0.length = n0) (hn0 : n0 ≤ 1048576) (hp0 : Tup4.TsAt w w.heap.size A0 ps0) (hl1 : ps1.length = n1) (hn1 : n1 ≤ 1048576) (hp1 : Tup3.TsAt w w.heap.size A1 ps1) (hl2 : ps2.length = n2) (hn2 : n2 ≤ 1048576) (hp2 : IntsAt w w.heap.size A2 ps2) (hsp : ∀ ad, A2 = some ad → ad.spot = none) (hl3 : ps3.length = n3) (hn3 : n3 ≤ 1048576) (hp3 : IntsAt w w.heap.size A3 ps3), _) := Lib.hid fun A0 n0 cap0 A1 n1 cap1 A2 n2 cap2 A3 n3 cap3 w hl0 hn0 hp0 hl1 hn1 hp1 hl2 hn2 hp2 hsp hl3 hn3 hp3 => PlnImpl.planOk A0 n0 cap0 A1 n1 cap1 A2 n2 cap2 A3 n3 cap3 w ps0 hl0 hn0 hp0 ps1 hl1 hn1 hp1 ps2 hl2 hn2 hp2 hsp ps3 hl3 hn3 hp3
  rw [hr] at QS QI
  have HS0 := Lib.hid (fun w => LawLoan.szLoanSL A0 n0 cap0 (1048576) (by omega) (by omega) w)
  simp only [show (n0 : Int) ≤ 1048576 by omega, if_true] at HS0
  have hs0_ : ¬ (1048576 - (n0 : Int) < 0) := by omega
  have HS1 := Lib.hid (fun w => LawClimate.szClimateSL A1 n1 cap1 (1048576 - (n0 : Int)) (by omega) (by omega) w)
  simp only [show (n1 : Int) ≤ 1048576 - (n0 : Int) by omega, if_true] at HS1
  have hs1_ : ¬ (1048576 - (n0 : Int) - (n1 : Int) < 0) := by omega
  have gL2 : ¬ (1048576 : Int) < (n2 : Int) := by omega
  have gL3 : ¬ (1048576 : Int) < (n3 : Int) := by omega
  clear hr
  go_enter Try.func4, Try.ntmps4
  go_wp2_with fail
  have HO : ∀ W W' : World, (Tup4.TsAt W w.heap.size A0 ps0 ∧ Tup3.TsAt W w.heap.size A1 ps1 ∧ IntsAt W w.heap.size A2 ps2 ∧ IntsAt W w.heap.size A3 ps3 ∧ Below w.heap.size w W) → Below W.heap.size W W' → (Tup4.TsAt W' w.heap.size A0 ps0 ∧ Tup3.TsAt W' w.heap.size A1 ps1 ∧ IntsAt W' w.heap.size A2 ps2 ∧ IntsAt W' w.heap.size A3 ps3 ∧ Below w.heap.size w W') := fun W W' ⟨x0, x1, x2, x3, hb⟩ h => ⟨x0.later (h.mono hb.size), x1.later (h.mono hb.size), x2.later (h.mono hb.size), x3.later (h.mono hb.size), hb.trans (h.mono hb.size)⟩
  have S0 : Tup4.TsAt w w.heap.size A0 ps0 ∧ Tup3.TsAt w w.heap.size A1 ps1 ∧ IntsAt w w.heap.size A2 ps2 ∧ IntsAt w w.heap.size A3 ps3 ∧ Below w.heap.size w w := ⟨hp0, hp1, hp2, hp3, Below.refl _ _⟩
  clear hp0 hp1 hp2 hp3
  refine (HS0.out _).mono ?_
  rintro e w_ ⟨rfl, rfl⟩
  go_wp2_with fail
  refine (HS1.out _).mono ?_
  rintro e w_ ⟨rfl, rfl⟩
  go_wp2_with fail
  refine (LawLoan.toLoanS A0 ps0 n0 cap0 _ hl0 hn0 (S0.1.wide S0.2.2.2.2.size)).mono ?_
  rintro e w3 ⟨gs0, rfl, Rs0, es0_, ls0, hb_⟩
  replace S0 := HO _ _ S0 hb_
  clear hb_
  obtain ⟨_, _, _, _, _⟩ := id S0
  go_wp2_with fail
  refine (LawClimate.toClimateS A1 ps1 n1 cap1 _ hl1 hn1 (S0.2.1.wide S0.2.2.2.2.size)).mono ?_
  rintro e w4 ⟨gs1, rfl, Rs1, es1_, ls1, hb_⟩
  replace S0 := HO _ _ S0 hb_
  replace Rs0 := Rs0.later hb_
  clear hb_
  obtain ⟨_, _, _, _, _⟩ := id S0
  go_wp2_with fail
  refine (toIntS A2 ps2 n2 cap2 _ hl2 hn2 (S0.2.2.1.wide S0.2.2.2.2.size)).mono ?_
  rintro e w5 ⟨gs2, rfl, Rs2, es2_, ls2, hb_⟩
  replace S0 := HO _ _ S0 hb_
  replace Rs0 := Rs0.later hb_
  replace Rs1 := Rs1.later hb_
  clear hb_
  obtain ⟨_, _, _, _, _⟩ := id S0
  go_wp2_with fail
  refine (toIntS A3 ps3 n3 cap3 _ hl3 hn3 (S0.2.2.2.1.wide S0.2.2.2.2.size)).mono ?_
  rintro e w6 ⟨gs3, rfl, Rs3, es3_, ls3, hb_⟩
  replace S0 := HO _ _ S0 hb_
  replace Rs0 := Rs0.later hb_
  replace Rs1 := Rs1.later hb_
  replace Rs2 := Rs2.later hb_
  clear hb_
  obtain ⟨_, _, _, _, _⟩ := id S0
  go_wp2_with fail
  refine (QS.out _ n0 n0 _ n1 n1 _ n2 n2 _ n3 n3 _ hl0 hn0 Rs0.ptsIn hl1 hn1 Rs1.ptsIn hl2 hn2 Rs2.ptsIn hl3 hn3 Rs3.ptsIn).mono ?_
  rintro e w7 ⟨rfl, hb_⟩
  replace S0 := HO _ _ S0 hb_
  replace Rs0 := Rs0.later hb_
  replace Rs1 := Rs1.later hb_
  replace Rs2 := Rs2.later hb_
  replace Rs3 := Rs3.later hb_
  clear hb_
  obtain ⟨_, _, _, _, _⟩ := id S0
  go_wp2_with fail
  refine (LawLoan.toLoanS A0 ps0 n0 cap0 _ hl0 hn0 (S0.1.wide S0.2.2.2.2.size)).mono ?_
  rintro e w8 ⟨gx0, rfl, Rx0, ex0_, lx0, hb_⟩
  replace S0 := HO _ _ S0 hb_
  replace Rs0 := Rs0.later hb_
  replace Rs1 := Rs1.later hb_
  replace Rs2 := Rs2.later hb_
  replace Rs3 := Rs3.later hb_
  clear hb_
  obtain ⟨_, _, _, _, _⟩ := id S0
  go_wp2_with fail
  refine (LawClimate.toClimateS A1 ps1 n1 cap1 _ hl1 hn1 (S0.2.1.wide S0.2.2.2.2.size)).mono ?_
  rintro e w9 ⟨gx1, rfl, Rx1, ex1_, lx1, hb_⟩
  replace S0 := HO _ _ S0 hb_
  replace Rs0 := Rs0.later hb_
  replace Rs1 := Rs1.later hb_
  replace Rs2 := Rs2.later hb_
  replace Rs3 := Rs3.later hb_
  replace Rx0 := Rx0.later hb_
  clear hb_
  obtain ⟨_, _, _, _, _⟩ := id S0
  go_wp2_with fail
  refine (toIntS A2 ps2 n2 cap2 _ hl2 hn2 (S0.2.2.1.wide S0.2.2.2.2.size)).mono ?_
  rintro e w10 ⟨gx2, rfl, Rx2, ex2_, lx2, hb_⟩
  replace S0 := HO _ _ S0 hb_
  replace Rs0 := Rs0.later hb_
  replace Rs1 := Rs1.later hb_
  replace Rs2 := Rs2.later hb_
  replace Rs3 := Rs3.later hb_
  replace Rx0 := Rx0.later hb_
  replace Rx1 := Rx1.later hb_
  clear hb_
  obtain ⟨_, _, _, _, _⟩ := id S0
  go_wp2_with fail
  refine (toIntS A3 ps3 n3 cap3 _ hl3 hn3 (S0.2.2.2.1.wide S0.2.2.2.2.size)).mono ?_
  rintro e w11 ⟨gx3, rfl, Rx3, ex3_, lx3, hb_⟩
  replace S0 := HO _ _ S0 hb_
  replace Rs0 := Rs0.later hb_
  replace Rs1 := Rs1.later hb_
  replace Rs2 := Rs2.later hb_
  replace Rs3 := Rs3.later hb_
  replace Rx0 := Rx0.later hb_
  replace Rx1 := Rx1.later hb_
  replace Rx2 := Rx2.later hb_
  clear hb_
  obtain ⟨_, _, _, _, _⟩ := id S0
  go_wp2_with fail
  refine (QI.out _ n0 n0 _ n1 n1 _ n2 n2 _ n3 n3 _ hl0 hn0 Rx0.ptsIn hl1 hn1 Rx1.ptsIn hl2 hn2 Rx2.ptsIn (fun _ h => by cases h; rfl) hl3 hn3 Rx3.ptsIn).mono ?_
  rintro e w12 ⟨rfl, hb_⟩
  replace S0 := HO _ _ S0 hb_
  replace Rs0 := Rs0.later hb_
  replace Rs1 := Rs1.later hb_
  replace Rs2 := Rs2.later hb_
  replace Rs3 := Rs3.later hb_
  replace Rx0 := Rx0.later hb_
  replace Rx1 := Rx1.later hb_
  replace Rx2 := Rx2.later hb_
  replace Rx3 := Rx3.later hb_
  clear hb_
  obtain ⟨_, _, _, _, _⟩ := id S0
  cases r
  · skip
    go_wp2_with fail
    refine (LawLoan.toLoanS A0 ps0 n0 cap0 _ hl0 hn0 (S0.1.wide S0.2.2.2.2.size)).mono ?_
    rintro e w13 ⟨gy0, rfl, Ry0, ey0_, ly0, hb_⟩
    replace S0 := HO _ _ S0 hb_
    replace Rs0 := Rs0.later hb_
    replace Rs1 := Rs1.later hb_
    replace Rs2 := Rs2.later hb_
    replace Rs3 := Rs3.later hb_
    replace Rx0 := Rx0.later hb_
    replace Rx1 := Rx1.later hb_
    replace Rx2 := Rx2.later hb_
    replace Rx3 := Rx3.later hb_
    clear hb_
    obtain ⟨_, _, _, _, _⟩ := id S0
    go_wp2_with fail
    refine (LawLoan.eqLoanS_same _ _ ps0 n0 n0 n0 _ hl0 hn0 Rx0.ptsIn Ry0.ptsIn).mono ?_
    rintro e w14 ⟨rfl, hb_⟩
    replace S0 := HO _ _ S0 hb_
    replace Rs0 := Rs0.later hb_
    replace Rs1 := Rs1.later hb_
    replace Rs2 := Rs2.later hb_
    replace Rs3 := Rs3.later hb_
    replace Rx0 := Rx0.later hb_
    replace Rx1 := Rx1.later hb_
    replace Rx2 := Rx2.later hb_
    replace Rx3 := Rx3.later hb_
    replace Ry0 := Ry0.later hb_
    clear hb_
    obtain ⟨_, _, _, _, _⟩ := id S0
    go_wp2_with fail
    refine (LawClimate.toClimateS A1 ps1 n1 cap1 _ hl1 hn1 (S0.2.1.wide S0.2.2.2.2.size)).mono ?_
    rintro e w15 ⟨gy1, rfl, Ry1, ey1_, ly1, hb_⟩
    replace S0 := HO _ _ S0 hb_
    replace Rs0 := Rs0.later hb_
    replace Rs1 := Rs1.later hb_
    replace Rs2 := Rs2.later hb_
    replace Rs3 := Rs3.later hb_
    replace Rx0 := Rx0.later hb_
    replace Rx1 := Rx1.later hb_
    replace Rx2 := Rx2.later hb_
    replace Rx3 := Rx3.later hb_
    replace Ry0 := Ry0.later hb_
    clear hb_
    obtain ⟨_, _, _, _, _⟩ := id S0
    go_wp2_with fail
    refine (LawClimate.eqClimateS_same _ _ ps1 n1 n1 n1 _ hl1 hn1 Rx1.ptsIn Ry1.ptsIn).mono ?_
    rintro e w16 ⟨rfl, hb_⟩
    replace S0 := HO _ _ S0 hb_
    replace Rs0 := Rs0.later hb_
    replace Rs1 := Rs1.later hb_
    replace Rs2 := Rs2.later hb_
    replace Rs3 := Rs3.later hb_
    replace Rx0 := Rx0.later hb_
    replace Rx1 := Rx1.later hb_
    replace Rx2 := Rx2.later hb_
    replace Rx3 := Rx3.later hb_
    replace Ry0 := Ry0.later hb_
    replace Ry1 := Ry1.later hb_
    clear hb_
    obtain ⟨_, _, _, _, _⟩ := id S0
    go_wp2_with fail
    refine (toIntS A2 ps2 n2 cap2 _ hl2 hn2 (S0.2.2.1.wide S0.2.2.2.2.size)).mono ?_
    rintro e w17 ⟨gy2, rfl, Ry2, ey2_, ly2, hb_⟩
    replace S0 := HO _ _ S0 hb_
    replace Rs0 := Rs0.later hb_
    replace Rs1 := Rs1.later hb_
    replace Rs2 := Rs2.later hb_
    replace Rs3 := Rs3.later hb_
    replace Rx0 := Rx0.later hb_
    replace Rx1 := Rx1.later hb_
    replace Rx2 := Rx2.later hb_
    replace Rx3 := Rx3.later hb_
    replace Ry0 := Ry0.later hb_
    replace Ry1 := Ry1.later hb_
    clear hb_
    obtain ⟨_, _, _, _, _⟩ := id S0
    go_wp2_with fail
    refine (eqIntS_same _ _ ps2 n2 n2 n2 _ hl2 hn2 Rx2.ptsIn Ry2.ptsIn).mono ?_
    rintro e w18 ⟨rfl, hb_⟩
    replace S0 := HO _ _ S0 hb_
    replace Rs0 := Rs0.later hb_
    replace Rs1 := Rs1.later hb_
    replace Rs2 := Rs2.later hb_
    replace Rs3 := Rs3.later hb_
    replace Rx0 := Rx0.later hb_
    replace Rx1 := Rx1.later hb_
    replace Rx2 := Rx2.later hb_
    replace Rx3 := Rx3.later hb_
    replace Ry0 := Ry0.later hb_
    replace Ry1 := Ry1.later hb_
    replace Ry2 := Ry2.later hb_
    clear hb_
    obtain ⟨_, _, _, _, _⟩ := id S0
    go_wp2_with fail
    refine (toIntS A3 ps3 n3 cap3 _ hl3 hn3 (S0.2.2.2.1.wide S0.2.2.2.2.size)).mono ?_
    rintro e w19 ⟨gy3, rfl, Ry3, ey3_, ly3, hb_⟩
    replace S0 := HO _ _ S0 hb_
    replace Rs0 := Rs0.later hb_
    replace Rs1 := Rs1.later hb_
    replace Rs2 := Rs2.later hb_
    replace Rs3 := Rs3.later hb_
    replace Rx0 := Rx0.later hb_
    replace Rx1 := Rx1.later hb_
    replace Rx2 := Rx2.later hb_
    replace Rx3 := Rx3.later hb_
    replace Ry0 := Ry0.later hb_
    replace Ry1 := Ry1.later hb_
    replace Ry2 := Ry2.later hb_
    clear hb_
    obtain ⟨_, _, _, _, _⟩ := id S0
    go_wp2_with fail
    refine (eqIntS_same _ _ ps3 n3 n3 n3 _ hl3 hn3 Rx3.ptsIn Ry3.ptsIn).mono ?_
    rintro e w20 ⟨rfl, hb_⟩
    replace S0 := HO _ _ S0 hb_
    replace Rs0 := Rs0.later hb_
    replace Rs1 := Rs1.later hb_
    replace Rs2 := Rs2.later hb_
    replace Rs3 := Rs3.later hb_
    replace Rx0 := Rx0.later hb_
    replace Rx1 := Rx1.later hb_
    replace Rx2 := Rx2.later hb_
    replace Rx3 := Rx3.later hb_
    replace Ry0 := Ry0.later hb_
    replace Ry1 := Ry1.later hb_
    replace Ry2 := Ry2.later hb_
    replace Ry3 := Ry3.later hb_
    clear hb_
    obtain ⟨_, _, _, _, _⟩ := id S0
    go_wp2_with fail
    go_ret
    exact ⟨rfl, S0.2.2.2.2⟩
  · skip
    go_wp2_with fail
    refine (LawLoan.toLoanS A0 ps0 n0 cap0 _ hl0 hn0 (S0.1.wide S0.2.2.2.2.size)).mono ?_
    rintro e w13 ⟨gy0, rfl, Ry0, ey0_, ly0, hb_⟩
    replace S0 := HO _ _ S0 hb_
    replace Rs0 := Rs0.later hb_
    replace Rs1 := Rs1.later hb_
    replace Rs2 := Rs2.later hb_
    replace Rs3 := Rs3.later hb_
    replace Rx0 := Rx0.later hb_
    replace Rx1 := Rx1.later hb_
    replace Rx2 := Rx2.later hb_
    replace Rx3 := Rx3.later hb_
    clear hb_
    obtain ⟨_, _, _, _, _⟩ := id S0
    go_wp2_with fail
    refine (LawLoan.eqLoanS_same _ _ ps0 n0 n0 n0 _ hl0 hn0 Rx0.ptsIn Ry0.ptsIn).mono ?_
    rintro e w14 ⟨rfl, hb_⟩
    replace S0 := HO _ _ S0 hb_
    replace Rs0 := Rs0.later hb_
    replace Rs1 := Rs1.later hb_
    replace Rs2 := Rs2.later hb_
    replace Rs3 := Rs3.later hb_
    replace Rx0 := Rx0.later hb_
    replace Rx1 := Rx1.later hb_
    replace Rx2 := Rx2.later hb_
    replace Rx3 := Rx3.later hb_
    replace Ry0 := Ry0.later hb_
    clear hb_
    obtain ⟨_, _, _, _, _⟩ := id S0
    go_wp2_with fail
    refine (LawClimate.toClimateS A1 ps1 n1 cap1 _ hl1 hn1 (S0.2.1.wide S0.2.2.2.2.size)).mono ?_
    rintro e w15 ⟨gy1, rfl, Ry1, ey1_, ly1, hb_⟩
    replace S0 := HO _ _ S0 hb_
    replace Rs0 := Rs0.later hb_
    replace Rs1 := Rs1.later hb_
    replace Rs2 := Rs2.later hb_
    replace Rs3 := Rs3.later hb_
    replace Rx0 := Rx0.later hb_
    replace Rx1 := Rx1.later hb_
    replace Rx2 := Rx2.later hb_
    replace Rx3 := Rx3.later hb_
    replace Ry0 := Ry0.later hb_
    clear hb_
    obtain ⟨_, _, _, _, _⟩ := id S0
    go_wp2_with fail
    refine (LawClimate.eqClimateS_same _ _ ps1 n1 n1 n1 _ hl1 hn1 Rx1.ptsIn Ry1.ptsIn).mono ?_
    rintro e w16 ⟨rfl, hb_⟩
    replace S0 := HO _ _ S0 hb_
    replace Rs0 := Rs0.later hb_
    replace Rs1 := Rs1.later hb_
    replace Rs2 := Rs2.later hb_
    replace Rs3 := Rs3.later hb_
    replace Rx0 := Rx0.later hb_
    replace Rx1 := Rx1.later hb_
    replace Rx2 := Rx2.later hb_
    replace Rx3 := Rx3.later hb_
    replace Ry0 := Ry0.later hb_
    replace Ry1 := Ry1.later hb_
    clear hb_
    obtain ⟨_, _, _, _, _⟩ := id S0
    go_wp2_with fail
    refine (toIntS A2 ps2 n2 cap2 _ hl2 hn2 (S0.2.2.1.wide S0.2.2.2.2.size)).mono ?_
    rintro e w17 ⟨gy2, rfl, Ry2, ey2_, ly2, hb_⟩
    replace S0 := HO _ _ S0 hb_
    replace Rs0 := Rs0.later hb_
    replace Rs1 := Rs1.later hb_
    replace Rs2 := Rs2.later hb_
    replace Rs3 := Rs3.later hb_
    replace Rx0 := Rx0.later hb_
    replace Rx1 := Rx1.later hb_
    replace Rx2 := Rx2.later hb_
    replace Rx3 := Rx3.later hb_
    replace Ry0 := Ry0.later hb_
    replace Ry1 := Ry1.later hb_
    clear hb_
    obtain ⟨_, _, _, _, _⟩ := id S0
    go_wp2_with fail
    refine (eqIntS_same _ _ ps2 n2 n2 n2 _ hl2 hn2 Rx2.ptsIn Ry2.ptsIn).mono ?_
    rintro e w18 ⟨rfl, hb_⟩
    replace S0 := HO _ _ S0 hb_
    replace Rs0 := Rs0.later hb_
    replace Rs1 := Rs1.later hb_
    replace Rs2 := Rs2.later hb_
    replace Rs3 := Rs3.later hb_
    replace Rx0 := Rx0.later hb_
    replace Rx1 := Rx1.later hb_
    replace Rx2 := Rx2.later hb_
    replace Rx3 := Rx3.later hb_
    replace Ry0 := Ry0.later hb_
    replace Ry1 := Ry1.later hb_
    replace Ry2 := Ry2.later hb_
    clear hb_
    obtain ⟨_, _, _, _, _⟩ := id S0
    go_wp2_with fail
    refine (toIntS A3 ps3 n3 cap3 _ hl3 hn3 (S0.2.2.2.1.wide S0.2.2.2.2.size)).mono ?_
    rintro e w19 ⟨gy3, rfl, Ry3, ey3_, ly3, hb_⟩
    replace S0 := HO _ _ S0 hb_
    replace Rs0 := Rs0.later hb_
    replace Rs1 := Rs1.later hb_
    replace Rs2 := Rs2.later hb_
    replace Rs3 := Rs3.later hb_
    replace Rx0 := Rx0.later hb_
    replace Rx1 := Rx1.later hb_
    replace Rx2 := Rx2.later hb_
    replace Rx3 := Rx3.later hb_
    replace Ry0 := Ry0.later hb_
    replace Ry1 := Ry1.later hb_
    replace Ry2 := Ry2.later hb_
    clear hb_
    obtain ⟨_, _, _, _, _⟩ := id S0
    go_wp2_with fail
    refine (eqIntS_same _ _ ps3 n3 n3 n3 _ hl3 hn3 Rx3.ptsIn Ry3.ptsIn).mono ?_
    rintro e w20 ⟨rfl, hb_⟩
    replace S0 := HO _ _ S0 hb_
    replace Rs0 := Rs0.later hb_
    replace Rs1 := Rs1.later hb_
    replace Rs2 := Rs2.later hb_
    replace Rs3 := Rs3.later hb_
    replace Rx0 := Rx0.later hb_
    replace Rx1 := Rx1.later hb_
    replace Rx2 := Rx2.later hb_
    replace Rx3 := Rx3.later hb_
    replace Ry0 := Ry0.later hb_
    replace Ry1 := Ry1.later hb_
    replace Ry2 := Ry2.later hb_
    replace Ry3 := Ry3.later hb_
    clear hb_
    obtain ⟨_, _, _, _, _⟩ := id S0
    go_wp2_with fail
    go_ret
    exact ⟨rfl, S0.2.2.2.2⟩

theorem walk (w : World) (A0 : Option Addr) (n0 cap0 : Nat) (ps0 : List Tup4.Tu) (hm0 : n0 ≤ maxLen) (hl0 : ps0.length = n0) (hp0 : Tup4.TsAt w w.heap.size A0 ps0) (A1 : Option Addr) (n1 cap1 : Nat) (ps1 : List Tup3.Tu) (hm1 : n1 ≤ maxLen) (hl1 : ps1.length = n1) (hp1 : Tup3.TsAt w w.heap.size A1 ps1) (A2 : Option Addr) (n2 cap2 : Nat) (ps2 : List Int) (hm2 : n2 ≤ maxLen) (hl2 : ps2.length = n2) (hp2 : IntsAt w w.heap.size A2 ps2) (A3 : Option Addr) (n3 cap3 : Nat) (ps3 : List Int) (hm3 : n3 ≤ maxLen) (hl3 : ps3.length = n3) (hp3 : IntsAt w w.heap.size A3 ps3) :
    Calls Try.prog 4 #[.slice A0 n0 cap0, .slice A1 n1 cap1, .slice A2 n2 cap2, .slice A3 n3 cap3] w fun e w' => e = .returned (.bool true) ∧ Below w.heap.size w w' := by
  by_cases hn2_ : n2 ≤ 1048576
  rotate_left
  · skip
    have gL2 : (1048576 : Int) < (n2 : Int) := by omega
    clear hl0 hp0 hm0 hl1 hp1 hm1 hl2 hp2 hm2 hl3 hp3 hm3
    go_enter Try.func4, Try.ntmps4
    go_wp2_with fail
    go_ret
    exact ⟨rfl, Below.refl _ _⟩
  by_cases hn3_ : n3 ≤ 1048576
  rotate_left
  · skip
    have gL2 : ¬ (1048576 : Int) < (n2 : Int) := by omega
    have gL3 : (1048576 : Int) < (n3 : Int) := by omega
    clear hl0 hp0 hm0 hl1 hp1 hm1 hl2 hp2 hm2 hl3 hp3 hm3
    go_enter Try.func4, Try.ntmps4
    go_wp2_with fail
    go_ret
    exact ⟨rfl, Below.refl _ _⟩
  by_cases hs0 : n0 ≤ 1048576
  rotate_left
  · skip
    have gL2 : ¬ (1048576 : Int) < (n2 : Int) := by omega
    have gL3 : ¬ (1048576 : Int) < (n3 : Int) := by omega
    have HS0 := Lib.hid fun w => LawLoan.szLoanSL A0 n0 cap0 (1048576) (by unfold maxLen at hm0; omega) (by omega) w
    simp only [show ¬ (n0 : Int) ≤ 1048576 by omega, if_false] at HS0
    clear hl0 hp0 hm0 hl1 hp1 hm1 hl2 hp2 hm2 hl3 hp3 hm3
    go_enter Try.func4, Try.ntmps4
    go_wp2_with fail
    have HO : ∀ W W' : World, (Below w.heap.size w W) → Below W.heap.size W W' → (Below w.heap.size w W') := fun W W' hb h => hb.trans (h.mono hb.size)
    have S0 : Below w.heap.size w w := Below.refl _ _
    refine (HS0.out _).mono ?_
    rintro e w_ ⟨rfl, rfl⟩
    go_wp2_with fail
    go_ret
    exact ⟨rfl, S0⟩
  by_cases hs1 : n0 + n1 ≤ 1048576
  rotate_left
  · skip
    have gL2 : ¬ (1048576 : Int) < (n2 : Int) := by omega
    have gL3 : ¬ (1048576 : Int) < (n3 : Int) := by omega
    have HS0 := Lib.hid fun w => LawLoan.szLoanSL A0 n0 cap0 (1048576) (by unfold maxLen at hm0; omega) (by omega) w
    simp only [show (n0 : Int) ≤ 1048576 by omega, if_true] at HS0
    have hs0_ : ¬ (1048576 - (n0 : Int) < 0) := by omega
    have HS1 := Lib.hid fun w => LawClimate.szClimateSL A1 n1 cap1 (1048576 - (n0 : Int)) (by unfold maxLen at hm1; omega) (by omega) w
    simp only [show ¬ (n1 : Int) ≤ 1048576 - (n0 : Int) by omega, if_false] at HS1
    clear hl0 hp0 hm0 hl1 hp1 hm1 hl2 hp2 hm2 hl3 hp3 hm3
    go_enter Try.func4, Try.ntmps4
    go_wp2_with fail
    have HO : ∀ W W' : World, (Below w.heap.size w W) → Below W.heap.size W W' → (Below w.heap.size w W') := fun W W' hb h => hb.trans (h.mono hb.size)
    have S0 : Below w.heap.size w w := Below.refl _ _
    refine (HS0.out _).mono ?_
    rintro e w_ ⟨rfl, rfl⟩
    go_wp2_with fail
    refine (HS1.out _).mono ?_
    rintro e w_ ⟨rfl, rfl⟩
    go_wp2_with fail
    go_ret
    exact ⟨rfl, S0⟩
  exact small w A0 n0 cap0 ps0 (by omega) hl0 hp0 A1 n1 cap1 ps1 (by omega) hl1 hp1 A2 n2 cap2 ps2 (by omega) hl2 hp2 A3 n3 cap3 ps3 (by omega) hl3 hp3 (by omega)

set_option maxRecDepth 100000 in
theorem contract (H : Type) (enc : TypeId × Value → H) (W : World) (base : Nat) (args : Array Value) (ds gs : List (DataW H)) (before : List MemPlace)
    (hval : ∀ (j : Nat) t v, Try.f4.params[j]? = some t → args[j]? = some v → Value.okWide Try.prog W .any base t v)
    (hW : DataW.Whole enc Try.prog Try.f4.params.toList Rows.fnExactPlanOkSpec.vars false W args.toList ds gs before) :
    Calls Try.prog 4 args W fun e W' => ∃ v, e = .returned v ∧ Rows.fnExactPlanOkSpec.post enc Try.prog Try.f4 false true false false W args v W' := by
  have hW' := hW
  obtain ⟨p, q, hA0, hV, rfl, hfz, hnd⟩ := hW
  have hA : DataW.TrodAll enc Try.prog W 0 (fun _ => true) true Try.f4.params.toList args.toList ds p := hA0
  rw [Try.params4] at hA hval
  obtain ⟨v0, vs0, d0, ds0, p0, q0, hargs, rfl, rfl, h0, r0⟩ := trodAll_cons hA
  obtain ⟨v1, vs1, d1, ds1, p1, q1, rfl, rfl, rfl, h1, r1⟩ := trodAll_cons r0
  obtain ⟨v2, vs2, d2, ds2, p2, q2, rfl, rfl, rfl, h2, r2⟩ := trodAll_cons r1
  obtain ⟨v3, vs3, d3, ds3, p3, q3, rfl, rfl, rfl, h3, r3⟩ := trodAll_cons r2
  obtain ⟨rfl, rfl, rfl⟩ := trodAll_nil r3
  obtain rfl : args = #[v0, v1, v2, v3] := by cases args; simp_all
  obtain ⟨rfl, rfl⟩ := trodVars_none hV
  obtain ⟨a0, len0, cap0, rfl⟩ := okWide_slice Try.underlying28 (hval 0 28 v0 rfl rfl)
  have k0 := h0
  have lt0 : ∀ x ∈ p0, x.block < W.heap.size := by obtain ⟨m, hm⟩ := k0; exact DataW.trod_lt m _ _ _ hm
  obtain ⟨z0, w0, l0, r0p⟩ : ∃ ps : List Tup4.Tu, len0 ≤ maxLen ∧ ps.length = len0 ∧ Tup4.TsAt W W.heap.size a0 ps := by
    obtain ⟨fuel, hf⟩ := h0
    simp only [Value.cells] at hf
    obtain ⟨A_, n_, cp_, ps_, hu, h1, h2, h3⟩ := Tup4.open_many (k := 4) Try.underlying28 (te := 111) (by kernel_rfl) (by kernel_rfl) hf
    injection hu with e1 e2 e3
    subst e1 e2 e3
    exact ⟨ps_, h1, h2, h3⟩
  obtain ⟨a1, len1, cap1, rfl⟩ := okWide_slice Try.underlying29 (hval 1 29 v1 rfl rfl)
  have k1 := h1
  have lt1 : ∀ x ∈ p1, x.block < W.heap.size := by obtain ⟨m, hm⟩ := k1; exact DataW.trod_lt m _ _ _ hm
  obtain ⟨z1, w1, l1, r1p⟩ : ∃ ps : List Tup3.Tu, len1 ≤ maxLen ∧ ps.length = len1 ∧ Tup3.TsAt W W.heap.size a1 ps := by
    obtain ⟨fuel, hf⟩ := h1
    simp only [Value.cells] at hf
    obtain ⟨A_, n_, cp_, ps_, hu, h1, h2, h3⟩ := Tup3.open_many (k := 4) Try.underlying29 (te := 113) (by kernel_rfl) (by kernel_rfl) hf
    injection hu with e1 e2 e3
    subst e1 e2 e3
    exact ⟨ps_, h1, h2, h3⟩
  obtain ⟨a2, len2, cap2, rfl⟩ := okWide_slice Try.underlying30 (hval 2 30 v2 rfl rfl)
  have k2 := h2
  have lt2 : ∀ x ∈ p2, x.block < W.heap.size := by obtain ⟨m, hm⟩ := k2; exact DataW.trod_lt m _ _ _ hm
  obtain ⟨z2, w2, l2, r2p⟩ : ∃ zs : List Int, len2 ≤ maxLen ∧ zs.length = len2 ∧ Ints.IntsAt W W.heap.size a2 zs := by
    obtain ⟨fuel, hf⟩ := h2
    simp only [Value.cells] at hf
    obtain ⟨A_, n_, cp_, zs_, hu, h1, h2, h3⟩ := Ints.ints_of Try.underlying30 Try.underlying3 (by kernel_rfl) hf
    injection hu with e1 e2 e3
    subst e1 e2 e3
    exact ⟨zs_, h1, h2, h3⟩
  obtain ⟨a3, len3, cap3, rfl⟩ := okWide_slice Try.underlying30 (hval 3 30 v3 rfl rfl)
  have k3 := h3
  have lt3 : ∀ x ∈ p3, x.block < W.heap.size := by obtain ⟨m, hm⟩ := k3; exact DataW.trod_lt m _ _ _ hm
  obtain ⟨z3, w3, l3, r3p⟩ : ∃ zs : List Int, len3 ≤ maxLen ∧ zs.length = len3 ∧ Ints.IntsAt W W.heap.size a3 zs := by
    obtain ⟨fuel, hf⟩ := h3
    simp only [Value.cells] at hf
    obtain ⟨A_, n_, cp_, zs_, hu, h1, h2, h3⟩ := Ints.ints_of Try.underlying30 Try.underlying3 (by kernel_rfl) hf
    injection hu with e1 e2 e3
    subst e1 e2 e3
    exact ⟨zs_, h1, h2, h3⟩
  clear hA0
  refine (walk W a0 len0 cap0 z0 w0 l0 r0p a1 len1 cap1 z1 w1 l1 r1p a2 len2 cap2 z2 w2 l2 r2p a3 len3 cap3 z3 w3 l3 r3p).mono fun e W' ⟨he, hg⟩ => ?_
  subst he
  exact ⟨_, rfl, _, _, _, [], _, [], hW', (trodAll_cons_mk (shut_bool Try.underlying4 _) trodAll_mk0), (trodAll_cons_mk (Below.trod laidOut (by kernel_rfl) (of_decide_eq_true (by kernel_rfl)) k0 hg lt0) (trodAll_cons_mk (Below.trod laidOut (by kernel_rfl) (of_decide_eq_true (by kernel_rfl)) k1 hg lt1) (trodAll_cons_mk (Below.trod laidOut (by kernel_rfl) (of_decide_eq_true (by kernel_rfl)) k2 hg lt2) (trodAll_cons_mk (Below.trod laidOut (by kernel_rfl) (of_decide_eq_true (by kernel_rfl)) k3 hg lt3) trodAll_mk0)))), rfl, hg.frame _, fun h => by cases h⟩

set_option maxRecDepth 100000 in
theorem lifted (os : Os) (started : os.Started) (H : Type) (enc : TypeId × Value → H) :
    ReturnsInHanded {} Try.checked os 4 .any (Rows.fnExactPlanOkSpec.pre6 enc Try.prog Try.f4 Rows.fnExactPlanOkRow.domain false) (Rows.fnExactPlanOkSpec.post enc Try.prog Try.f4 false true false false) := by
  refine returnsInHanded_of_change (C := Try.checked) own started (by kernel_rfl) Try.func4
    (ChangeSpec.witness6 (enc := enc) (C := Try.checked) false ⟨#[], #[Value.slice none 0 0, Value.slice none 0 0, Value.slice none 0 0, Value.slice none 0 0], []⟩ 8 (by kernel_rfl) (by kernel_rfl) (by kernel_rfl) (by kernel_rfl)) ?_
  intro W base args ds gs before hval hW hcnd _
  exact contract H enc W base args ds gs before hval hW

theorem proved : Rows.FnExactPlanOkSaid :=
  OpenClaim.holds_of_wide 4 Try.f4 rfl rfl rfl rfl rfl rfl rfl ⟨rfl, rfl, rfl, rfl, rfl⟩ rfl rfl rfl rfl rfl (by kernel_rfl) Try.func4 (by kernel_rfl)
    (of_decide_eq_true (by kernel_rfl)) (by unfold Func.isWrapper; first | (rw [if_pos (by decide +kernel)]; kernel_rfl) | (rw [if_neg (by decide +kernel)]; exact ⟨rfl, rfl⟩))
    (fun os started H enc _ => lifted os started H enc)
#print axioms proved
end Go.Proofs.Ytgelkpaiabhklaa.fnExactPlanOk
