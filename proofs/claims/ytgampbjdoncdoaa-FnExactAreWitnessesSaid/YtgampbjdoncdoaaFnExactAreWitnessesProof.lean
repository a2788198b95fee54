/-
  For every argument, the landed AreWitnesses answers just as its model does: the law's call returns true, and the arguments read as they did. No condition.
-/
import Derived.Test.YtgampbjdoncdoaaRows
import Derived.WalkKit
import Derived.ProofKit
import Derived.OpenShut
import Derived.ShutString
import Derived.Test.YtgampbjdoncdoaaRoomArg
import Derived.Test.YtgampbjdoncdoaaWitSpec
import Derived.Test.YtgampbjdoncdoaaWitLand
import Derived.Test.YtgampbjdoncdoaaLawRoom
import Derived.Test.YtgampbjdoncdoaaGround
namespace Go.Proofs.Ytgampbjdoncdoaa.fnExactAreWitnesses
open Go.ChangeShapes Go.WideShapes Go.ChangeAt Go.RowKit
open Go.ChangeMaps (open_string shut_string)
open PointMath RoomMath Pts Blk LawRoom PointOk
set_option linter.unusedVariables false

theorem own : ownKnob Try.prog.godebug = none := by kernel_rfl
theorem laidOut : laidOutB Try.prog = true := by kernel_rfl

set_option maxRecDepth 100000 in
set_option maxHeartbeats 1600000 in
theorem small (w : World) (A0 : Option Addr) (n0 cap0 : Nat) (ps0 : List (Int × Int)) (hn0 : n0 ≤ 1048576) (hl0 : ps0.length = n0) (hp0 : PtsAt w w.heap.size A0 ps0) (A1 : Option Addr) (n1 cap1 : Nat) (ps1 : List (Int × Int)) (hn1 : n1 ≤ 1048576) (hl1 : ps1.length = n1) (hp1 : PtsAt w w.heap.size A1 ps1) (hsum : n0 + n1 ≤ 1048576) :
    Calls Try.prog 10 #[.agg #[.slice A0 n0 cap0], .slice A1 n1 cap1] w fun e w' => e = .returned (.bool true) ∧ Below w.heap.size w w' := by
  obtain ⟨r, hr⟩ : ∃ r, WitMath.witB ps0 ps1 = r := ⟨_, rfl⟩
  have QS : Hid (∀ (A0 : Option Addr) (n0 : Nat) (A1 : Option Addr) (n1 : Nat) (w : World) (hl0 : ps0.length = n0) (hn0 : n0 ≤ 1048576) (hp0 : PtsAt w w.heap.size A0 ps0) (hl1 : ps1.length = n1) (hn1 : n1 ≤ 1048576) (hp1 : PtsAt w w.heap.size A1 ps1), _) := Lib.hid fun A0 n0 A1 n1 w hl0 hn0 hp0 hl1 hn1 hp1 => WitSpec.areWitnesses A0 n0 n0 A1 n1 n1 w ps0 hl0 hn0 hp0 ps1 hl1 hn1 hp1 (Nat.le_refl _)
  have QI : Hid (∀ (A0 : Option Addr) (n0 : Nat) (A1 : Option Addr) (n1 : Nat) (w : World) (hl0 : ps0.length = n0) (hn0 : n0 ≤ 1048576) (hp0 : PtsAt w w.heap.size A0 ps0) (hl1 : ps1.length = n1) (hn1 : n1 ≤ 1048576) (hp1 : PtsAt w w.heap.size A1 ps1), _) := Lib.hid fun A0 n0 A1 n1 w hl0 hn0 hp0 hl1 hn1 hp1 => WitLand.areWitnesses A0 n0 n0 A1 n1 n1 w ps0 hl0 hn0 hp0 ps1 hl1 hn1 hp1 (Nat.le_refl _)
  rw [hr] at QS QI
  have HS0 := Lib.hid (fun w => szRoomL A0 n0 cap0 (1048576) (by omega) (by omega) w)
  simp only [show (n0 : Int) ≤ 1048576 by omega, if_true] at HS0
  have hs0_ : ¬ (1048576 - (n0 : Int) < 0) := by omega
  have HS1 := Lib.hid (fun w => szPointSL A1 n1 cap1 (1048576 - (n0 : Int)) (by omega) (by omega) w)
  simp only [show (n1 : Int) ≤ 1048576 - (n0 : Int) by omega, if_true] at HS1
  have hs1_ : ¬ (1048576 - (n0 : Int) - (n1 : Int) < 0) := by omega
  clear hr
  go_enter Try.func10, Try.ntmps10
  go_wp2_with fail
  have X0 := Pts.boxR w (.slice A0 n0 cap0) 54 (k := w.heap.size) (by simp)
  have b0 := PointOk.below1 w (Obj.cells #[.slice A0 n0 cap0] 54)
  have HO : ∀ W W' : World, (Pts.BoxR W (w.heap.size) (.slice A0 n0 cap0) ∧ PtsAt W w.heap.size A0 ps0 ∧ PtsAt W w.heap.size A1 ps1 ∧ Below w.heap.size w W) → Below W.heap.size W W' → (Pts.BoxR W' (w.heap.size) (.slice A0 n0 cap0) ∧ PtsAt W' w.heap.size A0 ps0 ∧ PtsAt W' w.heap.size A1 ps1 ∧ Below w.heap.size w W') := fun W W' ⟨h0, x0, x1, hb⟩ h => ⟨h0.later h, x0.later (h.mono hb.size), x1.later (h.mono hb.size), hb.trans (h.mono hb.size)⟩
  have hz0_ : Hid (((w.alloc (Obj.cells #[.slice A0 n0 cap0] 54))).heap.size = w.heap.size + 1) := Lib.hid (by simp)
  have Y0 : PtsAt ((w.alloc (Obj.cells #[.slice A0 n0 cap0] 54))) w.heap.size A0 ps0 := hp0.later b0
  have Y1 : PtsAt ((w.alloc (Obj.cells #[.slice A0 n0 cap0] 54))) w.heap.size A1 ps1 := hp1.later b0
  generalize (w.alloc (Obj.cells #[.slice A0 n0 cap0] 54)) = w0 at X0 Y0 Y1 b0 hz0_ ⊢
  have S0 := (⟨X0, Y0, Y1, b0⟩ : Pts.BoxR w0 (w.heap.size) (.slice A0 n0 cap0) ∧ PtsAt w0 w.heap.size A0 ps0 ∧ PtsAt w0 w.heap.size A1 ps1 ∧ Below w.heap.size w w0)
  clear X0 Y0 Y1 b0
  obtain ⟨⟨_, _⟩, _, _, _⟩ := id S0
  refine (HS0.out _).mono ?_
  rintro e w1 ⟨rfl, hb_⟩
  replace S0 := HO _ _ S0 hb_
  clear hb_
  obtain ⟨⟨_, _⟩, _, _, _⟩ := id S0
  go_wp2_with fail
  refine (HS1.out _).mono ?_
  rintro e w_ ⟨rfl, rfl⟩
  go_wp2_with fail
  refine (toRoom A0 ps0 n0 cap0 _ hl0 hn0 (S0.2.1.wide S0.2.2.2.size)).mono ?_
  rintro e w3 ⟨gs0, rfl, Rs0, es0_, ls0, hb_⟩
  replace S0 := HO _ _ S0 hb_
  clear hb_
  obtain ⟨⟨_, _⟩, _, _, _⟩ := id S0
  go_wp2_with fail
  refine (toPointS A1 ps1 n1 cap1 _ hl1 hn1 (S0.2.2.1.wide S0.2.2.2.size)).mono ?_
  rintro e w4 ⟨gs1, rfl, Rs1, es1_, ls1, hb_⟩
  replace S0 := HO _ _ S0 hb_
  replace Rs0 := Rs0.later hb_
  clear hb_
  obtain ⟨⟨_, _⟩, _, _, _⟩ := id S0
  go_wp2_with fail
  refine (QS.out _ n0 _ n1 _ hl0 hn0 Rs0.ptsIn hl1 hn1 Rs1.ptsIn).mono ?_
  rintro e w5 ⟨rfl, hb_⟩
  replace S0 := HO _ _ S0 hb_
  replace Rs0 := Rs0.later hb_
  replace Rs1 := Rs1.later hb_
  clear hb_
  obtain ⟨⟨_, _⟩, _, _, _⟩ := id S0
  go_wp2_with fail
  refine (toRoom A0 ps0 n0 cap0 _ hl0 hn0 (S0.2.1.wide S0.2.2.2.size)).mono ?_
  rintro e w6 ⟨gx0, rfl, Rx0, ex0_, lx0, hb_⟩
  replace S0 := HO _ _ S0 hb_
  replace Rs0 := Rs0.later hb_
  replace Rs1 := Rs1.later hb_
  clear hb_
  obtain ⟨⟨_, _⟩, _, _, _⟩ := id S0
  have lt_0 := World.block_lt_of_cell? _ _ S0.1.1
  have hb_ := PointOk.below1 w6 (Obj.cells #[.slice (some ⟨gx0, 0, none⟩) n0 n0] 63)
  have N0 := Blk.Holds.box w6 #[.slice (some ⟨gx0, 0, none⟩) n0 n0] 63 rfl
  replace S0 := HO _ _ S0 hb_
  replace Rs0 := Rs0.later hb_
  replace Rs1 := Rs1.later hb_
  replace Rx0 := Rx0.later hb_
  clear hb_
  obtain ⟨⟨_, _⟩, _, _, _⟩ := id S0
  obtain ⟨_, _⟩ := N0.one
  go_wp2_with fail
  generalize w6.alloc (Obj.cells #[.slice (some ⟨gx0, 0, none⟩) n0 n0] 63) = v6_N0 at *
  clear lt_0
  refine (toPointS A1 ps1 n1 cap1 _ hl1 hn1 (S0.2.2.1.wide S0.2.2.2.size)).mono ?_
  rintro e w7 ⟨gx1, rfl, Rx1, ex1_, lx1, hb_⟩
  replace S0 := HO _ _ S0 hb_
  replace Rs0 := Rs0.later hb_
  replace Rs1 := Rs1.later hb_
  replace Rx0 := Rx0.later hb_
  replace N0 := N0.later hb_
  clear hb_
  obtain ⟨⟨_, _⟩, _, _, _⟩ := id S0
  obtain ⟨_, _⟩ := N0.one
  go_wp2_with fail
  refine (QI.out _ n0 _ n1 _ hl0 hn0 Rx0.ptsIn hl1 hn1 Rx1.ptsIn).mono ?_
  rintro e w8 ⟨rfl, hb_⟩
  replace S0 := HO _ _ S0 hb_
  replace Rs0 := Rs0.later hb_
  replace Rs1 := Rs1.later hb_
  replace Rx0 := Rx0.later hb_
  replace N0 := N0.later hb_
  replace Rx1 := Rx1.later hb_
  clear hb_
  obtain ⟨⟨_, _⟩, _, _, _⟩ := id S0
  obtain ⟨_, _⟩ := N0.one
  cases r
  · skip
    go_wp2_with fail
    have S0_ := HO _ _ S0 ((Below.refl _ _).drew)
    have Rs0_0 := Rs0.later ((Below.refl _ _).drew)
    have Rs1_0 := Rs1.later ((Below.refl _ _).drew)
    have Rx0_0 := Rx0.later ((Below.refl _ _).drew)
    have N0_0 := N0.later ((Below.refl _ _).drew)
    have Rx1_0 := Rx1.later ((Below.refl _ _).drew)
    have HS0_ : w8.drew.cell? ⟨w6.heap.size, 0, none⟩ = some (.slice (some ⟨gx0, 0, none⟩) n0 n0) ∧ w8.drew.cell? ⟨w.heap.size, 0, none⟩ = some (.slice A0 n0 cap0) := (by obtain ⟨⟨_, _⟩, _, _, _⟩ := id S0_; obtain ⟨_, _⟩ := N0_0.one; exact ⟨by assumption, by assumption⟩)
    go_region_held3 (fun W => W.cell? ⟨w6.heap.size, 0, none⟩ = some (.slice (some ⟨gx0, 0, none⟩) n0 n0) ∧ W.cell? ⟨w.heap.size, 0, none⟩ = some (.slice A0 n0 cap0)) (first | exact HS0_ | assumption) (first | (go_at_call 38; refine (toRoom A0 ps0 n0 cap0 _ hl0 hn0 (S0_.2.1.wide S0_.2.2.2.size)).mono ?_; rintro e w9 ⟨gy0, rfl, Ry0, _, _, hb0_⟩; have S1_ := HO _ _ S0_ hb0_; have Rs0_1 := Rs0_0.later hb0_; have Rs1_1 := Rs1_0.later hb0_; have Rx0_1 := Rx0_0.later hb0_; have N0_1 := N0_0.later hb0_; have Rx1_1 := Rx1_0.later hb0_; have Ry0_1 := Ry0; have HS1_ : w9.cell? ⟨w6.heap.size, 0, none⟩ = some (.slice (some ⟨gx0, 0, none⟩) n0 n0) ∧ w9.cell? ⟨w.heap.size, 0, none⟩ = some (.slice A0 n0 cap0) := (by obtain ⟨⟨_, _⟩, _, _, _⟩ := id S1_; obtain ⟨_, _⟩ := N0_1.one; exact ⟨by assumption, by assumption⟩)) | (go_at_call 42; refine (eqRoom_same _ _ ps0 n0 n0 n0 _ hl0 hn0 Rx0_1.ptsIn Ry0_1.ptsIn).mono ?_; rintro e w10 ⟨rfl, hb1_⟩; have S2_ := HO _ _ S1_ hb1_; have Rs0_2 := Rs0_1.later hb1_; have Rs1_2 := Rs1_1.later hb1_; have Rx0_2 := Rx0_1.later hb1_; have N0_2 := N0_1.later hb1_; have Rx1_2 := Rx1_1.later hb1_; have Ry0_2 := Ry0_1.later hb1_; have HS2_ : w10.cell? ⟨w6.heap.size, 0, none⟩ = some (.slice (some ⟨gx0, 0, none⟩) n0 n0) ∧ w10.cell? ⟨w.heap.size, 0, none⟩ = some (.slice A0 n0 cap0) := (by obtain ⟨⟨_, _⟩, _, _, _⟩ := id S2_; obtain ⟨_, _⟩ := N0_2.one; exact ⟨by assumption, by assumption⟩)))
    replace S0 := S2_
    have Rs0 := Rs0_2
    have Rs1 := Rs1_2
    have Rx0 := Rx0_2
    have N0 := N0_2
    have Rx1 := Rx1_2
    have Ry0 := Ry0_2
    obtain ⟨⟨_, _⟩, _, _, _⟩ := id S0
    obtain ⟨_, _⟩ := N0.one
    go_wp2_with fail
    refine (toPointS A1 ps1 n1 cap1 _ hl1 hn1 (S0.2.2.1.wide S0.2.2.2.size)).mono ?_
    rintro e w11 ⟨gy1, rfl, Ry1, ey1_, ly1, hb_⟩
    replace S0 := HO _ _ S0 hb_
    replace Rs0 := Rs0.later hb_
    replace Rs1 := Rs1.later hb_
    replace Rx0 := Rx0.later hb_
    replace N0 := N0.later hb_
    replace Rx1 := Rx1.later hb_
    replace Ry0 := Ry0.later hb_
    clear hb_
    obtain ⟨⟨_, _⟩, _, _, _⟩ := id S0
    obtain ⟨_, _⟩ := N0.one
    go_wp2_with fail
    refine (eqPointS_same _ _ ps1 n1 n1 n1 _ hl1 hn1 Rx1.ptsIn Ry1.ptsIn).mono ?_
    rintro e w12 ⟨rfl, hb_⟩
    replace S0 := HO _ _ S0 hb_
    replace Rs0 := Rs0.later hb_
    replace Rs1 := Rs1.later hb_
    replace Rx0 := Rx0.later hb_
    replace N0 := N0.later hb_
    replace Rx1 := Rx1.later hb_
    replace Ry0 := Ry0.later hb_
    replace Ry1 := Ry1.later hb_
    clear hb_
    obtain ⟨⟨_, _⟩, _, _, _⟩ := id S0
    obtain ⟨_, _⟩ := N0.one
    go_wp2_with fail
    go_ret
    exact ⟨rfl, S0.2.2.2⟩
  · skip
    go_wp2_with fail
    have S0_ := HO _ _ S0 ((Below.refl _ _).drew)
    have Rs0_0 := Rs0.later ((Below.refl _ _).drew)
    have Rs1_0 := Rs1.later ((Below.refl _ _).drew)
    have Rx0_0 := Rx0.later ((Below.refl _ _).drew)
    have N0_0 := N0.later ((Below.refl _ _).drew)
    have Rx1_0 := Rx1.later ((Below.refl _ _).drew)
    have HS0_ : w8.drew.cell? ⟨w6.heap.size, 0, none⟩ = some (.slice (some ⟨gx0, 0, none⟩) n0 n0) ∧ w8.drew.cell? ⟨w.heap.size, 0, none⟩ = some (.slice A0 n0 cap0) := (by obtain ⟨⟨_, _⟩, _, _, _⟩ := id S0_; obtain ⟨_, _⟩ := N0_0.one; exact ⟨by assumption, by assumption⟩)
    go_region_held3 (fun W => W.cell? ⟨w6.heap.size, 0, none⟩ = some (.slice (some ⟨gx0, 0, none⟩) n0 n0) ∧ W.cell? ⟨w.heap.size, 0, none⟩ = some (.slice A0 n0 cap0)) (first | exact HS0_ | assumption) (first | (go_at_call 38; refine (toRoom A0 ps0 n0 cap0 _ hl0 hn0 (S0_.2.1.wide S0_.2.2.2.size)).mono ?_; rintro e w9 ⟨gy0, rfl, Ry0, _, _, hb0_⟩; have S1_ := HO _ _ S0_ hb0_; have Rs0_1 := Rs0_0.later hb0_; have Rs1_1 := Rs1_0.later hb0_; have Rx0_1 := Rx0_0.later hb0_; have N0_1 := N0_0.later hb0_; have Rx1_1 := Rx1_0.later hb0_; have Ry0_1 := Ry0; have HS1_ : w9.cell? ⟨w6.heap.size, 0, none⟩ = some (.slice (some ⟨gx0, 0, none⟩) n0 n0) ∧ w9.cell? ⟨w.heap.size, 0, none⟩ = some (.slice A0 n0 cap0) := (by obtain ⟨⟨_, _⟩, _, _, _⟩ := id S1_; obtain ⟨_, _⟩ := N0_1.one; exact ⟨by assumption, by assumption⟩)) | (go_at_call 42; refine (eqRoom_same _ _ ps0 n0 n0 n0 _ hl0 hn0 Rx0_1.ptsIn Ry0_1.ptsIn).mono ?_; rintro e w10 ⟨rfl, hb1_⟩; have S2_ := HO _ _ S1_ hb1_; have Rs0_2 := Rs0_1.later hb1_; have Rs1_2 := Rs1_1.later hb1_; have Rx0_2 := Rx0_1.later hb1_; have N0_2 := N0_1.later hb1_; have Rx1_2 := Rx1_1.later hb1_; have Ry0_2 := Ry0_1.later hb1_; have HS2_ : w10.cell? ⟨w6.heap.size, 0, none⟩ = some (.slice (some ⟨gx0, 0, none⟩) n0 n0) ∧ w10.cell? ⟨w.heap.size, 0, none⟩ = some (.slice A0 n0 cap0) := (by obtain ⟨⟨_, _⟩, _, _, _⟩ := id S2_; obtain ⟨_, _⟩ := N0_2.one; exact ⟨by assumption, by assumption⟩)))
    replace S0 := S2_
    have Rs0 := Rs0_2
    have Rs1 := Rs1_2
    have Rx0 := Rx0_2
    have N0 := N0_2
    have Rx1 := Rx1_2
    have Ry0 := Ry0_2
    obtain ⟨⟨_, _⟩, _, _, _⟩ := id S0
    obtain ⟨_, _⟩ := N0.one
    go_wp2_with fail
    refine (toPointS A1 ps1 n1 cap1 _ hl1 hn1 (S0.2.2.1.wide S0.2.2.2.size)).mono ?_
    rintro e w11 ⟨gy1, rfl, Ry1, ey1_, ly1, hb_⟩
    replace S0 := HO _ _ S0 hb_
    replace Rs0 := Rs0.later hb_
    replace Rs1 := Rs1.later hb_
    replace Rx0 := Rx0.later hb_
    replace N0 := N0.later hb_
    replace Rx1 := Rx1.later hb_
    replace Ry0 := Ry0.later hb_
    clear hb_
    obtain ⟨⟨_, _⟩, _, _, _⟩ := id S0
    obtain ⟨_, _⟩ := N0.one
    go_wp2_with fail
    refine (eqPointS_same _ _ ps1 n1 n1 n1 _ hl1 hn1 Rx1.ptsIn Ry1.ptsIn).mono ?_
    rintro e w12 ⟨rfl, hb_⟩
    replace S0 := HO _ _ S0 hb_
    replace Rs0 := Rs0.later hb_
    replace Rs1 := Rs1.later hb_
    replace Rx0 := Rx0.later hb_
    replace N0 := N0.later hb_
    replace Rx1 := Rx1.later hb_
    replace Ry0 := Ry0.later hb_
    replace Ry1 := Ry1.later hb_
    clear hb_
    obtain ⟨⟨_, _⟩, _, _, _⟩ := id S0
    obtain ⟨_, _⟩ := N0.one
    go_wp2_with fail
    go_ret
    exact ⟨rfl, S0.2.2.2⟩

theorem walk (w : World) (A0 : Option Addr) (n0 cap0 : Nat) (ps0 : List (Int × Int)) (hm0 : n0 ≤ maxLen) (hl0 : ps0.length = n0) (hp0 : PtsAt w w.heap.size A0 ps0) (A1 : Option Addr) (n1 cap1 : Nat) (ps1 : List (Int × Int)) (hm1 : n1 ≤ maxLen) (hl1 : ps1.length = n1) (hp1 : PtsAt w w.heap.size A1 ps1) :
    Calls Try.prog 10 #[.agg #[.slice A0 n0 cap0], .slice A1 n1 cap1] w fun e w' => e = .returned (.bool true) ∧ Below w.heap.size w w' := by
  by_cases hn : n0 ≤ 1048576
  · by_cases hn1 : n0 + n1 ≤ 1048576
    · exact small w A0 n0 cap0 ps0 (by omega) hl0 hp0 A1 n1 cap1 ps1 (by omega) hl1 hp1 (by omega)
    · skip
      have HS0 := Lib.hid fun w => szRoomL A0 n0 cap0 (1048576) (by unfold maxLen at hm0; omega) (by omega) w
      simp only [show (n0 : Int) ≤ 1048576 by omega, if_true] at HS0
      have hs0_ : ¬ (1048576 - (n0 : Int) < 0) := by omega
      have HS1 := Lib.hid fun w => szPointSL A1 n1 cap1 (1048576 - (n0 : Int)) (by unfold maxLen at hm1; omega) (by omega) w
      simp only [show ¬ (n1 : Int) ≤ 1048576 - (n0 : Int) by omega, if_false] at HS1
      clear hl0 hp0 hm0 hl1 hp1 hm1
      go_enter Try.func10, Try.ntmps10
      go_wp2_with fail
      have X0 := Pts.boxR w (.slice A0 n0 cap0) 54 (k := w.heap.size) (by simp)
      have b0 := PointOk.below1 w (Obj.cells #[.slice A0 n0 cap0] 54)
      have HO : ∀ W W' : World, (Pts.BoxR W (w.heap.size) (.slice A0 n0 cap0) ∧ Below w.heap.size w W) → Below W.heap.size W W' → (Pts.BoxR W' (w.heap.size) (.slice A0 n0 cap0) ∧ Below w.heap.size w W') := fun W W' ⟨h0, hb⟩ h => ⟨h0.later h, hb.trans (h.mono hb.size)⟩
      have hz0_ : Hid (((w.alloc (Obj.cells #[.slice A0 n0 cap0] 54))).heap.size = w.heap.size + 1) := Lib.hid (by simp)
      generalize (w.alloc (Obj.cells #[.slice A0 n0 cap0] 54)) = w0 at X0 b0 hz0_ ⊢
      have S0 := (⟨X0, b0⟩ : Pts.BoxR w0 (w.heap.size) (.slice A0 n0 cap0) ∧ Below w.heap.size w w0)
      clear X0 b0
      obtain ⟨⟨_, _⟩, _⟩ := id S0
      refine (HS0.out _).mono ?_
      rintro e w1 ⟨rfl, hb_⟩
      replace S0 := HO _ _ S0 hb_
      clear hb_
      obtain ⟨⟨_, _⟩, _⟩ := id S0
      go_wp2_with fail
      refine (HS1.out _).mono ?_
      rintro e w_ ⟨rfl, rfl⟩
      go_wp2_with fail
      go_ret
      exact ⟨rfl, S0.2⟩
  · skip
    have HS0 := Lib.hid fun w => szRoomL A0 n0 cap0 (1048576) (by unfold maxLen at hm0; omega) (by omega) w
    simp only [show ¬ (n0 : Int) ≤ 1048576 by omega, if_false] at HS0
    clear hl0 hp0 hm0 hl1 hp1 hm1
    go_enter Try.func10, Try.ntmps10
    go_wp2_with fail
    have X0 := Pts.boxR w (.slice A0 n0 cap0) 54 (k := w.heap.size) (by simp)
    have b0 := PointOk.below1 w (Obj.cells #[.slice A0 n0 cap0] 54)
    have HO : ∀ W W' : World, (Pts.BoxR W (w.heap.size) (.slice A0 n0 cap0) ∧ Below w.heap.size w W) → Below W.heap.size W W' → (Pts.BoxR W' (w.heap.size) (.slice A0 n0 cap0) ∧ Below w.heap.size w W') := fun W W' ⟨h0, hb⟩ h => ⟨h0.later h, hb.trans (h.mono hb.size)⟩
    have hz0_ : Hid (((w.alloc (Obj.cells #[.slice A0 n0 cap0] 54))).heap.size = w.heap.size + 1) := Lib.hid (by simp)
    generalize (w.alloc (Obj.cells #[.slice A0 n0 cap0] 54)) = w0 at X0 b0 hz0_ ⊢
    have S0 := (⟨X0, b0⟩ : Pts.BoxR w0 (w.heap.size) (.slice A0 n0 cap0) ∧ Below w.heap.size w w0)
    clear X0 b0
    obtain ⟨⟨_, _⟩, _⟩ := id S0
    refine (HS0.out _).mono ?_
    rintro e w1 ⟨rfl, hb_⟩
    replace S0 := HO _ _ S0 hb_
    clear hb_
    obtain ⟨⟨_, _⟩, _⟩ := id S0
    go_wp2_with fail
    go_ret
    exact ⟨rfl, S0.2⟩

set_option maxRecDepth 100000 in
theorem contract (H : Type) (enc : TypeId × Value → H) (W : World) (base : Nat) (args : Array Value) (ds gs : List (DataW H)) (before : List MemPlace)
    (hval : ∀ (j : Nat) t v, Try.f10.params[j]? = some t → args[j]? = some v → Value.okWide Try.prog W .any base t v)
    (hW : DataW.Whole enc Try.prog Try.f10.params.toList Rows.fnExactAreWitnessesSpec.vars false W args.toList ds gs before) :
    Calls Try.prog 10 args W fun e W' => ∃ v, e = .returned v ∧ Rows.fnExactAreWitnessesSpec.post enc Try.prog Try.f10 false true false false W args v W' := by
  have hW' := hW
  obtain ⟨p, q, hA0, hV, rfl, hfz, hnd⟩ := hW
  have hA : DataW.TrodAll enc Try.prog W 0 (fun _ => true) true Try.f10.params.toList args.toList ds p := hA0
  rw [Try.params10] at hA hval
  obtain ⟨v0, vs0, d0, ds0, p0, q0, hargs, rfl, rfl, h0, r0⟩ := trodAll_cons hA
  obtain ⟨v1, vs1, d1, ds1, p1, q1, rfl, rfl, rfl, h1, r1⟩ := trodAll_cons r0
  obtain ⟨rfl, rfl, rfl⟩ := trodAll_nil r1
  obtain rfl : args = #[v0, v1] := by cases args; simp_all
  obtain ⟨rfl, rfl⟩ := trodVars_none hV
  have sr0 : RoomArg.Shape Try.prog 54 52 56 3 _ _ _ := ⟨Try.underlying54, rfl, rfl, by kernel_rfl, by kernel_rfl, ⟨Try.underlying52, Try.underlying56, by kernel_rfl, rfl, rfl, rfl, rfl, Try.underlying3, by kernel_rfl⟩⟩
  have k0 := h0
  have lt0 : ∀ x ∈ p0, x.block < W.heap.size := by obtain ⟨m, hm⟩ := k0; exact DataW.trod_lt m _ _ _ hm
  obtain ⟨a0, len0, cap0, z0, rfl, w0, l0, r0p⟩ := RoomArg.open_room sr0 (hval 0 54 v0 rfl rfl) h0
  have ss1 : RoomArg.ShapeS Try.prog 52 56 3 _ _ := ⟨Try.underlying52, Try.underlying56, by kernel_rfl, rfl, rfl, rfl, rfl, Try.underlying3, by kernel_rfl⟩
  obtain ⟨a1, len1, cap1, rfl⟩ := okWide_slice Try.underlying52 (hval 1 52 v1 rfl rfl)
  have k1 := h1
  have lt1 : ∀ x ∈ p1, x.block < W.heap.size := by obtain ⟨m, hm⟩ := k1; exact DataW.trod_lt m _ _ _ hm
  obtain ⟨z1, w1, l1, r1p⟩ : ∃ ps : List (Int × Int), len1 ≤ maxLen ∧ ps.length = len1 ∧ Pts.PtsAt W W.heap.size a1 ps := by
    obtain ⟨fuel, hf⟩ := h1
    simp only [Value.cells] at hf
    obtain ⟨A_, n_, cp_, ps_, hu, h1, h2, h3⟩ := RoomArg.points_of ss1 hf
    injection hu with e1 e2 e3
    subst e1 e2 e3
    exact ⟨ps_, h1, h2, h3⟩
  clear hA0
  refine (walk W a0 len0 cap0 z0 w0 l0 r0p a1 len1 cap1 z1 w1 l1 r1p).mono fun e W' ⟨he, hg⟩ => ?_
  subst he
  exact ⟨_, rfl, _, _, _, [], _, [], hW', (trodAll_cons_mk (shut_bool Try.underlying4 _) trodAll_mk0), (trodAll_cons_mk (Below.trod laidOut (by kernel_rfl) (of_decide_eq_true (by kernel_rfl)) k0 hg lt0) (trodAll_cons_mk (Below.trod laidOut (by kernel_rfl) (of_decide_eq_true (by kernel_rfl)) k1 hg lt1) trodAll_mk0)), rfl, hg.frame _, fun h => by cases h⟩

set_option maxRecDepth 100000 in
theorem lifted (os : Os) (started : os.Started) (H : Type) (enc : TypeId × Value → H) :
    ReturnsInHanded {} Try.checked os 10 .any (Rows.fnExactAreWitnessesSpec.pre6 enc Try.prog Try.f10 Rows.fnExactAreWitnessesRow.domain false) (Rows.fnExactAreWitnessesSpec.post enc Try.prog Try.f10 false true false false) := by
  refine returnsInHanded_of_change (C := Try.checked) own started (by kernel_rfl) Try.func10
    (ChangeSpec.witness6 (enc := enc) (C := Try.checked) false ⟨#[], #[Value.agg #[Value.slice none 0 0], Value.slice none 0 0], []⟩ 8 (by kernel_rfl) (by kernel_rfl) (by kernel_rfl) (by kernel_rfl)) ?_
  intro W base args ds gs before hval hW hcnd _
  exact contract H enc W base args ds gs before hval hW

theorem proved : Rows.FnExactAreWitnessesSaid :=
  OpenClaim.holds_of_wide 10 Try.f10 rfl rfl rfl rfl rfl rfl rfl ⟨rfl, rfl, rfl, rfl, rfl⟩ rfl rfl rfl rfl rfl (by kernel_rfl) Try.func10 (by kernel_rfl)
    (of_decide_eq_true (by kernel_rfl)) (by unfold Func.isWrapper; first | (rw [if_pos (by decide +kernel)]; kernel_rfl) | (rw [if_neg (by decide +kernel)]; exact ⟨rfl, rfl⟩))
    (fun os started H enc _ => lifted os started H enc)
#print axioms proved
end Go.Proofs.Ytgampbjdoncdoaa.fnExactAreWitnesses
