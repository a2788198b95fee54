/-
  For every argument, the landed CutEar answers just as its model does, in memory that it shares with nothing: the law's call returns true, and the arguments read as they did. No condition.
-/
import Derived.Test.YthokeedmccfalaaRows
import Derived.WalkKit
import Derived.ProofKit
import Derived.OpenShut
import Derived.ShutString
import Derived.Test.YthokeedmccfalaaRoomArg
import Derived.Test.YthokeedmccfalaaCutEarSpec
import Derived.Test.YthokeedmccfalaaCutEarImpl
import Derived.Test.YthokeedmccfalaaLawRes
import Derived.Test.YthokeedmccfalaaLawInt
import Derived.Test.YthokeedmccfalaaLawRoom
import Derived.Test.YthokeedmccfalaaGround
namespace Go.Proofs.Ythokeedmccfalaa.fnExactCutEar
open Go.ChangeShapes Go.WideShapes Go.ChangeAt Go.RowKit
open Go.ChangeMaps (open_string shut_string)
open PointMath RoomMath Pts Blk LawRoom PointOk Own LawInt RoomRes LawRes MovRoom
set_option linter.unusedVariables false

theorem own : ownKnob Try.prog.godebug = none := by kernel_rfl
theorem laidOut : laidOutB Try.prog = true := by kernel_rfl

set_option maxRecDepth 100000 in
set_option maxHeartbeats 3200000 in
theorem small (w : World) (A0 : Option Addr) (n0 cap0 : Nat) (ps0 : List (Int × Int)) (hn0 : n0 ≤ 1048576) (hl0 : ps0.length = n0) (hp0 : PtsAt w w.heap.size A0 ps0) (k : Int) :
    Calls Try.prog 4 #[.agg #[.slice A0 n0 cap0], .int .i64 k] w fun e w' => e = .returned (.bool true) ∧ Below w.heap.size w w' := by
  obtain ⟨l, hlq⟩ : ∃ l, StrMath.earL ps0 k = l := ⟨_, rfl⟩
  have QS : Hid (∀ (A0 : Option Addr) (n0 cap0 : Nat) (w : World) (hl0 : ps0.length = n0) (hn0 : n0 ≤ 1048576) (hc0 : n0 ≤ cap0) (hp0 : PtsAt w w.heap.size A0 ps0), _) := Lib.hid fun A0 n0 cap0 w hl0 hn0 hc0 hp0 => CutEarSpec.cutEar A0 n0 cap0 k w ps0 hl0 hn0 hc0 hp0
  have QI : Hid (∀ (A0 : Option Addr) (n0 cap0 : Nat) (w : World) (hl0 : ps0.length = n0) (hn0 : n0 ≤ 1048576) (hc0 : n0 ≤ cap0) (hp0 : PtsAt w w.heap.size A0 ps0), _) := Lib.hid fun A0 n0 cap0 w hl0 hn0 hc0 hp0 => CutEarImpl.cutEar A0 n0 cap0 k w ps0 hl0 hn0 hc0 hp0
  rw [hlq] at QS QI
  obtain ⟨o, ho⟩ : ∃ o, StrMath.earB ps0 k = o := ⟨_, rfl⟩
  rw [ho] at QS QI
  obtain ⟨m, hm⟩ : ∃ m, l.length = m := ⟨_, rfl⟩
  have hmb : m ≤ 1048576 := by rw [← hm, ← hlq]; exact StrMath.ear_bound _ _
  unfold GivesRB at QS QI
  rw [hm] at QS QI
  have HS0 := Lib.hid fun w => szRoomL A0 n0 cap0 1048576 (by omega) (by omega) w
  simp only [show (n0 : Int) ≤ 1048576 by omega, if_true] at HS0
  have kq_ : ¬ (((1 + n0 * 2 : Nat) : Int) < 0) := by omega
  have kr_ : ¬ (((1 + m * 2 : Nat) : Int) < 0) := by omega
  clear hlq ho
  go_enter Try.func4, Try.ntmps4
  go_wp2_with fail
  have X0 := Pts.boxR w (.slice A0 n0 cap0) 33 (k := w.heap.size) (by simp)
  have b0 := PointOk.below1 w (Obj.cells #[.slice A0 n0 cap0] 33)
  have HO : ∀ W W' : World, (Pts.BoxR W (w.heap.size) (.slice A0 n0 cap0) ∧ PtsAt W w.heap.size A0 ps0 ∧ w.heap.size + 1 ≤ W.heap.size ∧ Below w.heap.size w W) → Below W.heap.size W W' → (Pts.BoxR W' (w.heap.size) (.slice A0 n0 cap0) ∧ PtsAt W' w.heap.size A0 ps0 ∧ w.heap.size + 1 ≤ W'.heap.size ∧ Below w.heap.size w W') := fun W W' ⟨h0, x0, x1, hb⟩ h => ⟨h0.later h, x0.later (h.mono hb.size), Nat.le_trans x1 h.size, hb.trans (h.mono hb.size)⟩
  have hz0_ : Hid (((w.alloc (Obj.cells #[.slice A0 n0 cap0] 33))).heap.size = w.heap.size + 1) := Lib.hid (by simp)
  have Y0 : PtsAt ((w.alloc (Obj.cells #[.slice A0 n0 cap0] 33))) w.heap.size A0 ps0 := hp0.later b0
  have Y1 : w.heap.size + 1 ≤ ((w.alloc (Obj.cells #[.slice A0 n0 cap0] 33))).heap.size := by simp
  generalize (w.alloc (Obj.cells #[.slice A0 n0 cap0] 33)) = w0 at X0 Y0 Y1 b0 hz0_ ⊢
  have S0 := (⟨X0, Y0, Y1, b0⟩ : Pts.BoxR w0 (w.heap.size) (.slice A0 n0 cap0) ∧ PtsAt w0 w.heap.size A0 ps0 ∧ w.heap.size + 1 ≤ w0.heap.size ∧ Below w.heap.size w w0)
  clear X0 Y0 Y1 b0
  obtain ⟨⟨_, _⟩, _, _, _⟩ := id S0
  have HO2 : ∀ W W' : World, (Pts.BoxR W (w.heap.size) (.slice A0 n0 cap0) ∧ PtsAt W w.heap.size A0 ps0 ∧ w.heap.size + 1 ≤ W.heap.size ∧ Below w.heap.size w W) → Below (w.heap.size + 1) W W' → (Pts.BoxR W' (w.heap.size) (.slice A0 n0 cap0) ∧ PtsAt W' w.heap.size A0 ps0 ∧ w.heap.size + 1 ≤ W'.heap.size ∧ Below w.heap.size w W') := fun W W' ⟨h0, x0, x1, hb⟩ h => ⟨⟨(h.cell (by simp)).trans h0.1, trivial⟩, x0.later (h.mono (by omega)), Nat.le_trans x1 h.size, hb.trans (h.mono (by omega))⟩
  clear hz0_
  refine (HS0.out _).mono ?_
  rintro e w1 ⟨rfl, hb_⟩
  replace S0 := HO _ _ S0 hb_
  clear hb_
  obtain ⟨⟨_, _⟩, _, _, _⟩ := id S0
  go_wp2_with fail
  refine (toRoom A0 ps0 n0 cap0 _ hl0 hn0 (S0.2.1.wide S0.2.2.2.size)).mono ?_
  rintro e w2 ⟨gs0, rfl, Rs0, es0_, ls0, hb_⟩
  replace S0 := HO _ _ S0 hb_
  clear hb_
  obtain ⟨⟨_, _⟩, _, _, _⟩ := id S0
  go_wp2_with fail
  refine (QS.out _ n0 n0 _ hl0 hn0 (Nat.le_refl _) Rs0.ptsIn).mono ?_
  rintro e w3 ⟨A1, c1, rfl, O1, hb_⟩
  replace S0 := HO _ _ S0 hb_
  replace Rs0 := Rs0.later hb_
  clear hb_
  obtain ⟨⟨_, _⟩, _, _, _⟩ := id S0
  have ol1_ : ∀ k, (Value.slice A1 m c1).ownBlock = some k → k < w3.heap.size := fun k hk => (O1.lt k hk).2
  have bz_ : w.heap.size + 1 ≤ w3.heap.size := S0.2.2.1
  have lt_0 := World.block_lt_of_cell? _ _ S0.1.1
  have hb_ := PointOk.below1 w3 (Obj.cells #[.slice A1 m c1] 37)
  have NW := Blk.Holds.box w3 #[.slice A1 m c1] 37 rfl
  replace S0 := HO _ _ S0 hb_
  replace Rs0 := Rs0.later hb_
  replace O1 := own_below O1 hb_
  clear hb_
  obtain ⟨⟨_, _⟩, _, _, _⟩ := id S0
  obtain ⟨_, _⟩ := NW.one
  go_wp2_with fail
  generalize w3.alloc (Obj.cells #[.slice A1 m c1] 37) = v3_NW at *
  clear lt_0
  have kw_ := NW.lt
  refine (toRoom A0 ps0 n0 cap0 _ hl0 hn0 (S0.2.1.wide S0.2.2.2.size)).mono ?_
  rintro e w4 ⟨gx0, rfl, Rx0, ex0_, lx0, hb_⟩
  replace S0 := HO _ _ S0 hb_
  replace Rs0 := Rs0.later hb_
  replace O1 := own_below O1 hb_
  replace NW := NW.later hb_
  clear hb_
  obtain ⟨⟨_, _⟩, _, _, _⟩ := id S0
  obtain ⟨_, _⟩ := NW.one
  have bw_ : w3.heap.size < gx0 := Nat.lt_of_lt_of_le kw_ ex0_
  have lx_ : gx0 < w4.heap.size := lx0
  have ol1b_ : ∀ k, (Value.slice A1 m c1).ownBlock = some k → k < gx0 := fun k hk => Nat.lt_trans (ol1_ k hk) bw_
  have lt_0 := World.block_lt_of_cell? _ _ S0.1.1
  have ltNW_ := NW.lt
  have hb_ := PointOk.below1 w4 (Obj.cells #[.slice (some ⟨gx0, 0, none⟩) n0 n0] 37)
  have NX := Blk.Holds.box w4 #[.slice (some ⟨gx0, 0, none⟩) n0 n0] 37 rfl
  replace S0 := HO _ _ S0 hb_
  replace Rs0 := Rs0.later hb_
  replace O1 := own_below O1 hb_
  replace NW := NW.later hb_
  replace Rx0 := Rx0.later hb_
  clear hb_
  obtain ⟨⟨_, _⟩, _, _, _⟩ := id S0
  obtain ⟨_, _⟩ := NW.one
  obtain ⟨_, _⟩ := NX.one
  go_wp2_with fail
  generalize w4.alloc (Obj.cells #[.slice (some ⟨gx0, 0, none⟩) n0 n0] 37) = v4_NX at *
  clear lt_0 ltNW_
  have kx_ := NX.lt
  refine (QI.out _ n0 n0 _ hl0 hn0 (Nat.le_refl _) Rx0.ptsIn).mono ?_
  rintro e w5 ⟨A2, c2, rfl, O2, hb_⟩
  replace S0 := HO _ _ S0 hb_
  replace Rs0 := Rs0.later hb_
  replace O1 := own_below O1 hb_
  replace NW := NW.later hb_
  replace Rx0 := Rx0.later hb_
  replace NX := NX.later hb_
  clear hb_
  obtain ⟨⟨_, _⟩, _, _, _⟩ := id S0
  obtain ⟨_, _⟩ := NW.one
  obtain ⟨_, _⟩ := NX.one
  have ol2_ : ∀ k, (Value.slice A2 m c2).ownBlock = some k → w4.heap.size < k ∧ k < w5.heap.size := fun k hk => ⟨Nat.lt_of_lt_of_le kx_ (O2.lt k hk).1, (O2.lt k hk).2⟩
  have k5_ : w4.heap.size < w5.heap.size := NX.lt
  have lt_0 := World.block_lt_of_cell? _ _ S0.1.1
  have ltNW_ := NW.lt
  have ltNX_ := NX.lt
  have hb_ := PointOk.below1 w5 (Obj.cells #[.slice A2 m c2] 37)
  have NG := Blk.Holds.box w5 #[.slice A2 m c2] 37 rfl
  replace S0 := HO _ _ S0 hb_
  replace Rs0 := Rs0.later hb_
  replace O1 := own_below O1 hb_
  replace NW := NW.later hb_
  replace Rx0 := Rx0.later hb_
  replace NX := NX.later hb_
  replace O2 := own_below O2 hb_
  clear hb_
  obtain ⟨⟨_, _⟩, _, _, _⟩ := id S0
  obtain ⟨_, _⟩ := NW.one
  obtain ⟨_, _⟩ := NX.one
  obtain ⟨_, _⟩ := NG.one
  go_wp2_with fail
  generalize w5.alloc (Obj.cells #[.slice A2 m c2] 37) = v5_NG at *
  clear lt_0 ltNW_ ltNX_
  refine (eqRoomB _ _ _ m hmb _ _ l O2 O1).mono ?_
  rintro e w6 ⟨rfl, hb_⟩
  replace S0 := HO _ _ S0 hb_
  replace Rs0 := Rs0.later hb_
  replace O1 := own_below O1 hb_
  replace NW := NW.later hb_
  replace Rx0 := Rx0.later hb_
  replace NX := NX.later hb_
  replace O2 := own_below O2 hb_
  replace NG := NG.later hb_
  clear hb_
  obtain ⟨⟨_, _⟩, _, _, _⟩ := id S0
  obtain ⟨_, _⟩ := NW.one
  obtain ⟨_, _⟩ := NX.one
  obtain ⟨_, _⟩ := NG.one
  go_wp2_with fail
  have S0_ := HO _ _ S0 ((Below.refl _ _).drew)
  have Rs0_0 := Rs0.later ((Below.refl _ _).drew)
  have O1_0 := own_below O1 ((Below.refl _ _).drew)
  have NW_0 := NW.later ((Below.refl _ _).drew)
  have Rx0_0 := Rx0.later ((Below.refl _ _).drew)
  have NX_0 := NX.later ((Below.refl _ _).drew)
  have O2_0 := own_below O2 ((Below.refl _ _).drew)
  have NG_0 := NG.later ((Below.refl _ _).drew)
  have HS0_ : w6.drew.cell? ⟨w4.heap.size, 0, none⟩ = some (.slice (some ⟨gx0, 0, none⟩) n0 n0) ∧ w6.drew.cell? ⟨w.heap.size, 0, none⟩ = some (.slice A0 n0 cap0) := (by obtain ⟨⟨_, _⟩, _, _, _⟩ := id S0_; obtain ⟨_, _⟩ := NW_0.one; obtain ⟨_, _⟩ := NX_0.one; obtain ⟨_, _⟩ := NG_0.one; exact ⟨by assumption, by assumption⟩)
  go_region_held3 (fun W => W.cell? ⟨w4.heap.size, 0, none⟩ = some (.slice (some ⟨gx0, 0, none⟩) n0 n0) ∧ W.cell? ⟨w.heap.size, 0, none⟩ = some (.slice A0 n0 cap0)) (first | exact HS0_ | assumption) (first | (go_at_call 19; refine (toRoom A0 ps0 n0 cap0 _ hl0 hn0 (S0_.2.1.wide S0_.2.2.2.size)).mono ?_; rintro e w7 ⟨gy0, rfl, Ry0, _, _, hb0_⟩; have S1_ := HO _ _ S0_ hb0_; have Rs0_1 := Rs0_0.later hb0_; have O1_1 := own_below O1_0 hb0_; have NW_1 := NW_0.later hb0_; have Rx0_1 := Rx0_0.later hb0_; have NX_1 := NX_0.later hb0_; have O2_1 := own_below O2_0 hb0_; have NG_1 := NG_0.later hb0_; have Ry0_1 := Ry0; have HS1_ : w7.cell? ⟨w4.heap.size, 0, none⟩ = some (.slice (some ⟨gx0, 0, none⟩) n0 n0) ∧ w7.cell? ⟨w.heap.size, 0, none⟩ = some (.slice A0 n0 cap0) := (by obtain ⟨⟨_, _⟩, _, _, _⟩ := id S1_; obtain ⟨_, _⟩ := NW_1.one; obtain ⟨_, _⟩ := NX_1.one; obtain ⟨_, _⟩ := NG_1.one; exact ⟨by assumption, by assumption⟩)) | (go_at_call 21; refine (eqRoom_same _ _ ps0 n0 n0 n0 _ hl0 hn0 Rx0_1.ptsIn Ry0_1.ptsIn).mono ?_; rintro e w8 ⟨rfl, hb1_⟩; have S2_ := HO _ _ S1_ hb1_; have Rs0_2 := Rs0_1.later hb1_; have O1_2 := own_below O1_1 hb1_; have NW_2 := NW_1.later hb1_; have Rx0_2 := Rx0_1.later hb1_; have NX_2 := NX_1.later hb1_; have O2_2 := own_below O2_1 hb1_; have NG_2 := NG_1.later hb1_; have Ry0_2 := Ry0_1.later hb1_; have HS2_ : w8.cell? ⟨w4.heap.size, 0, none⟩ = some (.slice (some ⟨gx0, 0, none⟩) n0 n0) ∧ w8.cell? ⟨w.heap.size, 0, none⟩ = some (.slice A0 n0 cap0) := (by obtain ⟨⟨_, _⟩, _, _, _⟩ := id S2_; obtain ⟨_, _⟩ := NW_2.one; obtain ⟨_, _⟩ := NX_2.one; obtain ⟨_, _⟩ := NG_2.one; exact ⟨by assumption, by assumption⟩)))
  replace S0 := S2_
  have Rs0 := Rs0_2
  have O1 := O1_2
  have NW := NW_2
  have Rx0 := Rx0_2
  have NX := NX_2
  have O2 := O2_2
  have NG := NG_2
  have Ry0 := Ry0_2
  obtain ⟨⟨_, _⟩, _, _, _⟩ := id S0
  obtain ⟨_, _⟩ := NW.one
  obtain ⟨_, _⟩ := NX.one
  obtain ⟨_, _⟩ := NG.one
  go_wp2_with fail
  refine (markRoom _ gx0 n0 ps0 hl0 hn0 Rx0).mono ?_
  rintro e w9 ⟨rfl, hg_⟩
  have hbg_ : Below (w.heap.size + 1) w8 w9 := (Below.refl _ _).grown hg_ S0.2.2.1 (fun k hk => by injection hk with hk; have := bz_; omega)
  replace S0 := HO2 _ _ S0 hbg_
  replace O1 := kept_ne O1 hg_ (fun k hk => by have := ol1b_ k hk; omega)
  replace O2 := kept_ne O2 hg_ (fun k hk => by have := ol2_ k hk; omega)
  replace NW : Blk.Holds w9 w3.heap.size #[.slice A1 m c1] 37 := (hg_.block _ NW.lt (fun e => by injection e with e; omega)).trans NW
  replace NG : Blk.Holds w9 w5.heap.size #[.slice A2 m c2] 37 := (hg_.block _ NG.lt (fun e => by injection e with e; omega)).trans NG
  clear hbg_ hg_ Rx0 Ry0 NX Rs0
  obtain ⟨⟨_, _⟩, _, _, _⟩ := id S0
  obtain ⟨_, _⟩ := NW.one
  obtain ⟨_, _⟩ := NG.one
  go_wp2_with fail
  refine (eqRoomB _ _ _ m hmb _ _ l O2 O1).mono ?_
  rintro e w10 ⟨rfl, hb_⟩
  replace S0 := HO _ _ S0 hb_
  replace O1 := own_below O1 hb_
  replace NW := NW.later hb_
  replace O2 := own_below O2 hb_
  replace NG := NG.later hb_
  clear hb_
  obtain ⟨⟨_, _⟩, _, _, _⟩ := id S0
  obtain ⟨_, _⟩ := NW.one
  obtain ⟨_, _⟩ := NG.one
  go_wp2_with fail
  refine (markRoomB _ _ m hmb _ _ O2).mono ?_
  rintro e w11 ⟨rfl, O3, hg_⟩
  have hbg_ : Below (w.heap.size + 1) w10 w11 := (Below.refl _ _).grown hg_ S0.2.2.1 (fun k hk => by have := ol2_ k hk; have := bz_; omega)
  replace S0 := HO2 _ _ S0 hbg_
  replace O1 := kept_apart O1 hg_ (fun k j hk hj => by have := ol1b_ k hk; have := ol2_ j hj; omega)
  replace NW : Blk.Holds w11 w3.heap.size #[.slice A1 m c1] 37 := (hg_.block _ NW.lt (fun e => by have := ol2_ _ e.symm; omega)).trans NW
  replace NG : Blk.Holds w11 w5.heap.size #[.slice A2 m c2] 37 := (hg_.block _ NG.lt (fun e => by have := ol2_ _ e.symm; omega)).trans NG
  clear hbg_ hg_ O2
  obtain ⟨⟨_, _⟩, _, _, _⟩ := id S0
  obtain ⟨_, _⟩ := NW.one
  obtain ⟨_, _⟩ := NG.one
  go_wp2_with fail
  refine (heldRoomB _ _ m hmb _ O3).mono ?_
  rintro e w12 ⟨rfl, hb_⟩
  replace S0 := HO _ _ S0 hb_
  replace O1 := own_below O1 hb_
  replace NW := NW.later hb_
  replace NG := NG.later hb_
  replace O3 := own_below O3 hb_
  clear hb_
  obtain ⟨⟨_, _⟩, _, _, _⟩ := id S0
  obtain ⟨_, _⟩ := NW.one
  obtain ⟨_, _⟩ := NG.one
  go_wp2_with fail
  refine (toRoom A0 ps0 n0 cap0 _ hl0 hn0 (S0.2.1.wide S0.2.2.2.size)).mono ?_
  rintro e w13 ⟨gh0, rfl, Rh0, eh0_, lh0, hb_⟩
  replace S0 := HO _ _ S0 hb_
  replace O1 := own_below O1 hb_
  replace NW := NW.later hb_
  replace NG := NG.later hb_
  replace O3 := own_below O3 hb_
  clear hb_
  obtain ⟨⟨_, _⟩, _, _, _⟩ := id S0
  obtain ⟨_, _⟩ := NW.one
  obtain ⟨_, _⟩ := NG.one
  go_wp2_with fail
  refine (QI.out _ n0 n0 _ hl0 hn0 (Nat.le_refl _) Rh0.ptsIn).mono ?_
  rintro e w14 ⟨A4, c4, rfl, O4, hb_⟩
  replace S0 := HO _ _ S0 hb_
  replace O1 := own_below O1 hb_
  replace NW := NW.later hb_
  replace NG := NG.later hb_
  replace O3 := own_below O3 hb_
  replace Rh0 := Rh0.later hb_
  clear hb_
  obtain ⟨⟨_, _⟩, _, _, _⟩ := id S0
  obtain ⟨_, _⟩ := NW.one
  obtain ⟨_, _⟩ := NG.one
  have lt_0 := World.block_lt_of_cell? _ _ S0.1.1
  have ltNW_ := NW.lt
  have ltNG_ := NG.lt
  have hb_ := PointOk.below1 w14 (Obj.cells #[.slice A4 m c4] 37)
  have NH := Blk.Holds.box w14 #[.slice A4 m c4] 37 rfl
  replace S0 := HO _ _ S0 hb_
  replace O1 := own_below O1 hb_
  replace NW := NW.later hb_
  replace NG := NG.later hb_
  replace O3 := own_below O3 hb_
  replace Rh0 := Rh0.later hb_
  replace O4 := own_below O4 hb_
  clear hb_
  obtain ⟨⟨_, _⟩, _, _, _⟩ := id S0
  obtain ⟨_, _⟩ := NW.one
  obtain ⟨_, _⟩ := NG.one
  obtain ⟨_, _⟩ := NH.one
  go_wp2_with fail
  generalize w14.alloc (Obj.cells #[.slice A4 m c4] 37) = v14_NH at *
  clear lt_0 ltNW_ ltNG_
  refine (eqRoomB _ _ _ m hmb _ _ l O4 O1).mono ?_
  rintro e w15 ⟨rfl, hb_⟩
  replace S0 := HO _ _ S0 hb_
  replace O1 := own_below O1 hb_
  replace NW := NW.later hb_
  replace NG := NG.later hb_
  replace O3 := own_below O3 hb_
  replace Rh0 := Rh0.later hb_
  replace O4 := own_below O4 hb_
  replace NH := NH.later hb_
  clear hb_
  obtain ⟨⟨_, _⟩, _, _, _⟩ := id S0
  obtain ⟨_, _⟩ := NW.one
  obtain ⟨_, _⟩ := NG.one
  obtain ⟨_, _⟩ := NH.one
  go_wp2_with fail
  refine (heldRoomB _ _ m hmb _ O3).mono ?_
  rintro e w16 ⟨rfl, hb_⟩
  replace S0 := HO _ _ S0 hb_
  replace O1 := own_below O1 hb_
  replace NW := NW.later hb_
  replace NG := NG.later hb_
  replace O3 := own_below O3 hb_
  replace Rh0 := Rh0.later hb_
  replace O4 := own_below O4 hb_
  replace NH := NH.later hb_
  clear hb_
  obtain ⟨⟨_, _⟩, _, _, _⟩ := id S0
  obtain ⟨_, _⟩ := NW.one
  obtain ⟨_, _⟩ := NG.one
  obtain ⟨_, _⟩ := NH.one
  go_wp2_with fail
  go_ret
  exact ⟨rfl, S0.2.2.2⟩

theorem walk (w : World) (A0 : Option Addr) (n0 cap0 : Nat) (ps0 : List (Int × Int)) (hm0 : n0 ≤ maxLen) (hl0 : ps0.length = n0) (hp0 : PtsAt w w.heap.size A0 ps0) (k : Int) (wk : (Lit.int .i64 k).wf = true) :
    Calls Try.prog 4 #[.agg #[.slice A0 n0 cap0], .int .i64 k] w fun e w' => e = .returned (.bool true) ∧ Below w.heap.size w w' := by
  by_cases hn : n0 ≤ 1048576
  · exact small w A0 n0 cap0 ps0 hn hl0 hp0 k
  · skip
    have HS0 := Lib.hid fun w => szRoomL A0 n0 cap0 (1048576) (by unfold maxLen at hm0; omega) (by omega) w
    simp only [show ¬ (n0 : Int) ≤ 1048576 by omega, if_false] at HS0
    clear hl0 hp0 hm0
    go_enter Try.func4, Try.ntmps4
    go_wp2_with fail
    have X0 := Pts.boxR w (.slice A0 n0 cap0) 33 (k := w.heap.size) (by simp)
    have b0 := PointOk.below1 w (Obj.cells #[.slice A0 n0 cap0] 33)
    have HO : ∀ W W' : World, (Pts.BoxR W (w.heap.size) (.slice A0 n0 cap0) ∧ Below w.heap.size w W) → Below W.heap.size W W' → (Pts.BoxR W' (w.heap.size) (.slice A0 n0 cap0) ∧ Below w.heap.size w W') := fun W W' ⟨h0, hb⟩ h => ⟨h0.later h, hb.trans (h.mono hb.size)⟩
    have hz0_ : Hid (((w.alloc (Obj.cells #[.slice A0 n0 cap0] 33))).heap.size = w.heap.size + 1) := Lib.hid (by simp)
    generalize (w.alloc (Obj.cells #[.slice A0 n0 cap0] 33)) = w0 at X0 b0 hz0_ ⊢
    have S0 := (⟨X0, b0⟩ : Pts.BoxR w0 (w.heap.size) (.slice A0 n0 cap0) ∧ Below w.heap.size w w0)
    clear X0 b0
    obtain ⟨⟨_, _⟩, _⟩ := id S0
    refine (HS0.out _).mono ?_
    rintro e w1 ⟨rfl, hb_⟩
    replace S0 := HO _ _ S0 hb_
    clear hb_
    obtain ⟨⟨_, _⟩, _⟩ := id S0
    go_wp2_with fail
    go_ret
    exact ⟨rfl, S0.2⟩

set_option maxRecDepth 100000 in
theorem contract (H : Type) (enc : TypeId × Value → H) (W : World) (base : Nat) (args : Array Value) (ds gs : List (DataW H)) (before : List MemPlace)
    (hval : ∀ (j : Nat) t v, Try.f4.params[j]? = some t → args[j]? = some v → Value.okWide Try.prog W .any base t v)
    (hW : DataW.Whole enc Try.prog Try.f4.params.toList Rows.fnExactCutEarSpec.vars false W args.toList ds gs before) :
    Calls Try.prog 4 args W fun e W' => ∃ v, e = .returned v ∧ Rows.fnExactCutEarSpec.post enc Try.prog Try.f4 false true false false W args v W' := by
  have hW' := hW
  obtain ⟨p, q, hA0, hV, rfl, hfz, hnd⟩ := hW
  have hA : DataW.TrodAll enc Try.prog W 0 (fun _ => true) true Try.f4.params.toList args.toList ds p := hA0
  rw [Try.params4] at hA hval
  obtain ⟨v0, vs0, d0, ds0, p0, q0, hargs, rfl, rfl, h0, r0⟩ := trodAll_cons hA
  obtain ⟨v1, vs1, d1, ds1, p1, q1, rfl, rfl, rfl, h1, r1⟩ := trodAll_cons r0
  obtain ⟨rfl, rfl, rfl⟩ := trodAll_nil r1
  obtain rfl : args = #[v0, v1] := by cases args; simp_all
  obtain ⟨rfl, rfl⟩ := trodVars_none hV
  have sr0 : RoomArg.Shape Try.prog 33 31 45 3 _ _ _ := ⟨Try.underlying33, rfl, rfl, by kernel_rfl, by kernel_rfl, ⟨Try.underlying31, Try.underlying45, by kernel_rfl, rfl, rfl, rfl, rfl, Try.underlying3, by kernel_rfl⟩⟩
  have k0 := h0
  have lt0 : ∀ x ∈ p0, x.block < W.heap.size := by obtain ⟨m, hm⟩ := k0; exact DataW.trod_lt m _ _ _ hm
  obtain ⟨a0, len0, cap0, z0, rfl, w0, l0, r0p⟩ := RoomArg.open_room sr0 (hval 0 33 v0 rfl rfl) h0
  obtain ⟨a1, rfl, rfl, rfl, w1⟩ := open_int Try.underlying3 (hval 1 3 v1 rfl rfl) h1
  clear hA0
  refine (walk W a0 len0 cap0 z0 w0 l0 r0p a1 w1).mono fun e W' ⟨he, hg⟩ => ?_
  subst he
  exact ⟨_, rfl, _, _, _, [], _, [], hW', (trodAll_cons_mk (shut_bool Try.underlying4 _) trodAll_mk0), (trodAll_cons_mk (Below.trod laidOut (by kernel_rfl) (of_decide_eq_true (by kernel_rfl)) k0 hg lt0) (trodAll_cons_mk (shut_int Try.underlying3 w1) trodAll_mk0)), rfl, hg.frame _, fun h => by cases h⟩

set_option maxRecDepth 100000 in
theorem lifted (os : Os) (started : os.Started) (H : Type) (enc : TypeId × Value → H) :
    ReturnsInHanded {} Try.checked os 4 .any (Rows.fnExactCutEarSpec.pre6 enc Try.prog Try.f4 Rows.fnExactCutEarRow.domain false) (Rows.fnExactCutEarSpec.post enc Try.prog Try.f4 false true false false) := by
  refine returnsInHanded_of_change (C := Try.checked) own started (by kernel_rfl) Try.func4
    (ChangeSpec.witness6 (enc := enc) (C := Try.checked) false ⟨#[], #[Value.agg #[Value.slice none 0 0], Value.int .i64 0], []⟩ 8 (by kernel_rfl) (by kernel_rfl) (by kernel_rfl) (by kernel_rfl)) ?_
  intro W base args ds gs before hval hW hcnd _
  exact contract H enc W base args ds gs before hval hW

theorem proved : Rows.FnExactCutEarSaid :=
  OpenClaim.holds_of_wide 4 Try.f4 rfl rfl rfl rfl rfl rfl rfl ⟨rfl, rfl, rfl, rfl, rfl⟩ rfl rfl rfl rfl rfl (by kernel_rfl) Try.func4 (by kernel_rfl)
    (of_decide_eq_true (by kernel_rfl)) (by unfold Func.isWrapper; first | (rw [if_pos (by decide +kernel)]; kernel_rfl) | (rw [if_neg (by decide +kernel)]; exact ⟨rfl, rfl⟩))
    (fun os started H enc _ => lifted os started H enc)
#print axioms proved
end Go.Proofs.Ythokeedmccfalaa.fnExactCutEar
