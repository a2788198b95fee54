/-
  For every argument, the landed CutRoom answers just as its model does, in memory that it shares with nothing: the law's call returns true, and the arguments read as they did. No condition.
-/
import Derived.Test.YtmmmnnncbpdinaaRows
import Derived.WalkKit
import Derived.ProofKit
import Derived.OpenShut
import Derived.ShutString
import Derived.Test.YtmmmnnncbpdinaaRoomArg
import Derived.Test.YtmmmnnncbpdinaaCutSpec
import Derived.Test.YtmmmnnncbpdinaaCutImpl
import Derived.Test.YtmmmnnncbpdinaaLawCut
import Derived.Test.YtmmmnnncbpdinaaLawInt
import Derived.Test.YtmmmnnncbpdinaaLawRoom
import Derived.Test.YtmmmnnncbpdinaaGround
namespace Go.Proofs.Ytmmmnnncbpdinaa.fnExactCutRoom
open Go.ChangeShapes Go.WideShapes Go.ChangeAt Go.RowKit
open Go.ChangeMaps (open_string shut_string)
open PointMath RoomMath Pts Blk LawRoom PointOk Own LawInt RoomRes LawRes LawCut CutMath
set_option linter.unusedVariables false

theorem own : ownKnob Try.prog.godebug = none := by kernel_rfl
theorem laidOut : laidOutB Try.prog = true := by kernel_rfl

set_option maxRecDepth 100000 in
set_option maxHeartbeats 3200000 in
theorem small (w : World) (A0 : Option Addr) (n0 cap0 : Nat) (ps0 : List (Int × Int)) (hn0 : n0 ≤ 1048576) (hl0 : ps0.length = n0) (hp0 : PtsAt w w.heap.size A0 ps0) (i k : Int) :
    Calls Try.prog 3 #[.agg #[.slice A0 n0 cap0], .int .i64 i, .int .i64 k] w fun e w' => e = .returned (.bool true) ∧ Below w.heap.size w w' := by
  obtain ⟨l1, hl1⟩ : ∃ l, cutL ps0 i k = l := ⟨_, rfl⟩
  obtain ⟨l2, hl2⟩ : ∃ l, cutR ps0 i k = l := ⟨_, rfl⟩
  obtain ⟨o, ho⟩ : ∃ o, cutB ps0 i k = o := ⟨_, rfl⟩
  have QS : Hid (∀ (A0 : Option Addr) (n0 cap0 : Nat) (w : World) (hl0 : ps0.length = n0) (hn0 : n0 ≤ 1048576) (hp0 : PtsAt w w.heap.size A0 ps0), _) := Lib.hid fun A0 n0 cap0 w hl0 hn0 hp0 => CutSpec.cutRoom A0 n0 cap0 i k w ps0 hl0 hn0 hp0
  have QI : Hid (∀ (A0 : Option Addr) (n0 cap0 : Nat) (w : World) (hl0 : ps0.length = n0) (hn0 : n0 ≤ 1048576) (hp0 : PtsAt w w.heap.size A0 ps0), _) := Lib.hid fun A0 n0 cap0 w hl0 hn0 hp0 => CutImpl.cutRoom A0 n0 cap0 i k w ps0 hl0 hn0 hp0
  have hs1 := cutL_le ps0 i k
  have hs2 := cutR_le ps0 i k
  rw [hl1] at QS QI hs1
  rw [hl2] at QS QI hs2
  rw [ho] at QS QI
  obtain ⟨m1, hm1⟩ : ∃ m, l1.length = m := ⟨_, rfl⟩
  obtain ⟨m2, hm2⟩ : ∃ m, l2.length = m := ⟨_, rfl⟩
  unfold GivesRR at QS QI
  rw [hm1] at QS QI hs1
  rw [hm2] at QS QI hs2
  have hmb1 : m1 ≤ 1048576 := by omega
  have hmb2 : m2 ≤ 1048576 := by omega
  have HS0 := Lib.hid fun w => szRoomL A0 n0 cap0 1048576 (by omega) (by omega) w
  simp only [show (n0 : Int) ≤ 1048576 by omega, if_true] at HS0
  have kq_ : ¬ (((1 + n0 * 2 : Nat) : Int) < 0) := by omega
  have kr_ : ¬ (((1 + m1 * 2 : Nat) : Int) < 0) := by omega
  have ks_ : ¬ (((1 + m1 * 2 + m2 * 2 : Nat) : Int) < 0) := by omega
  clear hl1 hl2 ho hm1 hm2
  go_enter Try.func3, Try.ntmps3
  go_wp2_with fail
  have X0 := Pts.boxR w (.slice A0 n0 cap0) 24 (k := w.heap.size) (by simp)
  have b0 := PointOk.below1 w (Obj.cells #[.slice A0 n0 cap0] 24)
  have HO : ∀ W W' : World, (Pts.BoxR W (w.heap.size) (.slice A0 n0 cap0) ∧ PtsAt W w.heap.size A0 ps0 ∧ w.heap.size + 1 ≤ W.heap.size ∧ Below w.heap.size w W) → Below W.heap.size W W' → (Pts.BoxR W' (w.heap.size) (.slice A0 n0 cap0) ∧ PtsAt W' w.heap.size A0 ps0 ∧ w.heap.size + 1 ≤ W'.heap.size ∧ Below w.heap.size w W') := fun W W' ⟨h0, x0, x1, hb⟩ h => ⟨h0.later h, x0.later (h.mono hb.size), Nat.le_trans x1 h.size, hb.trans (h.mono hb.size)⟩
  have hz0_ : Hid (((w.alloc (Obj.cells #[.slice A0 n0 cap0] 24))).heap.size = w.heap.size + 1) := Lib.hid (by simp)
  have Y0 : PtsAt ((w.alloc (Obj.cells #[.slice A0 n0 cap0] 24))) w.heap.size A0 ps0 := hp0.later b0
  have Y1 : w.heap.size + 1 ≤ ((w.alloc (Obj.cells #[.slice A0 n0 cap0] 24))).heap.size := by simp
  generalize (w.alloc (Obj.cells #[.slice A0 n0 cap0] 24)) = w0 at X0 Y0 Y1 b0 hz0_ ⊢
  have S0 := (⟨X0, Y0, Y1, b0⟩ : Pts.BoxR w0 (w.heap.size) (.slice A0 n0 cap0) ∧ PtsAt w0 w.heap.size A0 ps0 ∧ w.heap.size + 1 ≤ w0.heap.size ∧ Below w.heap.size w w0)
  clear X0 Y0 Y1 b0
  obtain ⟨⟨_, _⟩, _, _, _⟩ := id S0
  have HO2 : ∀ W W' : World, (Pts.BoxR W (w.heap.size) (.slice A0 n0 cap0) ∧ PtsAt W w.heap.size A0 ps0 ∧ w.heap.size + 1 ≤ W.heap.size ∧ Below w.heap.size w W) → Below (w.heap.size + 1) W W' → (Pts.BoxR W' (w.heap.size) (.slice A0 n0 cap0) ∧ PtsAt W' w.heap.size A0 ps0 ∧ w.heap.size + 1 ≤ W'.heap.size ∧ Below w.heap.size w W') := fun W W' ⟨h0, x0, x1, hb⟩ h => ⟨⟨(h.cell (by simp)).trans h0.1, trivial⟩, x0.later (h.mono (by omega)), Nat.le_trans x1 h.size, hb.trans (h.mono (by omega))⟩
  clear hz0_
  refine (HS0.out _).mono ?_
  rintro e w1 ⟨rfl, hb_⟩
  replace S0 := HO _ _ S0 hb_
  clear hb_
  obtain ⟨⟨_, _⟩, _, _, _⟩ := id S0
  go_wp2_with fail
  refine (toRoom A0 ps0 n0 cap0 _ hl0 hn0 (S0.2.1.wide S0.2.2.2.size)).mono ?_
  rintro e w2 ⟨gs0, rfl, Rs0, es0_, ls0, hb_⟩
  replace S0 := HO _ _ S0 hb_
  clear hb_
  obtain ⟨⟨_, _⟩, _, _, _⟩ := id S0
  go_wp2_with fail
  refine (QS.out _ n0 n0 _ hl0 hn0 Rs0.ptsIn).mono ?_
  rintro e w3 ⟨A1, c1, B1, d1, mid1, rfl, ha1_, hM1_, O1_, hx1_, P1_, hb_⟩
  have O1 : RowIn w3 _ mid1 (.slice A1 m1 c1) m1 (cellsP l1) := ⟨O1_, hx1_, hM1_⟩
  have P1 : RowIn w3 mid1 w3.heap.size (.slice B1 m2 d1) m2 (cellsP l2) := ⟨P1_, fun k hk => (P1_.lt k hk).2, Nat.le_refl _⟩
  clear O1_ P1_ hx1_ ha1_
  replace S0 := HO _ _ S0 hb_
  replace Rs0 := Rs0.later hb_
  clear hb_
  obtain ⟨⟨_, _⟩, _, _, _⟩ := id S0
  have z1 : w.heap.size + 1 ≤ w3.heap.size := S0.2.2.1
  have hb_ := PointOk.below2 w3 (Obj.cells #[.slice A1 m1 c1] 28) (Obj.cells #[.slice B1 m2 d1] 28)
  have N8 := (Blk.Holds.new w3 #[.slice A1 m1 c1] 28).later (PointOk.below1 (w3.alloc (Obj.cells #[.slice A1 m1 c1] 28)) (Obj.cells #[.slice B1 m2 d1] 28))
  have N9 : Blk.Holds ((w3.alloc (Obj.cells #[.slice A1 m1 c1] 28)).alloc (Obj.cells #[.slice B1 m2 d1] 28)) (w3.heap.size + 1) #[.slice B1 m2 d1] 28 := Blk.Holds.box (w3.alloc (Obj.cells #[.slice A1 m1 c1] 28)) #[.slice B1 m2 d1] 28 (by simp)
  replace S0 := HO _ _ S0 hb_
  replace Rs0 := Rs0.later hb_
  replace O1 := O1.later hb_
  replace P1 := P1.later hb_
  clear hb_
  obtain ⟨⟨_, _⟩, _, _, _⟩ := id S0
  obtain ⟨_, _⟩ := N8.one
  obtain ⟨_, _⟩ := N9.one
  go_wp2_with fail
  generalize (w3.alloc (Obj.cells #[.slice A1 m1 c1] 28)).alloc (Obj.cells #[.slice B1 m2 d1] 28) = y3 at *
  have kw_ := N9.lt
  refine (toRoom A0 ps0 n0 cap0 _ hl0 hn0 (S0.2.1.wide S0.2.2.2.size)).mono ?_
  rintro e w4 ⟨gx0, rfl, Rx0, ex0_, lx0, hb_⟩
  replace S0 := HO _ _ S0 hb_
  replace Rs0 := Rs0.later hb_
  replace O1 := O1.later hb_
  replace P1 := P1.later hb_
  replace N8 := N8.later hb_
  replace N9 := N9.later hb_
  clear hb_
  obtain ⟨⟨_, _⟩, _, _, _⟩ := id S0
  obtain ⟨_, _⟩ := N8.one
  obtain ⟨_, _⟩ := N9.one
  have z3 : w3.heap.size + 1 < gx0 := Nat.lt_of_lt_of_le kw_ ex0_
  have z4 : gx0 < w4.heap.size := lx0
  have lt_0 := World.block_lt_of_cell? _ _ S0.1.1
  have ltN8_ := N8.lt
  have ltN9_ := N9.lt
  have hb_ := PointOk.below1 w4 (Obj.cells #[.slice (some ⟨gx0, 0, none⟩) n0 n0] 28)
  have NX := Blk.Holds.box w4 #[.slice (some ⟨gx0, 0, none⟩) n0 n0] 28 rfl
  replace S0 := HO _ _ S0 hb_
  replace Rs0 := Rs0.later hb_
  replace O1 := O1.later hb_
  replace P1 := P1.later hb_
  replace N8 := N8.later hb_
  replace N9 := N9.later hb_
  replace Rx0 := Rx0.later hb_
  clear hb_
  obtain ⟨⟨_, _⟩, _, _, _⟩ := id S0
  obtain ⟨_, _⟩ := N8.one
  obtain ⟨_, _⟩ := N9.one
  obtain ⟨_, _⟩ := NX.one
  go_wp2_with fail
  generalize w4.alloc (Obj.cells #[.slice (some ⟨gx0, 0, none⟩) n0 n0] 28) = v4_NX at *
  clear lt_0 ltN8_ ltN9_
  have kx_ := NX.lt
  refine (QI.out _ n0 n0 _ hl0 hn0 Rx0.ptsIn).mono ?_
  rintro e w5 ⟨A2, c2, B2, d2, mid2, rfl, z6, z7, O2_, hx2_, P2_, hb_⟩
  have O2 : RowIn w5 _ mid2 (.slice A2 m1 c2) m1 (cellsP l1) := ⟨O2_, hx2_, z7⟩
  have P2 : RowIn w5 mid2 w5.heap.size (.slice B2 m2 d2) m2 (cellsP l2) := ⟨P2_, fun k hk => (P2_.lt k hk).2, Nat.le_refl _⟩
  clear O2_ P2_ hx2_
  replace S0 := HO _ _ S0 hb_
  replace Rs0 := Rs0.later hb_
  replace O1 := O1.later hb_
  replace P1 := P1.later hb_
  replace N8 := N8.later hb_
  replace N9 := N9.later hb_
  replace Rx0 := Rx0.later hb_
  replace NX := NX.later hb_
  clear hb_
  obtain ⟨⟨_, _⟩, _, _, _⟩ := id S0
  obtain ⟨_, _⟩ := N8.one
  obtain ⟨_, _⟩ := N9.one
  obtain ⟨_, _⟩ := NX.one
  generalize v4_NX.heap.size = lo2 at *
  have hb_ := PointOk.below2 w5 (Obj.cells #[.slice A2 m1 c2] 28) (Obj.cells #[.slice B2 m2 d2] 28)
  have NG := (Blk.Holds.new w5 #[.slice A2 m1 c2] 28).later (PointOk.below1 (w5.alloc (Obj.cells #[.slice A2 m1 c2] 28)) (Obj.cells #[.slice B2 m2 d2] 28))
  have NH : Blk.Holds ((w5.alloc (Obj.cells #[.slice A2 m1 c2] 28)).alloc (Obj.cells #[.slice B2 m2 d2] 28)) (w5.heap.size + 1) #[.slice B2 m2 d2] 28 := Blk.Holds.box (w5.alloc (Obj.cells #[.slice A2 m1 c2] 28)) #[.slice B2 m2 d2] 28 (by simp)
  replace S0 := HO _ _ S0 hb_
  replace Rs0 := Rs0.later hb_
  replace O1 := O1.later hb_
  replace P1 := P1.later hb_
  replace N8 := N8.later hb_
  replace N9 := N9.later hb_
  replace Rx0 := Rx0.later hb_
  replace NX := NX.later hb_
  replace O2 := O2.later hb_
  replace P2 := P2.later hb_
  clear hb_
  obtain ⟨⟨_, _⟩, _, _, _⟩ := id S0
  obtain ⟨_, _⟩ := N8.one
  obtain ⟨_, _⟩ := N9.one
  obtain ⟨_, _⟩ := NX.one
  obtain ⟨_, _⟩ := NG.one
  obtain ⟨_, _⟩ := NH.one
  go_wp2_with fail
  generalize (w5.alloc (Obj.cells #[.slice A2 m1 c2] 28)).alloc (Obj.cells #[.slice B2 m2 d2] 28) = y5 at *
  refine (eqRoomB _ _ _ m1 hmb1 _ _ l1 O2.1 O1.1).mono ?_
  rintro e w6 ⟨rfl, hb_⟩
  replace S0 := HO _ _ S0 hb_
  replace Rs0 := Rs0.later hb_
  replace O1 := O1.later hb_
  replace P1 := P1.later hb_
  replace N8 := N8.later hb_
  replace N9 := N9.later hb_
  replace Rx0 := Rx0.later hb_
  replace NX := NX.later hb_
  replace O2 := O2.later hb_
  replace P2 := P2.later hb_
  replace NG := NG.later hb_
  replace NH := NH.later hb_
  clear hb_
  obtain ⟨⟨_, _⟩, _, _, _⟩ := id S0
  obtain ⟨_, _⟩ := N8.one
  obtain ⟨_, _⟩ := N9.one
  obtain ⟨_, _⟩ := NX.one
  obtain ⟨_, _⟩ := NG.one
  obtain ⟨_, _⟩ := NH.one
  go_wp2_with fail
  refine (eqRoomB _ _ _ m2 hmb2 _ _ l2 P2.1 P1.1).mono ?_
  rintro e w7 ⟨rfl, hb_⟩
  replace S0 := HO _ _ S0 hb_
  replace Rs0 := Rs0.later hb_
  replace O1 := O1.later hb_
  replace P1 := P1.later hb_
  replace N8 := N8.later hb_
  replace N9 := N9.later hb_
  replace Rx0 := Rx0.later hb_
  replace NX := NX.later hb_
  replace O2 := O2.later hb_
  replace P2 := P2.later hb_
  replace NG := NG.later hb_
  replace NH := NH.later hb_
  clear hb_
  obtain ⟨⟨_, _⟩, _, _, _⟩ := id S0
  obtain ⟨_, _⟩ := N8.one
  obtain ⟨_, _⟩ := N9.one
  obtain ⟨_, _⟩ := NX.one
  obtain ⟨_, _⟩ := NG.one
  obtain ⟨_, _⟩ := NH.one
  go_wp2_with fail
  have S0_ := HO _ _ S0 ((Below.refl _ _).drew)
  have Rs0_0 := Rs0.later ((Below.refl _ _).drew)
  have O1_0 := O1.later ((Below.refl _ _).drew)
  have P1_0 := P1.later ((Below.refl _ _).drew)
  have N8_0 := N8.later ((Below.refl _ _).drew)
  have N9_0 := N9.later ((Below.refl _ _).drew)
  have Rx0_0 := Rx0.later ((Below.refl _ _).drew)
  have NX_0 := NX.later ((Below.refl _ _).drew)
  have O2_0 := O2.later ((Below.refl _ _).drew)
  have P2_0 := P2.later ((Below.refl _ _).drew)
  have NG_0 := NG.later ((Below.refl _ _).drew)
  have NH_0 := NH.later ((Below.refl _ _).drew)
  have HS0_ : w7.drew.cell? ⟨w4.heap.size, 0, none⟩ = some (.slice (some ⟨gx0, 0, none⟩) n0 n0) ∧ w7.drew.cell? ⟨w.heap.size, 0, none⟩ = some (.slice A0 n0 cap0) := (by obtain ⟨⟨_, _⟩, _, _, _⟩ := id S0_; obtain ⟨_, _⟩ := N8_0.one; obtain ⟨_, _⟩ := N9_0.one; obtain ⟨_, _⟩ := NX_0.one; obtain ⟨_, _⟩ := NG_0.one; obtain ⟨_, _⟩ := NH_0.one; exact ⟨by assumption, by assumption⟩)
  go_region_held3 (fun W => W.cell? ⟨w4.heap.size, 0, none⟩ = some (.slice (some ⟨gx0, 0, none⟩) n0 n0) ∧ W.cell? ⟨w.heap.size, 0, none⟩ = some (.slice A0 n0 cap0)) (first | exact HS0_ | assumption) (first | (go_at_call 9; refine (toRoom A0 ps0 n0 cap0 _ hl0 hn0 (S0_.2.1.wide S0_.2.2.2.size)).mono ?_; rintro e w8 ⟨gy0, rfl, Ry0, _, _, hb0_⟩; have S1_ := HO _ _ S0_ hb0_; have Rs0_1 := Rs0_0.later hb0_; have O1_1 := O1_0.later hb0_; have P1_1 := P1_0.later hb0_; have N8_1 := N8_0.later hb0_; have N9_1 := N9_0.later hb0_; have Rx0_1 := Rx0_0.later hb0_; have NX_1 := NX_0.later hb0_; have O2_1 := O2_0.later hb0_; have P2_1 := P2_0.later hb0_; have NG_1 := NG_0.later hb0_; have NH_1 := NH_0.later hb0_; have Ry0_1 := Ry0; have HS1_ : w8.cell? ⟨w4.heap.size, 0, none⟩ = some (.slice (some ⟨gx0, 0, none⟩) n0 n0) ∧ w8.cell? ⟨w.heap.size, 0, none⟩ = some (.slice A0 n0 cap0) := (by obtain ⟨⟨_, _⟩, _, _, _⟩ := id S1_; obtain ⟨_, _⟩ := N8_1.one; obtain ⟨_, _⟩ := N9_1.one; obtain ⟨_, _⟩ := NX_1.one; obtain ⟨_, _⟩ := NG_1.one; obtain ⟨_, _⟩ := NH_1.one; exact ⟨by assumption, by assumption⟩)) | (go_at_call 11; refine (eqRoom_same _ _ ps0 n0 n0 n0 _ hl0 hn0 Rx0_1.ptsIn Ry0_1.ptsIn).mono ?_; rintro e w9 ⟨rfl, hb1_⟩; have S2_ := HO _ _ S1_ hb1_; have Rs0_2 := Rs0_1.later hb1_; have O1_2 := O1_1.later hb1_; have P1_2 := P1_1.later hb1_; have N8_2 := N8_1.later hb1_; have N9_2 := N9_1.later hb1_; have Rx0_2 := Rx0_1.later hb1_; have NX_2 := NX_1.later hb1_; have O2_2 := O2_1.later hb1_; have P2_2 := P2_1.later hb1_; have NG_2 := NG_1.later hb1_; have NH_2 := NH_1.later hb1_; have Ry0_2 := Ry0_1.later hb1_; have HS2_ : w9.cell? ⟨w4.heap.size, 0, none⟩ = some (.slice (some ⟨gx0, 0, none⟩) n0 n0) ∧ w9.cell? ⟨w.heap.size, 0, none⟩ = some (.slice A0 n0 cap0) := (by obtain ⟨⟨_, _⟩, _, _, _⟩ := id S2_; obtain ⟨_, _⟩ := N8_2.one; obtain ⟨_, _⟩ := N9_2.one; obtain ⟨_, _⟩ := NX_2.one; obtain ⟨_, _⟩ := NG_2.one; obtain ⟨_, _⟩ := NH_2.one; exact ⟨by assumption, by assumption⟩)))
  replace S0 := S2_
  have Rs0 := Rs0_2
  have O1 := O1_2
  have P1 := P1_2
  have N8 := N8_2
  have N9 := N9_2
  have Rx0 := Rx0_2
  have NX := NX_2
  have O2 := O2_2
  have P2 := P2_2
  have NG := NG_2
  have NH := NH_2
  have Ry0 := Ry0_2
  obtain ⟨⟨_, _⟩, _, _, _⟩ := id S0
  obtain ⟨_, _⟩ := N8.one
  obtain ⟨_, _⟩ := N9.one
  obtain ⟨_, _⟩ := NX.one
  obtain ⟨_, _⟩ := NG.one
  obtain ⟨_, _⟩ := NH.one
  go_wp2_with fail
  refine (markRoom _ gx0 n0 ps0 hl0 hn0 Rx0).mono ?_
  rintro e w10 ⟨rfl, hg_⟩
  replace S0 := HO2 _ _ S0 ((Below.refl _ _).grown hg_ S0.2.2.1 (fun k hk => by injection hk with hk; omega))
  replace O1 := O1.keptLow hg_ (fun g h => by injection h with h; omega)
  replace P1 := P1.keptLow hg_ (fun g h => by injection h with h; omega)
  replace O2 := O2.keptHigh hg_ (fun g h => by injection h with h; omega)
  replace P2 := P2.keptHigh hg_ (fun g h => by injection h with h; omega)
  replace N8 : Blk.Holds w10 (w3.heap.size) #[.slice A1 m1 c1] 28 := (hg_.block _ N8.lt (fun e => by injection e with e; omega)).trans N8
  replace N9 : Blk.Holds w10 (w3.heap.size + 1) #[.slice B1 m2 d1] 28 := (hg_.block _ N9.lt (fun e => by injection e with e; omega)).trans N9
  replace NG : Blk.Holds w10 (w5.heap.size) #[.slice A2 m1 c2] 28 := (hg_.block _ NG.lt (fun e => by injection e with e; omega)).trans NG
  replace NH : Blk.Holds w10 (w5.heap.size + 1) #[.slice B2 m2 d2] 28 := (hg_.block _ NH.lt (fun e => by injection e with e; omega)).trans NH
  clear hg_ Rx0 Ry0 NX Rs0
  obtain ⟨⟨_, _⟩, _, _, _⟩ := id S0
  obtain ⟨_, _⟩ := N8.one
  obtain ⟨_, _⟩ := N9.one
  obtain ⟨_, _⟩ := NG.one
  obtain ⟨_, _⟩ := NH.one
  go_wp2_with fail
  refine (eqRoomB _ _ _ m1 hmb1 _ _ l1 O2.1 O1.1).mono ?_
  rintro e w11 ⟨rfl, hb_⟩
  replace S0 := HO _ _ S0 hb_
  replace O1 := O1.later hb_
  replace P1 := P1.later hb_
  replace N8 := N8.later hb_
  replace N9 := N9.later hb_
  replace O2 := O2.later hb_
  replace P2 := P2.later hb_
  replace NG := NG.later hb_
  replace NH := NH.later hb_
  clear hb_
  obtain ⟨⟨_, _⟩, _, _, _⟩ := id S0
  obtain ⟨_, _⟩ := N8.one
  obtain ⟨_, _⟩ := N9.one
  obtain ⟨_, _⟩ := NG.one
  obtain ⟨_, _⟩ := NH.one
  go_wp2_with fail
  refine (eqRoomB _ _ _ m2 hmb2 _ _ l2 P2.1 P1.1).mono ?_
  rintro e w12 ⟨rfl, hb_⟩
  replace S0 := HO _ _ S0 hb_
  replace O1 := O1.later hb_
  replace P1 := P1.later hb_
  replace N8 := N8.later hb_
  replace N9 := N9.later hb_
  replace O2 := O2.later hb_
  replace P2 := P2.later hb_
  replace NG := NG.later hb_
  replace NH := NH.later hb_
  clear hb_
  obtain ⟨⟨_, _⟩, _, _, _⟩ := id S0
  obtain ⟨_, _⟩ := N8.one
  obtain ⟨_, _⟩ := N9.one
  obtain ⟨_, _⟩ := NG.one
  obtain ⟨_, _⟩ := NH.one
  go_wp2_with fail
  refine (markRoomK _ _ m1 1 hmb1 (by omega) (by omega) _ _ O2.1).mono ?_
  rintro e w13 ⟨rfl, O3_, hg_⟩
  have hq_ : ∀ g, (Value.slice A2 m1 c2).ownBlock = some g → lo2 ≤ g ∧ g < mid2 := fun g h => ⟨(O2.1.lt g h).1, O2.2.1 g h⟩
  replace S0 := HO2 _ _ S0 ((Below.refl _ _).grown hg_ S0.2.2.1 (fun k hk => by have := hq_ k hk; omega))
  replace O1 := O1.keptLow hg_ (fun g h => by have := hq_ g h; omega)
  replace P1 := P1.keptLow hg_ (fun g h => by have := hq_ g h; omega)
  replace P2 := P2.keptHigh hg_ (fun g h => by have := hq_ g h; omega)
  have O3 : RowIn w13 lo2 mid2 (.slice A2 m1 c2) m1 (marks 1 (m1 * 2)) := ⟨O3_, fun g h => (hq_ g h).2, Nat.le_trans O2.2.2 hg_.size⟩
  replace N8 : Blk.Holds w13 (w3.heap.size) #[.slice A1 m1 c1] 28 := (hg_.block _ N8.lt (fun e => by have := hq_ _ e.symm; omega)).trans N8
  replace N9 : Blk.Holds w13 (w3.heap.size + 1) #[.slice B1 m2 d1] 28 := (hg_.block _ N9.lt (fun e => by have := hq_ _ e.symm; omega)).trans N9
  replace NG : Blk.Holds w13 (w5.heap.size) #[.slice A2 m1 c2] 28 := (hg_.block _ NG.lt (fun e => by have := hq_ _ e.symm; omega)).trans NG
  replace NH : Blk.Holds w13 (w5.heap.size + 1) #[.slice B2 m2 d2] 28 := (hg_.block _ NH.lt (fun e => by have := hq_ _ e.symm; omega)).trans NH
  clear hg_ hq_ O2 O3_
  obtain ⟨⟨_, _⟩, _, _, _⟩ := id S0
  obtain ⟨_, _⟩ := N8.one
  obtain ⟨_, _⟩ := N9.one
  obtain ⟨_, _⟩ := NG.one
  obtain ⟨_, _⟩ := NH.one
  go_wp2_with fail
  refine (markRoomK _ _ m2 (1 + m1 * 2) hmb2 (by omega) (by omega) _ _ P2.1).mono ?_
  rintro e w14 ⟨rfl, P3_, hg_⟩
  have hq_ : ∀ g, (Value.slice B2 m2 d2).ownBlock = some g → mid2 ≤ g ∧ g < w5.heap.size := fun g h => ⟨(P2.1.lt g h).1, P2.2.1 g h⟩
  replace S0 := HO2 _ _ S0 ((Below.refl _ _).grown hg_ S0.2.2.1 (fun k hk => by have := hq_ k hk; omega))
  replace O1 := O1.keptLow hg_ (fun g h => by have := hq_ g h; omega)
  replace P1 := P1.keptLow hg_ (fun g h => by have := hq_ g h; omega)
  replace O3 := O3.keptLow hg_ (fun g h => by have := hq_ g h; omega)
  have P3 : RowIn w14 mid2 w5.heap.size (.slice B2 m2 d2) m2 (marks (1 + m1 * 2) (m2 * 2)) := ⟨P3_, fun g h => (hq_ g h).2, Nat.le_trans P2.2.2 hg_.size⟩
  replace N8 : Blk.Holds w14 (w3.heap.size) #[.slice A1 m1 c1] 28 := (hg_.block _ N8.lt (fun e => by have := hq_ _ e.symm; omega)).trans N8
  replace N9 : Blk.Holds w14 (w3.heap.size + 1) #[.slice B1 m2 d1] 28 := (hg_.block _ N9.lt (fun e => by have := hq_ _ e.symm; omega)).trans N9
  replace NG : Blk.Holds w14 (w5.heap.size) #[.slice A2 m1 c2] 28 := (hg_.block _ NG.lt (fun e => by have := hq_ _ e.symm; omega)).trans NG
  replace NH : Blk.Holds w14 (w5.heap.size + 1) #[.slice B2 m2 d2] 28 := (hg_.block _ NH.lt (fun e => by have := hq_ _ e.symm; omega)).trans NH
  clear hg_ hq_ P2 P3_
  obtain ⟨⟨_, _⟩, _, _, _⟩ := id S0
  obtain ⟨_, _⟩ := N8.one
  obtain ⟨_, _⟩ := N9.one
  obtain ⟨_, _⟩ := NG.one
  obtain ⟨_, _⟩ := NH.one
  go_wp2_with fail
  refine (heldRoomK _ _ m1 1 hmb1 (by omega) (by omega) _ O3.1).mono ?_
  rintro e w15 ⟨rfl, hb_⟩
  replace S0 := HO _ _ S0 hb_
  replace O1 := O1.later hb_
  replace P1 := P1.later hb_
  replace N8 := N8.later hb_
  replace N9 := N9.later hb_
  replace NG := NG.later hb_
  replace NH := NH.later hb_
  replace O3 := O3.later hb_
  replace P3 := P3.later hb_
  clear hb_
  obtain ⟨⟨_, _⟩, _, _, _⟩ := id S0
  obtain ⟨_, _⟩ := N8.one
  obtain ⟨_, _⟩ := N9.one
  obtain ⟨_, _⟩ := NG.one
  obtain ⟨_, _⟩ := NH.one
  go_wp2_with fail
  refine (heldRoomK _ _ m2 (1 + m1 * 2) hmb2 (by omega) (by omega) _ P3.1).mono ?_
  rintro e w16 ⟨rfl, hb_⟩
  replace S0 := HO _ _ S0 hb_
  replace O1 := O1.later hb_
  replace P1 := P1.later hb_
  replace N8 := N8.later hb_
  replace N9 := N9.later hb_
  replace NG := NG.later hb_
  replace NH := NH.later hb_
  replace O3 := O3.later hb_
  replace P3 := P3.later hb_
  clear hb_
  obtain ⟨⟨_, _⟩, _, _, _⟩ := id S0
  obtain ⟨_, _⟩ := N8.one
  obtain ⟨_, _⟩ := N9.one
  obtain ⟨_, _⟩ := NG.one
  obtain ⟨_, _⟩ := NH.one
  go_wp2_with fail
  refine (toRoom A0 ps0 n0 cap0 _ hl0 hn0 (S0.2.1.wide S0.2.2.2.size)).mono ?_
  rintro e w17 ⟨gh0, rfl, Rh0, eh0_, lh0, hb_⟩
  replace S0 := HO _ _ S0 hb_
  replace O1 := O1.later hb_
  replace P1 := P1.later hb_
  replace N8 := N8.later hb_
  replace N9 := N9.later hb_
  replace NG := NG.later hb_
  replace NH := NH.later hb_
  replace O3 := O3.later hb_
  replace P3 := P3.later hb_
  clear hb_
  obtain ⟨⟨_, _⟩, _, _, _⟩ := id S0
  obtain ⟨_, _⟩ := N8.one
  obtain ⟨_, _⟩ := N9.one
  obtain ⟨_, _⟩ := NG.one
  obtain ⟨_, _⟩ := NH.one
  go_wp2_with fail
  refine (QI.out _ n0 n0 _ hl0 hn0 Rh0.ptsIn).mono ?_
  rintro e w18 ⟨A4, c4, B4, d4, mid4, rfl, ha4_, hM4_, O4_, hx4_, P4_, hb_⟩
  have O4 : RowIn w18 _ mid4 (.slice A4 m1 c4) m1 (cellsP l1) := ⟨O4_, hx4_, hM4_⟩
  have P4 : RowIn w18 mid4 w18.heap.size (.slice B4 m2 d4) m2 (cellsP l2) := ⟨P4_, fun k hk => (P4_.lt k hk).2, Nat.le_refl _⟩
  clear O4_ P4_ hx4_ ha4_ hM4_
  replace S0 := HO _ _ S0 hb_
  replace O1 := O1.later hb_
  replace P1 := P1.later hb_
  replace N8 := N8.later hb_
  replace N9 := N9.later hb_
  replace NG := NG.later hb_
  replace NH := NH.later hb_
  replace O3 := O3.later hb_
  replace P3 := P3.later hb_
  replace Rh0 := Rh0.later hb_
  clear hb_
  obtain ⟨⟨_, _⟩, _, _, _⟩ := id S0
  obtain ⟨_, _⟩ := N8.one
  obtain ⟨_, _⟩ := N9.one
  obtain ⟨_, _⟩ := NG.one
  obtain ⟨_, _⟩ := NH.one
  have hb_ := PointOk.below2 w18 (Obj.cells #[.slice A4 m1 c4] 28) (Obj.cells #[.slice B4 m2 d4] 28)
  have NU := (Blk.Holds.new w18 #[.slice A4 m1 c4] 28).later (PointOk.below1 (w18.alloc (Obj.cells #[.slice A4 m1 c4] 28)) (Obj.cells #[.slice B4 m2 d4] 28))
  have NV : Blk.Holds ((w18.alloc (Obj.cells #[.slice A4 m1 c4] 28)).alloc (Obj.cells #[.slice B4 m2 d4] 28)) (w18.heap.size + 1) #[.slice B4 m2 d4] 28 := Blk.Holds.box (w18.alloc (Obj.cells #[.slice A4 m1 c4] 28)) #[.slice B4 m2 d4] 28 (by simp)
  replace S0 := HO _ _ S0 hb_
  replace O1 := O1.later hb_
  replace P1 := P1.later hb_
  replace N8 := N8.later hb_
  replace N9 := N9.later hb_
  replace NG := NG.later hb_
  replace NH := NH.later hb_
  replace O3 := O3.later hb_
  replace P3 := P3.later hb_
  replace Rh0 := Rh0.later hb_
  replace O4 := O4.later hb_
  replace P4 := P4.later hb_
  clear hb_
  obtain ⟨⟨_, _⟩, _, _, _⟩ := id S0
  obtain ⟨_, _⟩ := N8.one
  obtain ⟨_, _⟩ := N9.one
  obtain ⟨_, _⟩ := NG.one
  obtain ⟨_, _⟩ := NH.one
  obtain ⟨_, _⟩ := NU.one
  obtain ⟨_, _⟩ := NV.one
  go_wp2_with fail
  generalize (w18.alloc (Obj.cells #[.slice A4 m1 c4] 28)).alloc (Obj.cells #[.slice B4 m2 d4] 28) = y18 at *
  refine (eqRoomB _ _ _ m1 hmb1 _ _ l1 O4.1 O1.1).mono ?_
  rintro e w19 ⟨rfl, hb_⟩
  replace S0 := HO _ _ S0 hb_
  replace O1 := O1.later hb_
  replace P1 := P1.later hb_
  replace N8 := N8.later hb_
  replace N9 := N9.later hb_
  replace NG := NG.later hb_
  replace NH := NH.later hb_
  replace O3 := O3.later hb_
  replace P3 := P3.later hb_
  replace Rh0 := Rh0.later hb_
  replace O4 := O4.later hb_
  replace P4 := P4.later hb_
  replace NU := NU.later hb_
  replace NV := NV.later hb_
  clear hb_
  obtain ⟨⟨_, _⟩, _, _, _⟩ := id S0
  obtain ⟨_, _⟩ := N8.one
  obtain ⟨_, _⟩ := N9.one
  obtain ⟨_, _⟩ := NG.one
  obtain ⟨_, _⟩ := NH.one
  obtain ⟨_, _⟩ := NU.one
  obtain ⟨_, _⟩ := NV.one
  go_wp2_with fail
  refine (eqRoomB _ _ _ m2 hmb2 _ _ l2 P4.1 P1.1).mono ?_
  rintro e w20 ⟨rfl, hb_⟩
  replace S0 := HO _ _ S0 hb_
  replace O1 := O1.later hb_
  replace P1 := P1.later hb_
  replace N8 := N8.later hb_
  replace N9 := N9.later hb_
  replace NG := NG.later hb_
  replace NH := NH.later hb_
  replace O3 := O3.later hb_
  replace P3 := P3.later hb_
  replace Rh0 := Rh0.later hb_
  replace O4 := O4.later hb_
  replace P4 := P4.later hb_
  replace NU := NU.later hb_
  replace NV := NV.later hb_
  clear hb_
  obtain ⟨⟨_, _⟩, _, _, _⟩ := id S0
  obtain ⟨_, _⟩ := N8.one
  obtain ⟨_, _⟩ := N9.one
  obtain ⟨_, _⟩ := NG.one
  obtain ⟨_, _⟩ := NH.one
  obtain ⟨_, _⟩ := NU.one
  obtain ⟨_, _⟩ := NV.one
  go_wp2_with fail
  refine (heldRoomK _ _ m1 1 hmb1 (by omega) (by omega) _ O3.1).mono ?_
  rintro e w21 ⟨rfl, hb_⟩
  replace S0 := HO _ _ S0 hb_
  replace O1 := O1.later hb_
  replace P1 := P1.later hb_
  replace N8 := N8.later hb_
  replace N9 := N9.later hb_
  replace NG := NG.later hb_
  replace NH := NH.later hb_
  replace O3 := O3.later hb_
  replace P3 := P3.later hb_
  replace Rh0 := Rh0.later hb_
  replace O4 := O4.later hb_
  replace P4 := P4.later hb_
  replace NU := NU.later hb_
  replace NV := NV.later hb_
  clear hb_
  obtain ⟨⟨_, _⟩, _, _, _⟩ := id S0
  obtain ⟨_, _⟩ := N8.one
  obtain ⟨_, _⟩ := N9.one
  obtain ⟨_, _⟩ := NG.one
  obtain ⟨_, _⟩ := NH.one
  obtain ⟨_, _⟩ := NU.one
  obtain ⟨_, _⟩ := NV.one
  go_wp2_with fail
  refine (heldRoomK _ _ m2 (1 + m1 * 2) hmb2 (by omega) (by omega) _ P3.1).mono ?_
  rintro e w22 ⟨rfl, hb_⟩
  replace S0 := HO _ _ S0 hb_
  replace O1 := O1.later hb_
  replace P1 := P1.later hb_
  replace N8 := N8.later hb_
  replace N9 := N9.later hb_
  replace NG := NG.later hb_
  replace NH := NH.later hb_
  replace O3 := O3.later hb_
  replace P3 := P3.later hb_
  replace Rh0 := Rh0.later hb_
  replace O4 := O4.later hb_
  replace P4 := P4.later hb_
  replace NU := NU.later hb_
  replace NV := NV.later hb_
  clear hb_
  obtain ⟨⟨_, _⟩, _, _, _⟩ := id S0
  obtain ⟨_, _⟩ := N8.one
  obtain ⟨_, _⟩ := N9.one
  obtain ⟨_, _⟩ := NG.one
  obtain ⟨_, _⟩ := NH.one
  obtain ⟨_, _⟩ := NU.one
  obtain ⟨_, _⟩ := NV.one
  go_wp2_with fail
  go_ret
  exact ⟨rfl, S0.2.2.2⟩

theorem walk (w : World) (A0 : Option Addr) (n0 cap0 : Nat) (ps0 : List (Int × Int)) (hm0 : n0 ≤ maxLen) (hl0 : ps0.length = n0) (hp0 : PtsAt w w.heap.size A0 ps0) (i : Int) (wi : (Lit.int .i64 i).wf = true) (k : Int) (wk : (Lit.int .i64 k).wf = true) :
    Calls Try.prog 3 #[.agg #[.slice A0 n0 cap0], .int .i64 i, .int .i64 k] w fun e w' => e = .returned (.bool true) ∧ Below w.heap.size w w' := by
  by_cases hn : n0 ≤ 1048576
  · exact small w A0 n0 cap0 ps0 hn hl0 hp0 i k
  · skip
    have HS0 := Lib.hid fun w => szRoomL A0 n0 cap0 (1048576) (by unfold maxLen at hm0; omega) (by omega) w
    simp only [show ¬ (n0 : Int) ≤ 1048576 by omega, if_false] at HS0
    clear hl0 hp0 hm0
    go_enter Try.func3, Try.ntmps3
    go_wp2_with fail
    have X0 := Pts.boxR w (.slice A0 n0 cap0) 24 (k := w.heap.size) (by simp)
    have b0 := PointOk.below1 w (Obj.cells #[.slice A0 n0 cap0] 24)
    have HO : ∀ W W' : World, (Pts.BoxR W (w.heap.size) (.slice A0 n0 cap0) ∧ Below w.heap.size w W) → Below W.heap.size W W' → (Pts.BoxR W' (w.heap.size) (.slice A0 n0 cap0) ∧ Below w.heap.size w W') := fun W W' ⟨h0, hb⟩ h => ⟨h0.later h, hb.trans (h.mono hb.size)⟩
    have hz0_ : Hid (((w.alloc (Obj.cells #[.slice A0 n0 cap0] 24))).heap.size = w.heap.size + 1) := Lib.hid (by simp)
    generalize (w.alloc (Obj.cells #[.slice A0 n0 cap0] 24)) = w0 at X0 b0 hz0_ ⊢
    have S0 := (⟨X0, b0⟩ : Pts.BoxR w0 (w.heap.size) (.slice A0 n0 cap0) ∧ Below w.heap.size w w0)
    clear X0 b0
    obtain ⟨⟨_, _⟩, _⟩ := id S0
    refine (HS0.out _).mono ?_
    rintro e w1 ⟨rfl, hb_⟩
    replace S0 := HO _ _ S0 hb_
    clear hb_
    obtain ⟨⟨_, _⟩, _⟩ := id S0
    go_wp2_with fail
    go_ret
    exact ⟨rfl, S0.2⟩

set_option maxRecDepth 100000 in
theorem contract (H : Type) (enc : TypeId × Value → H) (W : World) (base : Nat) (args : Array Value) (ds gs : List (DataW H)) (before : List MemPlace)
    (hval : ∀ (j : Nat) t v, Try.f3.params[j]? = some t → args[j]? = some v → Value.okWide Try.prog W .any base t v)
    (hW : DataW.Whole enc Try.prog Try.f3.params.toList Rows.fnExactCutRoomSpec.vars false W args.toList ds gs before) :
    Calls Try.prog 3 args W fun e W' => ∃ v, e = .returned v ∧ Rows.fnExactCutRoomSpec.post enc Try.prog Try.f3 false true false false W args v W' := by
  have hW' := hW
  obtain ⟨p, q, hA0, hV, rfl, hfz, hnd⟩ := hW
  have hA : DataW.TrodAll enc Try.prog W 0 (fun _ => true) true Try.f3.params.toList args.toList ds p := hA0
  rw [Try.params3] at hA hval
  obtain ⟨v0, vs0, d0, ds0, p0, q0, hargs, rfl, rfl, h0, r0⟩ := trodAll_cons hA
  obtain ⟨v1, vs1, d1, ds1, p1, q1, rfl, rfl, rfl, h1, r1⟩ := trodAll_cons r0
  obtain ⟨v2, vs2, d2, ds2, p2, q2, rfl, rfl, rfl, h2, r2⟩ := trodAll_cons r1
  obtain ⟨rfl, rfl, rfl⟩ := trodAll_nil r2
  obtain rfl : args = #[v0, v1, v2] := by cases args; simp_all
  obtain ⟨rfl, rfl⟩ := trodVars_none hV
  have sr0 : RoomArg.Shape Try.prog 24 22 76 3 _ _ _ := ⟨Try.underlying24, rfl, rfl, by kernel_rfl, by kernel_rfl, ⟨Try.underlying22, Try.underlying76, by kernel_rfl, rfl, rfl, rfl, rfl, Try.underlying3, by kernel_rfl⟩⟩
  have k0 := h0
  have lt0 : ∀ x ∈ p0, x.block < W.heap.size := by obtain ⟨m, hm⟩ := k0; exact DataW.trod_lt m _ _ _ hm
  obtain ⟨a0, len0, cap0, z0, rfl, w0, l0, r0p⟩ := RoomArg.open_room sr0 (hval 0 24 v0 rfl rfl) h0
  obtain ⟨a1, rfl, rfl, rfl, w1⟩ := open_int Try.underlying3 (hval 1 3 v1 rfl rfl) h1
  obtain ⟨a2, rfl, rfl, rfl, w2⟩ := open_int Try.underlying3 (hval 2 3 v2 rfl rfl) h2
  clear hA0
  refine (walk W a0 len0 cap0 z0 w0 l0 r0p a1 w1 a2 w2).mono fun e W' ⟨he, hg⟩ => ?_
  subst he
  exact ⟨_, rfl, _, _, _, [], _, [], hW', (trodAll_cons_mk (shut_bool Try.underlying4 _) trodAll_mk0), (trodAll_cons_mk (Below.trod laidOut (by kernel_rfl) (of_decide_eq_true (by kernel_rfl)) k0 hg lt0) (trodAll_cons_mk (shut_int Try.underlying3 w1) (trodAll_cons_mk (shut_int Try.underlying3 w2) trodAll_mk0))), rfl, hg.frame _, fun h => by cases h⟩

set_option maxRecDepth 100000 in
theorem lifted (os : Os) (started : os.Started) (H : Type) (enc : TypeId × Value → H) :
    ReturnsInHanded {} Try.checked os 3 .any (Rows.fnExactCutRoomSpec.pre6 enc Try.prog Try.f3 Rows.fnExactCutRoomRow.domain false) (Rows.fnExactCutRoomSpec.post enc Try.prog Try.f3 false true false false) := by
  refine returnsInHanded_of_change (C := Try.checked) own started (by kernel_rfl) Try.func3
    (ChangeSpec.witness6 (enc := enc) (C := Try.checked) false ⟨#[], #[Value.agg #[Value.slice none 0 0], Value.int .i64 0, Value.int .i64 0], []⟩ 8 (by kernel_rfl) (by kernel_rfl) (by kernel_rfl) (by kernel_rfl)) ?_
  intro W base args ds gs before hval hW hcnd _
  exact contract H enc W base args ds gs before hval hW

theorem proved : Rows.FnExactCutRoomSaid :=
  OpenClaim.holds_of_wide 3 Try.f3 rfl rfl rfl rfl rfl rfl rfl ⟨rfl, rfl, rfl, rfl, rfl⟩ rfl rfl rfl rfl rfl (by kernel_rfl) Try.func3 (by kernel_rfl)
    (of_decide_eq_true (by kernel_rfl)) (by unfold Func.isWrapper; first | (rw [if_pos (by decide +kernel)]; kernel_rfl) | (rw [if_neg (by decide +kernel)]; exact ⟨rfl, rfl⟩))
    (fun os started H enc _ => lifted os started H enc)
#print axioms proved
end Go.Proofs.Ytmmmnnncbpdinaa.fnExactCutRoom
