/-
  For every argument, the landed FilmedBy answers just as its model does, in memory that it shares with nothing: the law's call returns true, and the arguments read as they did. No condition.
-/
import Derived.Test.YthokeedmccfalaaRows
import Derived.WalkKit
import Derived.ProofKit
import Derived.OpenShut
import Derived.ShutString
import Derived.Test.YthokeedmccfalaaRoomArg
import Derived.Test.YthokeedmccfalaaTup7
import Derived.Test.YthokeedmccfalaaFbySpec
import Derived.Test.YthokeedmccfalaaFbyImpl
import Derived.Test.YthokeedmccfalaaLawInt
import Derived.Test.YthokeedmccfalaaLawRoom
import Derived.Test.YthokeedmccfalaaGround
import Derived.Test.YthokeedmccfalaaLawCamera
namespace Go.Proofs.Ythokeedmccfalaa.fnExactFilmedBy
open Go.ChangeShapes Go.WideShapes Go.ChangeAt Go.RowKit
open Go.ChangeMaps (open_string shut_string)
open PointMath RoomMath Pts Blk LawRoom PointOk Own LawInt
set_option linter.unusedVariables false

theorem own : ownKnob Try.prog.godebug = none := by kernel_rfl
theorem laidOut : laidOutB Try.prog = true := by kernel_rfl

set_option maxRecDepth 100000 in
set_option maxHeartbeats 6400000 in
theorem small (w : World) (A0 : Option Addr) (n0 cap0 : Nat) (ps0 : List (Int × Int)) (hn0 : n0 ≤ 1048576) (hl0 : ps0.length = n0) (hp0 : PtsAt w w.heap.size A0 ps0) (ax ay rx ry lx ly q : Int) :
    Calls Try.prog 5 #[.agg #[.slice A0 n0 cap0], .agg #[.int .i64 ax, .int .i64 ay, .int .i64 rx, .int .i64 ry, .int .i64 lx, .int .i64 ly, .int .i64 q]] w fun e w' => e = .returned (.bool true) ∧ Below w.heap.size w w' := by
  obtain ⟨l, hlq⟩ : ∃ l, FbyMath.filmL ps0 ax ay rx ry lx ly q = l := ⟨_, rfl⟩
  have QS : Hid (∀ (A0 : Option Addr) (n0 cap0 : Nat) (w : World) (hl0 : ps0.length = n0) (hn0 : n0 ≤ 1048576) (hp0 : PtsAt w w.heap.size A0 ps0), _) := Lib.hid fun A0 n0 cap0 w hl0 hn0 hp0 => FbySpec.filmedBy A0 n0 cap0 ax ay rx ry lx ly q w ps0 hl0 hn0 hp0
  have QI : Hid (∀ (A0 : Option Addr) (n0 cap0 : Nat) (w : World) (hl0 : ps0.length = n0) (hn0 : n0 ≤ 1048576) (hp0 : PtsAt w w.heap.size A0 ps0), _) := Lib.hid fun A0 n0 cap0 w hl0 hn0 hp0 => FbyImpl.filmedBy A0 n0 cap0 ax ay rx ry lx ly q w ps0 hl0 hn0 hp0
  rw [hlq] at QS QI
  obtain ⟨m, hm⟩ : ∃ m, l.length = m := ⟨_, rfl⟩
  have hmb : m ≤ 1048576 := by rw [← hm, ← hlq]; exact FbyMath.film_le _ _ _ _ _ _ _ _
  unfold GivesC at QS QI
  rw [hm] at QS QI
  have HS0 := Lib.hid fun w => szRoomL A0 n0 cap0 (1048576) (by omega) (by omega) w
  simp only [show (n0 : Int) ≤ 1048576 by omega, if_true] at HS0
  have kq_ : ¬ (((1 + n0 * 2 : Nat) : Int) < 0) := by omega
  have kr_ : ¬ (((1 + m * 2 : Nat) : Int) < 0) := by omega
  clear hlq
  go_enter Try.func5, Try.ntmps5
  go_wp2_with fail
  have X0 := (Pts.boxR w (.slice A0 n0 cap0) 33 (k := w.heap.size) (by simp)).alloc (Obj.cells #[.int .i64 ax, .int .i64 ay, .int .i64 rx, .int .i64 ry, .int .i64 lx, .int .i64 ly, .int .i64 q] 47)
  have X1 := Tup7.box1 (w.alloc (Obj.cells #[.slice A0 n0 cap0] 33)) ax ay rx ry lx ly q 47 (k := w.heap.size + 1) (by simp)
  have b0 := PointOk.below2 w (Obj.cells #[.slice A0 n0 cap0] 33) (Obj.cells #[.int .i64 ax, .int .i64 ay, .int .i64 rx, .int .i64 ry, .int .i64 lx, .int .i64 ly, .int .i64 q] 47)
  have HO : ∀ W W' : World, (Pts.BoxR W (w.heap.size) (.slice A0 n0 cap0) ∧ Tup7.Box W (w.heap.size + 1) ax ay rx ry lx ly q ∧ PtsAt W w.heap.size A0 ps0 ∧ w.heap.size + 2 ≤ W.heap.size ∧ Below w.heap.size w W) → Below W.heap.size W W' → (Pts.BoxR W' (w.heap.size) (.slice A0 n0 cap0) ∧ Tup7.Box W' (w.heap.size + 1) ax ay rx ry lx ly q ∧ PtsAt W' w.heap.size A0 ps0 ∧ w.heap.size + 2 ≤ W'.heap.size ∧ Below w.heap.size w W') := fun W W' ⟨h0, h1, x0, x1, hb⟩ h => ⟨h0.later h, h1.later h, x0.later (h.mono hb.size), Nat.le_trans x1 h.size, hb.trans (h.mono hb.size)⟩
  have hz0_ : Hid ((((w.alloc (Obj.cells #[.slice A0 n0 cap0] 33)).alloc (Obj.cells #[.int .i64 ax, .int .i64 ay, .int .i64 rx, .int .i64 ry, .int .i64 lx, .int .i64 ly, .int .i64 q] 47))).heap.size = w.heap.size + 1 + 1) := Lib.hid (by simp)
  have Y0 : PtsAt (((w.alloc (Obj.cells #[.slice A0 n0 cap0] 33)).alloc (Obj.cells #[.int .i64 ax, .int .i64 ay, .int .i64 rx, .int .i64 ry, .int .i64 lx, .int .i64 ly, .int .i64 q] 47))) w.heap.size A0 ps0 := hp0.later b0
  have Y1 : w.heap.size + 2 ≤ (((w.alloc (Obj.cells #[.slice A0 n0 cap0] 33)).alloc (Obj.cells #[.int .i64 ax, .int .i64 ay, .int .i64 rx, .int .i64 ry, .int .i64 lx, .int .i64 ly, .int .i64 q] 47))).heap.size := by simp
  generalize ((w.alloc (Obj.cells #[.slice A0 n0 cap0] 33)).alloc (Obj.cells #[.int .i64 ax, .int .i64 ay, .int .i64 rx, .int .i64 ry, .int .i64 lx, .int .i64 ly, .int .i64 q] 47)) = w0 at X0 X1 Y0 Y1 b0 hz0_ ⊢
  have S0 := (⟨X0, X1, Y0, Y1, b0⟩ : Pts.BoxR w0 (w.heap.size) (.slice A0 n0 cap0) ∧ Tup7.Box w0 (w.heap.size + 1) ax ay rx ry lx ly q ∧ PtsAt w0 w.heap.size A0 ps0 ∧ w.heap.size + 2 ≤ w0.heap.size ∧ Below w.heap.size w w0)
  clear X0 X1 Y0 Y1 b0
  obtain ⟨⟨_, _⟩, ⟨_, _, _, _, _, _, _⟩, _, _, _⟩ := id S0
  have HO2 : ∀ W W' : World, (Pts.BoxR W (w.heap.size) (.slice A0 n0 cap0) ∧ Tup7.Box W (w.heap.size + 1) ax ay rx ry lx ly q ∧ PtsAt W w.heap.size A0 ps0 ∧ w.heap.size + 2 ≤ W.heap.size ∧ Below w.heap.size w W) → Below (w.heap.size + 2) W W' → (Pts.BoxR W' (w.heap.size) (.slice A0 n0 cap0) ∧ Tup7.Box W' (w.heap.size + 1) ax ay rx ry lx ly q ∧ PtsAt W' w.heap.size A0 ps0 ∧ w.heap.size + 2 ≤ W'.heap.size ∧ Below w.heap.size w W') := fun W W' ⟨h0, h1, x0, x1, hb⟩ h => ⟨⟨(h.cell (by simp)).trans h0.1, trivial⟩, h1.laterB (by omega) h, x0.later (h.mono (by omega)), Nat.le_trans x1 h.size, hb.trans (h.mono (by omega))⟩
  clear hz0_
  refine (HS0.out _).mono ?_
  rintro e w1 ⟨rfl, hb_⟩
  replace S0 := HO _ _ S0 hb_
  clear hb_
  obtain ⟨⟨_, _⟩, ⟨_, _, _, _, _, _, _⟩, _, _, _⟩ := id S0
  go_wp2_with fail
  have S0_ := HO _ _ S0 ((Below.refl _ _).drew)
  have HS0_ : w1.drew.cell? ⟨w.heap.size, 0, none⟩ = some (.slice A0 n0 cap0) ∧ w1.drew.cell? ⟨w.heap.size + 1, 0, none⟩ = some (.int .i64 ax) ∧ w1.drew.cell? ⟨w.heap.size + 1, 1, none⟩ = some (.int .i64 ay) ∧ w1.drew.cell? ⟨w.heap.size + 1, 2, none⟩ = some (.int .i64 rx) ∧ w1.drew.cell? ⟨w.heap.size + 1, 3, none⟩ = some (.int .i64 ry) ∧ w1.drew.cell? ⟨w.heap.size + 1, 4, none⟩ = some (.int .i64 lx) ∧ w1.drew.cell? ⟨w.heap.size + 1, 5, none⟩ = some (.int .i64 ly) ∧ w1.drew.cell? ⟨w.heap.size + 1, 6, none⟩ = some (.int .i64 q) := (by obtain ⟨⟨_, _⟩, ⟨_, _, _, _, _, _, _⟩, _, _, _⟩ := id S0_; exact ⟨by assumption, by assumption, by assumption, by assumption, by assumption, by assumption, by assumption, by assumption⟩)
  go_region_held3 (fun W => W.cell? ⟨w.heap.size, 0, none⟩ = some (.slice A0 n0 cap0) ∧ W.cell? ⟨w.heap.size + 1, 0, none⟩ = some (.int .i64 ax) ∧ W.cell? ⟨w.heap.size + 1, 1, none⟩ = some (.int .i64 ay) ∧ W.cell? ⟨w.heap.size + 1, 2, none⟩ = some (.int .i64 rx) ∧ W.cell? ⟨w.heap.size + 1, 3, none⟩ = some (.int .i64 ry) ∧ W.cell? ⟨w.heap.size + 1, 4, none⟩ = some (.int .i64 lx) ∧ W.cell? ⟨w.heap.size + 1, 5, none⟩ = some (.int .i64 ly) ∧ W.cell? ⟨w.heap.size + 1, 6, none⟩ = some (.int .i64 q)) (first | exact HS0_ | assumption) (first | (go_at_call 19; refine (toRoom A0 ps0 n0 cap0 _ hl0 hn0 (S0_.2.2.1.wide S0_.2.2.2.2.size)).mono ?_; rintro e w2 ⟨gs0, rfl, Rs0, _, _, hb0_⟩; have S1_ := HO _ _ S0_ hb0_; have Rs0_1 := Rs0; have HS1_ : w2.cell? ⟨w.heap.size, 0, none⟩ = some (.slice A0 n0 cap0) ∧ w2.cell? ⟨w.heap.size + 1, 0, none⟩ = some (.int .i64 ax) ∧ w2.cell? ⟨w.heap.size + 1, 1, none⟩ = some (.int .i64 ay) ∧ w2.cell? ⟨w.heap.size + 1, 2, none⟩ = some (.int .i64 rx) ∧ w2.cell? ⟨w.heap.size + 1, 3, none⟩ = some (.int .i64 ry) ∧ w2.cell? ⟨w.heap.size + 1, 4, none⟩ = some (.int .i64 lx) ∧ w2.cell? ⟨w.heap.size + 1, 5, none⟩ = some (.int .i64 ly) ∧ w2.cell? ⟨w.heap.size + 1, 6, none⟩ = some (.int .i64 q) := (by obtain ⟨⟨_, _⟩, ⟨_, _, _, _, _, _, _⟩, _, _, _⟩ := id S1_; exact ⟨by assumption, by assumption, by assumption, by assumption, by assumption, by assumption, by assumption, by assumption⟩)) | (go_at_call 25; refine (LawCamera.toCamera ax ay rx ry lx ly q _).mono ?_; rintro e w3 ⟨rfl, hb1_⟩; have S2_ := HO _ _ S1_ hb1_; have Rs0_2 := Rs0_1.later hb1_; have HS2_ : w3.cell? ⟨w.heap.size, 0, none⟩ = some (.slice A0 n0 cap0) ∧ w3.cell? ⟨w.heap.size + 1, 0, none⟩ = some (.int .i64 ax) ∧ w3.cell? ⟨w.heap.size + 1, 1, none⟩ = some (.int .i64 ay) ∧ w3.cell? ⟨w.heap.size + 1, 2, none⟩ = some (.int .i64 rx) ∧ w3.cell? ⟨w.heap.size + 1, 3, none⟩ = some (.int .i64 ry) ∧ w3.cell? ⟨w.heap.size + 1, 4, none⟩ = some (.int .i64 lx) ∧ w3.cell? ⟨w.heap.size + 1, 5, none⟩ = some (.int .i64 ly) ∧ w3.cell? ⟨w.heap.size + 1, 6, none⟩ = some (.int .i64 q) := (by obtain ⟨⟨_, _⟩, ⟨_, _, _, _, _, _, _⟩, _, _, _⟩ := id S2_; exact ⟨by assumption, by assumption, by assumption, by assumption, by assumption, by assumption, by assumption, by assumption⟩)) | (go_at_call 24; refine (QS.out _ n0 n0 _ hl0 hn0 Rs0_2.ptsIn).mono ?_; rintro e w4 ⟨A8, c8, rfl, O1, hb2_⟩; have S3_ := HO _ _ S2_ hb2_; have Rs0_3 := Rs0_2.later hb2_; have O1_3 := O1; have HS3_ : w4.cell? ⟨w.heap.size, 0, none⟩ = some (.slice A0 n0 cap0) ∧ w4.cell? ⟨w.heap.size + 1, 0, none⟩ = some (.int .i64 ax) ∧ w4.cell? ⟨w.heap.size + 1, 1, none⟩ = some (.int .i64 ay) ∧ w4.cell? ⟨w.heap.size + 1, 2, none⟩ = some (.int .i64 rx) ∧ w4.cell? ⟨w.heap.size + 1, 3, none⟩ = some (.int .i64 ry) ∧ w4.cell? ⟨w.heap.size + 1, 4, none⟩ = some (.int .i64 lx) ∧ w4.cell? ⟨w.heap.size + 1, 5, none⟩ = some (.int .i64 ly) ∧ w4.cell? ⟨w.heap.size + 1, 6, none⟩ = some (.int .i64 q) := (by obtain ⟨⟨_, _⟩, ⟨_, _, _, _, _, _, _⟩, _, _, _⟩ := id S3_; exact ⟨by assumption, by assumption, by assumption, by assumption, by assumption, by assumption, by assumption, by assumption⟩)))
  replace S0 := S3_
  have Rs0 := Rs0_3
  have O1 := O1_3
  obtain ⟨⟨_, _⟩, ⟨_, _, _, _, _, _, _⟩, _, _, _⟩ := id S0
  go_wp2_with fail
  have zq_ : w.heap.size + 2 ≤ w4.heap.size := S0.2.2.2.1
  have ol1_ : ∀ k, (Value.slice A8 m c8).ownBlock = some k → k < w4.heap.size := fun k hk => (O1.lt k hk).2
  refine (toRoom A0 ps0 n0 cap0 _ hl0 hn0 (S0.2.2.1.wide S0.2.2.2.2.size)).mono ?_
  rintro e w5 ⟨gx0, rfl, Rx0, ex0_, lx0, hb_⟩
  replace S0 := HO _ _ S0 hb_
  replace Rs0 := Rs0.later hb_
  replace O1 := own_below O1 hb_
  clear hb_
  obtain ⟨⟨_, _⟩, ⟨_, _, _, _, _, _, _⟩, _, _, _⟩ := id S0
  have zx_ : w.heap.size + 2 ≤ gx0 := Nat.le_trans zq_ ex0_
  replace ol1_ : ∀ k, (Value.slice A8 m c8).ownBlock = some k → k < gx0 := fun k hk => Nat.lt_of_lt_of_le (ol1_ k hk) ex0_
  clear zq_ ex0_
  have lt_0 := World.block_lt_of_cell? _ _ S0.1.1
  have lt_1 := World.block_lt_of_cell? _ _ S0.2.1.1
  have hb_ := PointOk.below1 w5 (Obj.cells #[.slice (some ⟨gx0, 0, none⟩) n0 n0] 37)
  have N0 := Blk.Holds.box w5 #[.slice (some ⟨gx0, 0, none⟩) n0 n0] 37 rfl
  replace S0 := HO _ _ S0 hb_
  replace Rs0 := Rs0.later hb_
  replace O1 := own_below O1 hb_
  replace Rx0 := Rx0.later hb_
  clear hb_
  obtain ⟨⟨_, _⟩, ⟨_, _, _, _, _, _, _⟩, _, _, _⟩ := id S0
  obtain ⟨_, _⟩ := N0.one
  go_wp2_with fail
  generalize w5.alloc (Obj.cells #[.slice (some ⟨gx0, 0, none⟩) n0 n0] 37) = v5_N0 at *
  clear lt_0 lt_1
  have rl_ := Blk.Holds.lt Rx0
  have S0_ := HO _ _ S0 ((Below.refl _ _).drew)
  have Rs0_0 := Rs0.later ((Below.refl _ _).drew)
  have O1_0 := own_below O1 ((Below.refl _ _).drew)
  have Rx0_0 := Rx0.later ((Below.refl _ _).drew)
  have N0_0 := N0.later ((Below.refl _ _).drew)
  have HS0_ : v5_N0.drew.cell? ⟨w5.heap.size, 0, none⟩ = some (.slice (some ⟨gx0, 0, none⟩) n0 n0) ∧ v5_N0.drew.cell? ⟨w.heap.size + 1, 0, none⟩ = some (.int .i64 ax) ∧ v5_N0.drew.cell? ⟨w.heap.size + 1, 1, none⟩ = some (.int .i64 ay) ∧ v5_N0.drew.cell? ⟨w.heap.size + 1, 2, none⟩ = some (.int .i64 rx) ∧ v5_N0.drew.cell? ⟨w.heap.size + 1, 3, none⟩ = some (.int .i64 ry) ∧ v5_N0.drew.cell? ⟨w.heap.size + 1, 4, none⟩ = some (.int .i64 lx) ∧ v5_N0.drew.cell? ⟨w.heap.size + 1, 5, none⟩ = some (.int .i64 ly) ∧ v5_N0.drew.cell? ⟨w.heap.size + 1, 6, none⟩ = some (.int .i64 q) := (by obtain ⟨⟨_, _⟩, ⟨_, _, _, _, _, _, _⟩, _, _, _⟩ := id S0_; obtain ⟨_, _⟩ := N0_0.one; exact ⟨by assumption, by assumption, by assumption, by assumption, by assumption, by assumption, by assumption, by assumption⟩)
  go_region_held3 (fun W => W.cell? ⟨w5.heap.size, 0, none⟩ = some (.slice (some ⟨gx0, 0, none⟩) n0 n0) ∧ W.cell? ⟨w.heap.size + 1, 0, none⟩ = some (.int .i64 ax) ∧ W.cell? ⟨w.heap.size + 1, 1, none⟩ = some (.int .i64 ay) ∧ W.cell? ⟨w.heap.size + 1, 2, none⟩ = some (.int .i64 rx) ∧ W.cell? ⟨w.heap.size + 1, 3, none⟩ = some (.int .i64 ry) ∧ W.cell? ⟨w.heap.size + 1, 4, none⟩ = some (.int .i64 lx) ∧ W.cell? ⟨w.heap.size + 1, 5, none⟩ = some (.int .i64 ly) ∧ W.cell? ⟨w.heap.size + 1, 6, none⟩ = some (.int .i64 q)) (first | exact HS0_ | assumption) (first | (go_at_call 25; refine (LawCamera.toCamera ax ay rx ry lx ly q _).mono ?_; rintro e w6 ⟨rfl, hb0_⟩; have S1_ := HO _ _ S0_ hb0_; have Rs0_1 := Rs0_0.later hb0_; have O1_1 := own_below O1_0 hb0_; have Rx0_1 := Rx0_0.later hb0_; have N0_1 := N0_0.later hb0_; have HS1_ : w6.cell? ⟨w5.heap.size, 0, none⟩ = some (.slice (some ⟨gx0, 0, none⟩) n0 n0) ∧ w6.cell? ⟨w.heap.size + 1, 0, none⟩ = some (.int .i64 ax) ∧ w6.cell? ⟨w.heap.size + 1, 1, none⟩ = some (.int .i64 ay) ∧ w6.cell? ⟨w.heap.size + 1, 2, none⟩ = some (.int .i64 rx) ∧ w6.cell? ⟨w.heap.size + 1, 3, none⟩ = some (.int .i64 ry) ∧ w6.cell? ⟨w.heap.size + 1, 4, none⟩ = some (.int .i64 lx) ∧ w6.cell? ⟨w.heap.size + 1, 5, none⟩ = some (.int .i64 ly) ∧ w6.cell? ⟨w.heap.size + 1, 6, none⟩ = some (.int .i64 q) := (by obtain ⟨⟨_, _⟩, ⟨_, _, _, _, _, _, _⟩, _, _, _⟩ := id S1_; obtain ⟨_, _⟩ := N0_1.one; exact ⟨by assumption, by assumption, by assumption, by assumption, by assumption, by assumption, by assumption, by assumption⟩)) | (go_at_call 26; refine (QI.out _ n0 n0 _ hl0 hn0 Rx0_1.ptsIn).mono ?_; rintro e w7 ⟨A9, c9, rfl, O2, hb1_⟩; have S2_ := HO _ _ S1_ hb1_; have Rs0_2 := Rs0_1.later hb1_; have O1_2 := own_below O1_1 hb1_; have Rx0_2 := Rx0_1.later hb1_; have N0_2 := N0_1.later hb1_; have O2_2 := O2; have HS2_ : w7.cell? ⟨w5.heap.size, 0, none⟩ = some (.slice (some ⟨gx0, 0, none⟩) n0 n0) ∧ w7.cell? ⟨w.heap.size + 1, 0, none⟩ = some (.int .i64 ax) ∧ w7.cell? ⟨w.heap.size + 1, 1, none⟩ = some (.int .i64 ay) ∧ w7.cell? ⟨w.heap.size + 1, 2, none⟩ = some (.int .i64 rx) ∧ w7.cell? ⟨w.heap.size + 1, 3, none⟩ = some (.int .i64 ry) ∧ w7.cell? ⟨w.heap.size + 1, 4, none⟩ = some (.int .i64 lx) ∧ w7.cell? ⟨w.heap.size + 1, 5, none⟩ = some (.int .i64 ly) ∧ w7.cell? ⟨w.heap.size + 1, 6, none⟩ = some (.int .i64 q) := (by obtain ⟨⟨_, _⟩, ⟨_, _, _, _, _, _, _⟩, _, _, _⟩ := id S2_; obtain ⟨_, _⟩ := N0_2.one; exact ⟨by assumption, by assumption, by assumption, by assumption, by assumption, by assumption, by assumption, by assumption⟩)))
  replace S0 := S2_
  have Rs0 := Rs0_2
  have O1 := O1_2
  have Rx0 := Rx0_2
  have N0 := N0_2
  have O2 := O2_2
  obtain ⟨⟨_, _⟩, ⟨_, _, _, _, _, _, _⟩, _, _, _⟩ := id S0
  obtain ⟨_, _⟩ := N0.one
  have ol2_ : ∀ k, (Value.slice A9 m c9).ownBlock = some k → gx0 < k := fun k hk => Nat.lt_of_lt_of_le (Nat.lt_of_lt_of_le rl_ hb0_.size) (O2.lt k hk).1
  go_wp2_with fail
  refine (eqPB _ _ _ m hmb _ _ l O2 O1).mono ?_
  rintro e w8 ⟨rfl, hb_⟩
  replace S0 := HO _ _ S0 hb_
  replace Rs0 := Rs0.later hb_
  replace O1 := own_below O1 hb_
  replace Rx0 := Rx0.later hb_
  replace N0 := N0.later hb_
  replace O2 := own_below O2 hb_
  clear hb_
  obtain ⟨⟨_, _⟩, ⟨_, _, _, _, _, _, _⟩, _, _, _⟩ := id S0
  obtain ⟨_, _⟩ := N0.one
  go_wp2_with fail
  have S0_ := HO _ _ S0 ((Below.refl _ _).drew)
  have Rs0_0 := Rs0.later ((Below.refl _ _).drew)
  have O1_0 := own_below O1 ((Below.refl _ _).drew)
  have Rx0_0 := Rx0.later ((Below.refl _ _).drew)
  have N0_0 := N0.later ((Below.refl _ _).drew)
  have O2_0 := own_below O2 ((Below.refl _ _).drew)
  have HS0_ : w8.drew.cell? ⟨w5.heap.size, 0, none⟩ = some (.slice (some ⟨gx0, 0, none⟩) n0 n0) ∧ w8.drew.cell? ⟨w.heap.size, 0, none⟩ = some (.slice A0 n0 cap0) := (by obtain ⟨⟨_, _⟩, ⟨_, _, _, _, _, _, _⟩, _, _, _⟩ := id S0_; obtain ⟨_, _⟩ := N0_0.one; exact ⟨by assumption, by assumption⟩)
  go_region_held3 (fun W => W.cell? ⟨w5.heap.size, 0, none⟩ = some (.slice (some ⟨gx0, 0, none⟩) n0 n0) ∧ W.cell? ⟨w.heap.size, 0, none⟩ = some (.slice A0 n0 cap0)) (first | exact HS0_ | assumption) (first | (go_at_call 19; refine (toRoom A0 ps0 n0 cap0 _ hl0 hn0 (S0_.2.2.1.wide S0_.2.2.2.2.size)).mono ?_; rintro e w9 ⟨gy0, rfl, Ry0, _, _, hb0_⟩; have S1_ := HO _ _ S0_ hb0_; have Rs0_1 := Rs0_0.later hb0_; have O1_1 := own_below O1_0 hb0_; have Rx0_1 := Rx0_0.later hb0_; have N0_1 := N0_0.later hb0_; have O2_1 := own_below O2_0 hb0_; have Ry0_1 := Ry0; have HS1_ : w9.cell? ⟨w5.heap.size, 0, none⟩ = some (.slice (some ⟨gx0, 0, none⟩) n0 n0) ∧ w9.cell? ⟨w.heap.size, 0, none⟩ = some (.slice A0 n0 cap0) := (by obtain ⟨⟨_, _⟩, ⟨_, _, _, _, _, _, _⟩, _, _, _⟩ := id S1_; obtain ⟨_, _⟩ := N0_1.one; exact ⟨by assumption, by assumption⟩)) | (go_at_call 21; refine (eqRoom_same _ _ ps0 n0 n0 n0 _ hl0 hn0 Rx0_1.ptsIn Ry0_1.ptsIn).mono ?_; rintro e w10 ⟨rfl, hb1_⟩; have S2_ := HO _ _ S1_ hb1_; have Rs0_2 := Rs0_1.later hb1_; have O1_2 := own_below O1_1 hb1_; have Rx0_2 := Rx0_1.later hb1_; have N0_2 := N0_1.later hb1_; have O2_2 := own_below O2_1 hb1_; have Ry0_2 := Ry0_1.later hb1_; have HS2_ : w10.cell? ⟨w5.heap.size, 0, none⟩ = some (.slice (some ⟨gx0, 0, none⟩) n0 n0) ∧ w10.cell? ⟨w.heap.size, 0, none⟩ = some (.slice A0 n0 cap0) := (by obtain ⟨⟨_, _⟩, ⟨_, _, _, _, _, _, _⟩, _, _, _⟩ := id S2_; obtain ⟨_, _⟩ := N0_2.one; exact ⟨by assumption, by assumption⟩)))
  replace S0 := S2_
  have Rs0 := Rs0_2
  have O1 := O1_2
  have Rx0 := Rx0_2
  have N0 := N0_2
  have O2 := O2_2
  have Ry0 := Ry0_2
  obtain ⟨⟨_, _⟩, ⟨_, _, _, _, _, _, _⟩, _, _, _⟩ := id S0
  obtain ⟨_, _⟩ := N0.one
  go_wp2_with fail
  refine (markRoom _ gx0 n0 ps0 hl0 hn0 Rx0).mono ?_
  rintro e w11 ⟨rfl, hg_⟩
  have hbg_ : Below (w.heap.size + 2) w10 w11 := (Below.refl _ _).grown hg_ S0.2.2.2.1 (fun k hk => by injection hk with hk; omega)
  replace S0 := HO2 _ _ S0 hbg_
  replace O1 := kept_ne (g := gx0) O1 hg_ (fun k hk => by have := ol1_ k hk; omega)
  replace O2 := kept_ne (g := gx0) O2 hg_ (fun k hk => by have := ol2_ k hk; omega)
  clear hbg_ hg_ Rs0 Rx0 Ry0 N0
  obtain ⟨⟨_, _⟩, ⟨_, _, _, _, _, _, _⟩, _, _, _⟩ := id S0
  go_wp2_with fail
  refine (eqPB _ _ _ m hmb _ _ l O2 O1).mono ?_
  rintro e w12 ⟨rfl, hb_⟩
  replace S0 := HO _ _ S0 hb_
  replace O1 := own_below O1 hb_
  replace O2 := own_below O2 hb_
  clear hb_
  obtain ⟨⟨_, _⟩, ⟨_, _, _, _, _, _, _⟩, _, _, _⟩ := id S0
  go_wp2_with fail
  refine (markP _ _ m 1 hmb (by omega) (by omega) _ _ O2).mono ?_
  rintro e w13 ⟨rfl, O3, hg_⟩
  have hbg_ : Below (w.heap.size + 2) w12 w13 := (Below.refl _ _).grown hg_ S0.2.2.2.1 (fun k hk => by have := ol2_ k hk; omega)
  replace S0 := HO2 _ _ S0 hbg_
  replace O1 := kept_apart O1 hg_ (fun k j hk hj => by have := ol1_ k hk; have := ol2_ j hj; omega)
  clear hbg_ hg_ O2
  obtain ⟨⟨_, _⟩, ⟨_, _, _, _, _, _, _⟩, _, _, _⟩ := id S0
  go_wp2_with fail
  refine (heldPt _ _ m 1 hmb (by omega) (by omega) _ O3).mono ?_
  rintro e w14 ⟨rfl, hb_⟩
  replace S0 := HO _ _ S0 hb_
  replace O1 := own_below O1 hb_
  replace O3 := own_below O3 hb_
  clear hb_
  obtain ⟨⟨_, _⟩, ⟨_, _, _, _, _, _, _⟩, _, _, _⟩ := id S0
  go_wp2_with fail
  have S0_ := HO _ _ S0 ((Below.refl _ _).drew)
  have O1_0 := own_below O1 ((Below.refl _ _).drew)
  have O3_0 := own_below O3 ((Below.refl _ _).drew)
  have HS0_ : w14.drew.cell? ⟨w.heap.size, 0, none⟩ = some (.slice A0 n0 cap0) ∧ w14.drew.cell? ⟨w.heap.size + 1, 0, none⟩ = some (.int .i64 ax) ∧ w14.drew.cell? ⟨w.heap.size + 1, 1, none⟩ = some (.int .i64 ay) ∧ w14.drew.cell? ⟨w.heap.size + 1, 2, none⟩ = some (.int .i64 rx) ∧ w14.drew.cell? ⟨w.heap.size + 1, 3, none⟩ = some (.int .i64 ry) ∧ w14.drew.cell? ⟨w.heap.size + 1, 4, none⟩ = some (.int .i64 lx) ∧ w14.drew.cell? ⟨w.heap.size + 1, 5, none⟩ = some (.int .i64 ly) ∧ w14.drew.cell? ⟨w.heap.size + 1, 6, none⟩ = some (.int .i64 q) := (by obtain ⟨⟨_, _⟩, ⟨_, _, _, _, _, _, _⟩, _, _, _⟩ := id S0_; exact ⟨by assumption, by assumption, by assumption, by assumption, by assumption, by assumption, by assumption, by assumption⟩)
  go_region_held3 (fun W => W.cell? ⟨w.heap.size, 0, none⟩ = some (.slice A0 n0 cap0) ∧ W.cell? ⟨w.heap.size + 1, 0, none⟩ = some (.int .i64 ax) ∧ W.cell? ⟨w.heap.size + 1, 1, none⟩ = some (.int .i64 ay) ∧ W.cell? ⟨w.heap.size + 1, 2, none⟩ = some (.int .i64 rx) ∧ W.cell? ⟨w.heap.size + 1, 3, none⟩ = some (.int .i64 ry) ∧ W.cell? ⟨w.heap.size + 1, 4, none⟩ = some (.int .i64 lx) ∧ W.cell? ⟨w.heap.size + 1, 5, none⟩ = some (.int .i64 ly) ∧ W.cell? ⟨w.heap.size + 1, 6, none⟩ = some (.int .i64 q)) (first | exact HS0_ | assumption) (first | (go_at_call 19; refine (toRoom A0 ps0 n0 cap0 _ hl0 hn0 (S0_.2.2.1.wide S0_.2.2.2.2.size)).mono ?_; rintro e w15 ⟨gh0, rfl, Rh0, _, _, hb0_⟩; have S1_ := HO _ _ S0_ hb0_; have O1_1 := own_below O1_0 hb0_; have O3_1 := own_below O3_0 hb0_; have Rh0_1 := Rh0; have HS1_ : w15.cell? ⟨w.heap.size, 0, none⟩ = some (.slice A0 n0 cap0) ∧ w15.cell? ⟨w.heap.size + 1, 0, none⟩ = some (.int .i64 ax) ∧ w15.cell? ⟨w.heap.size + 1, 1, none⟩ = some (.int .i64 ay) ∧ w15.cell? ⟨w.heap.size + 1, 2, none⟩ = some (.int .i64 rx) ∧ w15.cell? ⟨w.heap.size + 1, 3, none⟩ = some (.int .i64 ry) ∧ w15.cell? ⟨w.heap.size + 1, 4, none⟩ = some (.int .i64 lx) ∧ w15.cell? ⟨w.heap.size + 1, 5, none⟩ = some (.int .i64 ly) ∧ w15.cell? ⟨w.heap.size + 1, 6, none⟩ = some (.int .i64 q) := (by obtain ⟨⟨_, _⟩, ⟨_, _, _, _, _, _, _⟩, _, _, _⟩ := id S1_; exact ⟨by assumption, by assumption, by assumption, by assumption, by assumption, by assumption, by assumption, by assumption⟩)) | (go_at_call 25; refine (LawCamera.toCamera ax ay rx ry lx ly q _).mono ?_; rintro e w16 ⟨rfl, hb1_⟩; have S2_ := HO _ _ S1_ hb1_; have O1_2 := own_below O1_1 hb1_; have O3_2 := own_below O3_1 hb1_; have Rh0_2 := Rh0_1.later hb1_; have HS2_ : w16.cell? ⟨w.heap.size, 0, none⟩ = some (.slice A0 n0 cap0) ∧ w16.cell? ⟨w.heap.size + 1, 0, none⟩ = some (.int .i64 ax) ∧ w16.cell? ⟨w.heap.size + 1, 1, none⟩ = some (.int .i64 ay) ∧ w16.cell? ⟨w.heap.size + 1, 2, none⟩ = some (.int .i64 rx) ∧ w16.cell? ⟨w.heap.size + 1, 3, none⟩ = some (.int .i64 ry) ∧ w16.cell? ⟨w.heap.size + 1, 4, none⟩ = some (.int .i64 lx) ∧ w16.cell? ⟨w.heap.size + 1, 5, none⟩ = some (.int .i64 ly) ∧ w16.cell? ⟨w.heap.size + 1, 6, none⟩ = some (.int .i64 q) := (by obtain ⟨⟨_, _⟩, ⟨_, _, _, _, _, _, _⟩, _, _, _⟩ := id S2_; exact ⟨by assumption, by assumption, by assumption, by assumption, by assumption, by assumption, by assumption, by assumption⟩)) | (go_at_call 26; refine (QI.out _ n0 n0 _ hl0 hn0 Rh0_2.ptsIn).mono ?_; rintro e w17 ⟨A10, c10, rfl, O4, hb2_⟩; have S3_ := HO _ _ S2_ hb2_; have O1_3 := own_below O1_2 hb2_; have O3_3 := own_below O3_2 hb2_; have Rh0_3 := Rh0_2.later hb2_; have O4_3 := O4; have HS3_ : w17.cell? ⟨w.heap.size, 0, none⟩ = some (.slice A0 n0 cap0) ∧ w17.cell? ⟨w.heap.size + 1, 0, none⟩ = some (.int .i64 ax) ∧ w17.cell? ⟨w.heap.size + 1, 1, none⟩ = some (.int .i64 ay) ∧ w17.cell? ⟨w.heap.size + 1, 2, none⟩ = some (.int .i64 rx) ∧ w17.cell? ⟨w.heap.size + 1, 3, none⟩ = some (.int .i64 ry) ∧ w17.cell? ⟨w.heap.size + 1, 4, none⟩ = some (.int .i64 lx) ∧ w17.cell? ⟨w.heap.size + 1, 5, none⟩ = some (.int .i64 ly) ∧ w17.cell? ⟨w.heap.size + 1, 6, none⟩ = some (.int .i64 q) := (by obtain ⟨⟨_, _⟩, ⟨_, _, _, _, _, _, _⟩, _, _, _⟩ := id S3_; exact ⟨by assumption, by assumption, by assumption, by assumption, by assumption, by assumption, by assumption, by assumption⟩)))
  replace S0 := S3_
  have O1 := O1_3
  have O3 := O3_3
  have Rh0 := Rh0_3
  have O4 := O4_3
  obtain ⟨⟨_, _⟩, ⟨_, _, _, _, _, _, _⟩, _, _, _⟩ := id S0
  go_wp2_with fail
  refine (eqPB _ _ _ m hmb _ _ l O4 O1).mono ?_
  rintro e w18 ⟨rfl, hb_⟩
  replace S0 := HO _ _ S0 hb_
  replace O1 := own_below O1 hb_
  replace O3 := own_below O3 hb_
  replace Rh0 := Rh0.later hb_
  replace O4 := own_below O4 hb_
  clear hb_
  obtain ⟨⟨_, _⟩, ⟨_, _, _, _, _, _, _⟩, _, _, _⟩ := id S0
  go_wp2_with fail
  refine (heldPt _ _ m 1 hmb (by omega) (by omega) _ O3).mono ?_
  rintro e w19 ⟨rfl, hb_⟩
  replace S0 := HO _ _ S0 hb_
  replace O1 := own_below O1 hb_
  replace O3 := own_below O3 hb_
  replace Rh0 := Rh0.later hb_
  replace O4 := own_below O4 hb_
  clear hb_
  obtain ⟨⟨_, _⟩, ⟨_, _, _, _, _, _, _⟩, _, _, _⟩ := id S0
  go_wp2_with fail
  go_ret
  exact ⟨rfl, S0.2.2.2.2⟩

theorem walk (w : World) (A0 : Option Addr) (n0 cap0 : Nat) (ps0 : List (Int × Int)) (hm0 : n0 ≤ maxLen) (hl0 : ps0.length = n0) (hp0 : PtsAt w w.heap.size A0 ps0) (ax ay rx ry lx ly q : Int) (wax : (Lit.int .i64 ax).wf = true) (way : (Lit.int .i64 ay).wf = true) (wrx : (Lit.int .i64 rx).wf = true) (wry : (Lit.int .i64 ry).wf = true) (wlx : (Lit.int .i64 lx).wf = true) (wly : (Lit.int .i64 ly).wf = true) (wq : (Lit.int .i64 q).wf = true) :
    Calls Try.prog 5 #[.agg #[.slice A0 n0 cap0], .agg #[.int .i64 ax, .int .i64 ay, .int .i64 rx, .int .i64 ry, .int .i64 lx, .int .i64 ly, .int .i64 q]] w fun e w' => e = .returned (.bool true) ∧ Below w.heap.size w w' := by
  by_cases hs0 : n0 ≤ 1048576
  rotate_left
  · skip
    have HS0 := Lib.hid fun w => szRoomL A0 n0 cap0 (1048576) (by unfold maxLen at hm0; omega) (by omega) w
    simp only [show ¬ (n0 : Int) ≤ 1048576 by omega, if_false] at HS0
    clear hl0 hp0 hm0
    go_enter Try.func5, Try.ntmps5
    go_wp2_with fail
    have X0 := (Pts.boxR w (.slice A0 n0 cap0) 33 (k := w.heap.size) (by simp)).alloc (Obj.cells #[.int .i64 ax, .int .i64 ay, .int .i64 rx, .int .i64 ry, .int .i64 lx, .int .i64 ly, .int .i64 q] 47)
    have X1 := Tup7.box1 (w.alloc (Obj.cells #[.slice A0 n0 cap0] 33)) ax ay rx ry lx ly q 47 (k := w.heap.size + 1) (by simp)
    have b0 := PointOk.below2 w (Obj.cells #[.slice A0 n0 cap0] 33) (Obj.cells #[.int .i64 ax, .int .i64 ay, .int .i64 rx, .int .i64 ry, .int .i64 lx, .int .i64 ly, .int .i64 q] 47)
    have HO : ∀ W W' : World, (Pts.BoxR W (w.heap.size) (.slice A0 n0 cap0) ∧ Tup7.Box W (w.heap.size + 1) ax ay rx ry lx ly q ∧ Below w.heap.size w W) → Below W.heap.size W W' → (Pts.BoxR W' (w.heap.size) (.slice A0 n0 cap0) ∧ Tup7.Box W' (w.heap.size + 1) ax ay rx ry lx ly q ∧ Below w.heap.size w W') := fun W W' ⟨h0, h1, hb⟩ h => ⟨h0.later h, h1.later h, hb.trans (h.mono hb.size)⟩
    have hz0_ : Hid ((((w.alloc (Obj.cells #[.slice A0 n0 cap0] 33)).alloc (Obj.cells #[.int .i64 ax, .int .i64 ay, .int .i64 rx, .int .i64 ry, .int .i64 lx, .int .i64 ly, .int .i64 q] 47))).heap.size = w.heap.size + 1 + 1) := Lib.hid (by simp)
    generalize ((w.alloc (Obj.cells #[.slice A0 n0 cap0] 33)).alloc (Obj.cells #[.int .i64 ax, .int .i64 ay, .int .i64 rx, .int .i64 ry, .int .i64 lx, .int .i64 ly, .int .i64 q] 47)) = w0 at X0 X1 b0 hz0_ ⊢
    have S0 := (⟨X0, X1, b0⟩ : Pts.BoxR w0 (w.heap.size) (.slice A0 n0 cap0) ∧ Tup7.Box w0 (w.heap.size + 1) ax ay rx ry lx ly q ∧ Below w.heap.size w w0)
    clear X0 X1 b0
    obtain ⟨⟨_, _⟩, ⟨_, _, _, _, _, _, _⟩, _⟩ := id S0
    refine (HS0.out _).mono ?_
    rintro e w1 ⟨rfl, hb_⟩
    replace S0 := HO _ _ S0 hb_
    clear hb_
    obtain ⟨⟨_, _⟩, ⟨_, _, _, _, _, _, _⟩, _⟩ := id S0
    go_wp2_with fail
    go_ret
    exact ⟨rfl, S0.2.2⟩
  exact small w A0 n0 cap0 ps0 (by omega) hl0 hp0 ax ay rx ry lx ly q

set_option maxRecDepth 100000 in
theorem contract (H : Type) (enc : TypeId × Value → H) (W : World) (base : Nat) (args : Array Value) (ds gs : List (DataW H)) (before : List MemPlace)
    (hval : ∀ (j : Nat) t v, Try.f5.params[j]? = some t → args[j]? = some v → Value.okWide Try.prog W .any base t v)
    (hW : DataW.Whole enc Try.prog Try.f5.params.toList Rows.fnExactFilmedBySpec.vars false W args.toList ds gs before) :
    Calls Try.prog 5 args W fun e W' => ∃ v, e = .returned v ∧ Rows.fnExactFilmedBySpec.post enc Try.prog Try.f5 false true false false W args v W' := by
  have hW' := hW
  obtain ⟨p, q, hA0, hV, rfl, hfz, hnd⟩ := hW
  have hA : DataW.TrodAll enc Try.prog W 0 (fun _ => true) true Try.f5.params.toList args.toList ds p := hA0
  rw [Try.params5] at hA hval
  obtain ⟨v0, vs0, d0, ds0, p0, q0, hargs, rfl, rfl, h0, r0⟩ := trodAll_cons hA
  obtain ⟨v1, vs1, d1, ds1, p1, q1, rfl, rfl, rfl, h1, r1⟩ := trodAll_cons r0
  obtain ⟨rfl, rfl, rfl⟩ := trodAll_nil r1
  obtain rfl : args = #[v0, v1] := by cases args; simp_all
  obtain ⟨rfl, rfl⟩ := trodVars_none hV
  have sr0 : RoomArg.Shape Try.prog 33 31 45 3 _ _ _ := ⟨Try.underlying33, rfl, rfl, by kernel_rfl, by kernel_rfl, ⟨Try.underlying31, Try.underlying45, by kernel_rfl, rfl, rfl, rfl, rfl, Try.underlying3, by kernel_rfl⟩⟩
  have k0 := h0
  have lt0 : ∀ x ∈ p0, x.block < W.heap.size := by obtain ⟨m, hm⟩ := k0; exact DataW.trod_lt m _ _ _ hm
  obtain ⟨a0, len0, cap0, z0, rfl, w0, l0, r0p⟩ := RoomArg.open_room sr0 (hval 0 33 v0 rfl rfl) h0
  have k1 := h1
  have lt1 : ∀ x ∈ p1, x.block < W.heap.size := by obtain ⟨m, hm⟩ := k1; exact DataW.trod_lt m _ _ _ hm
  obtain ⟨f1_0, f1_1, f1_2, f1_3, f1_4, f1_5, f1_6, rfl, wf1_0, wf1_1, wf1_2, wf1_3, wf1_4, wf1_5, wf1_6⟩ := Tup7.open_one (k := 4) Try.underlying47 (by kernel_rfl) (by kernel_rfl) (hval 1 47 v1 rfl rfl) h1
  clear hA0
  refine (walk W a0 len0 cap0 z0 w0 l0 r0p f1_0 f1_1 f1_2 f1_3 f1_4 f1_5 f1_6 wf1_0 wf1_1 wf1_2 wf1_3 wf1_4 wf1_5 wf1_6).mono fun e W' ⟨he, hg⟩ => ?_
  subst he
  exact ⟨_, rfl, _, _, _, [], _, [], hW', (trodAll_cons_mk (shut_bool Try.underlying4 _) trodAll_mk0), (trodAll_cons_mk (Below.trod laidOut (by kernel_rfl) (of_decide_eq_true (by kernel_rfl)) k0 hg lt0) (trodAll_cons_mk (Below.trod laidOut (by kernel_rfl) (of_decide_eq_true (by kernel_rfl)) k1 hg lt1) trodAll_mk0)), rfl, hg.frame _, fun h => by cases h⟩

set_option maxRecDepth 100000 in
theorem lifted (os : Os) (started : os.Started) (H : Type) (enc : TypeId × Value → H) :
    ReturnsInHanded {} Try.checked os 5 .any (Rows.fnExactFilmedBySpec.pre6 enc Try.prog Try.f5 Rows.fnExactFilmedByRow.domain false) (Rows.fnExactFilmedBySpec.post enc Try.prog Try.f5 false true false false) := by
  refine returnsInHanded_of_change (C := Try.checked) own started (by kernel_rfl) Try.func5
    (ChangeSpec.witness6 (enc := enc) (C := Try.checked) false ⟨#[], #[Value.agg #[Value.slice none 0 0], Value.agg #[.int .i64 0, .int .i64 0, .int .i64 0, .int .i64 0, .int .i64 0, .int .i64 0, .int .i64 0]], []⟩ 8 (by kernel_rfl) (by kernel_rfl) (by kernel_rfl) (by kernel_rfl)) ?_
  intro W base args ds gs before hval hW hcnd _
  exact contract H enc W base args ds gs before hval hW

theorem proved : Rows.FnExactFilmedBySaid :=
  OpenClaim.holds_of_wide 5 Try.f5 rfl rfl rfl rfl rfl rfl rfl ⟨rfl, rfl, rfl, rfl, rfl⟩ rfl rfl rfl rfl rfl (by kernel_rfl) Try.func5 (by kernel_rfl)
    (of_decide_eq_true (by kernel_rfl)) (by unfold Func.isWrapper; first | (rw [if_pos (by decide +kernel)]; kernel_rfl) | (rw [if_neg (by decide +kernel)]; exact ⟨rfl, rfl⟩))
    (fun os started H enc _ => lifted os started H enc)
#print axioms proved
end Go.Proofs.Ythokeedmccfalaa.fnExactFilmedBy
