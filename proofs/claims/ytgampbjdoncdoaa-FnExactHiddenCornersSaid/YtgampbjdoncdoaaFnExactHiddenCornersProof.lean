/-
  For every argument, the landed HiddenCorners answers just as its model does, in memory that it shares with nothing: the law's call returns true, and the arguments read as they did. No condition.
-/
import Derived.Test.YtgampbjdoncdoaaRows
import Derived.WalkKit
import Derived.ProofKit
import Derived.OpenShut
import Derived.ShutString
import Derived.Test.YtgampbjdoncdoaaRoomArg
import Derived.Test.YtgampbjdoncdoaaHidcSpec
import Derived.Test.YtgampbjdoncdoaaHidcLand
import Derived.Test.YtgampbjdoncdoaaLawInt
import Derived.Test.YtgampbjdoncdoaaLawRoom
import Derived.Test.YtgampbjdoncdoaaGround
namespace Go.Proofs.Ytgampbjdoncdoaa.fnExactHiddenCorners
open Go.ChangeShapes Go.WideShapes Go.ChangeAt Go.RowKit
open Go.ChangeMaps (open_string shut_string)
open PointMath RoomMath Pts Blk LawRoom PointOk Own LawInt
set_option linter.unusedVariables false

theorem own : ownKnob Try.prog.godebug = none := by kernel_rfl
theorem laidOut : laidOutB Try.prog = true := by kernel_rfl

set_option maxRecDepth 100000 in
set_option maxHeartbeats 6400000 in
theorem small (w : World) (A0 : Option Addr) (n0 cap0 : Nat) (ps0 : List (Int × Int)) (hn0 : n0 ≤ 1048576) (hl0 : ps0.length = n0) (hp0 : PtsAt w w.heap.size A0 ps0) :
    Calls Try.prog 8 #[.agg #[.slice A0 n0 cap0]] w fun e w' => e = .returned (.bool true) ∧ Below w.heap.size w w' := by
  obtain ⟨l, hlq⟩ : ∃ l, HidcMath.hcL ps0 = l := ⟨_, rfl⟩
  have QS : Hid (∀ (A0 : Option Addr) (n0 cap0 : Nat) (w : World) (hl0 : ps0.length = n0) (hn0 : n0 ≤ 1048576) (hp0 : PtsAt w w.heap.size A0 ps0), _) := Lib.hid fun A0 n0 cap0 w hl0 hn0 hp0 => HidcSpec.hiddenCorners A0 n0 cap0 w ps0 hl0 hn0 hp0
  have QI : Hid (∀ (A0 : Option Addr) (n0 cap0 : Nat) (w : World) (hl0 : ps0.length = n0) (hn0 : n0 ≤ 1048576) (hp0 : PtsAt w w.heap.size A0 ps0), _) := Lib.hid fun A0 n0 cap0 w hl0 hn0 hp0 => HidcLand.hiddenCorners A0 n0 cap0 w ps0 hl0 hn0 hp0
  rw [hlq] at QS QI
  obtain ⟨m, hm⟩ : ∃ m, l.length = m := ⟨_, rfl⟩
  have hmb : m ≤ 1048576 := by rw [← hm, ← hlq]; exact (HidcMath.hcL_le ps0 (by omega))
  unfold GivesI at QS QI
  rw [hm] at QS QI
  have HS0 := Lib.hid fun w => szRoomL A0 n0 cap0 (1048576) (by omega) (by omega) w
  simp only [show (n0 : Int) ≤ 1048576 by omega, if_true] at HS0
  have kq_ : ¬ (((1 + n0 * 2 : Nat) : Int) < 0) := by omega
  have kr_ : ¬ (((1 + m * 1 : Nat) : Int) < 0) := by omega
  clear hlq
  go_enter Try.func8, Try.ntmps8
  go_wp2_with fail
  have X0 := Pts.boxR w (.slice A0 n0 cap0) 54 (k := w.heap.size) (by simp)
  have b0 := PointOk.below1 w (Obj.cells #[.slice A0 n0 cap0] 54)
  have HO : ∀ W W' : World, (Pts.BoxR W (w.heap.size) (.slice A0 n0 cap0) ∧ PtsAt W w.heap.size A0 ps0 ∧ w.heap.size + 1 ≤ W.heap.size ∧ Below w.heap.size w W) → Below W.heap.size W W' → (Pts.BoxR W' (w.heap.size) (.slice A0 n0 cap0) ∧ PtsAt W' w.heap.size A0 ps0 ∧ w.heap.size + 1 ≤ W'.heap.size ∧ Below w.heap.size w W') := fun W W' ⟨h0, x0, x1, hb⟩ h => ⟨h0.later h, x0.later (h.mono hb.size), Nat.le_trans x1 h.size, hb.trans (h.mono hb.size)⟩
  have hz0_ : Hid (((w.alloc (Obj.cells #[.slice A0 n0 cap0] 54))).heap.size = w.heap.size + 1) := Lib.hid (by simp)
  have Y0 : PtsAt ((w.alloc (Obj.cells #[.slice A0 n0 cap0] 54))) w.heap.size A0 ps0 := hp0.later b0
  have Y1 : w.heap.size + 1 ≤ ((w.alloc (Obj.cells #[.slice A0 n0 cap0] 54))).heap.size := by simp
  generalize (w.alloc (Obj.cells #[.slice A0 n0 cap0] 54)) = w0 at X0 Y0 Y1 b0 hz0_ ⊢
  have S0 := (⟨X0, Y0, Y1, b0⟩ : Pts.BoxR w0 (w.heap.size) (.slice A0 n0 cap0) ∧ PtsAt w0 w.heap.size A0 ps0 ∧ w.heap.size + 1 ≤ w0.heap.size ∧ Below w.heap.size w w0)
  clear X0 Y0 Y1 b0
  obtain ⟨⟨_, _⟩, _, _, _⟩ := id S0
  have HO2 : ∀ W W' : World, (Pts.BoxR W (w.heap.size) (.slice A0 n0 cap0) ∧ PtsAt W w.heap.size A0 ps0 ∧ w.heap.size + 1 ≤ W.heap.size ∧ Below w.heap.size w W) → Below (w.heap.size + 1) W W' → (Pts.BoxR W' (w.heap.size) (.slice A0 n0 cap0) ∧ PtsAt W' w.heap.size A0 ps0 ∧ w.heap.size + 1 ≤ W'.heap.size ∧ Below w.heap.size w W') := fun W W' ⟨h0, x0, x1, hb⟩ h => ⟨⟨(h.cell (by simp)).trans h0.1, trivial⟩, x0.later (h.mono (by omega)), Nat.le_trans x1 h.size, hb.trans (h.mono (by omega))⟩
  clear hz0_
  refine (HS0.out _).mono ?_
  rintro e w1 ⟨rfl, hb_⟩
  replace S0 := HO _ _ S0 hb_
  clear hb_
  obtain ⟨⟨_, _⟩, _, _, _⟩ := id S0
  go_wp2_with fail
  refine (toRoom A0 ps0 n0 cap0 _ hl0 hn0 (S0.2.1.wide S0.2.2.2.size)).mono ?_
  rintro e w2 ⟨gs0, rfl, Rs0, es0_, ls0, hb_⟩
  replace S0 := HO _ _ S0 hb_
  clear hb_
  obtain ⟨⟨_, _⟩, _, _, _⟩ := id S0
  go_wp2_with fail
  refine (QS.out _ n0 n0 _ hl0 hn0 Rs0.ptsIn).mono ?_
  rintro e w3 ⟨A8, c8, rfl, O1, hb_⟩
  replace S0 := HO _ _ S0 hb_
  replace Rs0 := Rs0.later hb_
  clear hb_
  obtain ⟨⟨_, _⟩, _, _, _⟩ := id S0
  go_wp2_with fail
  have zq_ : w.heap.size + 1 ≤ w3.heap.size := S0.2.2.1
  have ol1_ : ∀ k, (Value.slice A8 m c8).ownBlock = some k → k < w3.heap.size := fun k hk => (O1.lt k hk).2
  refine (toRoom A0 ps0 n0 cap0 _ hl0 hn0 (S0.2.1.wide S0.2.2.2.size)).mono ?_
  rintro e w4 ⟨gx0, rfl, Rx0, ex0_, lx0, hb_⟩
  replace S0 := HO _ _ S0 hb_
  replace Rs0 := Rs0.later hb_
  replace O1 := own_below O1 hb_
  clear hb_
  obtain ⟨⟨_, _⟩, _, _, _⟩ := id S0
  have zx_ : w.heap.size + 1 ≤ gx0 := Nat.le_trans zq_ ex0_
  replace ol1_ : ∀ k, (Value.slice A8 m c8).ownBlock = some k → k < gx0 := fun k hk => Nat.lt_of_lt_of_le (ol1_ k hk) ex0_
  clear zq_ ex0_
  have lt_0 := World.block_lt_of_cell? _ _ S0.1.1
  have hb_ := PointOk.below1 w4 (Obj.cells #[.slice (some ⟨gx0, 0, none⟩) n0 n0] 63)
  have N0 := Blk.Holds.box w4 #[.slice (some ⟨gx0, 0, none⟩) n0 n0] 63 rfl
  replace S0 := HO _ _ S0 hb_
  replace Rs0 := Rs0.later hb_
  replace O1 := own_below O1 hb_
  replace Rx0 := Rx0.later hb_
  clear hb_
  obtain ⟨⟨_, _⟩, _, _, _⟩ := id S0
  obtain ⟨_, _⟩ := N0.one
  go_wp2_with fail
  generalize w4.alloc (Obj.cells #[.slice (some ⟨gx0, 0, none⟩) n0 n0] 63) = v4_N0 at *
  clear lt_0
  have rl_ := Blk.Holds.lt Rx0
  refine (QI.out _ n0 n0 _ hl0 hn0 Rx0.ptsIn).mono ?_
  rintro e w5 ⟨A9, c9, rfl, O2, hb_⟩
  replace S0 := HO _ _ S0 hb_
  replace Rs0 := Rs0.later hb_
  replace O1 := own_below O1 hb_
  replace Rx0 := Rx0.later hb_
  replace N0 := N0.later hb_
  clear hb_
  obtain ⟨⟨_, _⟩, _, _, _⟩ := id S0
  obtain ⟨_, _⟩ := N0.one
  have ol2_ : ∀ k, (Value.slice A9 m c9).ownBlock = some k → gx0 < k := fun k hk => Nat.lt_of_lt_of_le rl_ (O2.lt k hk).1
  go_wp2_with fail
  refine (eqIB _ _ _ m hmb _ _ l O2 O1).mono ?_
  rintro e w6 ⟨rfl, hb_⟩
  replace S0 := HO _ _ S0 hb_
  replace Rs0 := Rs0.later hb_
  replace O1 := own_below O1 hb_
  replace Rx0 := Rx0.later hb_
  replace N0 := N0.later hb_
  replace O2 := own_below O2 hb_
  clear hb_
  obtain ⟨⟨_, _⟩, _, _, _⟩ := id S0
  obtain ⟨_, _⟩ := N0.one
  go_wp2_with fail
  have S0_ := HO _ _ S0 ((Below.refl _ _).drew)
  have Rs0_0 := Rs0.later ((Below.refl _ _).drew)
  have O1_0 := own_below O1 ((Below.refl _ _).drew)
  have Rx0_0 := Rx0.later ((Below.refl _ _).drew)
  have N0_0 := N0.later ((Below.refl _ _).drew)
  have O2_0 := own_below O2 ((Below.refl _ _).drew)
  have HS0_ : w6.drew.cell? ⟨w4.heap.size, 0, none⟩ = some (.slice (some ⟨gx0, 0, none⟩) n0 n0) ∧ w6.drew.cell? ⟨w.heap.size, 0, none⟩ = some (.slice A0 n0 cap0) := (by obtain ⟨⟨_, _⟩, _, _, _⟩ := id S0_; obtain ⟨_, _⟩ := N0_0.one; exact ⟨by assumption, by assumption⟩)
  go_region_held3 (fun W => W.cell? ⟨w4.heap.size, 0, none⟩ = some (.slice (some ⟨gx0, 0, none⟩) n0 n0) ∧ W.cell? ⟨w.heap.size, 0, none⟩ = some (.slice A0 n0 cap0)) (first | exact HS0_ | assumption) (first | (go_at_call 38; refine (toRoom A0 ps0 n0 cap0 _ hl0 hn0 (S0_.2.1.wide S0_.2.2.2.size)).mono ?_; rintro e w7 ⟨gy0, rfl, Ry0, _, _, hb0_⟩; have S1_ := HO _ _ S0_ hb0_; have Rs0_1 := Rs0_0.later hb0_; have O1_1 := own_below O1_0 hb0_; have Rx0_1 := Rx0_0.later hb0_; have N0_1 := N0_0.later hb0_; have O2_1 := own_below O2_0 hb0_; have Ry0_1 := Ry0; have HS1_ : w7.cell? ⟨w4.heap.size, 0, none⟩ = some (.slice (some ⟨gx0, 0, none⟩) n0 n0) ∧ w7.cell? ⟨w.heap.size, 0, none⟩ = some (.slice A0 n0 cap0) := (by obtain ⟨⟨_, _⟩, _, _, _⟩ := id S1_; obtain ⟨_, _⟩ := N0_1.one; exact ⟨by assumption, by assumption⟩)) | (go_at_call 42; refine (eqRoom_same _ _ ps0 n0 n0 n0 _ hl0 hn0 Rx0_1.ptsIn Ry0_1.ptsIn).mono ?_; rintro e w8 ⟨rfl, hb1_⟩; have S2_ := HO _ _ S1_ hb1_; have Rs0_2 := Rs0_1.later hb1_; have O1_2 := own_below O1_1 hb1_; have Rx0_2 := Rx0_1.later hb1_; have N0_2 := N0_1.later hb1_; have O2_2 := own_below O2_1 hb1_; have Ry0_2 := Ry0_1.later hb1_; have HS2_ : w8.cell? ⟨w4.heap.size, 0, none⟩ = some (.slice (some ⟨gx0, 0, none⟩) n0 n0) ∧ w8.cell? ⟨w.heap.size, 0, none⟩ = some (.slice A0 n0 cap0) := (by obtain ⟨⟨_, _⟩, _, _, _⟩ := id S2_; obtain ⟨_, _⟩ := N0_2.one; exact ⟨by assumption, by assumption⟩)))
  replace S0 := S2_
  have Rs0 := Rs0_2
  have O1 := O1_2
  have Rx0 := Rx0_2
  have N0 := N0_2
  have O2 := O2_2
  have Ry0 := Ry0_2
  obtain ⟨⟨_, _⟩, _, _, _⟩ := id S0
  obtain ⟨_, _⟩ := N0.one
  go_wp2_with fail
  refine (markRoom _ gx0 n0 ps0 hl0 hn0 Rx0).mono ?_
  rintro e w9 ⟨rfl, hg_⟩
  have hbg_ : Below (w.heap.size + 1) w8 w9 := (Below.refl _ _).grown hg_ S0.2.2.1 (fun k hk => by injection hk with hk; omega)
  replace S0 := HO2 _ _ S0 hbg_
  replace O1 := kept_ne (g := gx0) O1 hg_ (fun k hk => by have := ol1_ k hk; omega)
  replace O2 := kept_ne (g := gx0) O2 hg_ (fun k hk => by have := ol2_ k hk; omega)
  clear hbg_ hg_ Rs0 Rx0 Ry0 N0
  obtain ⟨⟨_, _⟩, _, _, _⟩ := id S0
  go_wp2_with fail
  refine (eqIB _ _ _ m hmb _ _ l O2 O1).mono ?_
  rintro e w10 ⟨rfl, hb_⟩
  replace S0 := HO _ _ S0 hb_
  replace O1 := own_below O1 hb_
  replace O2 := own_below O2 hb_
  clear hb_
  obtain ⟨⟨_, _⟩, _, _, _⟩ := id S0
  go_wp2_with fail
  refine (markI _ _ m 1 hmb (by omega) (by omega) _ _ O2).mono ?_
  rintro e w11 ⟨rfl, O3, hg_⟩
  have hbg_ : Below (w.heap.size + 1) w10 w11 := (Below.refl _ _).grown hg_ S0.2.2.1 (fun k hk => by have := ol2_ k hk; omega)
  replace S0 := HO2 _ _ S0 hbg_
  replace O1 := kept_apart O1 hg_ (fun k j hk hj => by have := ol1_ k hk; have := ol2_ j hj; omega)
  clear hbg_ hg_ O2
  obtain ⟨⟨_, _⟩, _, _, _⟩ := id S0
  go_wp2_with fail
  refine (heldI _ _ m 1 hmb (by omega) (by omega) _ O3).mono ?_
  rintro e w12 ⟨rfl, hb_⟩
  replace S0 := HO _ _ S0 hb_
  replace O1 := own_below O1 hb_
  replace O3 := own_below O3 hb_
  clear hb_
  obtain ⟨⟨_, _⟩, _, _, _⟩ := id S0
  go_wp2_with fail
  refine (toRoom A0 ps0 n0 cap0 _ hl0 hn0 (S0.2.1.wide S0.2.2.2.size)).mono ?_
  rintro e w13 ⟨gh0, rfl, Rh0, eh0_, lh0, hb_⟩
  replace S0 := HO _ _ S0 hb_
  replace O1 := own_below O1 hb_
  replace O3 := own_below O3 hb_
  clear hb_
  obtain ⟨⟨_, _⟩, _, _, _⟩ := id S0
  go_wp2_with fail
  refine (QI.out _ n0 n0 _ hl0 hn0 Rh0.ptsIn).mono ?_
  rintro e w14 ⟨A10, c10, rfl, O4, hb_⟩
  replace S0 := HO _ _ S0 hb_
  replace O1 := own_below O1 hb_
  replace O3 := own_below O3 hb_
  replace Rh0 := Rh0.later hb_
  clear hb_
  obtain ⟨⟨_, _⟩, _, _, _⟩ := id S0
  go_wp2_with fail
  refine (eqIB _ _ _ m hmb _ _ l O4 O1).mono ?_
  rintro e w15 ⟨rfl, hb_⟩
  replace S0 := HO _ _ S0 hb_
  replace O1 := own_below O1 hb_
  replace O3 := own_below O3 hb_
  replace Rh0 := Rh0.later hb_
  replace O4 := own_below O4 hb_
  clear hb_
  obtain ⟨⟨_, _⟩, _, _, _⟩ := id S0
  go_wp2_with fail
  refine (heldI _ _ m 1 hmb (by omega) (by omega) _ O3).mono ?_
  rintro e w16 ⟨rfl, hb_⟩
  replace S0 := HO _ _ S0 hb_
  replace O1 := own_below O1 hb_
  replace O3 := own_below O3 hb_
  replace Rh0 := Rh0.later hb_
  replace O4 := own_below O4 hb_
  clear hb_
  obtain ⟨⟨_, _⟩, _, _, _⟩ := id S0
  go_wp2_with fail
  go_ret
  exact ⟨rfl, S0.2.2.2⟩

theorem walk (w : World) (A0 : Option Addr) (n0 cap0 : Nat) (ps0 : List (Int × Int)) (hm0 : n0 ≤ maxLen) (hl0 : ps0.length = n0) (hp0 : PtsAt w w.heap.size A0 ps0) :
    Calls Try.prog 8 #[.agg #[.slice A0 n0 cap0]] w fun e w' => e = .returned (.bool true) ∧ Below w.heap.size w w' := by
  by_cases hs0 : n0 ≤ 1048576
  rotate_left
  · skip
    have HS0 := Lib.hid fun w => szRoomL A0 n0 cap0 (1048576) (by unfold maxLen at hm0; omega) (by omega) w
    simp only [show ¬ (n0 : Int) ≤ 1048576 by omega, if_false] at HS0
    clear hl0 hp0 hm0
    go_enter Try.func8, Try.ntmps8
    go_wp2_with fail
    have X0 := Pts.boxR w (.slice A0 n0 cap0) 54 (k := w.heap.size) (by simp)
    have b0 := PointOk.below1 w (Obj.cells #[.slice A0 n0 cap0] 54)
    have HO : ∀ W W' : World, (Pts.BoxR W (w.heap.size) (.slice A0 n0 cap0) ∧ Below w.heap.size w W) → Below W.heap.size W W' → (Pts.BoxR W' (w.heap.size) (.slice A0 n0 cap0) ∧ Below w.heap.size w W') := fun W W' ⟨h0, hb⟩ h => ⟨h0.later h, hb.trans (h.mono hb.size)⟩
    have hz0_ : Hid (((w.alloc (Obj.cells #[.slice A0 n0 cap0] 54))).heap.size = w.heap.size + 1) := Lib.hid (by simp)
    generalize (w.alloc (Obj.cells #[.slice A0 n0 cap0] 54)) = w0 at X0 b0 hz0_ ⊢
    have S0 := (⟨X0, b0⟩ : Pts.BoxR w0 (w.heap.size) (.slice A0 n0 cap0) ∧ Below w.heap.size w w0)
    clear X0 b0
    obtain ⟨⟨_, _⟩, _⟩ := id S0
    refine (HS0.out _).mono ?_
    rintro e w1 ⟨rfl, hb_⟩
    replace S0 := HO _ _ S0 hb_
    clear hb_
    obtain ⟨⟨_, _⟩, _⟩ := id S0
    go_wp2_with fail
    go_ret
    exact ⟨rfl, S0.2⟩
  exact small w A0 n0 cap0 ps0 (by omega) hl0 hp0

set_option maxRecDepth 100000 in
theorem contract (H : Type) (enc : TypeId × Value → H) (W : World) (base : Nat) (args : Array Value) (ds gs : List (DataW H)) (before : List MemPlace)
    (hval : ∀ (j : Nat) t v, Try.f8.params[j]? = some t → args[j]? = some v → Value.okWide Try.prog W .any base t v)
    (hW : DataW.Whole enc Try.prog Try.f8.params.toList Rows.fnExactHiddenCornersSpec.vars false W args.toList ds gs before) :
    Calls Try.prog 8 args W fun e W' => ∃ v, e = .returned v ∧ Rows.fnExactHiddenCornersSpec.post enc Try.prog Try.f8 false true false false W args v W' := by
  have hW' := hW
  obtain ⟨p, q, hA0, hV, rfl, hfz, hnd⟩ := hW
  have hA : DataW.TrodAll enc Try.prog W 0 (fun _ => true) true Try.f8.params.toList args.toList ds p := hA0
  rw [Try.params8] at hA hval
  obtain ⟨v0, vs0, d0, ds0, p0, q0, hargs, rfl, rfl, h0, r0⟩ := trodAll_cons hA
  obtain ⟨rfl, rfl, rfl⟩ := trodAll_nil r0
  obtain rfl : args = #[v0] := by cases args; simp_all
  obtain ⟨rfl, rfl⟩ := trodVars_none hV
  have sr0 : RoomArg.Shape Try.prog 54 52 56 3 _ _ _ := ⟨Try.underlying54, rfl, rfl, by kernel_rfl, by kernel_rfl, ⟨Try.underlying52, Try.underlying56, by kernel_rfl, rfl, rfl, rfl, rfl, Try.underlying3, by kernel_rfl⟩⟩
  have k0 := h0
  have lt0 : ∀ x ∈ p0, x.block < W.heap.size := by obtain ⟨m, hm⟩ := k0; exact DataW.trod_lt m _ _ _ hm
  obtain ⟨a0, len0, cap0, z0, rfl, w0, l0, r0p⟩ := RoomArg.open_room sr0 (hval 0 54 v0 rfl rfl) h0
  clear hA0
  refine (walk W a0 len0 cap0 z0 w0 l0 r0p).mono fun e W' ⟨he, hg⟩ => ?_
  subst he
  exact ⟨_, rfl, _, _, _, [], _, [], hW', (trodAll_cons_mk (shut_bool Try.underlying4 _) trodAll_mk0), (trodAll_cons_mk (Below.trod laidOut (by kernel_rfl) (of_decide_eq_true (by kernel_rfl)) k0 hg lt0) trodAll_mk0), rfl, hg.frame _, fun h => by cases h⟩

set_option maxRecDepth 100000 in
theorem lifted (os : Os) (started : os.Started) (H : Type) (enc : TypeId × Value → H) :
    ReturnsInHanded {} Try.checked os 8 .any (Rows.fnExactHiddenCornersSpec.pre6 enc Try.prog Try.f8 Rows.fnExactHiddenCornersRow.domain false) (Rows.fnExactHiddenCornersSpec.post enc Try.prog Try.f8 false true false false) := by
  refine returnsInHanded_of_change (C := Try.checked) own started (by kernel_rfl) Try.func8
    (ChangeSpec.witness6 (enc := enc) (C := Try.checked) false ⟨#[], #[Value.agg #[Value.slice none 0 0]], []⟩ 8 (by kernel_rfl) (by kernel_rfl) (by kernel_rfl) (by kernel_rfl)) ?_
  intro W base args ds gs before hval hW hcnd _
  exact contract H enc W base args ds gs before hval hW

theorem proved : Rows.FnExactHiddenCornersSaid :=
  OpenClaim.holds_of_wide 8 Try.f8 rfl rfl rfl rfl rfl rfl rfl ⟨rfl, rfl, rfl, rfl, rfl⟩ rfl rfl rfl rfl rfl (by kernel_rfl) Try.func8 (by kernel_rfl)
    (of_decide_eq_true (by kernel_rfl)) (by unfold Func.isWrapper; first | (rw [if_pos (by decide +kernel)]; kernel_rfl) | (rw [if_neg (by decide +kernel)]; exact ⟨rfl, rfl⟩))
    (fun os started H enc _ => lifted os started H enc)
#print axioms proved
end Go.Proofs.Ytgampbjdoncdoaa.fnExactHiddenCorners
