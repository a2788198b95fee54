/-
  For every argument, the landed Suspects answers just as its model does, in memory that it shares with nothing: the law's call returns true, and the arguments read as they did. No condition.
-/
import Derived.Test.YtdcekbhfbkiflaaDoorRowDoorH
import Derived.Lib.SmallJoins
import Derived.ShutString
import Derived.Test.YtdcekbhfbkiflaaDoorTup4
import Derived.Test.YtdcekbhfbkiflaaDoorTupIIB
import Derived.Test.YtdcekbhfbkiflaaDoorSuspSpec
import Derived.Test.YtdcekbhfbkiflaaDoorSuspImpl
import Derived.Test.YtdcekbhfbkiflaaDoorLawInt
import Derived.Test.YtdcekbhfbkiflaaDoorLawRoom
import Derived.Test.YtdcekbhfbkiflaaDoorGround
import Derived.Test.YtdcekbhfbkiflaaDoorLawStay
import Derived.Test.YtdcekbhfbkiflaaDoorLawCheck
import Derived.Test.YtdcekbhfbkiflaaDoorLawCheckM
namespace Go.Proofs.YtdcekbhfbkiflaaDoor.fnExactSuspects
open Go.ChangeShapes Go.WideShapes Go.ChangeAt Go.RowKit RowDoor
open Go.ChangeMaps (open_string shut_string)
open PointMath RoomMath Pts Blk LawRoom PointOk Own LawInt
set_option linter.unusedVariables false


set_option maxRecDepth 100000 in
set_option maxHeartbeats 6400000 in
theorem small (w : World) (A0 : Option Addr) (n0 cap0 : Nat) (ps0 : List Tup4.Tu) (hn0 : n0 ≤ 1048576) (hl0 : ps0.length = n0) (hp0 : Tup4.TsAt w w.heap.size A0 ps0) (A1 : Option Addr) (n1 cap1 : Nat) (ps1 : List TupIIB.Tu) (hn1 : n1 ≤ 1048576) (hl1 : ps1.length = n1) (hp1 : TupIIB.TsAt w w.heap.size A1 ps1) (h o : Int) (hsum : n0 + n1 ≤ 1048576) (hg : GoneImpl.Laid w) :
    Calls Tryd.prog 6 #[.slice A0 n0 cap0, .int .i64 h, .slice A1 n1 cap1, .int .i64 o] w fun e w' => e = .returned (.bool true) ∧ Below w.heap.size w w' := by
  obtain ⟨l, hlq⟩ : ∃ l, SuspMath.suspL ps0 h ps1 o = l := ⟨_, rfl⟩
  have QS : Hid (∀ (A0 : Option Addr) (n0 cap0 : Nat) (A1 : Option Addr) (n1 cap1 : Nat) (w : World) (hl0 : ps0.length = n0) (hn0 : n0 ≤ 1048576) (hp0 : Tup4.TsAt w w.heap.size A0 ps0) (hl1 : ps1.length = n1) (hn1 : n1 ≤ 1048576) (hp1 : TupIIB.TsAt w w.heap.size A1 ps1), _) := Lib.hid fun A0 n0 cap0 A1 n1 cap1 w hl0 hn0 hp0 hl1 hn1 hp1 => SuspSpec.suspects A0 n0 cap0 h A1 n1 cap1 o w ps0 hl0 hn0 hp0 ps1 hl1 hn1 hp1
  have QI : Hid (∀ (A0 : Option Addr) (n0 cap0 : Nat) (A1 : Option Addr) (n1 cap1 : Nat) (w : World) (hl0 : ps0.length = n0) (hn0 : n0 ≤ 1048576) (hp0 : Tup4.TsAt w w.heap.size A0 ps0) (hl1 : ps1.length = n1) (hn1 : n1 ≤ 1048576) (hp1 : TupIIB.TsAt w w.heap.size A1 ps1) (hg : GoneImpl.Laid w), _) := Lib.hid fun A0 n0 cap0 A1 n1 cap1 w hl0 hn0 hp0 hl1 hn1 hp1 hg => SuspImpl.suspects A0 n0 cap0 h A1 n1 cap1 o w ps0 hl0 hn0 hp0 ps1 hl1 hn1 hp1 hg
  rw [hlq] at QS QI
  obtain ⟨m, hm⟩ : ∃ m, l.length = m := ⟨_, rfl⟩
  have hmb : m ≤ 1048576 := by rw [← hm, ← hlq]; exact SuspMath.suspL_le ps0 h ps1 o (by omega)
  unfold GivesI at QS QI
  rw [hm] at QS QI
  have HS0 := Lib.hid fun w => LawStay.szStaySL A0 n0 cap0 (1048576) (by omega) (by omega) w
  simp only [show (n0 : Int) ≤ 1048576 by omega, if_true] at HS0
  have hs0_ : ¬ (1048576 - (n0 : Int) < 0) := by omega
  have HS1 := Lib.hid fun w => LawCheck.szCheckSL A1 n1 cap1 (1048576 - (n0 : Int)) (by omega) (by omega) w
  simp only [show (n1 : Int) ≤ 1048576 - (n0 : Int) by omega, if_true] at HS1
  have hs1_ : ¬ (1048576 - (n0 : Int) - (n1 : Int) < 0) := by omega
  have kq_ : ¬ (((1 + n0 * 4 + n1 * 3 : Nat) : Int) < 0) := by omega
  have kr_ : ¬ (((1 + m * 1 : Nat) : Int) < 0) := by omega
  clear hlq
  go_enter Tryd.func6, Tryd.ntmps6
  go_wp2_with fail
  have HO : ∀ W W' : World, (Tup4.TsAt W w.heap.size A0 ps0 ∧ TupIIB.TsAt W w.heap.size A1 ps1 ∧ w.heap.size ≤ W.heap.size ∧ Below w.heap.size w W) → Below W.heap.size W W' → (Tup4.TsAt W' w.heap.size A0 ps0 ∧ TupIIB.TsAt W' w.heap.size A1 ps1 ∧ w.heap.size ≤ W'.heap.size ∧ Below w.heap.size w W') := fun W W' ⟨x0, x1, x2, hb⟩ h => ⟨x0.later (h.mono hb.size), x1.later (h.mono hb.size), Nat.le_trans x2 h.size, hb.trans (h.mono hb.size)⟩
  have S0 : Tup4.TsAt w w.heap.size A0 ps0 ∧ TupIIB.TsAt w w.heap.size A1 ps1 ∧ w.heap.size ≤ w.heap.size ∧ Below w.heap.size w w := ⟨hp0, hp1, Nat.le_refl _, Below.refl _ _⟩
  clear hp0 hp1
  have HO2 : ∀ W W' : World, (Tup4.TsAt W w.heap.size A0 ps0 ∧ TupIIB.TsAt W w.heap.size A1 ps1 ∧ w.heap.size ≤ W.heap.size ∧ Below w.heap.size w W) → Below (w.heap.size) W W' → (Tup4.TsAt W' w.heap.size A0 ps0 ∧ TupIIB.TsAt W' w.heap.size A1 ps1 ∧ w.heap.size ≤ W'.heap.size ∧ Below w.heap.size w W') := fun W W' ⟨x0, x1, x2, hb⟩ h => ⟨x0.later (h.mono (by omega)), x1.later (h.mono (by omega)), Nat.le_trans x2 h.size, hb.trans (h.mono (by omega))⟩
  refine (HS0.out _).mono ?_
  rintro e w_ ⟨rfl, rfl⟩
  go_wp2_with fail
  refine (HS1.out _).mono ?_
  rintro e w_ ⟨rfl, rfl⟩
  go_wp2_with fail
  refine (LawStay.toStayS A0 ps0 n0 cap0 _ hl0 hn0 (S0.1.wide S0.2.2.2.size)).mono ?_
  rintro e w3 ⟨gs0, rfl, Rs0, es0_, ls0, hb_⟩
  replace S0 := HO _ _ S0 hb_
  clear hb_
  obtain ⟨_, _, _, _⟩ := id S0
  go_wp2_with fail
  refine (LawCheck.toCheckS A1 ps1 n1 cap1 _ hl1 hn1 (S0.2.1.wide S0.2.2.2.size)).mono ?_
  rintro e w4 ⟨gs1, rfl, Rs1, es1_, ls1, hb_⟩
  replace S0 := HO _ _ S0 hb_
  replace Rs0 := Rs0.later hb_
  clear hb_
  obtain ⟨_, _, _, _⟩ := id S0
  go_wp2_with fail
  refine (QS.out _ n0 n0 _ n1 n1 _ hl0 hn0 Rs0.ptsIn hl1 hn1 Rs1.ptsIn).mono ?_
  rintro e w5 ⟨A8, c8, rfl, O1, hb_⟩
  replace S0 := HO _ _ S0 hb_
  replace Rs0 := Rs0.later hb_
  replace Rs1 := Rs1.later hb_
  clear hb_
  obtain ⟨_, _, _, _⟩ := id S0
  go_wp2_with fail
  have zq_ : w.heap.size ≤ w5.heap.size := S0.2.2.1
  have ol1_ : ∀ k, (Value.slice A8 m c8).ownBlock = some k → k < w5.heap.size := fun k hk => (O1.lt k hk).2
  refine (LawStay.toStayS A0 ps0 n0 cap0 _ hl0 hn0 (S0.1.wide S0.2.2.2.size)).mono ?_
  rintro e w6 ⟨gx0, rfl, Rx0, ex0_, lx0, hb_⟩
  replace S0 := HO _ _ S0 hb_
  replace Rs0 := Rs0.later hb_
  replace Rs1 := Rs1.later hb_
  replace O1 := own_below O1 hb_
  clear hb_
  obtain ⟨_, _, _, _⟩ := id S0
  have zx_ : w.heap.size ≤ gx0 := Nat.le_trans zq_ ex0_
  replace ol1_ : ∀ k, (Value.slice A8 m c8).ownBlock = some k → k < gx0 := fun k hk => Nat.lt_of_lt_of_le (ol1_ k hk) ex0_
  clear zq_ ex0_
  go_wp2_with fail
  have rl_ := Blk.Holds.lt Rx0
  refine (LawCheck.toCheckS A1 ps1 n1 cap1 _ hl1 hn1 (S0.2.1.wide S0.2.2.2.size)).mono ?_
  rintro e w7 ⟨gx1, rfl, Rx1, ex1_, lx1, hb_⟩
  replace S0 := HO _ _ S0 hb_
  replace Rs0 := Rs0.later hb_
  replace Rs1 := Rs1.later hb_
  replace O1 := own_below O1 hb_
  replace Rx0 := Rx0.later hb_
  clear hb_
  obtain ⟨_, _, _, _⟩ := id S0
  have hx1_ : gx0 < gx1 := Nat.lt_of_lt_of_le rl_ ex1_
  clear ex1_ rl_
  go_wp2_with fail
  have rl_ := Blk.Holds.lt Rx1
  refine (QI.out _ n0 n0 _ n1 n1 _ hl0 hn0 Rx0.ptsIn hl1 hn1 Rx1.ptsIn (hg.later S0.2.2.2)).mono ?_
  rintro e w8 ⟨A9, c9, rfl, O2, hb_⟩
  replace S0 := HO _ _ S0 hb_
  replace Rs0 := Rs0.later hb_
  replace Rs1 := Rs1.later hb_
  replace O1 := own_below O1 hb_
  replace Rx0 := Rx0.later hb_
  replace Rx1 := Rx1.later hb_
  clear hb_
  obtain ⟨_, _, _, _⟩ := id S0
  have ol2_ : ∀ k, (Value.slice A9 m c9).ownBlock = some k → gx1 < k := fun k hk => Nat.lt_of_lt_of_le rl_ (O2.lt k hk).1
  go_wp2_with fail
  refine (eqIB _ _ _ m hmb _ _ l O2 O1).mono ?_
  rintro e w9 ⟨rfl, hb_⟩
  replace S0 := HO _ _ S0 hb_
  replace Rs0 := Rs0.later hb_
  replace Rs1 := Rs1.later hb_
  replace O1 := own_below O1 hb_
  replace Rx0 := Rx0.later hb_
  replace Rx1 := Rx1.later hb_
  replace O2 := own_below O2 hb_
  clear hb_
  obtain ⟨_, _, _, _⟩ := id S0
  go_wp2_with fail
  refine (LawStay.toStayS A0 ps0 n0 cap0 _ hl0 hn0 (S0.1.wide S0.2.2.2.size)).mono ?_
  rintro e w10 ⟨gy0, rfl, Ry0, ey0_, ly0, hb_⟩
  replace S0 := HO _ _ S0 hb_
  replace Rs0 := Rs0.later hb_
  replace Rs1 := Rs1.later hb_
  replace O1 := own_below O1 hb_
  replace Rx0 := Rx0.later hb_
  replace Rx1 := Rx1.later hb_
  replace O2 := own_below O2 hb_
  clear hb_
  obtain ⟨_, _, _, _⟩ := id S0
  go_wp2_with fail
  refine (LawStay.eqStayS_same _ _ ps0 n0 n0 n0 _ hl0 hn0 Rx0.ptsIn Ry0.ptsIn).mono ?_
  rintro e w11 ⟨rfl, hb_⟩
  replace S0 := HO _ _ S0 hb_
  replace Rs0 := Rs0.later hb_
  replace Rs1 := Rs1.later hb_
  replace O1 := own_below O1 hb_
  replace Rx0 := Rx0.later hb_
  replace Rx1 := Rx1.later hb_
  replace O2 := own_below O2 hb_
  replace Ry0 := Ry0.later hb_
  clear hb_
  obtain ⟨_, _, _, _⟩ := id S0
  go_wp2_with fail
  refine (LawCheck.toCheckS A1 ps1 n1 cap1 _ hl1 hn1 (S0.2.1.wide S0.2.2.2.size)).mono ?_
  rintro e w12 ⟨gy1, rfl, Ry1, ey1_, ly1, hb_⟩
  replace S0 := HO _ _ S0 hb_
  replace Rs0 := Rs0.later hb_
  replace Rs1 := Rs1.later hb_
  replace O1 := own_below O1 hb_
  replace Rx0 := Rx0.later hb_
  replace Rx1 := Rx1.later hb_
  replace O2 := own_below O2 hb_
  replace Ry0 := Ry0.later hb_
  clear hb_
  obtain ⟨_, _, _, _⟩ := id S0
  go_wp2_with fail
  refine (LawCheck.eqCheckS_same _ _ ps1 n1 n1 n1 _ hl1 hn1 Rx1.ptsIn Ry1.ptsIn).mono ?_
  rintro e w13 ⟨rfl, hb_⟩
  replace S0 := HO _ _ S0 hb_
  replace Rs0 := Rs0.later hb_
  replace Rs1 := Rs1.later hb_
  replace O1 := own_below O1 hb_
  replace Rx0 := Rx0.later hb_
  replace Rx1 := Rx1.later hb_
  replace O2 := own_below O2 hb_
  replace Ry0 := Ry0.later hb_
  replace Ry1 := Ry1.later hb_
  clear hb_
  obtain ⟨_, _, _, _⟩ := id S0
  go_wp2_with fail
  have OX0 := LawStay.own_of_row Rx0 hl0 hn0 (Nat.le_refl _)
  have OX1 := LawCheckM.own_of_row Rx1 hl1 hn1 (Nat.le_refl _)
  refine (LawStay.markStaySL _ gx0 n0 (1) hn0 (by omega) (by omega) _ _ OX0).mono ?_
  rintro e w14 ⟨rfl, _, hg_⟩
  have hbg_ : Below (w.heap.size) w13 w14 := (Below.refl _ _).grown hg_ S0.2.2.1 (fun k hk => by have e_ : some gx0 = some k := hk; injection e_ with e_; omega)
  replace S0 := HO2 _ _ S0 hbg_
  replace O1 := kept_ne (g := gx0) O1 hg_ (fun k hk => by have := ol1_ k hk; omega)
  replace O2 := kept_ne (g := gx0) O2 hg_ (fun k hk => by have := ol2_ k hk; omega)
  replace OX1 := kept_ne (g := gx0) OX1 hg_ (fun k hk => by have e_ : some gx1 = some k := hk; injection e_ with e_; omega)
  clear hbg_ hg_ OX0 Rs0 Rs1 Rx0 Rx1 Ry0 Ry1
  obtain ⟨_, _, _, _⟩ := id S0
  go_wp2_with fail
  refine (LawCheckM.markCheckSL _ gx1 n1 (1 + n0 * 4) hn1 (by omega) (by omega) _ _ OX1).mono ?_
  rintro e w15 ⟨rfl, _, hg_⟩
  have hbg_ : Below (w.heap.size) w14 w15 := (Below.refl _ _).grown hg_ S0.2.2.1 (fun k hk => by have e_ : some gx1 = some k := hk; injection e_ with e_; omega)
  replace S0 := HO2 _ _ S0 hbg_
  replace O1 := kept_ne (g := gx1) O1 hg_ (fun k hk => by have := ol1_ k hk; omega)
  replace O2 := kept_ne (g := gx1) O2 hg_ (fun k hk => by have := ol2_ k hk; omega)
  clear hbg_ hg_ OX1
  obtain ⟨_, _, _, _⟩ := id S0
  go_wp2_with fail
  refine (eqIB _ _ _ m hmb _ _ l O2 O1).mono ?_
  rintro e w16 ⟨rfl, hb_⟩
  replace S0 := HO _ _ S0 hb_
  replace O1 := own_below O1 hb_
  replace O2 := own_below O2 hb_
  clear hb_
  obtain ⟨_, _, _, _⟩ := id S0
  go_wp2_with fail
  refine (markI _ _ m 1 hmb (by omega) (by omega) _ _ O2).mono ?_
  rintro e w17 ⟨rfl, O3, hg_⟩
  have hbg_ : Below (w.heap.size) w16 w17 := (Below.refl _ _).grown hg_ S0.2.2.1 (fun k hk => by have := ol2_ k hk; omega)
  replace S0 := HO2 _ _ S0 hbg_
  replace O1 := kept_apart O1 hg_ (fun k j hk hj => by have := ol1_ k hk; have := ol2_ j hj; omega)
  clear hbg_ hg_ O2
  obtain ⟨_, _, _, _⟩ := id S0
  go_wp2_with fail
  refine (heldI _ _ m 1 hmb (by omega) (by omega) _ O3).mono ?_
  rintro e w18 ⟨rfl, hb_⟩
  replace S0 := HO _ _ S0 hb_
  replace O1 := own_below O1 hb_
  replace O3 := own_below O3 hb_
  clear hb_
  obtain ⟨_, _, _, _⟩ := id S0
  go_wp2_with fail
  refine (LawStay.toStayS A0 ps0 n0 cap0 _ hl0 hn0 (S0.1.wide S0.2.2.2.size)).mono ?_
  rintro e w19 ⟨gh0, rfl, Rh0, eh0_, lh0, hb_⟩
  replace S0 := HO _ _ S0 hb_
  replace O1 := own_below O1 hb_
  replace O3 := own_below O3 hb_
  clear hb_
  obtain ⟨_, _, _, _⟩ := id S0
  go_wp2_with fail
  refine (LawCheck.toCheckS A1 ps1 n1 cap1 _ hl1 hn1 (S0.2.1.wide S0.2.2.2.size)).mono ?_
  rintro e w20 ⟨gh1, rfl, Rh1, eh1_, lh1, hb_⟩
  replace S0 := HO _ _ S0 hb_
  replace O1 := own_below O1 hb_
  replace O3 := own_below O3 hb_
  replace Rh0 := Rh0.later hb_
  clear hb_
  obtain ⟨_, _, _, _⟩ := id S0
  go_wp2_with fail
  refine (QI.out _ n0 n0 _ n1 n1 _ hl0 hn0 Rh0.ptsIn hl1 hn1 Rh1.ptsIn (hg.later S0.2.2.2)).mono ?_
  rintro e w21 ⟨A10, c10, rfl, O4, hb_⟩
  replace S0 := HO _ _ S0 hb_
  replace O1 := own_below O1 hb_
  replace O3 := own_below O3 hb_
  replace Rh0 := Rh0.later hb_
  replace Rh1 := Rh1.later hb_
  clear hb_
  obtain ⟨_, _, _, _⟩ := id S0
  go_wp2_with fail
  refine (eqIB _ _ _ m hmb _ _ l O4 O1).mono ?_
  rintro e w22 ⟨rfl, hb_⟩
  replace S0 := HO _ _ S0 hb_
  replace O1 := own_below O1 hb_
  replace O3 := own_below O3 hb_
  replace Rh0 := Rh0.later hb_
  replace Rh1 := Rh1.later hb_
  replace O4 := own_below O4 hb_
  clear hb_
  obtain ⟨_, _, _, _⟩ := id S0
  go_wp2_with fail
  refine (heldI _ _ m 1 hmb (by omega) (by omega) _ O3).mono ?_
  rintro e w23 ⟨rfl, hb_⟩
  replace S0 := HO _ _ S0 hb_
  replace O1 := own_below O1 hb_
  replace O3 := own_below O3 hb_
  replace Rh0 := Rh0.later hb_
  replace Rh1 := Rh1.later hb_
  replace O4 := own_below O4 hb_
  clear hb_
  obtain ⟨_, _, _, _⟩ := id S0
  go_wp2_with fail
  go_ret
  exact ⟨rfl, S0.2.2.2⟩

theorem walk (w : World) (A0 : Option Addr) (n0 cap0 : Nat) (ps0 : List Tup4.Tu) (hm0 : n0 ≤ maxLen) (hl0 : ps0.length = n0) (hp0 : Tup4.TsAt w w.heap.size A0 ps0) (h : Int) (wh : (Lit.int .i64 h).wf = true) (A1 : Option Addr) (n1 cap1 : Nat) (ps1 : List TupIIB.Tu) (hm1 : n1 ≤ maxLen) (hl1 : ps1.length = n1) (hp1 : TupIIB.TsAt w w.heap.size A1 ps1) (o : Int) (wo : (Lit.int .i64 o).wf = true) (hg : GoneImpl.Laid w) :
    Calls Tryd.prog 6 #[.slice A0 n0 cap0, .int .i64 h, .slice A1 n1 cap1, .int .i64 o] w fun e w' => e = .returned (.bool true) ∧ Below w.heap.size w w' := by
  by_cases hs0 : n0 ≤ 1048576
  rotate_left
  · skip
    have HS0 := Lib.hid fun w => LawStay.szStaySL A0 n0 cap0 (1048576) (by unfold maxLen at hm0; omega) (by omega) w
    simp only [show ¬ (n0 : Int) ≤ 1048576 by omega, if_false] at HS0
    clear hl0 hp0 hm0 hl1 hp1 hm1
    go_enter Tryd.func6, Tryd.ntmps6
    go_wp2_with fail
    have HO : ∀ W W' : World, (Below w.heap.size w W) → Below W.heap.size W W' → (Below w.heap.size w W') := fun W W' hb h => hb.trans (h.mono hb.size)
    have S0 : Below w.heap.size w w := Below.refl _ _
    refine (HS0.out _).mono ?_
    rintro e w_ ⟨rfl, rfl⟩
    go_wp2_with fail
    go_ret
    exact ⟨rfl, S0⟩
  by_cases hs1 : n0 + n1 ≤ 1048576
  rotate_left
  · skip
    have HS0 := Lib.hid fun w => LawStay.szStaySL A0 n0 cap0 (1048576) (by unfold maxLen at hm0; omega) (by omega) w
    simp only [show (n0 : Int) ≤ 1048576 by omega, if_true] at HS0
    have hs0_ : ¬ (1048576 - (n0 : Int) < 0) := by omega
    have HS1 := Lib.hid fun w => LawCheck.szCheckSL A1 n1 cap1 (1048576 - (n0 : Int)) (by unfold maxLen at hm1; omega) (by omega) w
    simp only [show ¬ (n1 : Int) ≤ 1048576 - (n0 : Int) by omega, if_false] at HS1
    clear hl0 hp0 hm0 hl1 hp1 hm1
    go_enter Tryd.func6, Tryd.ntmps6
    go_wp2_with fail
    have HO : ∀ W W' : World, (Below w.heap.size w W) → Below W.heap.size W W' → (Below w.heap.size w W') := fun W W' hb h => hb.trans (h.mono hb.size)
    have S0 : Below w.heap.size w w := Below.refl _ _
    refine (HS0.out _).mono ?_
    rintro e w_ ⟨rfl, rfl⟩
    go_wp2_with fail
    refine (HS1.out _).mono ?_
    rintro e w_ ⟨rfl, rfl⟩
    go_wp2_with fail
    go_ret
    exact ⟨rfl, S0⟩
  exact small w A0 n0 cap0 ps0 (by omega) hl0 hp0 A1 n1 cap1 ps1 (by omega) hl1 hp1 h o (by omega) hg

set_option maxRecDepth 100000 in
theorem contract (H : Type) (enc : TypeId × Value → H) (W : World) (base : Nat) (args : Array Value) (ds gs : List (DataW H)) (before : List MemPlace)
    (hval : ∀ (j : Nat) t v, Tryd.f6.params[j]? = some t → args[j]? = some v → Value.okWide Tryd.prog W .any base t v)
    (hW : DataW.Whole enc Tryd.prog Tryd.f6.params.toList Rows.fnExactSuspectsSpec.vars false W args.toList ds gs before) (hL : laidMetH Tryd.prog listH W) :
    Calls Tryd.prog 6 args W fun e W' => ∃ v, e = .returned v ∧ Rows.fnExactSuspectsSpec.post enc Tryd.prog Tryd.f6 false true false false W args v W' := by
  have hW' := hW
  obtain ⟨p, q, hA0, hV, rfl, hfz, hnd⟩ := hW
  have hA : DataW.TrodAll enc Tryd.prog W 0 (fun _ => true) true Tryd.f6.params.toList args.toList ds p := hA0
  rw [Tryd.params6] at hA hval
  obtain ⟨v0, vs0, d0, ds0, p0, q0, hargs, rfl, rfl, h0, r0⟩ := trodAll_cons hA
  obtain ⟨v1, vs1, d1, ds1, p1, q1, rfl, rfl, rfl, h1, r1⟩ := trodAll_cons r0
  obtain ⟨v2, vs2, d2, ds2, p2, q2, rfl, rfl, rfl, h2, r2⟩ := trodAll_cons r1
  obtain ⟨v3, vs3, d3, ds3, p3, q3, rfl, rfl, rfl, h3, r3⟩ := trodAll_cons r2
  obtain ⟨rfl, rfl, rfl⟩ := trodAll_nil r3
  obtain rfl : args = #[v0, v1, v2, v3] := by cases args; simp_all
  obtain ⟨rfl, rfl⟩ := trodVars_none hV
  obtain ⟨a0, len0, cap0, rfl⟩ := okWide_slice Tryd.underlying34 (hval 0 34 v0 rfl rfl)
  have k0 := h0
  have lt0 : ∀ x ∈ p0, x.block < W.heap.size := by obtain ⟨m, hm⟩ := k0; exact DataW.trod_lt m _ _ _ hm
  obtain ⟨z0, w0, l0, r0p⟩ : ∃ ps : List Tup4.Tu, len0 ≤ maxLen ∧ ps.length = len0 ∧ Tup4.TsAt W W.heap.size a0 ps := by
    obtain ⟨fuel, hf⟩ := h0
    simp only [Value.cells] at hf
    obtain ⟨A_, n_, cp_, ps_, hu, h1, h2, h3⟩ := Tup4.open_many (k := 4) Tryd.underlying34 (te := 84) (by kernel_rfl) (by kernel_rfl) hf
    injection hu with e1 e2 e3
    subst e1 e2 e3
    exact ⟨ps_, h1, h2, h3⟩
  obtain ⟨a1, rfl, rfl, rfl, w1⟩ := open_int Tryd.underlying3 (hval 1 3 v1 rfl rfl) h1
  obtain ⟨a2, len2, cap2, rfl⟩ := okWide_slice Tryd.underlying22 (hval 2 22 v2 rfl rfl)
  have k2 := h2
  have lt2 : ∀ x ∈ p2, x.block < W.heap.size := by obtain ⟨m, hm⟩ := k2; exact DataW.trod_lt m _ _ _ hm
  obtain ⟨z2, w2, l2, r2p, s2p⟩ : ∃ ps : List TupIIB.Tu, len2 ≤ maxLen ∧ ps.length = len2 ∧ TupIIB.TsAt W W.heap.size a2 ps ∧ ∀ p ∈ ps, (Lit.int .i64 p.1).wf = true ∧ (Lit.int .i64 p.2.1).wf = true := by
    obtain ⟨fuel, hf⟩ := h2
    simp only [Value.cells] at hf
    obtain ⟨A_, n_, cp_, ps_, hu, h1, h2, h3, h4⟩ := TupIIB.open_many (k := 4) Tryd.underlying22 (te := 72) (show MixArg.leavesB Tryd.prog 4 72 = some [3, 3, 4] by kernel_rfl) Tryd.underlying3 Tryd.underlying3 Tryd.underlying4 (by kernel_rfl) hf
    injection hu with e1 e2 e3
    subst e1 e2 e3
    exact ⟨ps_, h1, h2, h3, h4⟩
  obtain ⟨a3, rfl, rfl, rfl, w3⟩ := open_int Tryd.underlying3 (hval 3 3 v3 rfl rfl) h3
  clear hA0
  refine (walk W a0 len0 cap0 z0 w0 l0 r0p a1 w1 a2 len2 cap2 z2 w2 l2 r2p a3 w3 (handle_of_met hL)).mono fun e W' ⟨he, hg⟩ => ?_
  subst he
  exact ⟨_, rfl, _, _, _, [], _, [], hW', (trodAll_cons_mk (shut_bool Tryd.underlying4 _) trodAll_mk0), (trodAll_cons_mk (Below.trod laidOut (by kernel_rfl) (of_decide_eq_true (by kernel_rfl)) k0 hg lt0) (trodAll_cons_mk (shut_int Tryd.underlying3 w1) (trodAll_cons_mk (Below.trod laidOut (by kernel_rfl) (of_decide_eq_true (by kernel_rfl)) k2 hg lt2) (trodAll_cons_mk (shut_int Tryd.underlying3 w3) trodAll_mk0)))), rfl, hg.frame _, fun h => by cases h⟩

theorem reads (os : Os) {H : Type} (enc : TypeId × Value → H) : ∃ places, DataW.whole enc Tryd.prog ((doorStart os).forCall (fun _ _ => 0) ⟨#[], #[Value.slice none 0 0, Value.int .i64 0, Value.slice none 0 0, Value.int .i64 0], []⟩).memory Tryd.f6.params.toList Rows.fnExactSuspectsSpec.vars false (#[Value.slice none 0 0, Value.int .i64 0, Value.slice none 0 0, Value.int .i64 0]).toList 8 = some ([.nil, .lit (.int .i64 0), .nil, .lit (.int .i64 0)], [], places) :=
  ⟨[], by kernel_rfl⟩

set_option maxRecDepth 100000 in
theorem lifted (os : Os) (started : os.Started) (H : Type) (enc : TypeId × Value → H) (F : Stop.Interp) :
    ReturnsInHanded {} Tryd.checked os 6 .any ((OpenSpec.ofChange Rows.fnExactSuspectsSpec).preRow enc Tryd.prog Tryd.f6 Rows.fnExactSuspectsRow.domain false Rows.fnExactSuspectsRow.laid) (((OpenSpec.ofChange Rows.fnExactSuspectsSpec).at F).post enc Tryd.prog Tryd.f6 false true false false) := by
  obtain ⟨places, hx⟩ := reads os enc
  refine returnsInHanded_of_row (C := Tryd.checked) (s := OpenSpec.ofChange Rows.fnExactSuspectsSpec) own started (by kernel_rfl) Tryd.func6
    (witness_row_atRef (enc := enc) (C := Tryd.checked) false (doorStart os) #[Value.slice none 0 0, Value.int .i64 0, Value.slice none 0 0, Value.int .i64 0] rfl (by kernel_rfl) (by kernel_rfl) (by kernel_rfl)
      (OpenSpec.preRow_of_cond 8 hx (by kernel_rfl) (fun k hk => by cases hk) (by kernel_rfl) (metH os _))) ?_
  intro W base args ds gs before hval hW _ _ _ hL _ _
  exact contract H enc W base args ds gs before hval hW hL

theorem said : Rows.FnExactSuspectsSaid :=
  OpenClaim.holds_of_cond 6 Tryd.f6 rfl rfl rfl rfl rfl rfl rfl ⟨rfl, rfl, rfl, rfl, rfl⟩ rfl rfl rfl rfl rfl (by kernel_rfl) Tryd.func6 (by kernel_rfl)
    (of_decide_eq_true (by kernel_rfl)) (by unfold Func.isWrapper; first | (rw [if_pos (by decide +kernel)]; kernel_rfl) | (rw [if_neg (by decide +kernel)]; exact ⟨rfl, rfl⟩))
    (fun os started H enc _ F => by rw [OpenClaim.pre_eq_preRow]; exact lifted os started H enc F)

theorem plain (f : FuncId) (fn : Func) (hf : Tryd.pinned.checked.prog.funcNamed "loop.example/g00991/laws.FnExactSuspects" = some f) (hfn : Tryd.pinned.checked.prog.funcs[f]? = some fn) :
    Rows.fnExactSuspectsCard.stood.looks = Tryd.pinned.checked.prog.looks [] ∧ ∀ (j : Nat) t, fn.params[j]? = some t → Tryd.pinned.checked.prog.wantsStandIn t = false := by
  obtain rfl : f = 6 := Option.some.inj ((show Tryd.prog.funcNamed "loop.example/g00991/laws.FnExactSuspects" = some 6 by kernel_rfl).symm.trans hf) |>.symm
  obtain rfl : fn = Tryd.f6 := (Option.some.inj (Tryd.func6.symm.trans hfn)).symm
  refine ⟨by kernel_rfl, fun j t ht => ?_⟩
  rw [Tryd.params6] at ht
  have hm : t ∈ [34, 3, 22, 3] := by simpa using Array.mem_of_getElem? ht
  have hall : ([34, 3, 22, 3].all fun u => !Tryd.prog.wantsStandIn u) = true := by kernel_rfl
  exact (show Tryd.prog.wantsStandIn t = false by simpa using List.all_eq_true.1 hall t hm)

/-- THE CARD -/
theorem card : Rows.FnExactSuspectsCardSaid :=
  Claim7.holds_tied_plain_at .later [] _ _ _ _ said (fun _ h => by cases h) (by kernel_rfl) (fun _ h => by cases h) fnExactSuspects_row_tie rfl ⟨rfl, rfl⟩ (by kernel_rfl) rfl plain (by kernel_rfl)
#print axioms card
end Go.Proofs.YtdcekbhfbkiflaaDoor.fnExactSuspects
