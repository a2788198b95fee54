/-
  For every argument, the landed RoomText answers just as its model does: the law's call returns true, and the arguments read as they did. The row lists the library's tables as the program's text lays them, and the card ties them.
-/
import Derived.Test.YtgelkpaiabhklaaDoorRowDoor
import Derived.Lib.SmallJoins
import Derived.ShutString
import Derived.Test.YtgelkpaiabhklaaDoorRoomArg
import Derived.Test.YtgelkpaiabhklaaDoorRoomTextSpec
import Derived.Test.YtgelkpaiabhklaaDoorRoomTextImpl
import Derived.Test.YtgelkpaiabhklaaDoorLawRoom
import Derived.Test.YtgelkpaiabhklaaDoorGround
namespace Go.Proofs.YtgelkpaiabhklaaDoor.fnExactRoomText
open Go.ChangeShapes Go.WideShapes Go.ChangeAt Go.RowKit RowDoor
open Go.ChangeMaps (open_string shut_string)
open PointMath RoomMath Pts Blk LawRoom PointOk
set_option linter.unusedVariables false


set_option maxRecDepth 100000 in
set_option maxHeartbeats 1600000 in
theorem small (w : World) (A0 : Option Addr) (n0 cap0 : Nat) (ps0 : List (Int × Int)) (hn0 : n0 ≤ 1048576) (hl0 : ps0.length = n0) (hp0 : PtsAt w w.heap.size A0 ps0) (htab : Lib.TabIs Tryd.prog w "internal/strconv.uint64pow10" .u64 Lib.pow10Tab) :
    Calls Tryd.prog 5 #[.agg #[.slice A0 n0 cap0]] w fun e w' => e = .returned (.bool true) ∧ Below w.heap.size w w' := by
  obtain ⟨r, hr⟩ : ∃ r, TextMath.roomText ps0 = r := ⟨_, rfl⟩
  have QS : Hid (∀ (A0 : Option Addr) (n0 cap0 : Nat) (w : World) (hl0 : ps0.length = n0) (hn0 : n0 ≤ 1048576) (hp0 : PtsAt w w.heap.size A0 ps0), _) := Lib.hid fun A0 n0 cap0 w hl0 hn0 hp0 => RoomTextSpec.roomText A0 n0 cap0 w ps0 hl0 hn0 hp0
  have QI : Hid (∀ (A0 : Option Addr) (n0 cap0 : Nat) (W : World) (hl0 : ps0.length = n0) (hn0 : n0 ≤ 1048576) (hp0 : PtsAt W W.heap.size A0 ps0) (hb : Below w.heap.size w W), _) := Lib.hid fun A0 n0 cap0 W hl0 hn0 hp0 hb => RoomTextImpl.roomText A0 n0 cap0 W ps0 hl0 hn0 hp0 (Go.Joins.tab_stays gPow htab hb (Nat.le_refl _))
  rw [hr] at QS QI
  have HS0 := Lib.hid fun w => szRoomL A0 n0 cap0 1048576 (by omega) (by omega) w
  simp only [show (n0 : Int) ≤ 1048576 by omega, if_true] at HS0
  clear hr
  go_enter Tryd.func5, Tryd.ntmps5
  go_wp2_with fail
  have X0 := Pts.boxR w (.slice A0 n0 cap0) 37 (k := w.heap.size) (by simp)
  have b0 := PointOk.below1 w (Obj.cells #[.slice A0 n0 cap0] 37)
  have HO : ∀ W W' : World, (Pts.BoxR W (w.heap.size) (.slice A0 n0 cap0) ∧ PtsAt W w.heap.size A0 ps0 ∧ Below w.heap.size w W) → Below W.heap.size W W' → (Pts.BoxR W' (w.heap.size) (.slice A0 n0 cap0) ∧ PtsAt W' w.heap.size A0 ps0 ∧ Below w.heap.size w W') := fun W W' ⟨h0, x0, hb⟩ h => ⟨h0.later h, x0.later (h.mono hb.size), hb.trans (h.mono hb.size)⟩
  have hz0_ : Hid (((w.alloc (Obj.cells #[.slice A0 n0 cap0] 37))).heap.size = w.heap.size + 1) := Lib.hid (by simp)
  have Y0 : PtsAt ((w.alloc (Obj.cells #[.slice A0 n0 cap0] 37))) w.heap.size A0 ps0 := hp0.later b0
  generalize (w.alloc (Obj.cells #[.slice A0 n0 cap0] 37)) = w0 at X0 Y0 b0 hz0_ ⊢
  have S0 := (⟨X0, Y0, b0⟩ : Pts.BoxR w0 (w.heap.size) (.slice A0 n0 cap0) ∧ PtsAt w0 w.heap.size A0 ps0 ∧ Below w.heap.size w w0)
  clear X0 Y0 b0
  obtain ⟨⟨_, _⟩, _, _⟩ := id S0
  refine (HS0.out _).mono ?_
  rintro e w1 ⟨rfl, hb_⟩
  replace S0 := HO _ _ S0 hb_
  clear hb_
  obtain ⟨⟨_, _⟩, _, _⟩ := id S0
  go_wp2_with fail
  refine (toRoom A0 ps0 n0 cap0 _ hl0 hn0 (S0.2.1.wide S0.2.2.size)).mono ?_
  rintro e w2 ⟨gs0, rfl, Rs0, es0_, ls0, hb_⟩
  replace S0 := HO _ _ S0 hb_
  clear hb_
  obtain ⟨⟨_, _⟩, _, _⟩ := id S0
  go_wp2_with fail
  refine (QS.out _ n0 n0 _ hl0 hn0 Rs0.ptsIn).mono ?_
  rintro e w3 ⟨rfl, hb_⟩
  replace S0 := HO _ _ S0 hb_
  replace Rs0 := Rs0.later hb_
  clear hb_
  obtain ⟨⟨_, _⟩, _, _⟩ := id S0
  go_wp2_with fail
  refine (toRoom A0 ps0 n0 cap0 _ hl0 hn0 (S0.2.1.wide S0.2.2.size)).mono ?_
  rintro e w4 ⟨gx0, rfl, Rx0, ex0_, lx0, hb_⟩
  replace S0 := HO _ _ S0 hb_
  replace Rs0 := Rs0.later hb_
  clear hb_
  obtain ⟨⟨_, _⟩, _, _⟩ := id S0
  have lt_0 := World.block_lt_of_cell? _ _ S0.1.1
  have hb_ := PointOk.below1 w4 (Obj.cells #[.slice (some ⟨gx0, 0, none⟩) n0 n0] 42)
  have N0 := Blk.Holds.box w4 #[.slice (some ⟨gx0, 0, none⟩) n0 n0] 42 rfl
  replace S0 := HO _ _ S0 hb_
  replace Rs0 := Rs0.later hb_
  replace Rx0 := Rx0.later hb_
  clear hb_
  obtain ⟨⟨_, _⟩, _, _⟩ := id S0
  obtain ⟨_, _⟩ := N0.one
  go_wp2_with fail
  generalize w4.alloc (Obj.cells #[.slice (some ⟨gx0, 0, none⟩) n0 n0] 42) = v4_N0 at *
  clear lt_0
  refine (QI.out _ n0 n0 _ hl0 hn0 Rx0.ptsIn S0.2.2).mono ?_
  rintro e w5 ⟨rfl, hb_⟩
  replace S0 := HO _ _ S0 hb_
  replace Rs0 := Rs0.later hb_
  replace Rx0 := Rx0.later hb_
  replace N0 := N0.later hb_
  clear hb_
  obtain ⟨⟨_, _⟩, _, _⟩ := id S0
  obtain ⟨_, _⟩ := N0.one
  go_wp2_with fail
  have S0_ := HO _ _ S0 ((Below.refl _ _).drew)
  have Rs0_0 := Rs0.later ((Below.refl _ _).drew)
  have Rx0_0 := Rx0.later ((Below.refl _ _).drew)
  have N0_0 := N0.later ((Below.refl _ _).drew)
  have HS0_ : w5.drew.cell? ⟨w4.heap.size, 0, none⟩ = some (.slice (some ⟨gx0, 0, none⟩) n0 n0) ∧ w5.drew.cell? ⟨w.heap.size, 0, none⟩ = some (.slice A0 n0 cap0) := (by obtain ⟨⟨_, _⟩, _, _⟩ := id S0_; obtain ⟨_, _⟩ := N0_0.one; exact ⟨by assumption, by assumption⟩)
  go_region_held3 (fun W => W.cell? ⟨w4.heap.size, 0, none⟩ = some (.slice (some ⟨gx0, 0, none⟩) n0 n0) ∧ W.cell? ⟨w.heap.size, 0, none⟩ = some (.slice A0 n0 cap0)) (first | exact HS0_ | assumption) (first | (go_at_call 14; refine (toRoom A0 ps0 n0 cap0 _ hl0 hn0 (S0_.2.1.wide S0_.2.2.size)).mono ?_; rintro e w6 ⟨gy0, rfl, Ry0, _, _, hb0_⟩; have S1_ := HO _ _ S0_ hb0_; have Rs0_1 := Rs0_0.later hb0_; have Rx0_1 := Rx0_0.later hb0_; have N0_1 := N0_0.later hb0_; have Ry0_1 := Ry0; have HS1_ : w6.cell? ⟨w4.heap.size, 0, none⟩ = some (.slice (some ⟨gx0, 0, none⟩) n0 n0) ∧ w6.cell? ⟨w.heap.size, 0, none⟩ = some (.slice A0 n0 cap0) := (by obtain ⟨⟨_, _⟩, _, _⟩ := id S1_; obtain ⟨_, _⟩ := N0_1.one; exact ⟨by assumption, by assumption⟩)) | (go_at_call 16; refine (eqRoom_same _ _ ps0 n0 n0 n0 _ hl0 hn0 Rx0_1.ptsIn Ry0_1.ptsIn).mono ?_; rintro e w7 ⟨rfl, hb1_⟩; have S2_ := HO _ _ S1_ hb1_; have Rs0_2 := Rs0_1.later hb1_; have Rx0_2 := Rx0_1.later hb1_; have N0_2 := N0_1.later hb1_; have Ry0_2 := Ry0_1.later hb1_; have HS2_ : w7.cell? ⟨w4.heap.size, 0, none⟩ = some (.slice (some ⟨gx0, 0, none⟩) n0 n0) ∧ w7.cell? ⟨w.heap.size, 0, none⟩ = some (.slice A0 n0 cap0) := (by obtain ⟨⟨_, _⟩, _, _⟩ := id S2_; obtain ⟨_, _⟩ := N0_2.one; exact ⟨by assumption, by assumption⟩)))
  replace S0 := S2_
  have Rs0 := Rs0_2
  have Rx0 := Rx0_2
  have N0 := N0_2
  have Ry0 := Ry0_2
  obtain ⟨⟨_, _⟩, _, _⟩ := id S0
  obtain ⟨_, _⟩ := N0.one
  go_wp2_with fail
  go_ret
  exact ⟨rfl, S0.2.2⟩

theorem walk (w : World) (A0 : Option Addr) (n0 cap0 : Nat) (ps0 : List (Int × Int)) (hm0 : n0 ≤ maxLen) (hl0 : ps0.length = n0) (hp0 : PtsAt w w.heap.size A0 ps0) (htab : Lib.TabIs Tryd.prog w "internal/strconv.uint64pow10" .u64 Lib.pow10Tab) :
    Calls Tryd.prog 5 #[.agg #[.slice A0 n0 cap0]] w fun e w' => e = .returned (.bool true) ∧ Below w.heap.size w w' := by
  by_cases hn : n0 ≤ 1048576
  · exact small w A0 n0 cap0 ps0 (by omega) hl0 hp0 htab
  · skip
    have HS0 := Lib.hid fun w => szRoomL A0 n0 cap0 (1048576) (by unfold maxLen at hm0; omega) (by omega) w
    simp only [show ¬ (n0 : Int) ≤ 1048576 by omega, if_false] at HS0
    clear hl0 hp0 hm0
    go_enter Tryd.func5, Tryd.ntmps5
    go_wp2_with fail
    have X0 := Pts.boxR w (.slice A0 n0 cap0) 37 (k := w.heap.size) (by simp)
    have b0 := PointOk.below1 w (Obj.cells #[.slice A0 n0 cap0] 37)
    have HO : ∀ W W' : World, (Pts.BoxR W (w.heap.size) (.slice A0 n0 cap0) ∧ Below w.heap.size w W) → Below W.heap.size W W' → (Pts.BoxR W' (w.heap.size) (.slice A0 n0 cap0) ∧ Below w.heap.size w W') := fun W W' ⟨h0, hb⟩ h => ⟨h0.later h, hb.trans (h.mono hb.size)⟩
    have hz0_ : Hid (((w.alloc (Obj.cells #[.slice A0 n0 cap0] 37))).heap.size = w.heap.size + 1) := Lib.hid (by simp)
    generalize (w.alloc (Obj.cells #[.slice A0 n0 cap0] 37)) = w0 at X0 b0 hz0_ ⊢
    have S0 := (⟨X0, b0⟩ : Pts.BoxR w0 (w.heap.size) (.slice A0 n0 cap0) ∧ Below w.heap.size w w0)
    clear X0 b0
    obtain ⟨⟨_, _⟩, _⟩ := id S0
    refine (HS0.out _).mono ?_
    rintro e w1 ⟨rfl, hb_⟩
    replace S0 := HO _ _ S0 hb_
    clear hb_
    obtain ⟨⟨_, _⟩, _⟩ := id S0
    go_wp2_with fail
    go_ret
    exact ⟨rfl, S0.2⟩

set_option maxRecDepth 100000 in
theorem contract (H : Type) (enc : TypeId × Value → H) (W : World) (base : Nat) (args : Array Value) (ds gs : List (DataW H)) (before : List MemPlace)
    (hval : ∀ (j : Nat) t v, Tryd.f5.params[j]? = some t → args[j]? = some v → Value.okWide Tryd.prog W .any base t v)
    (hW : DataW.Whole enc Tryd.prog Tryd.f5.params.toList Rows.fnExactRoomTextSpec.vars false W args.toList ds gs before) (hL : laidMet Tryd.prog list3 W) :
    Calls Tryd.prog 5 args W fun e W' => ∃ v, e = .returned v ∧ Rows.fnExactRoomTextSpec.post enc Tryd.prog Tryd.f5 false true false false W args v W' := by
  have hW' := hW
  obtain ⟨p, q, hA0, hV, rfl, hfz, hnd⟩ := hW
  have hA : DataW.TrodAll enc Tryd.prog W 0 (fun _ => true) true Tryd.f5.params.toList args.toList ds p := hA0
  rw [Tryd.params5] at hA hval
  obtain ⟨v0, vs0, d0, ds0, p0, q0, hargs, rfl, rfl, h0, r0⟩ := trodAll_cons hA
  obtain ⟨rfl, rfl, rfl⟩ := trodAll_nil r0
  obtain rfl : args = #[v0] := by cases args; simp_all
  obtain ⟨rfl, rfl⟩ := trodVars_none hV
  have sr0 : RoomArg.Shape Tryd.prog 37 35 73 3 _ _ _ := ⟨Tryd.underlying37, rfl, rfl, by kernel_rfl, by kernel_rfl, ⟨Tryd.underlying35, Tryd.underlying73, by kernel_rfl, rfl, rfl, rfl, rfl, Tryd.underlying3, by kernel_rfl⟩⟩
  have k0 := h0
  have lt0 : ∀ x ∈ p0, x.block < W.heap.size := by obtain ⟨m, hm⟩ := k0; exact DataW.trod_lt m _ _ _ hm
  obtain ⟨a0, len0, cap0, z0, rfl, w0, l0, r0p⟩ := RoomArg.open_room sr0 (hval 0 37 v0 rfl rfl) h0
  clear hA0
  refine (walk W a0 len0 cap0 z0 w0 l0 r0p (pow_of_met hL)).mono fun e W' ⟨he, hg⟩ => ?_
  subst he
  exact ⟨_, rfl, _, _, _, [], _, [], hW', (trodAll_cons_mk (shut_bool Tryd.underlying4 _) trodAll_mk0), (trodAll_cons_mk (Below.trod laidOut (by kernel_rfl) (of_decide_eq_true (by kernel_rfl)) k0 hg lt0) trodAll_mk0), rfl, hg.frame _, fun h => by cases h⟩

theorem reads (os : Os) {H : Type} (enc : TypeId × Value → H) : ∃ places, DataW.whole enc Tryd.prog ((doorStart os).forCall (fun _ _ => 0) ⟨#[], #[Value.agg #[Value.slice none 0 0]], []⟩).memory Tryd.f5.params.toList Rows.fnExactRoomTextSpec.vars false (#[Value.agg #[Value.slice none 0 0]]).toList 8 = some ([.agg [.nil]], [], places) :=
  ⟨[], by kernel_rfl⟩

set_option maxRecDepth 100000 in
theorem lifted (os : Os) (started : os.Started) (H : Type) (enc : TypeId × Value → H) (F : Stop.Interp) :
    ReturnsInHanded {} Tryd.checked os 5 .any ((OpenSpec.ofChange Rows.fnExactRoomTextSpec).preRow enc Tryd.prog Tryd.f5 Rows.fnExactRoomTextRow.domain false Rows.fnExactRoomTextRow.laid) (((OpenSpec.ofChange Rows.fnExactRoomTextSpec).at F).post enc Tryd.prog Tryd.f5 false true false false) := by
  obtain ⟨places, hx⟩ := reads os enc
  refine returnsInHanded_of_row (C := Tryd.checked) (s := OpenSpec.ofChange Rows.fnExactRoomTextSpec) own started (by kernel_rfl) Tryd.func5
    (witness_row_atRef (enc := enc) (C := Tryd.checked) false (doorStart os) #[Value.agg #[Value.slice none 0 0]] rfl (by kernel_rfl) (by kernel_rfl) (by kernel_rfl)
      (OpenSpec.preRow_of_cond 8 hx (by kernel_rfl) (fun k hk => by cases hk) (by kernel_rfl) (met3 os _))) ?_
  intro W base args ds gs before hval hW _ _ _ hL _ _
  exact contract H enc W base args ds gs before hval hW (by rw [MakeChecks.laidMetH_plain _ _ _ (by kernel_rfl)] at hL; exact hL)

theorem said : Rows.FnExactRoomTextSaid :=
  OpenClaim.holds_of_cond 5 Tryd.f5 rfl rfl rfl rfl rfl rfl rfl ⟨rfl, rfl, rfl, rfl, rfl⟩ rfl rfl rfl rfl rfl (by kernel_rfl) Tryd.func5 (by kernel_rfl)
    (of_decide_eq_true (by kernel_rfl)) (by unfold Func.isWrapper; first | (rw [if_pos (by decide +kernel)]; kernel_rfl) | (rw [if_neg (by decide +kernel)]; exact ⟨rfl, rfl⟩))
    (fun os started H enc _ F => by rw [OpenClaim.pre_eq_preRow]; exact lifted os started H enc F)

theorem plain (f : FuncId) (fn : Func) (hf : Tryd.pinned.checked.prog.funcNamed "loop.example/g00991/laws.FnExactRoomText" = some f) (hfn : Tryd.pinned.checked.prog.funcs[f]? = some fn) :
    Rows.fnExactRoomTextCard.stood.looks = Tryd.pinned.checked.prog.looks [] ∧ ∀ (j : Nat) t, fn.params[j]? = some t → Tryd.pinned.checked.prog.wantsStandIn t = false := by
  obtain rfl : f = 5 := Option.some.inj ((show Tryd.prog.funcNamed "loop.example/g00991/laws.FnExactRoomText" = some 5 by kernel_rfl).symm.trans hf) |>.symm
  obtain rfl : fn = Tryd.f5 := (Option.some.inj (Tryd.func5.symm.trans hfn)).symm
  refine ⟨by kernel_rfl, fun j t ht => ?_⟩
  rw [Tryd.params5] at ht
  have hm : t ∈ [37] := by simpa using Array.mem_of_getElem? ht
  have hall : ([37].all fun u => !Tryd.prog.wantsStandIn u) = true := by kernel_rfl
  exact (show Tryd.prog.wantsStandIn t = false by simpa using List.all_eq_true.1 hall t hm)

/-- THE CARD -/
theorem card : Rows.FnExactRoomTextCardSaid :=
  Claim7.holds_tied_plain_at .later [] _ _ _ _ said (fun _ h => by cases h) (by kernel_rfl) (fun _ h => by cases h) fnExactRoomText_row_tie rfl ⟨rfl, rfl⟩ (by kernel_rfl) rfl plain (by kernel_rfl)
#print axioms card
end Go.Proofs.YtgelkpaiabhklaaDoor.fnExactRoomText
