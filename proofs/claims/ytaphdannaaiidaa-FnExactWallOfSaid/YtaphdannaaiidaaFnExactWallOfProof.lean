/-
  For every room and number, the landed WallOf answers just as its model does: the law's call returns true, and the arguments read as they did. No condition.
-/
import Derived.Test.YtaphdannaaiidaaRows
import Derived.WalkKit
import Derived.ProofKit
import Derived.OpenShut
import Derived.ShutString
import Derived.Test.YtaphdannaaiidaaRoomArg
import Derived.Test.YtaphdannaaiidaaWallOfSpec
import Derived.Test.YtaphdannaaiidaaWallOfImpl
import Derived.Test.YtaphdannaaiidaaLawRoom
import Derived.Test.YtaphdannaaiidaaGround
namespace Go.Proofs.Ytaphdannaaiidaa.fnExactWallOf
open Go.ChangeShapes Go.WideShapes Go.ChangeAt Go.RowKit
open Go.ChangeMaps (open_string shut_string)
open PointMath RoomMath Pts Blk LawRoom PointOk
set_option linter.unusedVariables false

theorem own : ownKnob Try.prog.godebug = none := by kernel_rfl
theorem laidOut : laidOutB Try.prog = true := by kernel_rfl

theorem small (w : World) (A : Option Addr) (n cap : Nat) (ps : List (Int × Int)) (hn : n ≤ 1048576) (hl : ps.length = n) (hp : PtsAt w w.heap.size A ps) (k : Int) :
    Calls Try.prog 3 #[.agg #[.slice A n cap], .int .i64 k] w fun e w' => e = .returned (.bool true) ∧ Below w.heap.size w w' := by
  have QS : Hid (∀ (A : Option Addr) (n cap : Nat) (w : World) (hl : ps.length = n) (hn : n ≤ 1048576) (hp : PtsAt w w.heap.size A ps), _) := Lib.hid fun A n cap w hl hn hp => WallOfSpec.wallOf A n cap k w ps hl hn hp
  have QI : Hid (∀ (A : Option Addr) (n cap : Nat) (w : World) (hl : ps.length = n) (hn : n ≤ 1048576) (hp : PtsAt w w.heap.size A ps), _) := Lib.hid fun A n cap w hl hn hp => WallOfImpl.wallOf A n cap k w ps hl hn hp
  generalize (wallI ps k).1.1 = x at QS QI
  generalize (wallI ps k).1.2 = y at QS QI
  generalize (wallI ps k).2.1 = u at QS QI
  generalize (wallI ps k).2.2 = v at QS QI
  have HS := Lib.hid fun w => szRoom A n cap (by omega) w
  simp only [show (n : Int) ≤ 1048576 by omega, if_true] at HS
  go_enter Try.func3, Try.ntmps3
  go_wp2_with fail
  have X0 := Pts.boxR w (.slice A n cap) 24 (k := w.heap.size) (by simp)
  have b0 := PointOk.below1 w (Obj.cells #[.slice A n cap] 24)
  have HO : ∀ W W' : World, (Pts.BoxR W (w.heap.size) (.slice A n cap) ∧ PtsAt W w.heap.size A ps ∧ Below w.heap.size w W) → Below W.heap.size W W' → (Pts.BoxR W' (w.heap.size) (.slice A n cap) ∧ PtsAt W' w.heap.size A ps ∧ Below w.heap.size w W') := fun W W' ⟨h0, x0, hb⟩ h => ⟨h0.later h, x0.later (h.mono hb.size), hb.trans (h.mono hb.size)⟩
  have Y0 : PtsAt ((w.alloc (Obj.cells #[.slice A n cap] 24))) w.heap.size A ps := hp.later b0
  generalize (w.alloc (Obj.cells #[.slice A n cap] 24)) = w0 at X0 Y0 b0 ⊢
  have S0 := (⟨X0, Y0, b0⟩ : Pts.BoxR w0 (w.heap.size) (.slice A n cap) ∧ PtsAt w0 w.heap.size A ps ∧ Below w.heap.size w w0)
  clear X0 Y0 b0
  obtain ⟨⟨_, _⟩, _, _⟩ := id S0
  refine (HS.out _).mono ?_
  rintro e w1 ⟨rfl, hb_⟩
  replace S0 := HO _ _ S0 hb_
  clear hb_
  obtain ⟨⟨_, _⟩, _, _⟩ := id S0
  go_wp2_with fail
  refine (toRoom A ps n cap _ hl hn (S0.2.1.wide S0.2.2.size)).mono ?_
  rintro e w2 ⟨g1, rfl, R1, _, l1, hb_⟩
  replace S0 := HO _ _ S0 hb_
  clear hb_
  obtain ⟨⟨_, _⟩, _, _⟩ := id S0
  go_wp2_with fail
  refine (QS.out _ n n _ hl hn R1.ptsIn).mono ?_
  rintro e w3 ⟨rfl, hb_⟩
  replace S0 := HO _ _ S0 hb_
  replace R1 := R1.later hb_
  clear hb_
  obtain ⟨⟨_, _⟩, _, _⟩ := id S0
  have lt_0 := World.block_lt_of_cell? _ _ S0.1.1
  have hb_ := PointOk.below1 w3 (Obj.cells #[.int .i64 x, .int .i64 y, .int .i64 u, .int .i64 v] 29)
  have N0 := Blk.Holds.box w3 #[.int .i64 x, .int .i64 y, .int .i64 u, .int .i64 v] 29 rfl
  replace S0 := HO _ _ S0 hb_
  replace R1 := R1.later hb_
  clear hb_
  obtain ⟨⟨_, _⟩, _, _⟩ := id S0
  obtain ⟨⟨_, _, _, _⟩, _⟩ := N0.four
  go_wp2_with fail
  generalize w3.alloc (Obj.cells #[.int .i64 x, .int .i64 y, .int .i64 u, .int .i64 v] 29) = v3_N0 at *
  clear lt_0
  refine (toRoom A ps n cap _ hl hn (S0.2.1.wide S0.2.2.size)).mono ?_
  rintro e w4 ⟨g2, rfl, R2, _, l2, hb_⟩
  replace S0 := HO _ _ S0 hb_
  replace R1 := R1.later hb_
  replace N0 := N0.later hb_
  clear hb_
  obtain ⟨⟨_, _⟩, _, _⟩ := id S0
  obtain ⟨⟨_, _, _, _⟩, _⟩ := N0.four
  have lt_0 := World.block_lt_of_cell? _ _ S0.1.1
  have ltN0_ := N0.lt
  have hb_ := PointOk.below1 w4 (Obj.cells #[.slice (some ⟨g2, 0, none⟩) n n] 33)
  have N1 := Blk.Holds.box w4 #[.slice (some ⟨g2, 0, none⟩) n n] 33 rfl
  replace S0 := HO _ _ S0 hb_
  replace R1 := R1.later hb_
  replace N0 := N0.later hb_
  replace R2 := R2.later hb_
  clear hb_
  obtain ⟨⟨_, _⟩, _, _⟩ := id S0
  obtain ⟨⟨_, _, _, _⟩, _⟩ := N0.four
  obtain ⟨_, _⟩ := N1.one
  go_wp2_with fail
  generalize w4.alloc (Obj.cells #[.slice (some ⟨g2, 0, none⟩) n n] 33) = v4_N1 at *
  clear lt_0 ltN0_
  refine (QI.out _ n n _ hl hn R2.ptsIn).mono ?_
  rintro e w5 ⟨rfl, hb_⟩
  replace S0 := HO _ _ S0 hb_
  replace R1 := R1.later hb_
  replace N0 := N0.later hb_
  replace R2 := R2.later hb_
  replace N1 := N1.later hb_
  clear hb_
  obtain ⟨⟨_, _⟩, _, _⟩ := id S0
  obtain ⟨⟨_, _, _, _⟩, _⟩ := N0.four
  obtain ⟨_, _⟩ := N1.one
  have lt_0 := World.block_lt_of_cell? _ _ S0.1.1
  have ltN0_ := N0.lt
  have ltN1_ := N1.lt
  have hb_ := PointOk.below1 w5 (Obj.cells #[.int .i64 x, .int .i64 y, .int .i64 u, .int .i64 v] 29)
  have N2 := Blk.Holds.box w5 #[.int .i64 x, .int .i64 y, .int .i64 u, .int .i64 v] 29 rfl
  replace S0 := HO _ _ S0 hb_
  replace R1 := R1.later hb_
  replace N0 := N0.later hb_
  replace R2 := R2.later hb_
  replace N1 := N1.later hb_
  clear hb_
  obtain ⟨⟨_, _⟩, _, _⟩ := id S0
  obtain ⟨⟨_, _, _, _⟩, _⟩ := N0.four
  obtain ⟨_, _⟩ := N1.one
  obtain ⟨⟨_, _, _, _⟩, _⟩ := N2.four
  go_wp2_with fail
  generalize w5.alloc (Obj.cells #[.int .i64 x, .int .i64 y, .int .i64 u, .int .i64 v] 29) = v5_N2 at *
  clear lt_0 ltN0_ ltN1_
  refine (eqWall_same x y u v _).mono ?_
  rintro e w6 ⟨rfl, hb_⟩
  replace S0 := HO _ _ S0 hb_
  replace R1 := R1.later hb_
  replace N0 := N0.later hb_
  replace R2 := R2.later hb_
  replace N1 := N1.later hb_
  replace N2 := N2.later hb_
  clear hb_
  obtain ⟨⟨_, _⟩, _, _⟩ := id S0
  obtain ⟨⟨_, _, _, _⟩, _⟩ := N0.four
  obtain ⟨_, _⟩ := N1.one
  obtain ⟨⟨_, _, _, _⟩, _⟩ := N2.four
  go_wp2_with fail
  have S0_ := HO _ _ S0 ((Below.refl _ _).drew)
  have R1_0 := R1.later ((Below.refl _ _).drew)
  have N0_0 := N0.later ((Below.refl _ _).drew)
  have R2_0 := R2.later ((Below.refl _ _).drew)
  have N1_0 := N1.later ((Below.refl _ _).drew)
  have N2_0 := N2.later ((Below.refl _ _).drew)
  have HS0_ : w6.drew.cell? ⟨w4.heap.size, 0, none⟩ = some (.slice (some ⟨g2, 0, none⟩) n n) ∧ w6.drew.cell? ⟨w.heap.size, 0, none⟩ = some (.slice A n cap) := by obtain ⟨⟨_, _⟩, _, _⟩ := id S0_; obtain ⟨⟨_, _, _, _⟩, _⟩ := N0_0.four; obtain ⟨_, _⟩ := N1_0.one; obtain ⟨⟨_, _, _, _⟩, _⟩ := N2_0.four; exact ⟨by assumption, by assumption⟩
  go_region_held3 (fun W => W.cell? ⟨w4.heap.size, 0, none⟩ = some (.slice (some ⟨g2, 0, none⟩) n n) ∧ W.cell? ⟨w.heap.size, 0, none⟩ = some (.slice A n cap)) (first | exact HS0_ | assumption) (first | (go_at_call 17; refine (toRoom A ps n cap _ hl hn (S0_.2.1.wide S0_.2.2.size)).mono ?_; rintro e w7 ⟨g3, rfl, R3, _, _, hb0_⟩; have S1_ := HO _ _ S0_ hb0_; have R1_1 := R1_0.later hb0_; have N0_1 := N0_0.later hb0_; have R2_1 := R2_0.later hb0_; have N1_1 := N1_0.later hb0_; have N2_1 := N2_0.later hb0_; have R3_1 := R3; have HS1_ : w7.cell? ⟨w4.heap.size, 0, none⟩ = some (.slice (some ⟨g2, 0, none⟩) n n) ∧ w7.cell? ⟨w.heap.size, 0, none⟩ = some (.slice A n cap) := by obtain ⟨⟨_, _⟩, _, _⟩ := id S1_; obtain ⟨⟨_, _, _, _⟩, _⟩ := N0_1.four; obtain ⟨_, _⟩ := N1_1.one; obtain ⟨⟨_, _, _, _⟩, _⟩ := N2_1.four; exact ⟨by assumption, by assumption⟩) | (go_at_call 20; refine (eqRoom_same _ _ ps n n n _ hl hn R2_1.ptsIn R3_1.ptsIn).mono ?_; rintro e w8 ⟨rfl, hb1_⟩; have S2_ := HO _ _ S1_ hb1_; have R1_2 := R1_1.later hb1_; have N0_2 := N0_1.later hb1_; have R2_2 := R2_1.later hb1_; have N1_2 := N1_1.later hb1_; have N2_2 := N2_1.later hb1_; have R3_2 := R3_1.later hb1_; have HS2_ : w8.cell? ⟨w4.heap.size, 0, none⟩ = some (.slice (some ⟨g2, 0, none⟩) n n) ∧ w8.cell? ⟨w.heap.size, 0, none⟩ = some (.slice A n cap) := by obtain ⟨⟨_, _⟩, _, _⟩ := id S2_; obtain ⟨⟨_, _, _, _⟩, _⟩ := N0_2.four; obtain ⟨_, _⟩ := N1_2.one; obtain ⟨⟨_, _, _, _⟩, _⟩ := N2_2.four; exact ⟨by assumption, by assumption⟩))
  replace S0 := S2_
  have R1 := R1_2
  have N0 := N0_2
  have R2 := R2_2
  have N1 := N1_2
  have N2 := N2_2
  have R3 := R3_2
  obtain ⟨⟨_, _⟩, _, _⟩ := id S0
  obtain ⟨⟨_, _, _, _⟩, _⟩ := N0.four
  obtain ⟨_, _⟩ := N1.one
  obtain ⟨⟨_, _, _, _⟩, _⟩ := N2.four
  go_wp2_with fail
  go_ret
  exact ⟨rfl, S0.2.2⟩

theorem walk (w : World) (A : Option Addr) (n cap : Nat) (ps : List (Int × Int)) (hm : n ≤ maxLen) (hl : ps.length = n) (hp : PtsAt w w.heap.size A ps) (k : Int) (wk : (Lit.int .i64 k).wf = true) :
    Calls Try.prog 3 #[.agg #[.slice A n cap], .int .i64 k] w fun e w' => e = .returned (.bool true) ∧ Below w.heap.size w w' := by
  by_cases hn : n ≤ 1048576
  · exact small w A n cap ps hn hl hp k
  · have HS := Lib.hid fun w => szRoom A n cap (by unfold maxLen at hm; omega) w
    simp only [show ¬ (n : Int) ≤ 1048576 by omega, if_false] at HS
    clear hl hp hm
    go_enter Try.func3, Try.ntmps3
    go_wp2_with fail
    refine (HS.out _).mono ?_
    rintro e w1 ⟨rfl, hb⟩
    go_wp2_with fail
    go_ret
    exact ⟨rfl, (below1 w _).trans (hb.mono (below1 w _).size)⟩

set_option maxRecDepth 100000 in
theorem contract (H : Type) (enc : TypeId × Value → H) (W : World) (base : Nat) (args : Array Value) (ds gs : List (DataW H)) (before : List MemPlace)
    (hval : ∀ (j : Nat) t v, Try.f3.params[j]? = some t → args[j]? = some v → Value.okWide Try.prog W .any base t v)
    (hW : DataW.Whole enc Try.prog Try.f3.params.toList Rows.fnExactWallOfSpec.vars false W args.toList ds gs before) :
    Calls Try.prog 3 args W fun e W' => ∃ v, e = .returned v ∧ Rows.fnExactWallOfSpec.post enc Try.prog Try.f3 false true false false W args v W' := by
  have hW' := hW
  obtain ⟨p, q, hA0, hV, rfl, hfz, hnd⟩ := hW
  have hA : DataW.TrodAll enc Try.prog W 0 (fun _ => true) true Try.f3.params.toList args.toList ds p := hA0
  rw [Try.params3] at hA hval
  obtain ⟨v0, vs0, d0, ds0, p0, q0, hargs, rfl, rfl, h0, r0⟩ := trodAll_cons hA
  obtain ⟨v1, vs1, d1, ds1, p1, q1, rfl, rfl, rfl, h1, r1⟩ := trodAll_cons r0
  obtain ⟨rfl, rfl, rfl⟩ := trodAll_nil r1
  obtain rfl : args = #[v0, v1] := by cases args; simp_all
  obtain ⟨rfl, rfl⟩ := trodVars_none hV
  have sr0 : RoomArg.Shape Try.prog 24 22 38 3 _ _ _ := ⟨Try.underlying24, rfl, rfl, by kernel_rfl, by kernel_rfl, ⟨Try.underlying22, Try.underlying38, by kernel_rfl, rfl, rfl, rfl, rfl, Try.underlying3, by kernel_rfl⟩⟩
  have k0 := h0
  have lt0 : ∀ x ∈ p0, x.block < W.heap.size := by obtain ⟨m, hm⟩ := k0; exact DataW.trod_lt m _ _ _ hm
  obtain ⟨a0, len0, cap0, z0, rfl, w0, l0, r0p⟩ := RoomArg.open_room sr0 (hval 0 24 v0 rfl rfl) h0
  obtain ⟨a1, rfl, rfl, rfl, w1⟩ := open_int Try.underlying3 (hval 1 3 v1 rfl rfl) h1
  clear hA0
  refine (walk W a0 len0 cap0 z0 w0 l0 r0p a1 w1).mono fun e W' ⟨he, hg⟩ => ?_
  subst he
  exact ⟨_, rfl, _, _, _, [], _, [], hW', (trodAll_cons_mk (shut_bool Try.underlying4 _) trodAll_mk0), (trodAll_cons_mk (Below.trod laidOut (by kernel_rfl) (of_decide_eq_true (by kernel_rfl)) k0 hg lt0) (trodAll_cons_mk (shut_int Try.underlying3 w1) trodAll_mk0)), rfl, hg.frame _, fun h => by cases h⟩

set_option maxRecDepth 100000 in
theorem lifted (os : Os) (started : os.Started) (H : Type) (enc : TypeId × Value → H) :
    ReturnsInHanded {} Try.checked os 3 .any (Rows.fnExactWallOfSpec.pre6 enc Try.prog Try.f3 Rows.fnExactWallOfRow.domain false) (Rows.fnExactWallOfSpec.post enc Try.prog Try.f3 false true false false) := by
  refine returnsInHanded_of_change (C := Try.checked) own started (by kernel_rfl) Try.func3
    (ChangeSpec.witness6 (enc := enc) (C := Try.checked) false ⟨#[], #[Value.agg #[Value.slice none 0 0], Value.int .i64 0], []⟩ 8 (by kernel_rfl) (by kernel_rfl) (by kernel_rfl) (by kernel_rfl)) ?_
  intro W base args ds gs before hval hW hcnd _
  exact contract H enc W base args ds gs before hval hW

theorem proved : Rows.FnExactWallOfSaid :=
  OpenClaim.holds_of_wide 3 Try.f3 rfl rfl rfl rfl rfl rfl rfl ⟨rfl, rfl, rfl, rfl, rfl⟩ rfl rfl rfl rfl rfl (by kernel_rfl) Try.func3 (by kernel_rfl)
    (of_decide_eq_true (by kernel_rfl)) (by unfold Func.isWrapper; first | (rw [if_pos (by decide +kernel)]; kernel_rfl) | (rw [if_neg (by decide +kernel)]; exact ⟨rfl, rfl⟩))
    (fun os started H enc _ => lifted os started H enc)
#print axioms proved
end Go.Proofs.Ytaphdannaaiidaa.fnExactWallOf
