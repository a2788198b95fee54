/-
  For every room and point, the landed IsCorner answers just as its model does: the law's call returns true, and the arguments read as they did. No condition.
-/
import Derived.Test.YtofjpepppjlecaaRows
import Derived.WalkKit
import Derived.ProofKit
import Derived.OpenShut
import Derived.ShutString
import Derived.Lib.SmallJoins
import Derived.Test.YtofjpepppjlecaaRoomArg
import Derived.Test.YtofjpepppjlecaaRoomSpec
import Derived.Test.YtofjpepppjlecaaRoomImpl
import Derived.Test.YtofjpepppjlecaaLawRoom
import Derived.Test.YtofjpepppjlecaaGround
namespace Go.Proofs.Ytofjpepppjlecaa.fnExactIsCorner
open Go.ChangeShapes Go.WideShapes Go.ChangeAt Go.RowKit
open Go.ChangeMaps (open_string shut_string)
open PointMath RoomMath Pts Blk LawRoom PointOk
set_option linter.unusedVariables false

theorem own : ownKnob Try.prog.godebug = none := by kernel_rfl
theorem laidOut : laidOutB Try.prog = true := by kernel_rfl

theorem small (w : World) (A : Option Addr) (n cap : Nat) (ps : List (Int × Int)) (hn : n ≤ 1048576) (hl : ps.length = n) (hp : PtsAt w w.heap.size A ps) (x y : Int) :
    Calls Try.prog 5 #[.agg #[.slice A n cap], .agg #[.int .i64 x, .int .i64 y]] w fun e w' => e = .returned (.bool true) ∧ Below w.heap.size w w' := by
  obtain ⟨r, hr⟩ : ∃ r, findI ps x y = r := ⟨_, rfl⟩
  have QS : Hid (∀ (A : Option Addr) (n cap : Nat) (w : World) (hl : ps.length = n) (hn : n ≤ 1048576) (hp : PtsAt w w.heap.size A ps), _) := Lib.hid fun A n cap w hl hn hp => RoomSpec.isCorner A n cap x y w ps hl hn hp
  have QI : Hid (∀ (A : Option Addr) (n cap : Nat) (w : World) (hl : ps.length = n) (hn : n ≤ 1048576) (hp : PtsAt w w.heap.size A ps), _) := Lib.hid fun A n cap w hl hn hp => RoomImpl.isCorner A n cap x y w ps hl hn hp
  rw [hr] at QS QI
  have HS := Lib.hid fun w => szRoom A n cap (by omega) w
  simp only [show (n : Int) ≤ 1048576 by omega, if_true] at HS
  clear hr
  go_enter Try.func5, Try.ntmps5
  go_wp2_with fail
  have X0 := (Pts.boxR w (.slice A n cap) 24 (k := w.heap.size) (by simp)).alloc (Obj.cells #[.int .i64 x, .int .i64 y] 38)
  have X1 := PointOk.box1 (w.alloc (Obj.cells #[.slice A n cap] 24)) x y 38 (k := w.heap.size + 1) (by simp)
  have b0 := PointOk.below2 w (Obj.cells #[.slice A n cap] 24) (Obj.cells #[.int .i64 x, .int .i64 y] 38)
  have HO : ∀ W W' : World, (Pts.BoxR W (w.heap.size) (.slice A n cap) ∧ PointOk.Box W (w.heap.size + 1) x y ∧ PtsAt W w.heap.size A ps ∧ Below w.heap.size w W) → Below W.heap.size W W' → (Pts.BoxR W' (w.heap.size) (.slice A n cap) ∧ PointOk.Box W' (w.heap.size + 1) x y ∧ PtsAt W' w.heap.size A ps ∧ Below w.heap.size w W') := fun W W' ⟨h0, h1, x0, hb⟩ h => ⟨h0.later h, h1.later h, x0.later (h.mono hb.size), hb.trans (h.mono hb.size)⟩
  have Y0 : PtsAt (((w.alloc (Obj.cells #[.slice A n cap] 24)).alloc (Obj.cells #[.int .i64 x, .int .i64 y] 38))) w.heap.size A ps := hp.later b0
  generalize ((w.alloc (Obj.cells #[.slice A n cap] 24)).alloc (Obj.cells #[.int .i64 x, .int .i64 y] 38)) = w0 at X0 X1 Y0 b0 ⊢
  have S0 := (⟨X0, X1, Y0, b0⟩ : Pts.BoxR w0 (w.heap.size) (.slice A n cap) ∧ PointOk.Box w0 (w.heap.size + 1) x y ∧ PtsAt w0 w.heap.size A ps ∧ Below w.heap.size w w0)
  clear X0 X1 Y0 b0
  obtain ⟨⟨_, _⟩, ⟨_, _⟩, _, _⟩ := id S0
  refine (HS.out _).mono ?_
  rintro e w1 ⟨rfl, hb_⟩
  replace S0 := HO _ _ S0 hb_
  clear hb_
  obtain ⟨⟨_, _⟩, ⟨_, _⟩, _, _⟩ := id S0
  go_wp2_with fail
  have S0_ := HO _ _ S0 ((Below.refl _ _).drew)
  have HS0_ : w1.drew.cell? ⟨w.heap.size, 0, none⟩ = some (.slice A n cap) ∧ w1.drew.cell? ⟨w.heap.size + 1, 0, none⟩ = some (.int .i64 x) ∧ w1.drew.cell? ⟨w.heap.size + 1, 1, none⟩ = some (.int .i64 y) := by obtain ⟨⟨_, _⟩, ⟨_, _⟩, _, _⟩ := id S0_; exact ⟨by assumption, by assumption, by assumption⟩
  go_region_held3 (fun W => W.cell? ⟨w.heap.size, 0, none⟩ = some (.slice A n cap) ∧ W.cell? ⟨w.heap.size + 1, 0, none⟩ = some (.int .i64 x) ∧ W.cell? ⟨w.heap.size + 1, 1, none⟩ = some (.int .i64 y)) (first | exact HS0_ | assumption) (first | (go_at_call 17; refine (toRoom A ps n cap _ hl hn (S0_.2.2.1.wide S0_.2.2.2.size)).mono ?_; rintro e w2 ⟨g1, rfl, R1, _, _, hb0_⟩; have S1_ := HO _ _ S0_ hb0_; have R1_1 := R1; have HS1_ : w2.cell? ⟨w.heap.size, 0, none⟩ = some (.slice A n cap) ∧ w2.cell? ⟨w.heap.size + 1, 0, none⟩ = some (.int .i64 x) ∧ w2.cell? ⟨w.heap.size + 1, 1, none⟩ = some (.int .i64 y) := by obtain ⟨⟨_, _⟩, ⟨_, _⟩, _, _⟩ := id S1_; exact ⟨by assumption, by assumption, by assumption⟩) | (go_at_call 24; refine (LawPoint.toPoint x y _).mono ?_; rintro e w3 ⟨rfl, hb1_⟩; have S2_ := HO _ _ S1_ hb1_; have R1_2 := R1_1.later hb1_; have HS2_ : w3.cell? ⟨w.heap.size, 0, none⟩ = some (.slice A n cap) ∧ w3.cell? ⟨w.heap.size + 1, 0, none⟩ = some (.int .i64 x) ∧ w3.cell? ⟨w.heap.size + 1, 1, none⟩ = some (.int .i64 y) := by obtain ⟨⟨_, _⟩, ⟨_, _⟩, _, _⟩ := id S2_; exact ⟨by assumption, by assumption, by assumption⟩) | (go_at_call 23; refine (QS.out _ n n _ hl hn R1_2.ptsIn).mono ?_; rintro e w4 ⟨rfl, hb2_⟩; have S3_ := HO _ _ S2_ hb2_; have R1_3 := R1_2.later hb2_; have HS3_ : w4.cell? ⟨w.heap.size, 0, none⟩ = some (.slice A n cap) ∧ w4.cell? ⟨w.heap.size + 1, 0, none⟩ = some (.int .i64 x) ∧ w4.cell? ⟨w.heap.size + 1, 1, none⟩ = some (.int .i64 y) := by obtain ⟨⟨_, _⟩, ⟨_, _⟩, _, _⟩ := id S3_; exact ⟨by assumption, by assumption, by assumption⟩))
  replace S0 := S3_
  have R1 := R1_3
  obtain ⟨⟨_, _⟩, ⟨_, _⟩, _, _⟩ := id S0
  go_wp2_with fail
  refine (toRoom A ps n cap _ hl hn (S0.2.2.1.wide S0.2.2.2.size)).mono ?_
  rintro e w5 ⟨g2, rfl, R2, _, l2, hb_⟩
  replace S0 := HO _ _ S0 hb_
  replace R1 := R1.later hb_
  clear hb_
  obtain ⟨⟨_, _⟩, ⟨_, _⟩, _, _⟩ := id S0
  have lt_0 := World.block_lt_of_cell? _ _ S0.1.1
  have lt_1 := World.block_lt_of_cell? _ _ S0.2.1.1
  have hb_ := PointOk.below1 w5 (Obj.cells #[.slice (some ⟨g2, 0, none⟩) n n] 29)
  have N1 := Blk.Holds.box w5 #[.slice (some ⟨g2, 0, none⟩) n n] 29 rfl
  replace S0 := HO _ _ S0 hb_
  replace R1 := R1.later hb_
  replace R2 := R2.later hb_
  clear hb_
  obtain ⟨⟨_, _⟩, ⟨_, _⟩, _, _⟩ := id S0
  obtain ⟨_, _⟩ := N1.one
  go_wp2_with fail
  generalize w5.alloc (Obj.cells #[.slice (some ⟨g2, 0, none⟩) n n] 29) = v5_N1 at *
  clear lt_0 lt_1
  have S0_ := HO _ _ S0 ((Below.refl _ _).drew)
  have R1_0 := R1.later ((Below.refl _ _).drew)
  have R2_0 := R2.later ((Below.refl _ _).drew)
  have N1_0 := N1.later ((Below.refl _ _).drew)
  have HS0_ : v5_N1.drew.cell? ⟨w5.heap.size, 0, none⟩ = some (.slice (some ⟨g2, 0, none⟩) n n) ∧ v5_N1.drew.cell? ⟨w.heap.size + 1, 0, none⟩ = some (.int .i64 x) ∧ v5_N1.drew.cell? ⟨w.heap.size + 1, 1, none⟩ = some (.int .i64 y) := by obtain ⟨⟨_, _⟩, ⟨_, _⟩, _, _⟩ := id S0_; obtain ⟨_, _⟩ := N1_0.one; exact ⟨by assumption, by assumption, by assumption⟩
  go_region_held3 (fun W => W.cell? ⟨w5.heap.size, 0, none⟩ = some (.slice (some ⟨g2, 0, none⟩) n n) ∧ W.cell? ⟨w.heap.size + 1, 0, none⟩ = some (.int .i64 x) ∧ W.cell? ⟨w.heap.size + 1, 1, none⟩ = some (.int .i64 y)) (first | exact HS0_ | assumption) (first | (go_at_call 24; refine (LawPoint.toPoint x y _).mono ?_; rintro e w6 ⟨rfl, hb0_⟩; have S1_ := HO _ _ S0_ hb0_; have R1_1 := R1_0.later hb0_; have R2_1 := R2_0.later hb0_; have N1_1 := N1_0.later hb0_; have HS1_ : w6.cell? ⟨w5.heap.size, 0, none⟩ = some (.slice (some ⟨g2, 0, none⟩) n n) ∧ w6.cell? ⟨w.heap.size + 1, 0, none⟩ = some (.int .i64 x) ∧ w6.cell? ⟨w.heap.size + 1, 1, none⟩ = some (.int .i64 y) := by obtain ⟨⟨_, _⟩, ⟨_, _⟩, _, _⟩ := id S1_; obtain ⟨_, _⟩ := N1_1.one; exact ⟨by assumption, by assumption, by assumption⟩) | (go_at_call 25; refine (QI.out _ n n _ hl hn R2_1.ptsIn).mono ?_; rintro e w7 ⟨rfl, hb1_⟩; have S2_ := HO _ _ S1_ hb1_; have R1_2 := R1_1.later hb1_; have R2_2 := R2_1.later hb1_; have N1_2 := N1_1.later hb1_; have HS2_ : w7.cell? ⟨w5.heap.size, 0, none⟩ = some (.slice (some ⟨g2, 0, none⟩) n n) ∧ w7.cell? ⟨w.heap.size + 1, 0, none⟩ = some (.int .i64 x) ∧ w7.cell? ⟨w.heap.size + 1, 1, none⟩ = some (.int .i64 y) := by obtain ⟨⟨_, _⟩, ⟨_, _⟩, _, _⟩ := id S2_; obtain ⟨_, _⟩ := N1_2.one; exact ⟨by assumption, by assumption, by assumption⟩))
  replace S0 := S2_
  have R1 := R1_2
  have R2 := R2_2
  have N1 := N1_2
  obtain ⟨⟨_, _⟩, ⟨_, _⟩, _, _⟩ := id S0
  obtain ⟨_, _⟩ := N1.one
  go_wp2_with fail
  have S0_ := HO _ _ S0 ((Below.refl _ _).drew)
  have R1_0 := R1.later ((Below.refl _ _).drew)
  have R2_0 := R2.later ((Below.refl _ _).drew)
  have N1_0 := N1.later ((Below.refl _ _).drew)
  have HS0_ : w7.drew.cell? ⟨w5.heap.size, 0, none⟩ = some (.slice (some ⟨g2, 0, none⟩) n n) ∧ w7.drew.cell? ⟨w.heap.size, 0, none⟩ = some (.slice A n cap) := by obtain ⟨⟨_, _⟩, ⟨_, _⟩, _, _⟩ := id S0_; obtain ⟨_, _⟩ := N1_0.one; exact ⟨by assumption, by assumption⟩
  go_region_held3 (fun W => W.cell? ⟨w5.heap.size, 0, none⟩ = some (.slice (some ⟨g2, 0, none⟩) n n) ∧ W.cell? ⟨w.heap.size, 0, none⟩ = some (.slice A n cap)) (first | exact HS0_ | assumption) (first | (go_at_call 17; refine (toRoom A ps n cap _ hl hn (S0_.2.2.1.wide S0_.2.2.2.size)).mono ?_; rintro e w8 ⟨g3, rfl, R3, _, _, hb0_⟩; have S1_ := HO _ _ S0_ hb0_; have R1_1 := R1_0.later hb0_; have R2_1 := R2_0.later hb0_; have N1_1 := N1_0.later hb0_; have R3_1 := R3; have HS1_ : w8.cell? ⟨w5.heap.size, 0, none⟩ = some (.slice (some ⟨g2, 0, none⟩) n n) ∧ w8.cell? ⟨w.heap.size, 0, none⟩ = some (.slice A n cap) := by obtain ⟨⟨_, _⟩, ⟨_, _⟩, _, _⟩ := id S1_; obtain ⟨_, _⟩ := N1_1.one; exact ⟨by assumption, by assumption⟩) | (go_at_call 19; refine (eqRoom_same _ _ ps n n n _ hl hn R2_1.ptsIn R3_1.ptsIn).mono ?_; rintro e w9 ⟨rfl, hb1_⟩; have S2_ := HO _ _ S1_ hb1_; have R1_2 := R1_1.later hb1_; have R2_2 := R2_1.later hb1_; have N1_2 := N1_1.later hb1_; have R3_2 := R3_1.later hb1_; have HS2_ : w9.cell? ⟨w5.heap.size, 0, none⟩ = some (.slice (some ⟨g2, 0, none⟩) n n) ∧ w9.cell? ⟨w.heap.size, 0, none⟩ = some (.slice A n cap) := by obtain ⟨⟨_, _⟩, ⟨_, _⟩, _, _⟩ := id S2_; obtain ⟨_, _⟩ := N1_2.one; exact ⟨by assumption, by assumption⟩))
  replace S0 := S2_
  have R1 := R1_2
  have R2 := R2_2
  have N1 := N1_2
  have R3 := R3_2
  obtain ⟨⟨_, _⟩, ⟨_, _⟩, _, _⟩ := id S0
  obtain ⟨_, _⟩ := N1.one
  go_wp2_with fail
  go_ret
  exact ⟨rfl, S0.2.2.2⟩

theorem walk (w : World) (A : Option Addr) (n cap : Nat) (ps : List (Int × Int)) (hm : n ≤ maxLen) (hl : ps.length = n) (hp : PtsAt w w.heap.size A ps) (x y : Int) (wx : (Lit.int .i64 x).wf = true) (wy : (Lit.int .i64 y).wf = true) :
    Calls Try.prog 5 #[.agg #[.slice A n cap], .agg #[.int .i64 x, .int .i64 y]] w fun e w' => e = .returned (.bool true) ∧ Below w.heap.size w w' := by
  by_cases hn : n ≤ 1048576
  · exact small w A n cap ps hn hl hp x y
  · have HS := Lib.hid fun w => szRoom A n cap (by unfold maxLen at hm; omega) w
    simp only [show ¬ (n : Int) ≤ 1048576 by omega, if_false] at HS
    clear hl hp hm
    go_enter Try.func5, Try.ntmps5
    go_wp2_with fail
    refine (HS.out _).mono ?_
    rintro e w1 ⟨rfl, hb⟩
    go_wp2_with fail
    go_ret
    exact ⟨rfl, (below2 w _ _).trans (hb.mono (below2 w _ _).size)⟩

set_option maxRecDepth 100000 in
theorem contract (H : Type) (enc : TypeId × Value → H) (W : World) (base : Nat) (args : Array Value) (ds gs : List (DataW H)) (before : List MemPlace)
    (hval : ∀ (j : Nat) t v, Try.f5.params[j]? = some t → args[j]? = some v → Value.okWide Try.prog W .any base t v)
    (hW : DataW.Whole enc Try.prog Try.f5.params.toList Rows.fnExactIsCornerSpec.vars false W args.toList ds gs before) :
    Calls Try.prog 5 args W fun e W' => ∃ v, e = .returned v ∧ Rows.fnExactIsCornerSpec.post enc Try.prog Try.f5 false true false false W args v W' := by
  have hW' := hW
  obtain ⟨p, q, hA0, hV, rfl, hfz, hnd⟩ := hW
  have hA : DataW.TrodAll enc Try.prog W 0 (fun _ => true) true Try.f5.params.toList args.toList ds p := hA0
  rw [Try.params5] at hA hval
  obtain ⟨v0, vs0, d0, ds0, p0, q0, hargs, rfl, rfl, h0, r0⟩ := trodAll_cons hA
  obtain ⟨v1, vs1, d1, ds1, p1, q1, rfl, rfl, rfl, h1, r1⟩ := trodAll_cons r0
  obtain ⟨rfl, rfl, rfl⟩ := trodAll_nil r1
  obtain rfl : args = #[v0, v1] := by cases args; simp_all
  obtain ⟨rfl, rfl⟩ := trodVars_none hV
  have sr0 : RoomArg.Shape Try.prog 24 22 38 3 _ _ _ := ⟨Try.underlying24, rfl, rfl, by kernel_rfl, by kernel_rfl, ⟨Try.underlying22, Try.underlying38, by kernel_rfl, rfl, rfl, rfl, rfl, Try.underlying3, by kernel_rfl⟩⟩
  have k0 := h0
  have lt0 : ∀ x ∈ p0, x.block < W.heap.size := by obtain ⟨m, hm⟩ := k0; exact DataW.trod_lt m _ _ _ hm
  obtain ⟨a0, len0, cap0, z0, rfl, w0, l0, r0p⟩ := RoomArg.open_room sr0 (hval 0 24 v0 rfl rfl) h0
  have cp1 : Try.prog.cellsOf 38 = 2 := by kernel_rfl
  obtain ⟨c10, c11, y10, y11, m1, rfl, rfl, rfl, hy10, hy11⟩ := Go.Joins.open_agg2 Try.underlying38 (by kernel_rfl) cp1 (hval 1 38 v1 rfl rfl) h1
  obtain ⟨x1, e10, rfl, wx1⟩ := DataW.trod_int Try.underlying3 hy10
  obtain ⟨y1, e11, rfl, wy1⟩ := DataW.trod_int Try.underlying3 hy11
  simp at e10 e11
  subst e10 e11
  clear hA0
  refine (walk W a0 len0 cap0 z0 w0 l0 r0p x1 y1 wx1 wy1).mono fun e W' ⟨he, hg⟩ => ?_
  subst he
  exact ⟨_, rfl, _, _, _, [], _, [], hW', (trodAll_cons_mk (shut_bool Try.underlying4 _) trodAll_mk0), (trodAll_cons_mk (Below.trod laidOut (by kernel_rfl) (of_decide_eq_true (by kernel_rfl)) k0 hg lt0) (trodAll_cons_mk (Go.Joins.shut_agg2 (y0 := (.lit (.int .i64 x1), [])) (y1 := (.lit (.int .i64 y1), [])) Try.underlying38 (by kernel_rfl) cp1 ⟨1, by simp [DataW.trod, Try.underlying3, wx1]⟩ ⟨1, by simp [DataW.trod, Try.underlying3, wy1]⟩) trodAll_mk0)), rfl, hg.frame _, fun h => by cases h⟩

set_option maxRecDepth 100000 in
theorem lifted (os : Os) (started : os.Started) (H : Type) (enc : TypeId × Value → H) :
    ReturnsInHanded {} Try.checked os 5 .any (Rows.fnExactIsCornerSpec.pre6 enc Try.prog Try.f5 Rows.fnExactIsCornerRow.domain false) (Rows.fnExactIsCornerSpec.post enc Try.prog Try.f5 false true false false) := by
  refine returnsInHanded_of_change (C := Try.checked) own started (by kernel_rfl) Try.func5
    (ChangeSpec.witness6 (enc := enc) (C := Try.checked) false ⟨#[], #[Value.agg #[Value.slice none 0 0], Value.agg #[.int .i64 0, .int .i64 0]], []⟩ 8 (by kernel_rfl) (by kernel_rfl) (by kernel_rfl) (by kernel_rfl)) ?_
  intro W base args ds gs before hval hW hcnd _
  exact contract H enc W base args ds gs before hval hW

theorem proved : Rows.FnExactIsCornerSaid :=
  OpenClaim.holds_of_wide 5 Try.f5 rfl rfl rfl rfl rfl rfl rfl ⟨rfl, rfl, rfl, rfl, rfl⟩ rfl rfl rfl rfl rfl (by kernel_rfl) Try.func5 (by kernel_rfl)
    (of_decide_eq_true (by kernel_rfl)) (by unfold Func.isWrapper; first | (rw [if_pos (by decide +kernel)]; kernel_rfl) | (rw [if_neg (by decide +kernel)]; exact ⟨rfl, rfl⟩))
    (fun os started H enc _ => lifted os started H enc)
#print axioms proved
end Go.Proofs.Ytofjpepppjlecaa.fnExactIsCorner
