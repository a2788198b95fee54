/-
  For every room and number, the landed CornerAt answers just as its model does: the law's call returns true, and the arguments read as they did. No condition.
-/
import Derived.Test.YtofjpepppjlecaaRows
import Derived.WalkKit
import Derived.ProofKit
import Derived.OpenShut
import Derived.ShutString
import Derived.Test.YtofjpepppjlecaaRoomArg
import Derived.Test.YtofjpepppjlecaaRoomSpec
import Derived.Test.YtofjpepppjlecaaRoomImpl
import Derived.Test.YtofjpepppjlecaaLawRoom
import Derived.Test.YtofjpepppjlecaaGround
namespace Go.Proofs.Ytofjpepppjlecaa.fnExactCornerAt
open Go.ChangeShapes Go.WideShapes Go.ChangeAt Go.RowKit
open Go.ChangeMaps (open_string shut_string)
open PointMath RoomMath Pts Blk LawRoom PointOk
set_option linter.unusedVariables false

theorem own : ownKnob Try.prog.godebug = none := by kernel_rfl
theorem laidOut : laidOutB Try.prog = true := by kernel_rfl

theorem small (w : World) (A : Option Addr) (n cap : Nat) (ps : List (Int × Int)) (hn : n ≤ 1048576) (hl : ps.length = n) (hp : PtsAt w w.heap.size A ps) (k : Int) :
    Calls Try.prog 4 #[.agg #[.slice A n cap], .int .i64 k] w fun e w' => e = .returned (.bool true) ∧ Below w.heap.size w w' := by
  obtain ⟨x, y, hr⟩ : ∃ x y, cornerI ps k = (x, y) := ⟨_, _, rfl⟩
  have QS : Hid (∀ (A : Option Addr) (n cap : Nat) (w : World) (hl : ps.length = n) (hn : n ≤ 1048576) (hp : PtsAt w w.heap.size A ps), _) := Lib.hid fun A n cap w hl hn hp => RoomSpec.cornerAt A n cap k w ps hl hn hp
  have QI : Hid (∀ (A : Option Addr) (n cap : Nat) (w : World) (hl : ps.length = n) (hn : n ≤ 1048576) (hp : PtsAt w w.heap.size A ps), _) := Lib.hid fun A n cap w hl hn hp => RoomImpl.cornerAt A n cap k w ps hl hn hp
  rw [hr] at QS QI
  have HS := Lib.hid fun w => szRoom A n cap (by omega) w
  simp only [show (n : Int) ≤ 1048576 by omega, if_true] at HS
  clear hr
  go_enter Try.func4, Try.ntmps4
  go_wp2_with fail
  have X0 := Pts.boxR w (.slice A n cap) 24 (k := w.heap.size) (by simp)
  have b0 := PointOk.below1 w (Obj.cells #[.slice A n cap] 24)
  have HO : ∀ W W' : World, (Pts.BoxR W (w.heap.size) (.slice A n cap) ∧ PtsAt W w.heap.size A ps ∧ Below w.heap.size w W) → Below W.heap.size W W' → (Pts.BoxR W' (w.heap.size) (.slice A n cap) ∧ PtsAt W' w.heap.size A ps ∧ Below w.heap.size w W') := fun W W' ⟨h0, x0, hb⟩ h => ⟨h0.later h, x0.later (h.mono hb.size), hb.trans (h.mono hb.size)⟩
  have Y0 : PtsAt ((w.alloc (Obj.cells #[.slice A n cap] 24))) w.heap.size A ps := hp.later b0
  generalize (w.alloc (Obj.cells #[.slice A n cap] 24)) = w0 at X0 Y0 b0 ⊢
  have S0 := (⟨X0, Y0, b0⟩ : Pts.BoxR w0 (w.heap.size) (.slice A n cap) ∧ PtsAt w0 w.heap.size A ps ∧ Below w.heap.size w w0)
  clear X0 Y0 b0
  obtain ⟨⟨_, _⟩, _, _⟩ := id S0
  refine (HS.out _).mono ?_
  rintro e w1 ⟨rfl, hb_⟩
  replace S0 := HO _ _ S0 hb_
  clear hb_
  obtain ⟨⟨_, _⟩, _, _⟩ := id S0
  go_wp2_with fail
  refine (toRoom A ps n cap _ hl hn (S0.2.1.wide S0.2.2.size)).mono ?_
  rintro e w2 ⟨g1, rfl, R1, _, l1, hb_⟩
  replace S0 := HO _ _ S0 hb_
  clear hb_
  obtain ⟨⟨_, _⟩, _, _⟩ := id S0
  go_wp2_with fail
  refine (QS.out _ n n _ hl hn R1.ptsIn).mono ?_
  rintro e w3 ⟨rfl, hb_⟩
  replace S0 := HO _ _ S0 hb_
  replace R1 := R1.later hb_
  clear hb_
  obtain ⟨⟨_, _⟩, _, _⟩ := id S0
  have lt_0 := World.block_lt_of_cell? _ _ S0.1.1
  have hb_ := PointOk.below1 w3 (Obj.cells #[.int .i64 x, .int .i64 y] 34)
  have N0 := Blk.Holds.box w3 #[.int .i64 x, .int .i64 y] 34 rfl
  replace S0 := HO _ _ S0 hb_
  replace R1 := R1.later hb_
  clear hb_
  obtain ⟨⟨_, _⟩, _, _⟩ := id S0
  obtain ⟨⟨_, _⟩, _⟩ := N0.two
  go_wp2_with fail
  generalize w3.alloc (Obj.cells #[.int .i64 x, .int .i64 y] 34) = v3 at *
  clear lt_0
  refine (toRoom A ps n cap _ hl hn (S0.2.1.wide S0.2.2.size)).mono ?_
  rintro e w4 ⟨g2, rfl, R2, _, l2, hb_⟩
  replace S0 := HO _ _ S0 hb_
  replace R1 := R1.later hb_
  replace N0 := N0.later hb_
  clear hb_
  obtain ⟨⟨_, _⟩, _, _⟩ := id S0
  obtain ⟨⟨_, _⟩, _⟩ := N0.two
  have lt_0 := World.block_lt_of_cell? _ _ S0.1.1
  have ltN0_ := N0.lt
  have hb_ := PointOk.below1 w4 (Obj.cells #[.slice (some ⟨g2, 0, none⟩) n n] 29)
  have N1 := Blk.Holds.box w4 #[.slice (some ⟨g2, 0, none⟩) n n] 29 rfl
  replace S0 := HO _ _ S0 hb_
  replace R1 := R1.later hb_
  replace N0 := N0.later hb_
  replace R2 := R2.later hb_
  clear hb_
  obtain ⟨⟨_, _⟩, _, _⟩ := id S0
  obtain ⟨⟨_, _⟩, _⟩ := N0.two
  obtain ⟨_, _⟩ := N1.one
  go_wp2_with fail
  generalize w4.alloc (Obj.cells #[.slice (some ⟨g2, 0, none⟩) n n] 29) = v4 at *
  clear lt_0 ltN0_
  refine (QI.out _ n n _ hl hn R2.ptsIn).mono ?_
  rintro e w5 ⟨rfl, hb_⟩
  replace S0 := HO _ _ S0 hb_
  replace R1 := R1.later hb_
  replace N0 := N0.later hb_
  replace R2 := R2.later hb_
  replace N1 := N1.later hb_
  clear hb_
  obtain ⟨⟨_, _⟩, _, _⟩ := id S0
  obtain ⟨⟨_, _⟩, _⟩ := N0.two
  obtain ⟨_, _⟩ := N1.one
  have lt_0 := World.block_lt_of_cell? _ _ S0.1.1
  have ltN0_ := N0.lt
  have ltN1_ := N1.lt
  have hb_ := PointOk.below1 w5 (Obj.cells #[.int .i64 x, .int .i64 y] 34)
  have N2 := Blk.Holds.box w5 #[.int .i64 x, .int .i64 y] 34 rfl
  replace S0 := HO _ _ S0 hb_
  replace R1 := R1.later hb_
  replace N0 := N0.later hb_
  replace R2 := R2.later hb_
  replace N1 := N1.later hb_
  clear hb_
  obtain ⟨⟨_, _⟩, _, _⟩ := id S0
  obtain ⟨⟨_, _⟩, _⟩ := N0.two
  obtain ⟨_, _⟩ := N1.one
  obtain ⟨⟨_, _⟩, _⟩ := N2.two
  go_wp2_with fail
  generalize w5.alloc (Obj.cells #[.int .i64 x, .int .i64 y] 34) = v5 at *
  clear lt_0 ltN0_ ltN1_
  refine (eqPoint_same x y _).mono ?_
  rintro e w6 ⟨rfl, hb_⟩
  replace S0 := HO _ _ S0 hb_
  replace R1 := R1.later hb_
  replace N0 := N0.later hb_
  replace R2 := R2.later hb_
  replace N1 := N1.later hb_
  replace N2 := N2.later hb_
  clear hb_
  obtain ⟨⟨_, _⟩, _, _⟩ := id S0
  obtain ⟨⟨_, _⟩, _⟩ := N0.two
  obtain ⟨_, _⟩ := N1.one
  obtain ⟨⟨_, _⟩, _⟩ := N2.two
  go_wp2_with fail
  have SD := HO _ _ S0 ((Below.refl _ _).drew)
  have RD := R2.later ((Below.refl _ _).drew)
  have ND := N1.later ((Below.refl _ _).drew)
  have HS6 : w6.drew.cell? ⟨w4.heap.size, 0, none⟩ = some (.slice (some ⟨g2, 0, none⟩) n n) ∧ w6.drew.cell? ⟨w.heap.size, 0, none⟩ = some (.slice A n cap) := ⟨ND.one.1, SD.1.1⟩
  go_region_held3 (fun W => W.cell? ⟨w4.heap.size, 0, none⟩ = some (.slice (some ⟨g2, 0, none⟩) n n) ∧ W.cell? ⟨w.heap.size, 0, none⟩ = some (.slice A n cap)) (first | exact HS6 | assumption) (first | (go_at_call 17; refine (toRoom A ps n cap _ hl hn (SD.2.1.wide SD.2.2.size)).mono ?_; rintro e w7_ ⟨g3_, rfl, R3_, _, _, hb7⟩; have S7 := HO _ _ SD hb7; have RR := RD.later hb7; have N7 := ND.later hb7; have HS7 : w7_.cell? ⟨w4.heap.size, 0, none⟩ = some (.slice (some ⟨g2, 0, none⟩) n n) ∧ w7_.cell? ⟨w.heap.size, 0, none⟩ = some (.slice A n cap) := ⟨N7.one.1, S7.1.1⟩) | (go_at_call 19; refine (eqRoom_same _ _ ps n n n _ hl hn RR.ptsIn R3_.ptsIn).mono ?_; rintro e w8_ ⟨rfl, hb8⟩; have HS8 : w8_.cell? ⟨w4.heap.size, 0, none⟩ = some (.slice (some ⟨g2, 0, none⟩) n n) ∧ w8_.cell? ⟨w.heap.size, 0, none⟩ = some (.slice A n cap) := ⟨(N7.later hb8).one.1, (HO _ _ S7 hb8).1.1⟩))
  all_goals go_wp2_with fail
  all_goals go_ret
  all_goals exact ⟨rfl, S7.2.2.trans (hb8.mono S7.2.2.size)⟩

theorem walk (w : World) (A : Option Addr) (n cap : Nat) (ps : List (Int × Int)) (hm : n ≤ maxLen) (hl : ps.length = n) (hp : PtsAt w w.heap.size A ps) (k : Int) (wk : (Lit.int .i64 k).wf = true) :
    Calls Try.prog 4 #[.agg #[.slice A n cap], .int .i64 k] w fun e w' => e = .returned (.bool true) ∧ Below w.heap.size w w' := by
  by_cases hn : n ≤ 1048576
  · exact small w A n cap ps hn hl hp k
  · have HS := Lib.hid fun w => szRoom A n cap (by unfold maxLen at hm; omega) w
    simp only [show ¬ (n : Int) ≤ 1048576 by omega, if_false] at HS
    clear hl hp hm
    go_enter Try.func4, Try.ntmps4
    go_wp2_with fail
    refine (HS.out _).mono ?_
    rintro e w1 ⟨rfl, hb⟩
    go_wp2_with fail
    go_ret
    exact ⟨rfl, (below1 w _).trans (hb.mono (below1 w _).size)⟩

set_option maxRecDepth 100000 in
theorem contract (H : Type) (enc : TypeId × Value → H) (W : World) (base : Nat) (args : Array Value) (ds gs : List (DataW H)) (before : List MemPlace)
    (hval : ∀ (j : Nat) t v, Try.f4.params[j]? = some t → args[j]? = some v → Value.okWide Try.prog W .any base t v)
    (hW : DataW.Whole enc Try.prog Try.f4.params.toList Rows.fnExactCornerAtSpec.vars false W args.toList ds gs before) :
    Calls Try.prog 4 args W fun e W' => ∃ v, e = .returned v ∧ Rows.fnExactCornerAtSpec.post enc Try.prog Try.f4 false true false false W args v W' := by
  have hW' := hW
  obtain ⟨p, q, hA0, hV, rfl, hfz, hnd⟩ := hW
  have hA : DataW.TrodAll enc Try.prog W 0 (fun _ => true) true Try.f4.params.toList args.toList ds p := hA0
  rw [Try.params4] at hA hval
  obtain ⟨v0, vs0, d0, ds0, p0, q0, hargs, rfl, rfl, h0, r0⟩ := trodAll_cons hA
  obtain ⟨v1, vs1, d1, ds1, p1, q1, rfl, rfl, rfl, h1, r1⟩ := trodAll_cons r0
  obtain ⟨rfl, rfl, rfl⟩ := trodAll_nil r1
  obtain rfl : args = #[v0, v1] := by cases args; simp_all
  obtain ⟨rfl, rfl⟩ := trodVars_none hV
  have sr0 : RoomArg.Shape Try.prog 24 22 38 3 _ _ _ := ⟨Try.underlying24, rfl, rfl, by kernel_rfl, by kernel_rfl, ⟨Try.underlying22, Try.underlying38, by kernel_rfl, rfl, rfl, rfl, rfl, Try.underlying3, by kernel_rfl⟩⟩
  have k0 := h0
  have lt0 : ∀ x ∈ p0, x.block < W.heap.size := by obtain ⟨m, hm⟩ := k0; exact DataW.trod_lt m _ _ _ hm
  obtain ⟨a0, len0, cap0, z0, rfl, w0, l0, r0p⟩ := RoomArg.open_room sr0 (hval 0 24 v0 rfl rfl) h0
  obtain ⟨a1, rfl, rfl, rfl, w1⟩ := open_int Try.underlying3 (hval 1 3 v1 rfl rfl) h1
  clear hA0
  refine (walk W a0 len0 cap0 z0 w0 l0 r0p a1 w1).mono fun e W' ⟨he, hg⟩ => ?_
  subst he
  exact ⟨_, rfl, _, _, _, [], _, [], hW', (trodAll_cons_mk (shut_bool Try.underlying4 _) trodAll_mk0), (trodAll_cons_mk (Below.trod laidOut (by kernel_rfl) (of_decide_eq_true (by kernel_rfl)) k0 hg lt0) (trodAll_cons_mk (shut_int Try.underlying3 w1) trodAll_mk0)), rfl, hg.frame _, fun h => by cases h⟩

set_option maxRecDepth 100000 in
theorem lifted (os : Os) (started : os.Started) (H : Type) (enc : TypeId × Value → H) :
    ReturnsInHanded {} Try.checked os 4 .any (Rows.fnExactCornerAtSpec.pre6 enc Try.prog Try.f4 Rows.fnExactCornerAtRow.domain false) (Rows.fnExactCornerAtSpec.post enc Try.prog Try.f4 false true false false) := by
  refine returnsInHanded_of_change (C := Try.checked) own started (by kernel_rfl) Try.func4
    (ChangeSpec.witness6 (enc := enc) (C := Try.checked) false ⟨#[], #[Value.agg #[Value.slice none 0 0], Value.int .i64 0], []⟩ 8 (by kernel_rfl) (by kernel_rfl) (by kernel_rfl) (by kernel_rfl)) ?_
  intro W base args ds gs before hval hW hcnd _
  exact contract H enc W base args ds gs before hval hW

theorem proved : Rows.FnExactCornerAtSaid :=
  OpenClaim.holds_of_wide 4 Try.f4 rfl rfl rfl rfl rfl rfl rfl ⟨rfl, rfl, rfl, rfl, rfl⟩ rfl rfl rfl rfl rfl (by kernel_rfl) Try.func4 (by kernel_rfl)
    (of_decide_eq_true (by kernel_rfl)) (by unfold Func.isWrapper; first | (rw [if_pos (by decide +kernel)]; kernel_rfl) | (rw [if_neg (by decide +kernel)]; exact ⟨rfl, rfl⟩))
    (fun os started H enc _ => lifted os started H enc)
#print axioms proved
end Go.Proofs.Ytofjpepppjlecaa.fnExactCornerAt
