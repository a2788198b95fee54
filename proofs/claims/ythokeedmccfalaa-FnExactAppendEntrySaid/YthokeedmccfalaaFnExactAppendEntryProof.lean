/-
  For every argument, the landed AppendEntry answers just as its model does, in memory that it shares with nothing: the law's call returns true, and the arguments read as they did. No condition.
-/
import Derived.Test.YthokeedmccfalaaRows
import Derived.WalkKit
import Derived.ProofKit
import Derived.OpenShut
import Derived.ShutString
import Derived.Test.YthokeedmccfalaaTupISI
import Derived.Test.YthokeedmccfalaaApeSpec
import Derived.Test.YthokeedmccfalaaApeImpl
import Derived.Test.YthokeedmccfalaaSizeEntry
import Derived.Test.YthokeedmccfalaaLawInt
import Derived.Test.YthokeedmccfalaaLawRoom
import Derived.Test.YthokeedmccfalaaGround
import Derived.Test.YthokeedmccfalaaLawEntry
import Derived.Test.YthokeedmccfalaaLawEntryM
namespace Go.Proofs.Ythokeedmccfalaa.fnExactAppendEntry
open Go.ChangeShapes Go.WideShapes Go.ChangeAt Go.RowKit
open Go.ChangeMaps (open_string shut_string)
open PointMath RoomMath Pts Blk LawRoom PointOk Own LawInt
set_option linter.unusedVariables false

theorem own : ownKnob Try.prog.godebug = none := by kernel_rfl
theorem laidOut : laidOutB Try.prog = true := by kernel_rfl

set_option maxRecDepth 100000 in
set_option maxHeartbeats 6400000 in
theorem small (w : World) (A0 : Option Addr) (n0 cap0 : Nat) (ps0 : List TupISI.Tu) (hn0 : n0 ≤ 1048576) (hl0 : ps0.length = n0) (hp0 : TupISI.TsAt w w.heap.size A0 ps0) (hq0 : ∀ p ∈ ps0, (Lit.int .i64 p.1).wf = true ∧ p.2.1.size ≤ maxLen ∧ (Lit.int .i64 p.2.2).wf = true) (ht0 : EntryMath.total ps0 ≤ 1048576) (a1 : Int) (a2 : ByteArray) (hz2 : a2.size ≤ 1048576) :
    Calls Try.prog 3 #[.slice A0 n0 cap0, .int .i64 a1, .string a2] w fun e w' => e = .returned (.bool true) ∧ Below w.heap.size w w' := by
  obtain ⟨l, hlq⟩ : ∃ l, ApeMath.apeL ps0 a1 a2 = l := ⟨_, rfl⟩
  have hz3 : ¬ (1048576 : Int) < (a2.size : Int) := by omega
  have htz0_ : ¬ (1048576 - (EntryMath.total ps0 : Int) < 0) := by omega
  obtain ⟨o, ho⟩ : ∃ o, ApeMath.okE ps0 a1 a2 = o := ⟨_, rfl⟩
  have QS : Hid (∀ (A0 : Option Addr) (n0 : Nat) (w : World) (hl0 : ps0.length = n0) (hn0 : n0 ≤ 1048576) (hp0 : TupISI.TsAt w w.heap.size A0 ps0), _) := Lib.hid fun A0 n0 w hl0 hn0 hp0 => ApeSpec.appendEntry A0 n0 n0 a1 a2 w ps0 hl0 hn0 hp0 (Nat.le_refl _)
  have QI : Hid (∀ (A0 : Option Addr) (n0 : Nat) (w : World) (hl0 : ps0.length = n0) (hn0 : n0 ≤ 1048576) (hp0 : TupISI.TsAt w w.heap.size A0 ps0), _) := Lib.hid fun A0 n0 w hl0 hn0 hp0 => ApeImpl.appendEntry A0 n0 n0 a1 a2 w ps0 hl0 hn0 hp0 (Nat.le_refl _)
  rw [hlq, ho] at QS QI
  obtain ⟨m, hm⟩ : ∃ m, l.length = m := ⟨_, rfl⟩
  have hmb : m ≤ 1048576 := by rw [← hm, ← hlq]; exact ApeMath.ape_le _ _ _ (by omega)
  unfold ApeMath.GivesA at QS QI
  rw [hm] at QS QI
  have HS0 := Lib.hid (fun w hp => SizeEntry.szEntrySL A0 n0 cap0 (1048576) (by omega) (by omega) w ps0 hl0 hp hq0)
  simp only [show (EntryMath.total ps0 : Int) ≤ 1048576 by omega, if_true] at HS0
  have kq_ : ¬ (((1 + n0 * 3 : Nat) : Int) < 0) := by omega
  have kr_ : ¬ (((1 + m * 3 : Nat) : Int) < 0) := by omega
  clear hlq ho
  go_enter Try.func3, Try.ntmps3
  go_wp2_with fail
  have HO : ∀ W W' : World, (TupISI.TsAt W w.heap.size A0 ps0 ∧ w.heap.size ≤ W.heap.size ∧ Below w.heap.size w W) → Below W.heap.size W W' → (TupISI.TsAt W' w.heap.size A0 ps0 ∧ w.heap.size ≤ W'.heap.size ∧ Below w.heap.size w W') := fun W W' ⟨x0, x1, hb⟩ h => ⟨x0.later (h.mono hb.size), Nat.le_trans x1 h.size, hb.trans (h.mono hb.size)⟩
  have S0 : TupISI.TsAt w w.heap.size A0 ps0 ∧ w.heap.size ≤ w.heap.size ∧ Below w.heap.size w w := ⟨hp0, Nat.le_refl _, Below.refl _ _⟩
  clear hp0
  have HO2 : ∀ W W' : World, (TupISI.TsAt W w.heap.size A0 ps0 ∧ w.heap.size ≤ W.heap.size ∧ Below w.heap.size w W) → Below (w.heap.size) W W' → (TupISI.TsAt W' w.heap.size A0 ps0 ∧ w.heap.size ≤ W'.heap.size ∧ Below w.heap.size w W') := fun W W' ⟨x0, x1, hb⟩ h => ⟨x0.later (h.mono (by omega)), Nat.le_trans x1 h.size, hb.trans (h.mono (by omega))⟩
  refine (HS0.out _ (S0.1.wide S0.2.2.size)).mono ?_
  rintro e w1 ⟨rfl, hb_⟩
  replace S0 := HO _ _ S0 hb_
  clear hb_
  obtain ⟨_, _, _⟩ := id S0
  go_wp2_with fail
  refine (LawEntry.toEntryS A0 ps0 n0 cap0 _ hl0 hn0 (S0.1.wide S0.2.2.size)).mono ?_
  rintro e w2 ⟨gs0, rfl, Rs0, es0_, ls0, hb_⟩
  replace S0 := HO _ _ S0 hb_
  clear hb_
  obtain ⟨_, _, _⟩ := id S0
  go_wp2_with fail
  refine (QS.out _ n0 _ hl0 hn0 Rs0.ptsIn).mono ?_
  rintro e w3 ⟨A8, c8, rfl, O1, hb_⟩
  replace S0 := HO _ _ S0 hb_
  replace Rs0 := Rs0.later hb_
  clear hb_
  obtain ⟨_, _, _⟩ := id S0
  go_wp2_with fail
  have zq_ : w.heap.size ≤ w3.heap.size := S0.2.1
  have ol1_ : ∀ k, (Value.slice A8 m c8).ownBlock = some k → k < w3.heap.size := fun k hk => (O1.lt k hk).2
  refine (LawEntry.toEntryS A0 ps0 n0 cap0 _ hl0 hn0 (S0.1.wide S0.2.2.size)).mono ?_
  rintro e w4 ⟨gx0, rfl, Rx0, ex0_, lx0, hb_⟩
  replace S0 := HO _ _ S0 hb_
  replace Rs0 := Rs0.later hb_
  replace O1 := own_below O1 hb_
  clear hb_
  obtain ⟨_, _, _⟩ := id S0
  have zx_ : w.heap.size ≤ gx0 := Nat.le_trans zq_ ex0_
  replace ol1_ : ∀ k, (Value.slice A8 m c8).ownBlock = some k → k < gx0 := fun k hk => Nat.lt_of_lt_of_le (ol1_ k hk) ex0_
  clear zq_ ex0_
  go_wp2_with fail
  have rl_ := Blk.Holds.lt Rx0
  refine (QI.out _ n0 _ hl0 hn0 Rx0.ptsIn).mono ?_
  rintro e w5 ⟨A9, c9, rfl, O2, hb_⟩
  replace S0 := HO _ _ S0 hb_
  replace Rs0 := Rs0.later hb_
  replace O1 := own_below O1 hb_
  replace Rx0 := Rx0.later hb_
  clear hb_
  obtain ⟨_, _, _⟩ := id S0
  have ol2_ : ∀ k, (Value.slice A9 m c9).ownBlock = some k → gx0 < k := fun k hk => Nat.lt_of_lt_of_le rl_ (O2.lt k hk).1
  go_wp2_with fail
  refine (LawEntryM.eqE _ _ _ m hmb _ _ l O2 O1).mono ?_
  rintro e w6 ⟨rfl, hb_⟩
  replace S0 := HO _ _ S0 hb_
  replace Rs0 := Rs0.later hb_
  replace O1 := own_below O1 hb_
  replace Rx0 := Rx0.later hb_
  replace O2 := own_below O2 hb_
  clear hb_
  obtain ⟨_, _, _⟩ := id S0
  go_wp2_with fail
  refine (LawEntry.toEntryS A0 ps0 n0 cap0 _ hl0 hn0 (S0.1.wide S0.2.2.size)).mono ?_
  rintro e w7 ⟨gy0, rfl, Ry0, ey0_, ly0, hb_⟩
  replace S0 := HO _ _ S0 hb_
  replace Rs0 := Rs0.later hb_
  replace O1 := own_below O1 hb_
  replace Rx0 := Rx0.later hb_
  replace O2 := own_below O2 hb_
  clear hb_
  obtain ⟨_, _, _⟩ := id S0
  go_wp2_with fail
  refine (LawEntry.eqEntryS_same _ _ ps0 n0 n0 n0 _ hl0 hn0 Rx0.ptsIn Ry0.ptsIn).mono ?_
  rintro e w8 ⟨rfl, hb_⟩
  replace S0 := HO _ _ S0 hb_
  replace Rs0 := Rs0.later hb_
  replace O1 := own_below O1 hb_
  replace Rx0 := Rx0.later hb_
  replace O2 := own_below O2 hb_
  replace Ry0 := Ry0.later hb_
  clear hb_
  obtain ⟨_, _, _⟩ := id S0
  go_wp2_with fail
  have OX0 := LawEntryM.own_of_row Rx0 hl0 hn0 (Nat.le_refl _)
  refine (LawEntryM.markEntrySL _ gx0 n0 (1) hn0 (by omega) (by omega) _ _ OX0).mono ?_
  rintro e w9 ⟨rfl, _, hg_⟩
  have hbg_ : Below (w.heap.size) w8 w9 := (Below.refl _ _).grown hg_ S0.2.1 (fun k hk => by have e_ : some gx0 = some k := hk; injection e_ with e_; omega)
  replace S0 := HO2 _ _ S0 hbg_
  replace O1 := kept_ne (g := gx0) O1 hg_ (fun k hk => by have := ol1_ k hk; omega)
  replace O2 := kept_ne (g := gx0) O2 hg_ (fun k hk => by have := ol2_ k hk; omega)
  clear hbg_ hg_ OX0 Rs0 Rx0 Ry0
  obtain ⟨_, _, _⟩ := id S0
  go_wp2_with fail
  refine (LawEntryM.eqE _ _ _ m hmb _ _ l O2 O1).mono ?_
  rintro e w10 ⟨rfl, hb_⟩
  replace S0 := HO _ _ S0 hb_
  replace O1 := own_below O1 hb_
  replace O2 := own_below O2 hb_
  clear hb_
  obtain ⟨_, _, _⟩ := id S0
  go_wp2_with fail
  refine (LawEntryM.markEntrySL _ _ m 1 hmb (by omega) (by omega) _ _ O2).mono ?_
  rintro e w11 ⟨rfl, O3, hg_⟩
  have hbg_ : Below (w.heap.size) w10 w11 := (Below.refl _ _).grown hg_ S0.2.1 (fun k hk => by have := ol2_ k hk; omega)
  replace S0 := HO2 _ _ S0 hbg_
  replace O1 := kept_apart O1 hg_ (fun k j hk hj => by have := ol1_ k hk; have := ol2_ j hj; omega)
  clear hbg_ hg_ O2
  obtain ⟨_, _, _⟩ := id S0
  go_wp2_with fail
  refine (LawEntryM.heldE _ _ m 1 hmb (by omega) (by omega) _ O3).mono ?_
  rintro e w12 ⟨rfl, hb_⟩
  replace S0 := HO _ _ S0 hb_
  replace O1 := own_below O1 hb_
  replace O3 := own_below O3 hb_
  clear hb_
  obtain ⟨_, _, _⟩ := id S0
  go_wp2_with fail
  refine (LawEntry.toEntryS A0 ps0 n0 cap0 _ hl0 hn0 (S0.1.wide S0.2.2.size)).mono ?_
  rintro e w13 ⟨gh0, rfl, Rh0, eh0_, lh0, hb_⟩
  replace S0 := HO _ _ S0 hb_
  replace O1 := own_below O1 hb_
  replace O3 := own_below O3 hb_
  clear hb_
  obtain ⟨_, _, _⟩ := id S0
  go_wp2_with fail
  refine (QI.out _ n0 _ hl0 hn0 Rh0.ptsIn).mono ?_
  rintro e w14 ⟨A10, c10, rfl, O4, hb_⟩
  replace S0 := HO _ _ S0 hb_
  replace O1 := own_below O1 hb_
  replace O3 := own_below O3 hb_
  replace Rh0 := Rh0.later hb_
  clear hb_
  obtain ⟨_, _, _⟩ := id S0
  go_wp2_with fail
  refine (LawEntryM.eqE _ _ _ m hmb _ _ l O4 O1).mono ?_
  rintro e w15 ⟨rfl, hb_⟩
  replace S0 := HO _ _ S0 hb_
  replace O1 := own_below O1 hb_
  replace O3 := own_below O3 hb_
  replace Rh0 := Rh0.later hb_
  replace O4 := own_below O4 hb_
  clear hb_
  obtain ⟨_, _, _⟩ := id S0
  go_wp2_with fail
  refine (LawEntryM.heldE _ _ m 1 hmb (by omega) (by omega) _ O3).mono ?_
  rintro e w16 ⟨rfl, hb_⟩
  replace S0 := HO _ _ S0 hb_
  replace O1 := own_below O1 hb_
  replace O3 := own_below O3 hb_
  replace Rh0 := Rh0.later hb_
  replace O4 := own_below O4 hb_
  clear hb_
  obtain ⟨_, _, _⟩ := id S0
  go_wp2_with fail
  go_ret
  exact ⟨rfl, S0.2.2⟩

theorem walk (w : World) (A0 : Option Addr) (n0 cap0 : Nat) (ps0 : List TupISI.Tu) (hm0 : n0 ≤ maxLen) (hl0 : ps0.length = n0) (hp0 : TupISI.TsAt w w.heap.size A0 ps0) (hq0 : ∀ p ∈ ps0, (Lit.int .i64 p.1).wf = true ∧ p.2.1.size ≤ maxLen ∧ (Lit.int .i64 p.2.2).wf = true) (a1 : Int) (wa1 : (Lit.int .i64 a1).wf = true) (a2 : ByteArray) (wa2 : a2.size ≤ maxLen) :
    Calls Try.prog 3 #[.slice A0 n0 cap0, .int .i64 a1, .string a2] w fun e w' => e = .returned (.bool true) ∧ Below w.heap.size w w' := by
  have hx0 := EntryMath.le_total hl0
  by_cases h2 : 1048576 < a2.size
  · have h3 : (1048576 : Int) < (a2.size : Int) := by omega
    clear hl0 hp0 hm0 hq0 hx0 wa1 wa2
    go_enter Try.func3, Try.ntmps3
    go_wp2_with fail
    go_ret
    exact ⟨rfl, Below.refl _ _⟩
  by_cases hn : EntryMath.total ps0 ≤ 1048576
  · exact small w A0 n0 cap0 ps0 (by omega) hl0 hp0 hq0 hn a1 a2 (by omega)
  · skip
    have hz3 : ¬ (1048576 : Int) < (a2.size : Int) := by omega
    have HS0 := Lib.hid (fun w hp => SizeEntry.szEntrySL A0 n0 cap0 (1048576) (by unfold maxLen at hm0; omega) (by omega) w ps0 hl0 hp hq0)
    simp only [show ¬ (EntryMath.total ps0 : Int) ≤ 1048576 by omega, if_false] at HS0
    clear hl0 hm0 hx0 hn hq0 wa1 wa2
    go_enter Try.func3, Try.ntmps3
    go_wp2_with fail
    have HO : ∀ W W' : World, (TupISI.TsAt W w.heap.size A0 ps0 ∧ Below w.heap.size w W) → Below W.heap.size W W' → (TupISI.TsAt W' w.heap.size A0 ps0 ∧ Below w.heap.size w W') := fun W W' ⟨x0, hb⟩ h => ⟨x0.later (h.mono hb.size), hb.trans (h.mono hb.size)⟩
    have S0 : TupISI.TsAt w w.heap.size A0 ps0 ∧ Below w.heap.size w w := ⟨hp0, Below.refl _ _⟩
    clear hp0
    refine (HS0.out _ (S0.1.wide S0.2.size)).mono ?_
    rintro e w1 ⟨rfl, hb_⟩
    replace S0 := HO _ _ S0 hb_
    clear hb_
    obtain ⟨_, _⟩ := id S0
    go_wp2_with fail
    go_ret
    exact ⟨rfl, S0.2⟩

set_option maxRecDepth 100000 in
theorem contract (H : Type) (enc : TypeId × Value → H) (W : World) (base : Nat) (args : Array Value) (ds gs : List (DataW H)) (before : List MemPlace)
    (hval : ∀ (j : Nat) t v, Try.f3.params[j]? = some t → args[j]? = some v → Value.okWide Try.prog W .any base t v)
    (hW : DataW.Whole enc Try.prog Try.f3.params.toList Rows.fnExactAppendEntrySpec.vars false W args.toList ds gs before) :
    Calls Try.prog 3 args W fun e W' => ∃ v, e = .returned v ∧ Rows.fnExactAppendEntrySpec.post enc Try.prog Try.f3 false true false false W args v W' := by
  have hW' := hW
  obtain ⟨p, q, hA0, hV, rfl, hfz, hnd⟩ := hW
  have hA : DataW.TrodAll enc Try.prog W 0 (fun _ => true) true Try.f3.params.toList args.toList ds p := hA0
  rw [Try.params3] at hA hval
  obtain ⟨v0, vs0, d0, ds0, p0, q0, hargs, rfl, rfl, h0, r0⟩ := trodAll_cons hA
  obtain ⟨v1, vs1, d1, ds1, p1, q1, rfl, rfl, rfl, h1, r1⟩ := trodAll_cons r0
  obtain ⟨v2, vs2, d2, ds2, p2, q2, rfl, rfl, rfl, h2, r2⟩ := trodAll_cons r1
  obtain ⟨rfl, rfl, rfl⟩ := trodAll_nil r2
  obtain rfl : args = #[v0, v1, v2] := by cases args; simp_all
  obtain ⟨rfl, rfl⟩ := trodVars_none hV
  obtain ⟨a0, len0, cap0, rfl⟩ := okWide_slice Try.underlying22 (hval 0 22 v0 rfl rfl)
  have k0 := h0
  have lt0 : ∀ x ∈ p0, x.block < W.heap.size := by obtain ⟨m, hm⟩ := k0; exact DataW.trod_lt m _ _ _ hm
  obtain ⟨z0, w0, l0, r0p, s0p⟩ : ∃ ps : List TupISI.Tu, len0 ≤ maxLen ∧ ps.length = len0 ∧ TupISI.TsAt W W.heap.size a0 ps ∧ ∀ p ∈ ps, (Lit.int .i64 p.1).wf = true ∧ p.2.1.size ≤ maxLen ∧ (Lit.int .i64 p.2.2).wf = true := by
    obtain ⟨fuel, hf⟩ := h0
    simp only [Value.cells] at hf
    obtain ⟨A_, n_, cp_, ps_, hu, h1, h2, h3, h4⟩ := TupISI.open_many (k := 4) Try.underlying22 (te := 85) (show MixArg.leavesB Try.prog 4 85 = some [3, 9, 3] by kernel_rfl) Try.underlying3 Try.underlying9 Try.underlying3 (by kernel_rfl) hf
    injection hu with e1 e2 e3
    subst e1 e2 e3
    exact ⟨ps_, h1, h2, h3, h4⟩
  obtain ⟨a1, rfl, rfl, rfl, w1⟩ := open_int Try.underlying3 (hval 1 3 v1 rfl rfl) h1
  obtain ⟨a2, rfl, rfl, rfl, w2⟩ := open_string Try.underlying9 (hval 2 9 v2 rfl rfl) h2
  clear hA0
  refine (walk W a0 len0 cap0 z0 w0 l0 r0p s0p a1 w1 a2 w2).mono fun e W' ⟨he, hg⟩ => ?_
  subst he
  exact ⟨_, rfl, _, _, _, [], _, [], hW', (trodAll_cons_mk (shut_bool Try.underlying4 _) trodAll_mk0), (trodAll_cons_mk (Below.trod laidOut (by kernel_rfl) (of_decide_eq_true (by kernel_rfl)) k0 hg lt0) (trodAll_cons_mk (shut_int Try.underlying3 w1) (trodAll_cons_mk (shut_string Try.underlying9 w2) trodAll_mk0))), rfl, hg.frame _, fun h => by cases h⟩

set_option maxRecDepth 100000 in
theorem lifted (os : Os) (started : os.Started) (H : Type) (enc : TypeId × Value → H) :
    ReturnsInHanded {} Try.checked os 3 .any (Rows.fnExactAppendEntrySpec.pre6 enc Try.prog Try.f3 Rows.fnExactAppendEntryRow.domain false) (Rows.fnExactAppendEntrySpec.post enc Try.prog Try.f3 false true false false) := by
  refine returnsInHanded_of_change (C := Try.checked) own started (by kernel_rfl) Try.func3
    (ChangeSpec.witness6 (enc := enc) (C := Try.checked) false ⟨#[], #[Value.slice none 0 0, Value.int .i64 0, Value.string ByteArray.empty], []⟩ 8 (by kernel_rfl) (by kernel_rfl) (by kernel_rfl) (by kernel_rfl)) ?_
  intro W base args ds gs before hval hW hcnd _
  exact contract H enc W base args ds gs before hval hW

theorem proved : Rows.FnExactAppendEntrySaid :=
  OpenClaim.holds_of_wide 3 Try.f3 rfl rfl rfl rfl rfl rfl rfl ⟨rfl, rfl, rfl, rfl, rfl⟩ rfl rfl rfl rfl rfl (by kernel_rfl) Try.func3 (by kernel_rfl)
    (of_decide_eq_true (by kernel_rfl)) (by unfold Func.isWrapper; first | (rw [if_pos (by decide +kernel)]; kernel_rfl) | (rw [if_neg (by decide +kernel)]; exact ⟨rfl, rfl⟩))
    (fun os started H enc _ => lifted os started H enc)
#print axioms proved
end Go.Proofs.Ythokeedmccfalaa.fnExactAppendEntry
