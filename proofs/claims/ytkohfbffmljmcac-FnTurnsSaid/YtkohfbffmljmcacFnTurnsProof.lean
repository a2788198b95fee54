/-
  For every slice of bytes, the landed turns, distances and orders keep the promise at the points that are drawn from them: the law's call returns true and writes nothing that was there. No condition.
-/
import Derived.Test.YtkohfbffmljmcacRows
import Derived.WalkKit
import Derived.ProofKit
import Derived.OpenShut
import Derived.ShutString
import Derived.Test.YtkohfbffmljmcacPointImpl
import Derived.Test.YtkohfbffmljmcacPointFacts
import Derived.Test.YtkohfbffmljmcacDrawBig
import Derived.Test.YtkohfbffmljmcacDrawPoint
import Derived.Test.YtkohfbffmljmcacSettle
namespace Go.Proofs.Ytkohfbffmljmcac.fnTurns
open Go.ChangeShapes Go.WideShapes Go.ChangeAt Go.RowKit
open Go.ChangeMaps (open_string shut_string)
open PointMath DrawNum DrawPoint
set_option linter.unusedVariables false

theorem own : ownKnob Try.prog.godebug = none := by kernel_rfl
theorem laidOut : laidOutB Try.prog = true := by kernel_rfl

/-- What is known of a slice of integers that came in: nil, or a row of 'cap' cells. -/
def IsRow (k : IntKind) (w : World) (a : Option Addr) (len cap : Nat) (zs : List Int) : Prop :=
  (a = none ∧ len = 0 ∧ cap = 0 ∧ zs = []) ∨
  ∃ x, a = some x ∧ len ≤ cap ∧ cap ≤ maxLen ∧ zs.length = cap ∧ (∀ i, i < zs.length → w.cell? (x.add i) = some (.int k (zs.getD i 0))) ∧ ∀ n ∈ zs, (Lit.int k n).wf = true

set_option maxRecDepth 100000 in
set_option maxHeartbeats 8000000 in
theorem walk (w : World) (a0 : Option Addr) (len0 cap0 : Nat) (z0 : List Int) (w0 : IsRow .u8 w a0 len0 cap0 z0) :
    Calls Try.prog 3 #[.slice a0 len0 cap0] w fun e w' => e = .returned (.bool true) ∧ Below w.heap.size w w' := by
  have hcode : Draw.Code w w.heap.size a0 len0 := code_of_row w0
  by_cases hbig : (1048576 : Int) < (len0 : Int)
  · go_enter Try.func3, Try.ntmps3
    go_wp2_with fail
    refine (big _ a0 len0 cap0).mono ?_
    rintro e w' ⟨rfl, rfl⟩
    go_wp2_with fail
    go_ret
    exact ⟨rfl, Below.refl _ _⟩
  · go_enter Try.func3, Try.ntmps3
    go_wp2_with fail
    refine (big _ a0 len0 cap0).mono ?_
    rintro e w' ⟨rfl, rfl⟩
    go_wp2_with fail
    refine (drawPoints _ a0 len0 cap0 (by omega) hcode).mono ?_
    rintro e v0 ⟨ax, ay, bx, bY, cx, cy, ha, hb, hc, rfl, hb1⟩
    clear hcode w0
    obtain ⟨T, eT⟩ : ∃ T, turnI ax ay bx bY cx cy = T := ⟨_, rfl⟩
    obtain ⟨AB, eAB⟩ : ∃ T, squareI ax ay bx bY = T := ⟨_, rfl⟩
    obtain ⟨AC, eAC⟩ : ∃ T, squareI ax ay cx cy = T := ⟨_, rfl⟩
    obtain ⟨BC, eBC⟩ : ∃ T, squareI bx bY cx cy = T := ⟨_, rfl⟩
    obtain ⟨D, eD⟩ : ∃ T, AB + AC - BC = T := ⟨_, rfl⟩
    obtain ⟨g, eg⟩ : ∃ g, betweenB cx cy ax ay bx bY = g := ⟨_, rfl⟩
    have ka := ha.ok
    have kb := hb.ok
    have kc := hc.ok
    have e1 : Hid (PointMath.turnOf ax ay bx bY cx cy = T) := Lib.hid (by simp [PointMath.turnOf, ka, kb, kc, eT])
    have e2 : PointMath.turnOf bx bY cx cy ax ay = T := by simp [PointMath.turnOf, ka, kb, kc, PointFacts.turn_round, eT]
    have e3 : PointMath.turnOf ax ay cx cy bx bY = -T := by simp [PointMath.turnOf, ka, kb, kc, PointFacts.turn_back ax ay bx bY cx cy, eT]
    have e4 : Hid (PointMath.squareOf ax ay bx bY = AB) := Lib.hid (by simp [PointMath.squareOf, ka, kb, eAB])
    have e5 : Hid (PointMath.squareOf ax ay cx cy = AC) := Lib.hid (by simp [PointMath.squareOf, ka, kc, eAC])
    have e6 : Hid (PointMath.squareOf bx bY cx cy = BC) := Lib.hid (by simp [PointMath.squareOf, kb, kc, eBC])
    have e7 : betweenB ax ay ax ay bx bY = true := PointFacts.between_self ka kb
    have e8 : betweenB cx cy bx bY ax ay = g := by rw [PointFacts.between_swap]; exact eg
    have e9 : nearerB ax ay bx bY cx cy = decide (AB < AC) := by rw [PointFacts.nearer_is ka kb kc, eAB, eAC]
    have eL : 4 * T * T + D * D = 4 * AB * AC := PointFacts.lagrange ax ay bx bY cx cy T AB AC D eT.symm eAB.symm eAC.symm (by rw [eBC]; exact eD.symm)
    have n0 : 0 ≤ AB := by rw [← eAB]; exact PointFacts.square_nonneg _ _ _ _
    have m1 := square_parts ka kb
    have m2 := square_parts ka kc
    have m3 := square_parts kb kc
    have m4 := turn_parts ka kb kc
    have r1 : -12800 ≤ AB ∧ AB ≤ 12800 := by unfold squareI at eAB; omega
    have r2 : -12800 ≤ AC ∧ AC ≤ 12800 := by unfold squareI at eAC; omega
    have r3 : -12800 ≤ BC ∧ BC ≤ 12800 := by unfold squareI at eBC; omega
    have r4 : -12800 ≤ T ∧ T ≤ 12800 := by unfold turnI at eT; omega
    have r5 : -38400 ≤ D ∧ D ≤ 38400 := by omega
    have p1 := mul_bound (a := 4 * T) (b := T) (n := 51200) (by omega) (by omega) (by omega) (by omega)
    have p2 := mul_bound (a := D) (b := D) (n := 51200) (by omega) (by omega) (by omega) (by omega)
    have p3 := mul_bound (a := 4 * AB) (b := AC) (n := 51200) (by omega) (by omega) (by omega) (by omega)
    have hT : g = true → T = 0 := fun h => by rw [← eT]; exact PointFacts.between_turn (eg.trans h)
    have Q1 : Hid (∀ w, _) := Lib.hid fun w => PointImpl.turnOf bx bY cx cy ax ay w
    have Q2 : Hid (∀ w, _) := Lib.hid fun w => PointImpl.turnOf ax ay cx cy bx bY w
    have Q3 : Hid (∀ w, _) := Lib.hid fun w => PointImpl.isBetween ax ay ax ay bx bY w
    have Q4 : Hid (∀ w, _) := Lib.hid fun w => PointImpl.isBetween cx cy ax ay bx bY w
    have Q5 : Hid (∀ w, _) := Lib.hid fun w => PointImpl.isBetween cx cy bx bY ax ay w
    have Q6 : Hid (∀ w, _) := Lib.hid fun w => PointImpl.isNearer ax ay bx bY cx cy w
    rw [e2] at Q1
    rw [e3] at Q2
    rw [e7] at Q3
    rw [eg] at Q4
    rw [e8] at Q5
    rw [e9] at Q6
    replace eL := Lib.hid eL
    replace eD := Lib.hid eD
    replace hT := Lib.hid hT
    clear m1 m2 m3 m4 eT eAB eAC eBC ka kb kc ha hb hc e2 e3 e7 e8 e9 eg
    go_wp2_with fail
    have X0 := ((PointOk.box1 v0 ax ay 25 (k := v0.heap.size) (by simp)).alloc (Obj.cells #[.int .i64 bx, .int .i64 bY] 25)).alloc (Obj.cells #[.int .i64 cx, .int .i64 cy] 25)
    have X1 := (PointOk.box1 (v0.alloc (Obj.cells #[.int .i64 ax, .int .i64 ay] 25)) bx bY 25 (k := v0.heap.size + 1) (by simp)).alloc (Obj.cells #[.int .i64 cx, .int .i64 cy] 25)
    have X2 := PointOk.box1 ((v0.alloc (Obj.cells #[.int .i64 ax, .int .i64 ay] 25)).alloc (Obj.cells #[.int .i64 bx, .int .i64 bY] 25)) cx cy 25 (k := v0.heap.size + 1 + 1) (by simp)
    have b0 := PointOk.below3 v0 (Obj.cells #[.int .i64 ax, .int .i64 ay] 25) (Obj.cells #[.int .i64 bx, .int .i64 bY] 25) (Obj.cells #[.int .i64 cx, .int .i64 cy] 25)
    have HO : ∀ W W' : World, (PointOk.Box W (v0.heap.size) ax ay ∧ PointOk.Box W (v0.heap.size + 1) bx bY ∧ PointOk.Box W (v0.heap.size + 1 + 1) cx cy ∧ Below v0.heap.size v0 W) → Below W.heap.size W W' → (PointOk.Box W' (v0.heap.size) ax ay ∧ PointOk.Box W' (v0.heap.size + 1) bx bY ∧ PointOk.Box W' (v0.heap.size + 1 + 1) cx cy ∧ Below v0.heap.size v0 W') := fun W W' ⟨h0, h1, h2, hb⟩ h => ⟨h0.later h, h1.later h, h2.later h, hb.trans (h.mono hb.size)⟩
    generalize (((v0.alloc (Obj.cells #[.int .i64 ax, .int .i64 ay] 25)).alloc (Obj.cells #[.int .i64 bx, .int .i64 bY] 25)).alloc (Obj.cells #[.int .i64 cx, .int .i64 cy] 25)) = w0 at X0 X1 X2 b0 ⊢
    have S0 := (⟨X0, X1, X2, b0⟩ : PointOk.Box w0 (v0.heap.size) ax ay ∧ PointOk.Box w0 (v0.heap.size + 1) bx bY ∧ PointOk.Box w0 (v0.heap.size + 1 + 1) cx cy ∧ Below v0.heap.size v0 w0)
    clear X0 X1 X2 b0
    obtain ⟨⟨_, _⟩, ⟨_, _⟩, ⟨_, _⟩, _⟩ := id S0
    refine (PointImpl.turnOf ax ay bx bY cx cy _).mono ?_
    rintro e w1 ⟨rfl, hb_⟩
    replace S0 := HO _ _ S0 hb_
    clear hb_
    obtain ⟨⟨_, _⟩, ⟨_, _⟩, ⟨_, _⟩, _⟩ := id S0
    rw [e1.out]
    go_wp2_with fail
    refine (PointImpl.squareOf ax ay bx bY _).mono ?_
    rintro e w2 ⟨rfl, hb_⟩
    replace S0 := HO _ _ S0 hb_
    clear hb_
    obtain ⟨⟨_, _⟩, ⟨_, _⟩, ⟨_, _⟩, _⟩ := id S0
    rw [e4.out]
    go_wp2_with fail
    refine (PointImpl.squareOf ax ay cx cy _).mono ?_
    rintro e w3 ⟨rfl, hb_⟩
    replace S0 := HO _ _ S0 hb_
    clear hb_
    obtain ⟨⟨_, _⟩, ⟨_, _⟩, ⟨_, _⟩, _⟩ := id S0
    rw [e5.out]
    go_wp2_with fail
    refine (PointImpl.squareOf bx bY cx cy _).mono ?_
    rintro e w4 ⟨rfl, hb_⟩
    replace S0 := HO _ _ S0 hb_
    clear hb_
    obtain ⟨⟨_, _⟩, ⟨_, _⟩, ⟨_, _⟩, _⟩ := id S0
    rw [e6.out]
    go_wp2_with fail
    rw [eD.out]
    clear e1 e4 e5 e6 r5
    have u1 : IntKind.i64.wrap (AB + AC) = AB + AC := IntWalk.i64_in _ (by omega)
    have u4 : IntKind.i64.wrap (D * D) = D * D := IntWalk.i64_in _ (by omega)
    have u6 : IntKind.i64.wrap (4 * AB) = 4 * AB := IntWalk.i64_in _ (by omega)
    have u7 : IntKind.i64.wrap (4 * AB * AC) = 4 * AB * AC := IntWalk.i64_in _ (by omega)
    cases g
    · have u0 : IntKind.i64.wrap (-T) = -T := IntWalk.i64_in _ (by omega)
      have u2 : IntKind.i64.wrap (4 * T) = 4 * T := IntWalk.i64_in _ (by omega)
      have u3 : IntKind.i64.wrap (4 * T * T) = 4 * T * T := IntWalk.i64_in _ (by omega)
      have u5 : IntKind.i64.wrap (4 * T * T + D * D) = 4 * T * T + D * D := IntWalk.i64_in _ (by omega)
      have eL2 := eL.out
      clear hT p1 p2 p3 r4
      refine Settle.region (fun W => PointOk.Box W (v0.heap.size) ax ay ∧ PointOk.Box W (v0.heap.size + 1) bx bY ∧ PointOk.Box W (v0.heap.size + 1 + 1) cx cy ∧ Below v0.heap.size v0 W) (by kernel_rfl) (by kernel_rfl) (by kernel_rfl) (by kernel_rfl) (HO _ _ S0 ((Below.refl _ _).drew)) ?_
      clear S0
      repeat (first
        | (refine Settle.Settles.off (by rfl) ?_; simp only [Act.put, List.setIfInBounds_toArray, List.set_cons_zero, List.set_cons_succ])
        | (refine Settle.Settles.quiet (v := ?_) (by rfl) ?_ ?_
           rotate_left
           · (intro W hS; obtain ⟨⟨_, _⟩, ⟨_, _⟩, ⟨_, _⟩, _⟩ := hS; go_simp; with_reducible rfl)
           simp only [Act.put, List.setIfInBounds_toArray, List.set_cons_zero, List.set_cons_succ])
        | (refine Settle.Settles.call (v := ?_) (f := ?_) (args := ?_) (by rfl) ?_ ?_ ?_
           rotate_left 3
           · (intro W; go_simp; refine ⟨?_, ?_⟩ <;> with_reducible rfl)
           · (intro W hS; first | (go_at_call 12; (with_reducible refine (Q1.out _).mono ?_); rintro e W1 ⟨rfl, hb⟩; refine ⟨?_, HO _ _ hS hb⟩; with_reducible rfl) | (go_at_call 12; (with_reducible refine (Q2.out _).mono ?_); rintro e W1 ⟨rfl, hb⟩; refine ⟨?_, HO _ _ hS hb⟩; with_reducible rfl) | (go_at_call 14; (with_reducible refine (Q3.out _).mono ?_); rintro e W1 ⟨rfl, hb⟩; refine ⟨?_, HO _ _ hS hb⟩; with_reducible rfl) | (go_at_call 14; (with_reducible refine (Q4.out _).mono ?_); rintro e W1 ⟨rfl, hb⟩; refine ⟨?_, HO _ _ hS hb⟩; with_reducible rfl) | (go_at_call 14; (with_reducible refine (Q5.out _).mono ?_); rintro e W1 ⟨rfl, hb⟩; refine ⟨?_, HO _ _ hS hb⟩; with_reducible rfl) | (go_at_call 15; (with_reducible refine (Q6.out _).mono ?_); rintro e W1 ⟨rfl, hb⟩; refine ⟨?_, HO _ _ hS hb⟩; with_reducible rfl))
           simp only [Act.put, List.setIfInBounds_toArray, List.set_cons_zero, List.set_cons_succ]))
      refine Settle.Settles.nil ?_
      intro wr S0
      obtain ⟨⟨_, _⟩, ⟨_, _⟩, ⟨_, _⟩, _⟩ := id S0
      go_wp2_with fail
      go_ret
      exact ⟨rfl, hb1.trans (S0.2.2.2.mono hb1.size)⟩
    · have hT0 := hT.out rfl
      subst hT0
      have u0 : IntKind.i64.wrap 0 = 0 := by decide
      have eL2 : D * D = 4 * AB * AC := by simpa using eL.out
      rw [show (-0 : Int) = 0 from rfl] at Q2
      clear hT p1 p2 p3 r4
      refine Settle.region (fun W => PointOk.Box W (v0.heap.size) ax ay ∧ PointOk.Box W (v0.heap.size + 1) bx bY ∧ PointOk.Box W (v0.heap.size + 1 + 1) cx cy ∧ Below v0.heap.size v0 W) (by kernel_rfl) (by kernel_rfl) (by kernel_rfl) (by kernel_rfl) (HO _ _ S0 ((Below.refl _ _).drew)) ?_
      clear S0
      repeat (first
        | (refine Settle.Settles.off (by rfl) ?_; simp only [Act.put, List.setIfInBounds_toArray, List.set_cons_zero, List.set_cons_succ])
        | (refine Settle.Settles.quiet (v := ?_) (by rfl) ?_ ?_
           rotate_left
           · (intro W hS; obtain ⟨⟨_, _⟩, ⟨_, _⟩, ⟨_, _⟩, _⟩ := hS; go_simp; with_reducible rfl)
           simp only [Act.put, List.setIfInBounds_toArray, List.set_cons_zero, List.set_cons_succ])
        | (refine Settle.Settles.call (v := ?_) (f := ?_) (args := ?_) (by rfl) ?_ ?_ ?_
           rotate_left 3
           · (intro W; go_simp; refine ⟨?_, ?_⟩ <;> with_reducible rfl)
           · (intro W hS; first | (go_at_call 12; (with_reducible refine (Q1.out _).mono ?_); rintro e W1 ⟨rfl, hb⟩; refine ⟨?_, HO _ _ hS hb⟩; with_reducible rfl) | (go_at_call 12; (with_reducible refine (Q2.out _).mono ?_); rintro e W1 ⟨rfl, hb⟩; refine ⟨?_, HO _ _ hS hb⟩; with_reducible rfl) | (go_at_call 14; (with_reducible refine (Q3.out _).mono ?_); rintro e W1 ⟨rfl, hb⟩; refine ⟨?_, HO _ _ hS hb⟩; with_reducible rfl) | (go_at_call 14; (with_reducible refine (Q4.out _).mono ?_); rintro e W1 ⟨rfl, hb⟩; refine ⟨?_, HO _ _ hS hb⟩; with_reducible rfl) | (go_at_call 14; (with_reducible refine (Q5.out _).mono ?_); rintro e W1 ⟨rfl, hb⟩; refine ⟨?_, HO _ _ hS hb⟩; with_reducible rfl) | (go_at_call 15; (with_reducible refine (Q6.out _).mono ?_); rintro e W1 ⟨rfl, hb⟩; refine ⟨?_, HO _ _ hS hb⟩; with_reducible rfl))
           simp only [Act.put, List.setIfInBounds_toArray, List.set_cons_zero, List.set_cons_succ]))
      refine Settle.Settles.nil ?_
      intro wr S0
      obtain ⟨⟨_, _⟩, ⟨_, _⟩, ⟨_, _⟩, _⟩ := id S0
      go_wp2_with fail
      go_ret
      exact ⟨rfl, hb1.trans (S0.2.2.2.mono hb1.size)⟩

theorem contract (H : Type) (enc : TypeId × Value → H) (W : World) (base : Nat) (args : Array Value) (ds gs : List (DataW H)) (before : List MemPlace)
    (hval : ∀ (j : Nat) t v, Try.f3.params[j]? = some t → args[j]? = some v → Value.okWide Try.prog W .any base t v)
    (hW : DataW.Whole enc Try.prog Try.f3.params.toList Rows.fnTurnsSpec.vars false W args.toList ds gs before) :
    Calls Try.prog 3 args W fun e W' => ∃ v, e = .returned v ∧ Rows.fnTurnsSpec.post enc Try.prog Try.f3 false true false false W args v W' := by
  have hW' := hW
  obtain ⟨p, q, hA0, hV, rfl, hfz, hnd⟩ := hW
  have hA : DataW.TrodAll enc Try.prog W 0 (fun _ => true) true Try.f3.params.toList args.toList ds p := hA0
  rw [Try.params3] at hA hval
  obtain ⟨v0, vs0, d0, ds0, p0, q0, hargs, rfl, rfl, h0, r0⟩ := trodAll_cons hA
  obtain ⟨rfl, rfl, rfl⟩ := trodAll_nil r0
  obtain rfl : args = #[v0] := by cases args; simp_all
  obtain ⟨rfl, rfl⟩ := trodVars_none hV
  obtain ⟨a0, len0, cap0, rfl⟩ := okWide_slice Try.underlying22 (hval 0 22 v0 rfl rfl)
  have k0 := h0
  have lt0 : ∀ x ∈ p0, x.block < W.heap.size := by obtain ⟨m, hm⟩ := k0; exact DataW.trod_lt m _ _ _ hm
  obtain ⟨z0, w0⟩ : ∃ zs, IsRow .u8 W a0 len0 cap0 zs := by
    obtain ⟨fuel, hf⟩ := h0
    rcases open_ints Try.underlying22 Try.underlying5 (by kernel_rfl) hf with ⟨hcs, _⟩ | ⟨x, l, c, zs, hcs, _, hl, hm, hz, _, hcell, hwz⟩
    · simp [Value.cells] at hcs
      obtain ⟨rfl, rfl, rfl⟩ := hcs
      exact ⟨[], .inl ⟨rfl, rfl, rfl, rfl⟩⟩
    · simp [Value.cells] at hcs
      obtain ⟨rfl, rfl, rfl⟩ := hcs
      exact ⟨zs, .inr ⟨_, rfl, hl, hm, by simpa using hz, hcell, hwz⟩⟩
  clear hA0
  refine (walk W a0 len0 cap0 z0 w0).mono fun e W' ⟨he, hg⟩ => ?_
  subst he
  exact ⟨_, rfl, _, _, _, [], _, [], hW', (trodAll_cons_mk (shut_bool Try.underlying4 _) trodAll_mk0), (trodAll_cons_mk (Below.trod laidOut (by kernel_rfl) (of_decide_eq_true (by kernel_rfl)) k0 hg lt0) trodAll_mk0), rfl, hg.frame _, fun h => by cases h⟩

set_option maxRecDepth 100000 in
theorem lifted (os : Os) (started : os.Started) (H : Type) (enc : TypeId × Value → H) :
    ReturnsInHanded {} Try.checked os 3 .any (Rows.fnTurnsSpec.pre6 enc Try.prog Try.f3 Rows.fnTurnsRow.domain false) (Rows.fnTurnsSpec.post enc Try.prog Try.f3 false true false false) := by
  refine returnsInHanded_of_change (C := Try.checked) own started (by kernel_rfl) Try.func3
    (ChangeSpec.witness6 (enc := enc) (C := Try.checked) false ⟨#[], #[Value.slice none 0 0], []⟩ 8 (by kernel_rfl) (by kernel_rfl) (by kernel_rfl) (by kernel_rfl)) ?_
  intro W base args ds gs before hval hW hcnd _
  exact contract H enc W base args ds gs before hval hW

theorem proved : Rows.FnTurnsSaid :=
  OpenClaim.holds_of_wide 3 Try.f3 rfl rfl rfl rfl rfl rfl rfl ⟨rfl, rfl, rfl, rfl, rfl⟩ rfl rfl rfl rfl rfl (by kernel_rfl) Try.func3 (by kernel_rfl)
    (of_decide_eq_true (by kernel_rfl)) (by unfold Func.isWrapper; first | (rw [if_pos (by decide +kernel)]; kernel_rfl) | (rw [if_neg (by decide +kernel)]; exact ⟨rfl, rfl⟩))
    (fun os started H enc _ => lifted os started H enc)
#print axioms proved
end Go.Proofs.Ytkohfbffmljmcac.fnTurns
