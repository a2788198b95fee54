/-
  What Raises and AlarmsOf do, as contracts: what each answers; new memory alone is written.
-/
import Derived.Test.YtmcjnldkhnebcaaDutyImpl
import Derived.Test.YtmcjnldkhnebcaaAlarmMath
import Derived.Test.YtmcjnldkhnebcaaGround
import Derived.OwnWalk
namespace Go.Proofs.Ytmcjnldkhnebcaa.AlarmImpl
open Go.RowKit Own PointMath DiagMath DutyMath AlarmMath Tup3 Blk
open PointOk (ret_bool ret_i64 below1 below2 below3)

theorem infoI : (Try.prog.info? 3).map (fun i => (i.zero, i.size, i.bytes)) = some (some (.int .i64 0), 1, 8) := by kernel_rfl

theorem as11 (v : Value) (W : World) : (Instr.typeAssert (.iface 68 v) 20 68 true).run Try.prog W = .ok (.tuple #[v, .bool true]) W := by kernel_rfl
theorem as12 (v : Value) (W : World) : (Instr.typeAssert (.iface 68 v) 20 69 true).run Try.prog W = .ok (.tuple #[.agg #[.int .i64 0, .int .i64 0, .int .i64 0], .bool false]) W := by kernel_rfl
theorem as13 (v : Value) (W : World) : (Instr.typeAssert (.iface 68 v) 20 70 true).run Try.prog W = .ok (.tuple #[.agg #[.int .i64 0, .int .i64 0, .int .i64 0], .bool false]) W := by kernel_rfl
theorem as21 (v : Value) (W : World) : (Instr.typeAssert (.iface 69 v) 20 68 true).run Try.prog W = .ok (.tuple #[.agg #[.int .i64 0, .int .i64 0, .int .i64 0], .bool false]) W := by kernel_rfl
theorem as22 (v : Value) (W : World) : (Instr.typeAssert (.iface 69 v) 20 69 true).run Try.prog W = .ok (.tuple #[v, .bool true]) W := by kernel_rfl
theorem as23 (v : Value) (W : World) : (Instr.typeAssert (.iface 69 v) 20 70 true).run Try.prog W = .ok (.tuple #[.agg #[.int .i64 0, .int .i64 0, .int .i64 0], .bool false]) W := by kernel_rfl
theorem as31 (v : Value) (W : World) : (Instr.typeAssert (.iface 70 v) 20 68 true).run Try.prog W = .ok (.tuple #[.agg #[.int .i64 0, .int .i64 0, .int .i64 0], .bool false]) W := by kernel_rfl
theorem as32 (v : Value) (W : World) : (Instr.typeAssert (.iface 70 v) 20 69 true).run Try.prog W = .ok (.tuple #[.agg #[.int .i64 0, .int .i64 0, .int .i64 0], .bool false]) W := by kernel_rfl
theorem as33 (v : Value) (W : World) : (Instr.typeAssert (.iface 70 v) 20 70 true).run Try.prog W = .ok (.tuple #[v, .bool true]) W := by kernel_rfl
theorem as01 (W : World) : (Instr.typeAssert .nilIface 20 68 true).run Try.prog W = .ok (.tuple #[.agg #[.int .i64 0, .int .i64 0, .int .i64 0], .bool false]) W := by kernel_rfl
theorem as02 (W : World) : (Instr.typeAssert .nilIface 20 69 true).run Try.prog W = .ok (.tuple #[.agg #[.int .i64 0, .int .i64 0, .int .i64 0], .bool false]) W := by kernel_rfl
theorem as03 (W : World) : (Instr.typeAssert .nilIface 20 70 true).run Try.prog W = .ok (.tuple #[.agg #[.int .i64 0, .int .i64 0, .int .i64 0], .bool false]) W := by kernel_rfl
theorem typed1 (z m : Int) (w : World) : Calls Try.prog 27 #[.agg #[.int .i64 z, .int .i64 1, .int .i64 m]] w fun e w' => e = .returned (.iface 68 (.agg #[.int .i64 z, .int .i64 1, .int .i64 m])) ∧ Below w.heap.size w w' := by
  go_enter Try.func27, Try.ntmps27
  go_wp2_with fail
  go_ret
  exact ⟨rfl, below1 _ _⟩
set_option maxRecDepth 100000 in
theorem bitFor1 (v : Value) (w : World) : Calls Try.prog 26 #[.iface 68 v] w fun e w' => e = .returned (.int .i64 2) ∧ w = w' := by
  have h1 := as11 v w
  have h2 := as12 v w
  have h3 := as13 v w
  go_enter Try.func26, Try.ntmps26
  go_wp2_with fail
  go_ret
  exact ⟨rfl, rfl⟩
theorem typed2 (z m : Int) (w : World) : Calls Try.prog 27 #[.agg #[.int .i64 z, .int .i64 2, .int .i64 m]] w fun e w' => e = .returned (.iface 69 (.agg #[.int .i64 z, .int .i64 2, .int .i64 m])) ∧ Below w.heap.size w w' := by
  go_enter Try.func27, Try.ntmps27
  go_wp2_with fail
  go_ret
  exact ⟨rfl, below1 _ _⟩
set_option maxRecDepth 100000 in
theorem bitFor2 (v : Value) (w : World) : Calls Try.prog 26 #[.iface 69 v] w fun e w' => e = .returned (.int .i64 4) ∧ w = w' := by
  have h1 := as21 v w
  have h2 := as22 v w
  have h3 := as23 v w
  go_enter Try.func26, Try.ntmps26
  go_wp2_with fail
  go_ret
  exact ⟨rfl, rfl⟩
theorem typed3 (z m : Int) (w : World) : Calls Try.prog 27 #[.agg #[.int .i64 z, .int .i64 3, .int .i64 m]] w fun e w' => e = .returned (.iface 70 (.agg #[.int .i64 z, .int .i64 3, .int .i64 m])) ∧ Below w.heap.size w w' := by
  go_enter Try.func27, Try.ntmps27
  go_wp2_with fail
  go_ret
  exact ⟨rfl, below1 _ _⟩
set_option maxRecDepth 100000 in
theorem bitFor3 (v : Value) (w : World) : Calls Try.prog 26 #[.iface 70 v] w fun e w' => e = .returned (.int .i64 8) ∧ w = w' := by
  have h1 := as31 v w
  have h2 := as32 v w
  have h3 := as33 v w
  go_enter Try.func26, Try.ntmps26
  go_wp2_with fail
  go_ret
  exact ⟨rfl, rfl⟩
theorem typed0 (z k m : Int) (h1 : k ≠ 1) (h2 : k ≠ 2) (h3 : k ≠ 3) (w : World) : Calls Try.prog 27 #[.agg #[.int .i64 z, .int .i64 k, .int .i64 m]] w fun e w' => e = .returned .nilIface ∧ Below w.heap.size w w' := by
  have k1 : (k == 1) = false := by simpa using h1
  have k2 : (k == 2) = false := by simpa using h2
  have k3 : (k == 3) = false := by simpa using h3
  go_enter Try.func27, Try.ntmps27
  go_wp2_with fail
  go_ret
  exact ⟨rfl, below1 _ _⟩
set_option maxRecDepth 100000 in
theorem bitFor0 (w : World) : Calls Try.prog 26 #[.nilIface] w fun e w' => e = .returned (.int .i64 0) ∧ w = w' := by
  have h1 := as01 w
  have h2 := as02 w
  have h3 := as03 w
  go_enter Try.func26, Try.ntmps26
  go_wp2_with fail
  go_ret
  exact ⟨rfl, rfl⟩

set_option maxRecDepth 100000 in
set_option maxHeartbeats 6400000 in
theorem raises (A : Option Addr) (n cap : Nat) (z k m : Int) (w : World) (ps : List Tu) (hl : ps.length = n) (_hn : n ≤ 1048576) (hp : TsAt w w.heap.size A ps) :
    Calls Try.prog 20 #[.slice A n cap, .agg #[.int .i64 z, .int .i64 k, .int .i64 m]] w fun e w' => e = .returned (.bool (raisesB ps z k m)) ∧ Below w.heap.size w w' := by
  obtain ⟨r, hr⟩ : ∃ r, raisesB ps z k m = r := ⟨_, rfl⟩
  have HR := Lib.hid hr
  rw [hr]
  clear hr
  by_cases hz1 : 0 ≤ z
  rotate_left
  · have E : Hid (r = false) := Lib.hid (by rw [← HR.out]; exact raises_no1 (by omega))
    have hz2 : z < 0 := by omega
    clear HR hl
    go_enter Try.func20, Try.ntmps20
    go_wp2_with fail
    have X0 := Tup3.box1 w z k m 37 (k := w.heap.size) (by simp)
    have b0 := PointOk.below1 w (Obj.cells #[.int .i64 z, .int .i64 k, .int .i64 m] 37)
    have HO : ∀ W W' : World, (Tup3.Box W (w.heap.size) z k m ∧ TsAt W w.heap.size A ps ∧ Below w.heap.size w W) → Below W.heap.size W W' → (Tup3.Box W' (w.heap.size) z k m ∧ TsAt W' w.heap.size A ps ∧ Below w.heap.size w W') := fun W W' ⟨h0, x0, hb⟩ h => ⟨h0.later h, x0.later (h.mono hb.size), hb.trans (h.mono hb.size)⟩
    have hz0_ : Hid (((w.alloc (Obj.cells #[.int .i64 z, .int .i64 k, .int .i64 m] 37))).heap.size = w.heap.size + 1) := Lib.hid (by simp)
    have Y0 : TsAt ((w.alloc (Obj.cells #[.int .i64 z, .int .i64 k, .int .i64 m] 37))) w.heap.size A ps := hp.later b0
    generalize (w.alloc (Obj.cells #[.int .i64 z, .int .i64 k, .int .i64 m] 37)) = w0 at X0 Y0 b0 hz0_ ⊢
    have S0 := (⟨X0, Y0, b0⟩ : Tup3.Box w0 (w.heap.size) z k m ∧ TsAt w0 w.heap.size A ps ∧ Below w.heap.size w w0)
    clear X0 Y0 b0
    obtain ⟨⟨_, _, _⟩, _, _⟩ := id S0
    go_ret
    exact ⟨ret_bool E.out.symm, S0.2.2⟩
  have hz3 : ¬ z < 0 := by omega
  by_cases hz4 : z < n
  rotate_left
  · have E : Hid (r = false) := Lib.hid (by rw [← HR.out]; exact raises_no1 (by omega))
    have hz5 : (n : Int) ≤ z := by omega
    clear HR hl
    go_enter Try.func20, Try.ntmps20
    go_wp2_with fail
    have X0 := Tup3.box1 w z k m 37 (k := w.heap.size) (by simp)
    have b0 := PointOk.below1 w (Obj.cells #[.int .i64 z, .int .i64 k, .int .i64 m] 37)
    have HO : ∀ W W' : World, (Tup3.Box W (w.heap.size) z k m ∧ TsAt W w.heap.size A ps ∧ Below w.heap.size w W) → Below W.heap.size W W' → (Tup3.Box W' (w.heap.size) z k m ∧ TsAt W' w.heap.size A ps ∧ Below w.heap.size w W') := fun W W' ⟨h0, x0, hb⟩ h => ⟨h0.later h, x0.later (h.mono hb.size), hb.trans (h.mono hb.size)⟩
    have hz0_ : Hid (((w.alloc (Obj.cells #[.int .i64 z, .int .i64 k, .int .i64 m] 37))).heap.size = w.heap.size + 1) := Lib.hid (by simp)
    have Y0 : TsAt ((w.alloc (Obj.cells #[.int .i64 z, .int .i64 k, .int .i64 m] 37))) w.heap.size A ps := hp.later b0
    generalize (w.alloc (Obj.cells #[.int .i64 z, .int .i64 k, .int .i64 m] 37)) = w0 at X0 Y0 b0 hz0_ ⊢
    have S0 := (⟨X0, Y0, b0⟩ : Tup3.Box w0 (w.heap.size) z k m ∧ TsAt w0 w.heap.size A ps ∧ Below w.heap.size w w0)
    clear X0 Y0 b0
    obtain ⟨⟨_, _, _⟩, _, _⟩ := id S0
    go_ret
    exact ⟨ret_bool E.out.symm, S0.2.2⟩
  obtain ⟨j, rfl⟩ : ∃ j : Nat, z = (j : Int) := ⟨z.toNat, by omega⟩
  have hj1 : (j : Int) < (n : Int) := by omega
  have hj2 : ¬ (n : Int) ≤ (j : Int) := by omega
  have hj0 : (0 : Int) ≤ (j : Int) := by omega
  clear hz1 hz3 hz4
  have HE : Hid (1 ≤ k ∧ k ≤ 3 → r = raisesT (tt ps j) k m) := Lib.hid (fun hk => by rw [← HR.out]; exact raises_at hl (by omega) hk)
  have HE0 : Hid (¬ (1 ≤ k ∧ k ≤ 3) → r = false) := Lib.hid (fun hk => by rw [← HR.out]; exact raises_no2 hk)
  have p0 := tt_at (ps := ps) (k := j) (by omega)
  obtain ⟨a, b, c, hg⟩ : ∃ a b c, tt ps j = (a, b, c) := ⟨_, _, _, rfl⟩
  rw [hg] at p0 HE
  unfold raisesT at HE
  simp only at HE
  have Q1 := Lib.hid fun w => DutyImpl.zoneOk a b c w
  obtain ⟨bd, eA, bA, pA⟩ := hp.get p0
  subst eA
  clear p0 hg hl HR
  cases hzo : zoneB a b c
  · have E : Hid (r = false) := Lib.hid (by
      by_cases hk : 1 ≤ k ∧ k ≤ 3
      · rw [HE.out hk, hzo]; rfl
      · exact HE0.out hk)
    rw [hzo] at Q1
    clear HE HE0
    obtain ⟨_, _, _⟩ := pA.later bA (below1 w (Obj.cells #[.int .i64 ↑j, .int .i64 k, .int .i64 m] 37))
    obtain ⟨_, _, _⟩ := Tup3.box1 w ↑j k m 37 (k := w.heap.size) rfl
    go_enter Try.func20, Try.ntmps20
    go_wp2_with fail
    have X0 := Tup3.box1 w ↑j k m 37 (k := w.heap.size) (by simp)
    have b0 := PointOk.below1 w (Obj.cells #[.int .i64 ↑j, .int .i64 k, .int .i64 m] 37)
    have HO : ∀ W W' : World, (Tup3.Box W (w.heap.size) ↑j k m ∧ TsAt W w.heap.size (some bd) ps ∧ TAt W bd j a b c ∧ Below w.heap.size w W) → Below W.heap.size W W' → (Tup3.Box W' (w.heap.size) ↑j k m ∧ TsAt W' w.heap.size (some bd) ps ∧ TAt W' bd j a b c ∧ Below w.heap.size w W') := fun W W' ⟨h0, x0, x1, hb⟩ h => ⟨h0.later h, x0.later (h.mono hb.size), x1.later bA (h.mono hb.size), hb.trans (h.mono hb.size)⟩
    have hz0_ : Hid (((w.alloc (Obj.cells #[.int .i64 ↑j, .int .i64 k, .int .i64 m] 37))).heap.size = w.heap.size + 1) := Lib.hid (by simp)
    have Y0 : TsAt ((w.alloc (Obj.cells #[.int .i64 ↑j, .int .i64 k, .int .i64 m] 37))) w.heap.size (some bd) ps := hp.later b0
    have Y1 : TAt ((w.alloc (Obj.cells #[.int .i64 ↑j, .int .i64 k, .int .i64 m] 37))) bd j a b c := pA.later bA b0
    generalize (w.alloc (Obj.cells #[.int .i64 ↑j, .int .i64 k, .int .i64 m] 37)) = w0 at X0 Y0 Y1 b0 hz0_ ⊢
    have S0 := (⟨X0, Y0, Y1, b0⟩ : Tup3.Box w0 (w.heap.size) ↑j k m ∧ TsAt w0 w.heap.size (some bd) ps ∧ TAt w0 bd j a b c ∧ Below w.heap.size w w0)
    clear X0 Y0 Y1 b0
    obtain ⟨⟨_, _, _⟩, _, ⟨_, _, _⟩, _⟩ := id S0
    refine (Q1.out _).mono ?_
    rintro e w1 ⟨rfl, hb_⟩
    replace S0 := HO _ _ S0 hb_
    clear hb_
    obtain ⟨⟨_, _, _⟩, _, ⟨_, _, _⟩, _⟩ := id S0
    go_wp2_with fail
    go_ret
    exact ⟨ret_bool E.out.symm, S0.2.2.2⟩
  have hcb := (zone_parts hzo).2.2
  rw [hzo] at Q1 HE
  by_cases k1 : a ≤ m
  rotate_left
  · skip
    have d1 : decide (a ≤ m) = false := decide_eq_false k1
    have E : Hid (r = false) := Lib.hid ((by
      by_cases hk : 1 ≤ k ∧ k ≤ 3
      · rw [HE.out hk, decide_eq_false k1]; rfl
      · exact HE0.out hk))
    clear HE HE0
    obtain ⟨_, _, _⟩ := pA.later bA (below1 w (Obj.cells #[.int .i64 ↑j, .int .i64 k, .int .i64 m] 37))
    obtain ⟨_, _, _⟩ := Tup3.box1 w ↑j k m 37 (k := w.heap.size) rfl
    go_enter Try.func20, Try.ntmps20
    go_wp2_with fail
    have X0 := Tup3.box1 w ↑j k m 37 (k := w.heap.size) (by simp)
    have b0 := PointOk.below1 w (Obj.cells #[.int .i64 ↑j, .int .i64 k, .int .i64 m] 37)
    have HO : ∀ W W' : World, (Tup3.Box W (w.heap.size) ↑j k m ∧ TsAt W w.heap.size (some bd) ps ∧ TAt W bd j a b c ∧ Below w.heap.size w W) → Below W.heap.size W W' → (Tup3.Box W' (w.heap.size) ↑j k m ∧ TsAt W' w.heap.size (some bd) ps ∧ TAt W' bd j a b c ∧ Below w.heap.size w W') := fun W W' ⟨h0, x0, x1, hb⟩ h => ⟨h0.later h, x0.later (h.mono hb.size), x1.later bA (h.mono hb.size), hb.trans (h.mono hb.size)⟩
    have hz0_ : Hid (((w.alloc (Obj.cells #[.int .i64 ↑j, .int .i64 k, .int .i64 m] 37))).heap.size = w.heap.size + 1) := Lib.hid (by simp)
    have Y0 : TsAt ((w.alloc (Obj.cells #[.int .i64 ↑j, .int .i64 k, .int .i64 m] 37))) w.heap.size (some bd) ps := hp.later b0
    have Y1 : TAt ((w.alloc (Obj.cells #[.int .i64 ↑j, .int .i64 k, .int .i64 m] 37))) bd j a b c := pA.later bA b0
    generalize (w.alloc (Obj.cells #[.int .i64 ↑j, .int .i64 k, .int .i64 m] 37)) = w0 at X0 Y0 Y1 b0 hz0_ ⊢
    have S0 := (⟨X0, Y0, Y1, b0⟩ : Tup3.Box w0 (w.heap.size) ↑j k m ∧ TsAt w0 w.heap.size (some bd) ps ∧ TAt w0 bd j a b c ∧ Below w.heap.size w w0)
    clear X0 Y0 Y1 b0
    obtain ⟨⟨_, _, _⟩, _, ⟨_, _, _⟩, _⟩ := id S0
    refine (Q1.out _).mono ?_
    rintro e w1 ⟨rfl, hb_⟩
    replace S0 := HO _ _ S0 hb_
    clear hb_
    obtain ⟨⟨_, _, _⟩, _, ⟨_, _, _⟩, _⟩ := id S0
    have X3 := Tup3.box1 w1 a b c 39 (k := w1.heap.size) rfl
    have b1_ := below1 w1 (Obj.cells #[.int .i64 a, .int .i64 b, .int .i64 c] 39)
    have S1 := HO _ _ S0 b1_
    obtain ⟨⟨_, _, _⟩, _, ⟨_, _, _⟩, _⟩ := id S1
    obtain ⟨_, _, _⟩ := id X3
    obtain ⟨kb, hkb⟩ : ∃ K, w1.heap.size = K := ⟨_, rfl⟩
    rw [hkb] at X3
    clear S0 b1_
    go_wp2_with fail
    generalize w1.alloc (Obj.cells #[.int .i64 a, .int .i64 b, .int .i64 c] 39) = v1 at *
    try rw [hkb]
    clear hkb
    replace S1 : (Tup3.Box v1 (w.heap.size) ↑j k m ∧ TsAt v1 w.heap.size (some bd) ps ∧ TAt v1 bd j a b c ∧ Below w.heap.size w v1) ∧ Tup3.Box v1 kb a b c := ⟨S1, X3⟩
    clear X3
    have HO : ∀ W W' : World, (Tup3.Box W (w.heap.size) ↑j k m ∧ TsAt W w.heap.size (some bd) ps ∧ TAt W bd j a b c ∧ Tup3.Box W kb a b c ∧ Below w.heap.size w W) → Below W.heap.size W W' → (Tup3.Box W' (w.heap.size) ↑j k m ∧ TsAt W' w.heap.size (some bd) ps ∧ TAt W' bd j a b c ∧ Tup3.Box W' kb a b c ∧ Below w.heap.size w W') := fun W W' ⟨h0, x0, x1, x2, hb⟩ h => ⟨h0.later h, x0.later (h.mono hb.size), x1.later bA (h.mono hb.size), x2.later h, hb.trans (h.mono hb.size)⟩
    have S0 : Tup3.Box v1 (w.heap.size) ↑j k m ∧ TsAt v1 w.heap.size (some bd) ps ∧ TAt v1 bd j a b c ∧ Tup3.Box v1 kb a b c ∧ Below w.heap.size w v1 := ⟨S1.1.1, S1.1.2.1, S1.1.2.2.1, S1.2, S1.1.2.2.2⟩
    clear S1
    obtain ⟨⟨_, _, _⟩, _, ⟨_, _, _⟩, ⟨_, _, _⟩, _⟩ := id S0
    refine Settle.region (fun W => Tup3.Box W (w.heap.size) ↑j k m ∧ TsAt W w.heap.size (some bd) ps ∧ TAt W bd j a b c ∧ Tup3.Box W kb a b c ∧ Below w.heap.size w W) (by kernel_rfl) (by kernel_rfl) (by kernel_rfl) (by kernel_rfl) (HO _ _ S0 ((Below.refl _ _).drew)) ?_
    clear S0
    repeat (first
      | (refine Settle.Settles.off (by rfl) ?_; simp only [Act.put, List.setIfInBounds_toArray, List.set_cons_zero, List.set_cons_succ])
      | (refine Settle.Settles.quiet (v := ?_) (by rfl) ?_ ?_
         rotate_left
         · (intro W hS; obtain ⟨⟨_, _, _⟩, _, ⟨_, _, _⟩, ⟨_, _, _⟩, _⟩ := hS; go_simp; with_reducible rfl)
         simp only [Act.put, List.setIfInBounds_toArray, List.set_cons_zero, List.set_cons_succ])
      | (refine Settle.Settles.call (v := ?_) (f := ?_) (args := ?_) (by rfl) ?_ ?_ ?_
         rotate_left 3
         · (intro W; go_simp; refine ⟨?_, ?_⟩ <;> with_reducible rfl)
         · (intro W hS; fail)
         simp only [Act.put, List.setIfInBounds_toArray, List.set_cons_zero, List.set_cons_succ]))
    refine Settle.Settles.nil ?_
    intro wr S0
    obtain ⟨⟨_, _, _⟩, _, ⟨_, _, _⟩, ⟨_, _, _⟩, _⟩ := id S0
    go_wp2_with fail
    go_ret
    exact ⟨ret_bool E.out.symm, S0.2.2.2.2⟩
  have d1 : decide (a ≤ m) = true := decide_eq_true k1
  by_cases k2 : m < b
  rotate_left
  · skip
    have d2 : decide (m < b) = false := decide_eq_false k2
    have E : Hid (r = false) := Lib.hid ((by
      by_cases hk : 1 ≤ k ∧ k ≤ 3
      · rw [HE.out hk, decide_eq_true k1, decide_eq_false k2]; rfl
      · exact HE0.out hk))
    clear HE HE0
    obtain ⟨_, _, _⟩ := pA.later bA (below1 w (Obj.cells #[.int .i64 ↑j, .int .i64 k, .int .i64 m] 37))
    obtain ⟨_, _, _⟩ := Tup3.box1 w ↑j k m 37 (k := w.heap.size) rfl
    go_enter Try.func20, Try.ntmps20
    go_wp2_with fail
    have X0 := Tup3.box1 w ↑j k m 37 (k := w.heap.size) (by simp)
    have b0 := PointOk.below1 w (Obj.cells #[.int .i64 ↑j, .int .i64 k, .int .i64 m] 37)
    have HO : ∀ W W' : World, (Tup3.Box W (w.heap.size) ↑j k m ∧ TsAt W w.heap.size (some bd) ps ∧ TAt W bd j a b c ∧ Below w.heap.size w W) → Below W.heap.size W W' → (Tup3.Box W' (w.heap.size) ↑j k m ∧ TsAt W' w.heap.size (some bd) ps ∧ TAt W' bd j a b c ∧ Below w.heap.size w W') := fun W W' ⟨h0, x0, x1, hb⟩ h => ⟨h0.later h, x0.later (h.mono hb.size), x1.later bA (h.mono hb.size), hb.trans (h.mono hb.size)⟩
    have hz0_ : Hid (((w.alloc (Obj.cells #[.int .i64 ↑j, .int .i64 k, .int .i64 m] 37))).heap.size = w.heap.size + 1) := Lib.hid (by simp)
    have Y0 : TsAt ((w.alloc (Obj.cells #[.int .i64 ↑j, .int .i64 k, .int .i64 m] 37))) w.heap.size (some bd) ps := hp.later b0
    have Y1 : TAt ((w.alloc (Obj.cells #[.int .i64 ↑j, .int .i64 k, .int .i64 m] 37))) bd j a b c := pA.later bA b0
    generalize (w.alloc (Obj.cells #[.int .i64 ↑j, .int .i64 k, .int .i64 m] 37)) = w0 at X0 Y0 Y1 b0 hz0_ ⊢
    have S0 := (⟨X0, Y0, Y1, b0⟩ : Tup3.Box w0 (w.heap.size) ↑j k m ∧ TsAt w0 w.heap.size (some bd) ps ∧ TAt w0 bd j a b c ∧ Below w.heap.size w w0)
    clear X0 Y0 Y1 b0
    obtain ⟨⟨_, _, _⟩, _, ⟨_, _, _⟩, _⟩ := id S0
    refine (Q1.out _).mono ?_
    rintro e w1 ⟨rfl, hb_⟩
    replace S0 := HO _ _ S0 hb_
    clear hb_
    obtain ⟨⟨_, _, _⟩, _, ⟨_, _, _⟩, _⟩ := id S0
    have X3 := Tup3.box1 w1 a b c 39 (k := w1.heap.size) rfl
    have b1_ := below1 w1 (Obj.cells #[.int .i64 a, .int .i64 b, .int .i64 c] 39)
    have S1 := HO _ _ S0 b1_
    obtain ⟨⟨_, _, _⟩, _, ⟨_, _, _⟩, _⟩ := id S1
    obtain ⟨_, _, _⟩ := id X3
    obtain ⟨kb, hkb⟩ : ∃ K, w1.heap.size = K := ⟨_, rfl⟩
    rw [hkb] at X3
    clear S0 b1_
    go_wp2_with fail
    generalize w1.alloc (Obj.cells #[.int .i64 a, .int .i64 b, .int .i64 c] 39) = v1 at *
    try rw [hkb]
    clear hkb
    replace S1 : (Tup3.Box v1 (w.heap.size) ↑j k m ∧ TsAt v1 w.heap.size (some bd) ps ∧ TAt v1 bd j a b c ∧ Below w.heap.size w v1) ∧ Tup3.Box v1 kb a b c := ⟨S1, X3⟩
    clear X3
    have HO : ∀ W W' : World, (Tup3.Box W (w.heap.size) ↑j k m ∧ TsAt W w.heap.size (some bd) ps ∧ TAt W bd j a b c ∧ Tup3.Box W kb a b c ∧ Below w.heap.size w W) → Below W.heap.size W W' → (Tup3.Box W' (w.heap.size) ↑j k m ∧ TsAt W' w.heap.size (some bd) ps ∧ TAt W' bd j a b c ∧ Tup3.Box W' kb a b c ∧ Below w.heap.size w W') := fun W W' ⟨h0, x0, x1, x2, hb⟩ h => ⟨h0.later h, x0.later (h.mono hb.size), x1.later bA (h.mono hb.size), x2.later h, hb.trans (h.mono hb.size)⟩
    have S0 : Tup3.Box v1 (w.heap.size) ↑j k m ∧ TsAt v1 w.heap.size (some bd) ps ∧ TAt v1 bd j a b c ∧ Tup3.Box v1 kb a b c ∧ Below w.heap.size w v1 := ⟨S1.1.1, S1.1.2.1, S1.1.2.2.1, S1.2, S1.1.2.2.2⟩
    clear S1
    obtain ⟨⟨_, _, _⟩, _, ⟨_, _, _⟩, ⟨_, _, _⟩, _⟩ := id S0
    refine Settle.region (fun W => Tup3.Box W (w.heap.size) ↑j k m ∧ TsAt W w.heap.size (some bd) ps ∧ TAt W bd j a b c ∧ Tup3.Box W kb a b c ∧ Below w.heap.size w W) (by kernel_rfl) (by kernel_rfl) (by kernel_rfl) (by kernel_rfl) (HO _ _ S0 ((Below.refl _ _).drew)) ?_
    clear S0
    repeat (first
      | (refine Settle.Settles.off (by rfl) ?_; simp only [Act.put, List.setIfInBounds_toArray, List.set_cons_zero, List.set_cons_succ])
      | (refine Settle.Settles.quiet (v := ?_) (by rfl) ?_ ?_
         rotate_left
         · (intro W hS; obtain ⟨⟨_, _, _⟩, _, ⟨_, _, _⟩, ⟨_, _, _⟩, _⟩ := hS; go_simp; with_reducible rfl)
         simp only [Act.put, List.setIfInBounds_toArray, List.set_cons_zero, List.set_cons_succ])
      | (refine Settle.Settles.call (v := ?_) (f := ?_) (args := ?_) (by rfl) ?_ ?_ ?_
         rotate_left 3
         · (intro W; go_simp; refine ⟨?_, ?_⟩ <;> with_reducible rfl)
         · (intro W hS; fail)
         simp only [Act.put, List.setIfInBounds_toArray, List.set_cons_zero, List.set_cons_succ]))
    refine Settle.Settles.nil ?_
    intro wr S0
    obtain ⟨⟨_, _, _⟩, _, ⟨_, _, _⟩, ⟨_, _, _⟩, _⟩ := id S0
    go_wp2_with fail
    go_ret
    exact ⟨ret_bool E.out.symm, S0.2.2.2.2⟩
  have d2 : decide (m < b) = true := decide_eq_true k2
  replace HE : Hid (1 ≤ k ∧ k ≤ 3 → r = bitB c k) := Lib.hid (fun hk => by rw [HE.out hk, decide_eq_true k1, decide_eq_true k2]; rfl)
  by_cases hk1 : k = 1
  · subst hk1
    have HB : Hid (r = decide (c / 2 % 2 = 1)) := Lib.hid (by rw [HE.out (by omega)]; exact bit_1 c)
    have e1 := and_bit1 (c := c) (by omega)
    have QT := Lib.hid fun w => typed1 (j : Int) m w
    have QB := Lib.hid fun v w => bitFor1 v w
    clear HE HE0
    by_cases hy : c / 2 % 2 = 1
    · have E : Hid (r = true) := Lib.hid (by rw [HB.out, decide_eq_true hy])
      rw [if_pos hy] at e1
      clear HB hy
      obtain ⟨_, _, _⟩ := pA.later bA (below1 w (Obj.cells #[.int .i64 ↑j, .int .i64 1, .int .i64 m] 37))
      obtain ⟨_, _, _⟩ := Tup3.box1 w ↑j 1 m 37 (k := w.heap.size) rfl
      go_enter Try.func20, Try.ntmps20
      go_wp2_with fail
      have X0 := Tup3.box1 w ↑j 1 m 37 (k := w.heap.size) (by simp)
      have b0 := PointOk.below1 w (Obj.cells #[.int .i64 ↑j, .int .i64 1, .int .i64 m] 37)
      have HO : ∀ W W' : World, (Tup3.Box W (w.heap.size) ↑j 1 m ∧ TsAt W w.heap.size (some bd) ps ∧ TAt W bd j a b c ∧ Below w.heap.size w W) → Below W.heap.size W W' → (Tup3.Box W' (w.heap.size) ↑j 1 m ∧ TsAt W' w.heap.size (some bd) ps ∧ TAt W' bd j a b c ∧ Below w.heap.size w W') := fun W W' ⟨h0, x0, x1, hb⟩ h => ⟨h0.later h, x0.later (h.mono hb.size), x1.later bA (h.mono hb.size), hb.trans (h.mono hb.size)⟩
      have hz0_ : Hid (((w.alloc (Obj.cells #[.int .i64 ↑j, .int .i64 1, .int .i64 m] 37))).heap.size = w.heap.size + 1) := Lib.hid (by simp)
      have Y0 : TsAt ((w.alloc (Obj.cells #[.int .i64 ↑j, .int .i64 1, .int .i64 m] 37))) w.heap.size (some bd) ps := hp.later b0
      have Y1 : TAt ((w.alloc (Obj.cells #[.int .i64 ↑j, .int .i64 1, .int .i64 m] 37))) bd j a b c := pA.later bA b0
      generalize (w.alloc (Obj.cells #[.int .i64 ↑j, .int .i64 1, .int .i64 m] 37)) = w0 at X0 Y0 Y1 b0 hz0_ ⊢
      have S0 := (⟨X0, Y0, Y1, b0⟩ : Tup3.Box w0 (w.heap.size) ↑j 1 m ∧ TsAt w0 w.heap.size (some bd) ps ∧ TAt w0 bd j a b c ∧ Below w.heap.size w w0)
      clear X0 Y0 Y1 b0
      obtain ⟨⟨_, _, _⟩, _, ⟨_, _, _⟩, _⟩ := id S0
      refine (Q1.out _).mono ?_
      rintro e w1 ⟨rfl, hb_⟩
      replace S0 := HO _ _ S0 hb_
      clear hb_
      obtain ⟨⟨_, _, _⟩, _, ⟨_, _, _⟩, _⟩ := id S0
      have X3 := Tup3.box1 w1 a b c 39 (k := w1.heap.size) rfl
      have b1_ := below1 w1 (Obj.cells #[.int .i64 a, .int .i64 b, .int .i64 c] 39)
      have S1 := HO _ _ S0 b1_
      obtain ⟨⟨_, _, _⟩, _, ⟨_, _, _⟩, _⟩ := id S1
      obtain ⟨_, _, _⟩ := id X3
      obtain ⟨kb, hkb⟩ : ∃ K, w1.heap.size = K := ⟨_, rfl⟩
      rw [hkb] at X3
      clear S0 b1_
      go_wp2_with fail
      generalize w1.alloc (Obj.cells #[.int .i64 a, .int .i64 b, .int .i64 c] 39) = v1 at *
      try rw [hkb]
      clear hkb
      replace S1 : (Tup3.Box v1 (w.heap.size) ↑j 1 m ∧ TsAt v1 w.heap.size (some bd) ps ∧ TAt v1 bd j a b c ∧ Below w.heap.size w v1) ∧ Tup3.Box v1 kb a b c := ⟨S1, X3⟩
      clear X3
      have HO : ∀ W W' : World, (Tup3.Box W (w.heap.size) ↑j 1 m ∧ TsAt W w.heap.size (some bd) ps ∧ TAt W bd j a b c ∧ Tup3.Box W kb a b c ∧ Below w.heap.size w W) → Below W.heap.size W W' → (Tup3.Box W' (w.heap.size) ↑j 1 m ∧ TsAt W' w.heap.size (some bd) ps ∧ TAt W' bd j a b c ∧ Tup3.Box W' kb a b c ∧ Below w.heap.size w W') := fun W W' ⟨h0, x0, x1, x2, hb⟩ h => ⟨h0.later h, x0.later (h.mono hb.size), x1.later bA (h.mono hb.size), x2.later h, hb.trans (h.mono hb.size)⟩
      have S0 : Tup3.Box v1 (w.heap.size) ↑j 1 m ∧ TsAt v1 w.heap.size (some bd) ps ∧ TAt v1 bd j a b c ∧ Tup3.Box v1 kb a b c ∧ Below w.heap.size w v1 := ⟨S1.1.1, S1.1.2.1, S1.1.2.2.1, S1.2, S1.1.2.2.2⟩
      clear S1
      obtain ⟨⟨_, _, _⟩, _, ⟨_, _, _⟩, ⟨_, _, _⟩, _⟩ := id S0
      refine Settle.region (fun W => Tup3.Box W (w.heap.size) ↑j 1 m ∧ TsAt W w.heap.size (some bd) ps ∧ TAt W bd j a b c ∧ Tup3.Box W kb a b c ∧ Below w.heap.size w W) (by kernel_rfl) (by kernel_rfl) (by kernel_rfl) (by kernel_rfl) (HO _ _ S0 ((Below.refl _ _).drew)) ?_
      clear S0
      repeat (first
        | (refine Settle.Settles.off (by rfl) ?_; simp only [Act.put, List.setIfInBounds_toArray, List.set_cons_zero, List.set_cons_succ])
        | (refine Settle.Settles.quiet (v := ?_) (by rfl) ?_ ?_
           rotate_left
           · (intro W hS; obtain ⟨⟨_, _, _⟩, _, ⟨_, _, _⟩, ⟨_, _, _⟩, _⟩ := hS; go_simp; with_reducible rfl)
           simp only [Act.put, List.setIfInBounds_toArray, List.set_cons_zero, List.set_cons_succ])
        | (refine Settle.Settles.call (v := ?_) (f := ?_) (args := ?_) (by rfl) ?_ ?_ ?_
           rotate_left 3
           · (intro W; go_simp; refine ⟨?_, ?_⟩ <;> with_reducible rfl)
           · (intro W hS; first | (go_at_call 27; (with_reducible refine (QT.out _).mono ?_); rintro e W1 ⟨rfl, hb⟩; refine ⟨?_, HO _ _ hS hb⟩; with_reducible rfl) | (go_at_call 26; (with_reducible refine (QB.out _ _).mono ?_); rintro e W1 ⟨rfl, rfl⟩; refine ⟨?_, hS⟩; with_reducible rfl))
           simp only [Act.put, List.setIfInBounds_toArray, List.set_cons_zero, List.set_cons_succ]))
      refine Settle.Settles.nil ?_
      intro wr S0
      obtain ⟨⟨_, _, _⟩, _, ⟨_, _, _⟩, ⟨_, _, _⟩, _⟩ := id S0
      go_wp2_with fail
      go_ret
      exact ⟨ret_bool E.out.symm, S0.2.2.2.2⟩
    · have E : Hid (r = false) := Lib.hid (by rw [HB.out, decide_eq_false hy])
      rw [if_neg hy] at e1
      clear HB hy
      obtain ⟨_, _, _⟩ := pA.later bA (below1 w (Obj.cells #[.int .i64 ↑j, .int .i64 1, .int .i64 m] 37))
      obtain ⟨_, _, _⟩ := Tup3.box1 w ↑j 1 m 37 (k := w.heap.size) rfl
      go_enter Try.func20, Try.ntmps20
      go_wp2_with fail
      have X0 := Tup3.box1 w ↑j 1 m 37 (k := w.heap.size) (by simp)
      have b0 := PointOk.below1 w (Obj.cells #[.int .i64 ↑j, .int .i64 1, .int .i64 m] 37)
      have HO : ∀ W W' : World, (Tup3.Box W (w.heap.size) ↑j 1 m ∧ TsAt W w.heap.size (some bd) ps ∧ TAt W bd j a b c ∧ Below w.heap.size w W) → Below W.heap.size W W' → (Tup3.Box W' (w.heap.size) ↑j 1 m ∧ TsAt W' w.heap.size (some bd) ps ∧ TAt W' bd j a b c ∧ Below w.heap.size w W') := fun W W' ⟨h0, x0, x1, hb⟩ h => ⟨h0.later h, x0.later (h.mono hb.size), x1.later bA (h.mono hb.size), hb.trans (h.mono hb.size)⟩
      have hz0_ : Hid (((w.alloc (Obj.cells #[.int .i64 ↑j, .int .i64 1, .int .i64 m] 37))).heap.size = w.heap.size + 1) := Lib.hid (by simp)
      have Y0 : TsAt ((w.alloc (Obj.cells #[.int .i64 ↑j, .int .i64 1, .int .i64 m] 37))) w.heap.size (some bd) ps := hp.later b0
      have Y1 : TAt ((w.alloc (Obj.cells #[.int .i64 ↑j, .int .i64 1, .int .i64 m] 37))) bd j a b c := pA.later bA b0
      generalize (w.alloc (Obj.cells #[.int .i64 ↑j, .int .i64 1, .int .i64 m] 37)) = w0 at X0 Y0 Y1 b0 hz0_ ⊢
      have S0 := (⟨X0, Y0, Y1, b0⟩ : Tup3.Box w0 (w.heap.size) ↑j 1 m ∧ TsAt w0 w.heap.size (some bd) ps ∧ TAt w0 bd j a b c ∧ Below w.heap.size w w0)
      clear X0 Y0 Y1 b0
      obtain ⟨⟨_, _, _⟩, _, ⟨_, _, _⟩, _⟩ := id S0
      refine (Q1.out _).mono ?_
      rintro e w1 ⟨rfl, hb_⟩
      replace S0 := HO _ _ S0 hb_
      clear hb_
      obtain ⟨⟨_, _, _⟩, _, ⟨_, _, _⟩, _⟩ := id S0
      have X3 := Tup3.box1 w1 a b c 39 (k := w1.heap.size) rfl
      have b1_ := below1 w1 (Obj.cells #[.int .i64 a, .int .i64 b, .int .i64 c] 39)
      have S1 := HO _ _ S0 b1_
      obtain ⟨⟨_, _, _⟩, _, ⟨_, _, _⟩, _⟩ := id S1
      obtain ⟨_, _, _⟩ := id X3
      obtain ⟨kb, hkb⟩ : ∃ K, w1.heap.size = K := ⟨_, rfl⟩
      rw [hkb] at X3
      clear S0 b1_
      go_wp2_with fail
      generalize w1.alloc (Obj.cells #[.int .i64 a, .int .i64 b, .int .i64 c] 39) = v1 at *
      try rw [hkb]
      clear hkb
      replace S1 : (Tup3.Box v1 (w.heap.size) ↑j 1 m ∧ TsAt v1 w.heap.size (some bd) ps ∧ TAt v1 bd j a b c ∧ Below w.heap.size w v1) ∧ Tup3.Box v1 kb a b c := ⟨S1, X3⟩
      clear X3
      have HO : ∀ W W' : World, (Tup3.Box W (w.heap.size) ↑j 1 m ∧ TsAt W w.heap.size (some bd) ps ∧ TAt W bd j a b c ∧ Tup3.Box W kb a b c ∧ Below w.heap.size w W) → Below W.heap.size W W' → (Tup3.Box W' (w.heap.size) ↑j 1 m ∧ TsAt W' w.heap.size (some bd) ps ∧ TAt W' bd j a b c ∧ Tup3.Box W' kb a b c ∧ Below w.heap.size w W') := fun W W' ⟨h0, x0, x1, x2, hb⟩ h => ⟨h0.later h, x0.later (h.mono hb.size), x1.later bA (h.mono hb.size), x2.later h, hb.trans (h.mono hb.size)⟩
      have S0 : Tup3.Box v1 (w.heap.size) ↑j 1 m ∧ TsAt v1 w.heap.size (some bd) ps ∧ TAt v1 bd j a b c ∧ Tup3.Box v1 kb a b c ∧ Below w.heap.size w v1 := ⟨S1.1.1, S1.1.2.1, S1.1.2.2.1, S1.2, S1.1.2.2.2⟩
      clear S1
      obtain ⟨⟨_, _, _⟩, _, ⟨_, _, _⟩, ⟨_, _, _⟩, _⟩ := id S0
      refine Settle.region (fun W => Tup3.Box W (w.heap.size) ↑j 1 m ∧ TsAt W w.heap.size (some bd) ps ∧ TAt W bd j a b c ∧ Tup3.Box W kb a b c ∧ Below w.heap.size w W) (by kernel_rfl) (by kernel_rfl) (by kernel_rfl) (by kernel_rfl) (HO _ _ S0 ((Below.refl _ _).drew)) ?_
      clear S0
      repeat (first
        | (refine Settle.Settles.off (by rfl) ?_; simp only [Act.put, List.setIfInBounds_toArray, List.set_cons_zero, List.set_cons_succ])
        | (refine Settle.Settles.quiet (v := ?_) (by rfl) ?_ ?_
           rotate_left
           · (intro W hS; obtain ⟨⟨_, _, _⟩, _, ⟨_, _, _⟩, ⟨_, _, _⟩, _⟩ := hS; go_simp; with_reducible rfl)
           simp only [Act.put, List.setIfInBounds_toArray, List.set_cons_zero, List.set_cons_succ])
        | (refine Settle.Settles.call (v := ?_) (f := ?_) (args := ?_) (by rfl) ?_ ?_ ?_
           rotate_left 3
           · (intro W; go_simp; refine ⟨?_, ?_⟩ <;> with_reducible rfl)
           · (intro W hS; first | (go_at_call 27; (with_reducible refine (QT.out _).mono ?_); rintro e W1 ⟨rfl, hb⟩; refine ⟨?_, HO _ _ hS hb⟩; with_reducible rfl) | (go_at_call 26; (with_reducible refine (QB.out _ _).mono ?_); rintro e W1 ⟨rfl, rfl⟩; refine ⟨?_, hS⟩; with_reducible rfl))
           simp only [Act.put, List.setIfInBounds_toArray, List.set_cons_zero, List.set_cons_succ]))
      refine Settle.Settles.nil ?_
      intro wr S0
      obtain ⟨⟨_, _, _⟩, _, ⟨_, _, _⟩, ⟨_, _, _⟩, _⟩ := id S0
      go_wp2_with fail
      go_ret
      exact ⟨ret_bool E.out.symm, S0.2.2.2.2⟩
  by_cases hk2 : k = 2
  · subst hk2
    have HB : Hid (r = decide (c / 4 % 2 = 1)) := Lib.hid (by rw [HE.out (by omega)]; exact bit_2 c)
    have e1 := and_bit2 (c := c) (by omega)
    have QT := Lib.hid fun w => typed2 (j : Int) m w
    have QB := Lib.hid fun v w => bitFor2 v w
    clear HE HE0
    by_cases hy : c / 4 % 2 = 1
    · have E : Hid (r = true) := Lib.hid (by rw [HB.out, decide_eq_true hy])
      rw [if_pos hy] at e1
      clear HB hy
      obtain ⟨_, _, _⟩ := pA.later bA (below1 w (Obj.cells #[.int .i64 ↑j, .int .i64 2, .int .i64 m] 37))
      obtain ⟨_, _, _⟩ := Tup3.box1 w ↑j 2 m 37 (k := w.heap.size) rfl
      go_enter Try.func20, Try.ntmps20
      go_wp2_with fail
      have X0 := Tup3.box1 w ↑j 2 m 37 (k := w.heap.size) (by simp)
      have b0 := PointOk.below1 w (Obj.cells #[.int .i64 ↑j, .int .i64 2, .int .i64 m] 37)
      have HO : ∀ W W' : World, (Tup3.Box W (w.heap.size) ↑j 2 m ∧ TsAt W w.heap.size (some bd) ps ∧ TAt W bd j a b c ∧ Below w.heap.size w W) → Below W.heap.size W W' → (Tup3.Box W' (w.heap.size) ↑j 2 m ∧ TsAt W' w.heap.size (some bd) ps ∧ TAt W' bd j a b c ∧ Below w.heap.size w W') := fun W W' ⟨h0, x0, x1, hb⟩ h => ⟨h0.later h, x0.later (h.mono hb.size), x1.later bA (h.mono hb.size), hb.trans (h.mono hb.size)⟩
      have hz0_ : Hid (((w.alloc (Obj.cells #[.int .i64 ↑j, .int .i64 2, .int .i64 m] 37))).heap.size = w.heap.size + 1) := Lib.hid (by simp)
      have Y0 : TsAt ((w.alloc (Obj.cells #[.int .i64 ↑j, .int .i64 2, .int .i64 m] 37))) w.heap.size (some bd) ps := hp.later b0
      have Y1 : TAt ((w.alloc (Obj.cells #[.int .i64 ↑j, .int .i64 2, .int .i64 m] 37))) bd j a b c := pA.later bA b0
      generalize (w.alloc (Obj.cells #[.int .i64 ↑j, .int .i64 2, .int .i64 m] 37)) = w0 at X0 Y0 Y1 b0 hz0_ ⊢
      have S0 := (⟨X0, Y0, Y1, b0⟩ : Tup3.Box w0 (w.heap.size) ↑j 2 m ∧ TsAt w0 w.heap.size (some bd) ps ∧ TAt w0 bd j a b c ∧ Below w.heap.size w w0)
      clear X0 Y0 Y1 b0
      obtain ⟨⟨_, _, _⟩, _, ⟨_, _, _⟩, _⟩ := id S0
      refine (Q1.out _).mono ?_
      rintro e w1 ⟨rfl, hb_⟩
      replace S0 := HO _ _ S0 hb_
      clear hb_
      obtain ⟨⟨_, _, _⟩, _, ⟨_, _, _⟩, _⟩ := id S0
      have X3 := Tup3.box1 w1 a b c 39 (k := w1.heap.size) rfl
      have b1_ := below1 w1 (Obj.cells #[.int .i64 a, .int .i64 b, .int .i64 c] 39)
      have S1 := HO _ _ S0 b1_
      obtain ⟨⟨_, _, _⟩, _, ⟨_, _, _⟩, _⟩ := id S1
      obtain ⟨_, _, _⟩ := id X3
      obtain ⟨kb, hkb⟩ : ∃ K, w1.heap.size = K := ⟨_, rfl⟩
      rw [hkb] at X3
      clear S0 b1_
      go_wp2_with fail
      generalize w1.alloc (Obj.cells #[.int .i64 a, .int .i64 b, .int .i64 c] 39) = v1 at *
      try rw [hkb]
      clear hkb
      replace S1 : (Tup3.Box v1 (w.heap.size) ↑j 2 m ∧ TsAt v1 w.heap.size (some bd) ps ∧ TAt v1 bd j a b c ∧ Below w.heap.size w v1) ∧ Tup3.Box v1 kb a b c := ⟨S1, X3⟩
      clear X3
      have HO : ∀ W W' : World, (Tup3.Box W (w.heap.size) ↑j 2 m ∧ TsAt W w.heap.size (some bd) ps ∧ TAt W bd j a b c ∧ Tup3.Box W kb a b c ∧ Below w.heap.size w W) → Below W.heap.size W W' → (Tup3.Box W' (w.heap.size) ↑j 2 m ∧ TsAt W' w.heap.size (some bd) ps ∧ TAt W' bd j a b c ∧ Tup3.Box W' kb a b c ∧ Below w.heap.size w W') := fun W W' ⟨h0, x0, x1, x2, hb⟩ h => ⟨h0.later h, x0.later (h.mono hb.size), x1.later bA (h.mono hb.size), x2.later h, hb.trans (h.mono hb.size)⟩
      have S0 : Tup3.Box v1 (w.heap.size) ↑j 2 m ∧ TsAt v1 w.heap.size (some bd) ps ∧ TAt v1 bd j a b c ∧ Tup3.Box v1 kb a b c ∧ Below w.heap.size w v1 := ⟨S1.1.1, S1.1.2.1, S1.1.2.2.1, S1.2, S1.1.2.2.2⟩
      clear S1
      obtain ⟨⟨_, _, _⟩, _, ⟨_, _, _⟩, ⟨_, _, _⟩, _⟩ := id S0
      refine Settle.region (fun W => Tup3.Box W (w.heap.size) ↑j 2 m ∧ TsAt W w.heap.size (some bd) ps ∧ TAt W bd j a b c ∧ Tup3.Box W kb a b c ∧ Below w.heap.size w W) (by kernel_rfl) (by kernel_rfl) (by kernel_rfl) (by kernel_rfl) (HO _ _ S0 ((Below.refl _ _).drew)) ?_
      clear S0
      repeat (first
        | (refine Settle.Settles.off (by rfl) ?_; simp only [Act.put, List.setIfInBounds_toArray, List.set_cons_zero, List.set_cons_succ])
        | (refine Settle.Settles.quiet (v := ?_) (by rfl) ?_ ?_
           rotate_left
           · (intro W hS; obtain ⟨⟨_, _, _⟩, _, ⟨_, _, _⟩, ⟨_, _, _⟩, _⟩ := hS; go_simp; with_reducible rfl)
           simp only [Act.put, List.setIfInBounds_toArray, List.set_cons_zero, List.set_cons_succ])
        | (refine Settle.Settles.call (v := ?_) (f := ?_) (args := ?_) (by rfl) ?_ ?_ ?_
           rotate_left 3
           · (intro W; go_simp; refine ⟨?_, ?_⟩ <;> with_reducible rfl)
           · (intro W hS; first | (go_at_call 27; (with_reducible refine (QT.out _).mono ?_); rintro e W1 ⟨rfl, hb⟩; refine ⟨?_, HO _ _ hS hb⟩; with_reducible rfl) | (go_at_call 26; (with_reducible refine (QB.out _ _).mono ?_); rintro e W1 ⟨rfl, rfl⟩; refine ⟨?_, hS⟩; with_reducible rfl))
           simp only [Act.put, List.setIfInBounds_toArray, List.set_cons_zero, List.set_cons_succ]))
      refine Settle.Settles.nil ?_
      intro wr S0
      obtain ⟨⟨_, _, _⟩, _, ⟨_, _, _⟩, ⟨_, _, _⟩, _⟩ := id S0
      go_wp2_with fail
      go_ret
      exact ⟨ret_bool E.out.symm, S0.2.2.2.2⟩
    · have E : Hid (r = false) := Lib.hid (by rw [HB.out, decide_eq_false hy])
      rw [if_neg hy] at e1
      clear HB hy
      obtain ⟨_, _, _⟩ := pA.later bA (below1 w (Obj.cells #[.int .i64 ↑j, .int .i64 2, .int .i64 m] 37))
      obtain ⟨_, _, _⟩ := Tup3.box1 w ↑j 2 m 37 (k := w.heap.size) rfl
      go_enter Try.func20, Try.ntmps20
      go_wp2_with fail
      have X0 := Tup3.box1 w ↑j 2 m 37 (k := w.heap.size) (by simp)
      have b0 := PointOk.below1 w (Obj.cells #[.int .i64 ↑j, .int .i64 2, .int .i64 m] 37)
      have HO : ∀ W W' : World, (Tup3.Box W (w.heap.size) ↑j 2 m ∧ TsAt W w.heap.size (some bd) ps ∧ TAt W bd j a b c ∧ Below w.heap.size w W) → Below W.heap.size W W' → (Tup3.Box W' (w.heap.size) ↑j 2 m ∧ TsAt W' w.heap.size (some bd) ps ∧ TAt W' bd j a b c ∧ Below w.heap.size w W') := fun W W' ⟨h0, x0, x1, hb⟩ h => ⟨h0.later h, x0.later (h.mono hb.size), x1.later bA (h.mono hb.size), hb.trans (h.mono hb.size)⟩
      have hz0_ : Hid (((w.alloc (Obj.cells #[.int .i64 ↑j, .int .i64 2, .int .i64 m] 37))).heap.size = w.heap.size + 1) := Lib.hid (by simp)
      have Y0 : TsAt ((w.alloc (Obj.cells #[.int .i64 ↑j, .int .i64 2, .int .i64 m] 37))) w.heap.size (some bd) ps := hp.later b0
      have Y1 : TAt ((w.alloc (Obj.cells #[.int .i64 ↑j, .int .i64 2, .int .i64 m] 37))) bd j a b c := pA.later bA b0
      generalize (w.alloc (Obj.cells #[.int .i64 ↑j, .int .i64 2, .int .i64 m] 37)) = w0 at X0 Y0 Y1 b0 hz0_ ⊢
      have S0 := (⟨X0, Y0, Y1, b0⟩ : Tup3.Box w0 (w.heap.size) ↑j 2 m ∧ TsAt w0 w.heap.size (some bd) ps ∧ TAt w0 bd j a b c ∧ Below w.heap.size w w0)
      clear X0 Y0 Y1 b0
      obtain ⟨⟨_, _, _⟩, _, ⟨_, _, _⟩, _⟩ := id S0
      refine (Q1.out _).mono ?_
      rintro e w1 ⟨rfl, hb_⟩
      replace S0 := HO _ _ S0 hb_
      clear hb_
      obtain ⟨⟨_, _, _⟩, _, ⟨_, _, _⟩, _⟩ := id S0
      have X3 := Tup3.box1 w1 a b c 39 (k := w1.heap.size) rfl
      have b1_ := below1 w1 (Obj.cells #[.int .i64 a, .int .i64 b, .int .i64 c] 39)
      have S1 := HO _ _ S0 b1_
      obtain ⟨⟨_, _, _⟩, _, ⟨_, _, _⟩, _⟩ := id S1
      obtain ⟨_, _, _⟩ := id X3
      obtain ⟨kb, hkb⟩ : ∃ K, w1.heap.size = K := ⟨_, rfl⟩
      rw [hkb] at X3
      clear S0 b1_
      go_wp2_with fail
      generalize w1.alloc (Obj.cells #[.int .i64 a, .int .i64 b, .int .i64 c] 39) = v1 at *
      try rw [hkb]
      clear hkb
      replace S1 : (Tup3.Box v1 (w.heap.size) ↑j 2 m ∧ TsAt v1 w.heap.size (some bd) ps ∧ TAt v1 bd j a b c ∧ Below w.heap.size w v1) ∧ Tup3.Box v1 kb a b c := ⟨S1, X3⟩
      clear X3
      have HO : ∀ W W' : World, (Tup3.Box W (w.heap.size) ↑j 2 m ∧ TsAt W w.heap.size (some bd) ps ∧ TAt W bd j a b c ∧ Tup3.Box W kb a b c ∧ Below w.heap.size w W) → Below W.heap.size W W' → (Tup3.Box W' (w.heap.size) ↑j 2 m ∧ TsAt W' w.heap.size (some bd) ps ∧ TAt W' bd j a b c ∧ Tup3.Box W' kb a b c ∧ Below w.heap.size w W') := fun W W' ⟨h0, x0, x1, x2, hb⟩ h => ⟨h0.later h, x0.later (h.mono hb.size), x1.later bA (h.mono hb.size), x2.later h, hb.trans (h.mono hb.size)⟩
      have S0 : Tup3.Box v1 (w.heap.size) ↑j 2 m ∧ TsAt v1 w.heap.size (some bd) ps ∧ TAt v1 bd j a b c ∧ Tup3.Box v1 kb a b c ∧ Below w.heap.size w v1 := ⟨S1.1.1, S1.1.2.1, S1.1.2.2.1, S1.2, S1.1.2.2.2⟩
      clear S1
      obtain ⟨⟨_, _, _⟩, _, ⟨_, _, _⟩, ⟨_, _, _⟩, _⟩ := id S0
      refine Settle.region (fun W => Tup3.Box W (w.heap.size) ↑j 2 m ∧ TsAt W w.heap.size (some bd) ps ∧ TAt W bd j a b c ∧ Tup3.Box W kb a b c ∧ Below w.heap.size w W) (by kernel_rfl) (by kernel_rfl) (by kernel_rfl) (by kernel_rfl) (HO _ _ S0 ((Below.refl _ _).drew)) ?_
      clear S0
      repeat (first
        | (refine Settle.Settles.off (by rfl) ?_; simp only [Act.put, List.setIfInBounds_toArray, List.set_cons_zero, List.set_cons_succ])
        | (refine Settle.Settles.quiet (v := ?_) (by rfl) ?_ ?_
           rotate_left
           · (intro W hS; obtain ⟨⟨_, _, _⟩, _, ⟨_, _, _⟩, ⟨_, _, _⟩, _⟩ := hS; go_simp; with_reducible rfl)
           simp only [Act.put, List.setIfInBounds_toArray, List.set_cons_zero, List.set_cons_succ])
        | (refine Settle.Settles.call (v := ?_) (f := ?_) (args := ?_) (by rfl) ?_ ?_ ?_
           rotate_left 3
           · (intro W; go_simp; refine ⟨?_, ?_⟩ <;> with_reducible rfl)
           · (intro W hS; first | (go_at_call 27; (with_reducible refine (QT.out _).mono ?_); rintro e W1 ⟨rfl, hb⟩; refine ⟨?_, HO _ _ hS hb⟩; with_reducible rfl) | (go_at_call 26; (with_reducible refine (QB.out _ _).mono ?_); rintro e W1 ⟨rfl, rfl⟩; refine ⟨?_, hS⟩; with_reducible rfl))
           simp only [Act.put, List.setIfInBounds_toArray, List.set_cons_zero, List.set_cons_succ]))
      refine Settle.Settles.nil ?_
      intro wr S0
      obtain ⟨⟨_, _, _⟩, _, ⟨_, _, _⟩, ⟨_, _, _⟩, _⟩ := id S0
      go_wp2_with fail
      go_ret
      exact ⟨ret_bool E.out.symm, S0.2.2.2.2⟩
  by_cases hk3 : k = 3
  · subst hk3
    have HB : Hid (r = decide (c / 8 % 2 = 1)) := Lib.hid (by rw [HE.out (by omega)]; exact bit_3 c)
    have e1 := and_bit3 (c := c) (by omega)
    have QT := Lib.hid fun w => typed3 (j : Int) m w
    have QB := Lib.hid fun v w => bitFor3 v w
    clear HE HE0
    by_cases hy : c / 8 % 2 = 1
    · have E : Hid (r = true) := Lib.hid (by rw [HB.out, decide_eq_true hy])
      rw [if_pos hy] at e1
      clear HB hy
      obtain ⟨_, _, _⟩ := pA.later bA (below1 w (Obj.cells #[.int .i64 ↑j, .int .i64 3, .int .i64 m] 37))
      obtain ⟨_, _, _⟩ := Tup3.box1 w ↑j 3 m 37 (k := w.heap.size) rfl
      go_enter Try.func20, Try.ntmps20
      go_wp2_with fail
      have X0 := Tup3.box1 w ↑j 3 m 37 (k := w.heap.size) (by simp)
      have b0 := PointOk.below1 w (Obj.cells #[.int .i64 ↑j, .int .i64 3, .int .i64 m] 37)
      have HO : ∀ W W' : World, (Tup3.Box W (w.heap.size) ↑j 3 m ∧ TsAt W w.heap.size (some bd) ps ∧ TAt W bd j a b c ∧ Below w.heap.size w W) → Below W.heap.size W W' → (Tup3.Box W' (w.heap.size) ↑j 3 m ∧ TsAt W' w.heap.size (some bd) ps ∧ TAt W' bd j a b c ∧ Below w.heap.size w W') := fun W W' ⟨h0, x0, x1, hb⟩ h => ⟨h0.later h, x0.later (h.mono hb.size), x1.later bA (h.mono hb.size), hb.trans (h.mono hb.size)⟩
      have hz0_ : Hid (((w.alloc (Obj.cells #[.int .i64 ↑j, .int .i64 3, .int .i64 m] 37))).heap.size = w.heap.size + 1) := Lib.hid (by simp)
      have Y0 : TsAt ((w.alloc (Obj.cells #[.int .i64 ↑j, .int .i64 3, .int .i64 m] 37))) w.heap.size (some bd) ps := hp.later b0
      have Y1 : TAt ((w.alloc (Obj.cells #[.int .i64 ↑j, .int .i64 3, .int .i64 m] 37))) bd j a b c := pA.later bA b0
      generalize (w.alloc (Obj.cells #[.int .i64 ↑j, .int .i64 3, .int .i64 m] 37)) = w0 at X0 Y0 Y1 b0 hz0_ ⊢
      have S0 := (⟨X0, Y0, Y1, b0⟩ : Tup3.Box w0 (w.heap.size) ↑j 3 m ∧ TsAt w0 w.heap.size (some bd) ps ∧ TAt w0 bd j a b c ∧ Below w.heap.size w w0)
      clear X0 Y0 Y1 b0
      obtain ⟨⟨_, _, _⟩, _, ⟨_, _, _⟩, _⟩ := id S0
      refine (Q1.out _).mono ?_
      rintro e w1 ⟨rfl, hb_⟩
      replace S0 := HO _ _ S0 hb_
      clear hb_
      obtain ⟨⟨_, _, _⟩, _, ⟨_, _, _⟩, _⟩ := id S0
      have X3 := Tup3.box1 w1 a b c 39 (k := w1.heap.size) rfl
      have b1_ := below1 w1 (Obj.cells #[.int .i64 a, .int .i64 b, .int .i64 c] 39)
      have S1 := HO _ _ S0 b1_
      obtain ⟨⟨_, _, _⟩, _, ⟨_, _, _⟩, _⟩ := id S1
      obtain ⟨_, _, _⟩ := id X3
      obtain ⟨kb, hkb⟩ : ∃ K, w1.heap.size = K := ⟨_, rfl⟩
      rw [hkb] at X3
      clear S0 b1_
      go_wp2_with fail
      generalize w1.alloc (Obj.cells #[.int .i64 a, .int .i64 b, .int .i64 c] 39) = v1 at *
      try rw [hkb]
      clear hkb
      replace S1 : (Tup3.Box v1 (w.heap.size) ↑j 3 m ∧ TsAt v1 w.heap.size (some bd) ps ∧ TAt v1 bd j a b c ∧ Below w.heap.size w v1) ∧ Tup3.Box v1 kb a b c := ⟨S1, X3⟩
      clear X3
      have HO : ∀ W W' : World, (Tup3.Box W (w.heap.size) ↑j 3 m ∧ TsAt W w.heap.size (some bd) ps ∧ TAt W bd j a b c ∧ Tup3.Box W kb a b c ∧ Below w.heap.size w W) → Below W.heap.size W W' → (Tup3.Box W' (w.heap.size) ↑j 3 m ∧ TsAt W' w.heap.size (some bd) ps ∧ TAt W' bd j a b c ∧ Tup3.Box W' kb a b c ∧ Below w.heap.size w W') := fun W W' ⟨h0, x0, x1, x2, hb⟩ h => ⟨h0.later h, x0.later (h.mono hb.size), x1.later bA (h.mono hb.size), x2.later h, hb.trans (h.mono hb.size)⟩
      have S0 : Tup3.Box v1 (w.heap.size) ↑j 3 m ∧ TsAt v1 w.heap.size (some bd) ps ∧ TAt v1 bd j a b c ∧ Tup3.Box v1 kb a b c ∧ Below w.heap.size w v1 := ⟨S1.1.1, S1.1.2.1, S1.1.2.2.1, S1.2, S1.1.2.2.2⟩
      clear S1
      obtain ⟨⟨_, _, _⟩, _, ⟨_, _, _⟩, ⟨_, _, _⟩, _⟩ := id S0
      refine Settle.region (fun W => Tup3.Box W (w.heap.size) ↑j 3 m ∧ TsAt W w.heap.size (some bd) ps ∧ TAt W bd j a b c ∧ Tup3.Box W kb a b c ∧ Below w.heap.size w W) (by kernel_rfl) (by kernel_rfl) (by kernel_rfl) (by kernel_rfl) (HO _ _ S0 ((Below.refl _ _).drew)) ?_
      clear S0
      repeat (first
        | (refine Settle.Settles.off (by rfl) ?_; simp only [Act.put, List.setIfInBounds_toArray, List.set_cons_zero, List.set_cons_succ])
        | (refine Settle.Settles.quiet (v := ?_) (by rfl) ?_ ?_
           rotate_left
           · (intro W hS; obtain ⟨⟨_, _, _⟩, _, ⟨_, _, _⟩, ⟨_, _, _⟩, _⟩ := hS; go_simp; with_reducible rfl)
           simp only [Act.put, List.setIfInBounds_toArray, List.set_cons_zero, List.set_cons_succ])
        | (refine Settle.Settles.call (v := ?_) (f := ?_) (args := ?_) (by rfl) ?_ ?_ ?_
           rotate_left 3
           · (intro W; go_simp; refine ⟨?_, ?_⟩ <;> with_reducible rfl)
           · (intro W hS; first | (go_at_call 27; (with_reducible refine (QT.out _).mono ?_); rintro e W1 ⟨rfl, hb⟩; refine ⟨?_, HO _ _ hS hb⟩; with_reducible rfl) | (go_at_call 26; (with_reducible refine (QB.out _ _).mono ?_); rintro e W1 ⟨rfl, rfl⟩; refine ⟨?_, hS⟩; with_reducible rfl))
           simp only [Act.put, List.setIfInBounds_toArray, List.set_cons_zero, List.set_cons_succ]))
      refine Settle.Settles.nil ?_
      intro wr S0
      obtain ⟨⟨_, _, _⟩, _, ⟨_, _, _⟩, ⟨_, _, _⟩, _⟩ := id S0
      go_wp2_with fail
      go_ret
      exact ⟨ret_bool E.out.symm, S0.2.2.2.2⟩
    · have E : Hid (r = false) := Lib.hid (by rw [HB.out, decide_eq_false hy])
      rw [if_neg hy] at e1
      clear HB hy
      obtain ⟨_, _, _⟩ := pA.later bA (below1 w (Obj.cells #[.int .i64 ↑j, .int .i64 3, .int .i64 m] 37))
      obtain ⟨_, _, _⟩ := Tup3.box1 w ↑j 3 m 37 (k := w.heap.size) rfl
      go_enter Try.func20, Try.ntmps20
      go_wp2_with fail
      have X0 := Tup3.box1 w ↑j 3 m 37 (k := w.heap.size) (by simp)
      have b0 := PointOk.below1 w (Obj.cells #[.int .i64 ↑j, .int .i64 3, .int .i64 m] 37)
      have HO : ∀ W W' : World, (Tup3.Box W (w.heap.size) ↑j 3 m ∧ TsAt W w.heap.size (some bd) ps ∧ TAt W bd j a b c ∧ Below w.heap.size w W) → Below W.heap.size W W' → (Tup3.Box W' (w.heap.size) ↑j 3 m ∧ TsAt W' w.heap.size (some bd) ps ∧ TAt W' bd j a b c ∧ Below w.heap.size w W') := fun W W' ⟨h0, x0, x1, hb⟩ h => ⟨h0.later h, x0.later (h.mono hb.size), x1.later bA (h.mono hb.size), hb.trans (h.mono hb.size)⟩
      have hz0_ : Hid (((w.alloc (Obj.cells #[.int .i64 ↑j, .int .i64 3, .int .i64 m] 37))).heap.size = w.heap.size + 1) := Lib.hid (by simp)
      have Y0 : TsAt ((w.alloc (Obj.cells #[.int .i64 ↑j, .int .i64 3, .int .i64 m] 37))) w.heap.size (some bd) ps := hp.later b0
      have Y1 : TAt ((w.alloc (Obj.cells #[.int .i64 ↑j, .int .i64 3, .int .i64 m] 37))) bd j a b c := pA.later bA b0
      generalize (w.alloc (Obj.cells #[.int .i64 ↑j, .int .i64 3, .int .i64 m] 37)) = w0 at X0 Y0 Y1 b0 hz0_ ⊢
      have S0 := (⟨X0, Y0, Y1, b0⟩ : Tup3.Box w0 (w.heap.size) ↑j 3 m ∧ TsAt w0 w.heap.size (some bd) ps ∧ TAt w0 bd j a b c ∧ Below w.heap.size w w0)
      clear X0 Y0 Y1 b0
      obtain ⟨⟨_, _, _⟩, _, ⟨_, _, _⟩, _⟩ := id S0
      refine (Q1.out _).mono ?_
      rintro e w1 ⟨rfl, hb_⟩
      replace S0 := HO _ _ S0 hb_
      clear hb_
      obtain ⟨⟨_, _, _⟩, _, ⟨_, _, _⟩, _⟩ := id S0
      have X3 := Tup3.box1 w1 a b c 39 (k := w1.heap.size) rfl
      have b1_ := below1 w1 (Obj.cells #[.int .i64 a, .int .i64 b, .int .i64 c] 39)
      have S1 := HO _ _ S0 b1_
      obtain ⟨⟨_, _, _⟩, _, ⟨_, _, _⟩, _⟩ := id S1
      obtain ⟨_, _, _⟩ := id X3
      obtain ⟨kb, hkb⟩ : ∃ K, w1.heap.size = K := ⟨_, rfl⟩
      rw [hkb] at X3
      clear S0 b1_
      go_wp2_with fail
      generalize w1.alloc (Obj.cells #[.int .i64 a, .int .i64 b, .int .i64 c] 39) = v1 at *
      try rw [hkb]
      clear hkb
      replace S1 : (Tup3.Box v1 (w.heap.size) ↑j 3 m ∧ TsAt v1 w.heap.size (some bd) ps ∧ TAt v1 bd j a b c ∧ Below w.heap.size w v1) ∧ Tup3.Box v1 kb a b c := ⟨S1, X3⟩
      clear X3
      have HO : ∀ W W' : World, (Tup3.Box W (w.heap.size) ↑j 3 m ∧ TsAt W w.heap.size (some bd) ps ∧ TAt W bd j a b c ∧ Tup3.Box W kb a b c ∧ Below w.heap.size w W) → Below W.heap.size W W' → (Tup3.Box W' (w.heap.size) ↑j 3 m ∧ TsAt W' w.heap.size (some bd) ps ∧ TAt W' bd j a b c ∧ Tup3.Box W' kb a b c ∧ Below w.heap.size w W') := fun W W' ⟨h0, x0, x1, x2, hb⟩ h => ⟨h0.later h, x0.later (h.mono hb.size), x1.later bA (h.mono hb.size), x2.later h, hb.trans (h.mono hb.size)⟩
      have S0 : Tup3.Box v1 (w.heap.size) ↑j 3 m ∧ TsAt v1 w.heap.size (some bd) ps ∧ TAt v1 bd j a b c ∧ Tup3.Box v1 kb a b c ∧ Below w.heap.size w v1 := ⟨S1.1.1, S1.1.2.1, S1.1.2.2.1, S1.2, S1.1.2.2.2⟩
      clear S1
      obtain ⟨⟨_, _, _⟩, _, ⟨_, _, _⟩, ⟨_, _, _⟩, _⟩ := id S0
      refine Settle.region (fun W => Tup3.Box W (w.heap.size) ↑j 3 m ∧ TsAt W w.heap.size (some bd) ps ∧ TAt W bd j a b c ∧ Tup3.Box W kb a b c ∧ Below w.heap.size w W) (by kernel_rfl) (by kernel_rfl) (by kernel_rfl) (by kernel_rfl) (HO _ _ S0 ((Below.refl _ _).drew)) ?_
      clear S0
      repeat (first
        | (refine Settle.Settles.off (by rfl) ?_; simp only [Act.put, List.setIfInBounds_toArray, List.set_cons_zero, List.set_cons_succ])
        | (refine Settle.Settles.quiet (v := ?_) (by rfl) ?_ ?_
           rotate_left
           · (intro W hS; obtain ⟨⟨_, _, _⟩, _, ⟨_, _, _⟩, ⟨_, _, _⟩, _⟩ := hS; go_simp; with_reducible rfl)
           simp only [Act.put, List.setIfInBounds_toArray, List.set_cons_zero, List.set_cons_succ])
        | (refine Settle.Settles.call (v := ?_) (f := ?_) (args := ?_) (by rfl) ?_ ?_ ?_
           rotate_left 3
           · (intro W; go_simp; refine ⟨?_, ?_⟩ <;> with_reducible rfl)
           · (intro W hS; first | (go_at_call 27; (with_reducible refine (QT.out _).mono ?_); rintro e W1 ⟨rfl, hb⟩; refine ⟨?_, HO _ _ hS hb⟩; with_reducible rfl) | (go_at_call 26; (with_reducible refine (QB.out _ _).mono ?_); rintro e W1 ⟨rfl, rfl⟩; refine ⟨?_, hS⟩; with_reducible rfl))
           simp only [Act.put, List.setIfInBounds_toArray, List.set_cons_zero, List.set_cons_succ]))
      refine Settle.Settles.nil ?_
      intro wr S0
      obtain ⟨⟨_, _, _⟩, _, ⟨_, _, _⟩, ⟨_, _, _⟩, _⟩ := id S0
      go_wp2_with fail
      go_ret
      exact ⟨ret_bool E.out.symm, S0.2.2.2.2⟩
  have e1 := and_zero (c := c) (by omega)
  have QT := Lib.hid fun w => typed0 (j : Int) k m hk1 hk2 hk3 w
  have QB := Lib.hid fun w => bitFor0 w
  have E : Hid (r = false) := Lib.hid (HE0.out (by omega))
  clear HE HE0
  obtain ⟨_, _, _⟩ := pA.later bA (below1 w (Obj.cells #[.int .i64 ↑j, .int .i64 k, .int .i64 m] 37))
  obtain ⟨_, _, _⟩ := Tup3.box1 w ↑j k m 37 (k := w.heap.size) rfl
  go_enter Try.func20, Try.ntmps20
  go_wp2_with fail
  have X0 := Tup3.box1 w ↑j k m 37 (k := w.heap.size) (by simp)
  have b0 := PointOk.below1 w (Obj.cells #[.int .i64 ↑j, .int .i64 k, .int .i64 m] 37)
  have HO : ∀ W W' : World, (Tup3.Box W (w.heap.size) ↑j k m ∧ TsAt W w.heap.size (some bd) ps ∧ TAt W bd j a b c ∧ Below w.heap.size w W) → Below W.heap.size W W' → (Tup3.Box W' (w.heap.size) ↑j k m ∧ TsAt W' w.heap.size (some bd) ps ∧ TAt W' bd j a b c ∧ Below w.heap.size w W') := fun W W' ⟨h0, x0, x1, hb⟩ h => ⟨h0.later h, x0.later (h.mono hb.size), x1.later bA (h.mono hb.size), hb.trans (h.mono hb.size)⟩
  have hz0_ : Hid (((w.alloc (Obj.cells #[.int .i64 ↑j, .int .i64 k, .int .i64 m] 37))).heap.size = w.heap.size + 1) := Lib.hid (by simp)
  have Y0 : TsAt ((w.alloc (Obj.cells #[.int .i64 ↑j, .int .i64 k, .int .i64 m] 37))) w.heap.size (some bd) ps := hp.later b0
  have Y1 : TAt ((w.alloc (Obj.cells #[.int .i64 ↑j, .int .i64 k, .int .i64 m] 37))) bd j a b c := pA.later bA b0
  generalize (w.alloc (Obj.cells #[.int .i64 ↑j, .int .i64 k, .int .i64 m] 37)) = w0 at X0 Y0 Y1 b0 hz0_ ⊢
  have S0 := (⟨X0, Y0, Y1, b0⟩ : Tup3.Box w0 (w.heap.size) ↑j k m ∧ TsAt w0 w.heap.size (some bd) ps ∧ TAt w0 bd j a b c ∧ Below w.heap.size w w0)
  clear X0 Y0 Y1 b0
  obtain ⟨⟨_, _, _⟩, _, ⟨_, _, _⟩, _⟩ := id S0
  refine (Q1.out _).mono ?_
  rintro e w1 ⟨rfl, hb_⟩
  replace S0 := HO _ _ S0 hb_
  clear hb_
  obtain ⟨⟨_, _, _⟩, _, ⟨_, _, _⟩, _⟩ := id S0
  have X3 := Tup3.box1 w1 a b c 39 (k := w1.heap.size) rfl
  have b1_ := below1 w1 (Obj.cells #[.int .i64 a, .int .i64 b, .int .i64 c] 39)
  have S1 := HO _ _ S0 b1_
  obtain ⟨⟨_, _, _⟩, _, ⟨_, _, _⟩, _⟩ := id S1
  obtain ⟨_, _, _⟩ := id X3
  obtain ⟨kb, hkb⟩ : ∃ K, w1.heap.size = K := ⟨_, rfl⟩
  rw [hkb] at X3
  clear S0 b1_
  go_wp2_with fail
  generalize w1.alloc (Obj.cells #[.int .i64 a, .int .i64 b, .int .i64 c] 39) = v1 at *
  try rw [hkb]
  clear hkb
  replace S1 : (Tup3.Box v1 (w.heap.size) ↑j k m ∧ TsAt v1 w.heap.size (some bd) ps ∧ TAt v1 bd j a b c ∧ Below w.heap.size w v1) ∧ Tup3.Box v1 kb a b c := ⟨S1, X3⟩
  clear X3
  have HO : ∀ W W' : World, (Tup3.Box W (w.heap.size) ↑j k m ∧ TsAt W w.heap.size (some bd) ps ∧ TAt W bd j a b c ∧ Tup3.Box W kb a b c ∧ Below w.heap.size w W) → Below W.heap.size W W' → (Tup3.Box W' (w.heap.size) ↑j k m ∧ TsAt W' w.heap.size (some bd) ps ∧ TAt W' bd j a b c ∧ Tup3.Box W' kb a b c ∧ Below w.heap.size w W') := fun W W' ⟨h0, x0, x1, x2, hb⟩ h => ⟨h0.later h, x0.later (h.mono hb.size), x1.later bA (h.mono hb.size), x2.later h, hb.trans (h.mono hb.size)⟩
  have S0 : Tup3.Box v1 (w.heap.size) ↑j k m ∧ TsAt v1 w.heap.size (some bd) ps ∧ TAt v1 bd j a b c ∧ Tup3.Box v1 kb a b c ∧ Below w.heap.size w v1 := ⟨S1.1.1, S1.1.2.1, S1.1.2.2.1, S1.2, S1.1.2.2.2⟩
  clear S1
  obtain ⟨⟨_, _, _⟩, _, ⟨_, _, _⟩, ⟨_, _, _⟩, _⟩ := id S0
  refine Settle.region (fun W => Tup3.Box W (w.heap.size) ↑j k m ∧ TsAt W w.heap.size (some bd) ps ∧ TAt W bd j a b c ∧ Tup3.Box W kb a b c ∧ Below w.heap.size w W) (by kernel_rfl) (by kernel_rfl) (by kernel_rfl) (by kernel_rfl) (HO _ _ S0 ((Below.refl _ _).drew)) ?_
  clear S0
  repeat (first
    | (refine Settle.Settles.off (by rfl) ?_; simp only [Act.put, List.setIfInBounds_toArray, List.set_cons_zero, List.set_cons_succ])
    | (refine Settle.Settles.quiet (v := ?_) (by rfl) ?_ ?_
       rotate_left
       · (intro W hS; obtain ⟨⟨_, _, _⟩, _, ⟨_, _, _⟩, ⟨_, _, _⟩, _⟩ := hS; go_simp; with_reducible rfl)
       simp only [Act.put, List.setIfInBounds_toArray, List.set_cons_zero, List.set_cons_succ])
    | (refine Settle.Settles.call (v := ?_) (f := ?_) (args := ?_) (by rfl) ?_ ?_ ?_
       rotate_left 3
       · (intro W; go_simp; refine ⟨?_, ?_⟩ <;> with_reducible rfl)
       · (intro W hS; first | (go_at_call 27; (with_reducible refine (QT.out _).mono ?_); rintro e W1 ⟨rfl, hb⟩; refine ⟨?_, HO _ _ hS hb⟩; with_reducible rfl) | (go_at_call 26; (with_reducible refine (QB.out _).mono ?_); rintro e W1 ⟨rfl, rfl⟩; refine ⟨?_, hS⟩; with_reducible rfl))
       simp only [Act.put, List.setIfInBounds_toArray, List.set_cons_zero, List.set_cons_succ]))
  refine Settle.Settles.nil ?_
  intro wr S0
  obtain ⟨⟨_, _, _⟩, _, ⟨_, _, _⟩, ⟨_, _, _⟩, _⟩ := id S0
  go_wp2_with fail
  go_ret
  exact ⟨ret_bool E.out.symm, S0.2.2.2.2⟩

set_option maxRecDepth 100000 in
set_option maxHeartbeats 6400000 in
theorem alarmsOf (A : Option Addr) (n cap : Nat) (B : Option Addr) (m cb : Nat) (w : World) (ps : List Tu) (hl0 : ps.length = n) (hn : n ≤ 1048576) (hp : TsAt w w.heap.size A ps) (qs : List Tu) (hl : qs.length = m) (hn2 : m ≤ 1048576) (hq : TsAt w w.heap.size B qs) :
    Calls Try.prog 15 #[.slice A n cap, .slice B m cb] w (GivesI 3 w (alarmsL ps qs)) := by
  obtain ⟨r, hr⟩ : ∃ r, alarmsL ps qs = r := ⟨_, rfl⟩
  have HR := Lib.hid hr
  rw [hr]
  clear hr
  obtain ⟨f, hf⟩ : ∃ f : Nat → Bool, alarmF ps qs = f := ⟨_, rfl⟩
  have HE : Hid (thatTo f m = r) := Lib.hid (by rw [← HR.out, ← hf, ← hl]; rfl)
  have QS : Hid (∀ w hp k (hk : k < m), _) := Lib.hid fun w hp k (hk : k < m) => raises A n cap (tt qs k).1 (tt qs k).2.1 (tt qs k).2.2 w ps hl0 hn hp
  have HF : Hid (∀ k, f k = raisesB ps (tt qs k).1 (tt qs k).2.1 (tt qs k).2.2) := Lib.hid (fun k => by rw [← hf]; rfl)
  obtain ⟨i0, hi, hz0, hz1, hz2⟩ := info_parts infoI
  clear hf HR
  go_enter Try.func15, Try.ntmps15
  go_wp2_with fail
  have HO : ∀ W W' : World, (TsAt W w.heap.size A ps ∧ TsAt W w.heap.size B qs ∧ Below w.heap.size w W) → Below W.heap.size W W' → (TsAt W' w.heap.size A ps ∧ TsAt W' w.heap.size B qs ∧ Below w.heap.size w W') := fun W W' ⟨x0, x1, hb⟩ h => ⟨x0.later (h.mono hb.size), x1.later (h.mono hb.size), hb.trans (h.mono hb.size)⟩
  have S0 : TsAt w w.heap.size A ps ∧ TsAt w w.heap.size B qs ∧ Below w.heap.size w w := ⟨hp, hq, Below.refl _ _⟩
  have HO2 : ∀ W W' : World, (TsAt W w.heap.size A ps ∧ TsAt W w.heap.size B qs ∧ Below w.heap.size w W) → Below (w.heap.size) W W' → (TsAt W' w.heap.size A ps ∧ TsAt W' w.heap.size B qs ∧ Below w.heap.size w W') := fun W W' ⟨h1, h2, hb⟩ h => ⟨h1.later h, h2.later h, hb.trans h⟩
  go_loopw [5, 10] (fun v i wr => ∃ k : Nat, k ≤ m ∧ i = .int .i64 k ∧ wr.ownsRow (w.heap.size) 3 1 v (thatTo f k).length (icells (thatTo f k)) ∧ w.heap.size ≤ wr.heap.size ∧ (TsAt wr w.heap.size A ps ∧ TsAt wr w.heap.size B qs ∧ Below w.heap.size w wr))
    (fun _ i _ => m - (intOf i).toNat)
  case atStart => exact ⟨0, Nat.zero_le _, rfl, World.ownsRow_nil _ _ _ _, Nat.le_refl _, S0⟩
  case round =>
    clear S0
    obtain ⟨k, hkn, rfl, hown, hsz, S0⟩ := hrel
    obtain ⟨_, _, _⟩ := id S0
    have hlen := thatTo_len f k
    by_cases hlt : k < m
    rotate_left
    · obtain rfl : m = k := by omega
      rw [HE.out] at hown
      have hown2 := Lib.hid hown
      obtain ⟨A1, c1, rfl⟩ := own_shape hown
      clear hl hown hlen HE QS HF
      go_wp2_with fail
      go_ret
      exact ⟨A1, c1, rfl, own_base hown2.out (by omega), S0.2.2⟩
    have hk1 : (k : Int) < (m : Int) := by omega
    have hk0 : (0 : Int) ≤ (k : Int) := by omega
    have HL : Hid (thatTo f (k + 1) = if f k then thatTo f k ++ [(k : Int)] else thatTo f k) := Lib.hid rfl
    have p0 := tt_at (ps := qs) (k := k) (by omega)
    have Q : Hid (∀ w hp, _) := Lib.hid fun w hp => QS.out w hp k hlt
    have ho := HF.out k
    obtain ⟨z, kd, mo, hg⟩ : ∃ z kd mo, tt qs k = (z, kd, mo) := ⟨_, _, _, rfl⟩
    rw [hg] at p0 Q ho
    obtain ⟨bd, eA, bA, pA⟩ := S0.2.1.get p0
    subst eA
    obtain ⟨o, ho2⟩ : ∃ o, f k = o := ⟨_, rfl⟩
    rw [ho2] at HL ho
    dsimp only at ho Q
    rw [← ho] at Q
    clear ho
    generalize thatTo f k = l0 at *
    obtain ⟨q, hm⟩ : ∃ q, l0.length = q := ⟨_, rfl⟩
    rw [hm] at hown hlen
    obtain ⟨Ao, co, rfl⟩ := own_shape hown
    clear p0 hg ho2
    have HO : ∀ W W' : World, (TsAt W w.heap.size A ps ∧ TsAt W w.heap.size (some bd) qs ∧ Tup3.TAt W bd k z kd mo ∧ W.ownsRow (w.heap.size) 3 1 (.slice Ao q co) q (icells l0) ∧ w.heap.size ≤ W.heap.size ∧ Below w.heap.size w W) → Below W.heap.size W W' → (TsAt W' w.heap.size A ps ∧ TsAt W' w.heap.size (some bd) qs ∧ Tup3.TAt W' bd k z kd mo ∧ W'.ownsRow (w.heap.size) 3 1 (.slice Ao q co) q (icells l0) ∧ w.heap.size ≤ W'.heap.size ∧ Below w.heap.size w W') := fun W W' ⟨x0, x1, x2, x3, x4, hb⟩ h => ⟨x0.later (h.mono hb.size), x1.later (h.mono hb.size), x2.later bA (h.mono hb.size), own_below x3 h, Nat.le_trans x4 h.size, hb.trans (h.mono hb.size)⟩
    replace S0 : TsAt wr w.heap.size A ps ∧ TsAt wr w.heap.size (some bd) qs ∧ Tup3.TAt wr bd k z kd mo ∧ wr.ownsRow (w.heap.size) 3 1 (.slice Ao q co) q (icells l0) ∧ w.heap.size ≤ wr.heap.size ∧ Below w.heap.size w wr := ⟨S0.1, S0.2.1, pA, hown, hsz, S0.2.2⟩
    have X3 := Tup3.box1 wr z kd mo 37 (k := wr.heap.size) rfl
    have b1_ := below1 wr (Obj.cells #[.int .i64 z, .int .i64 kd, .int .i64 mo] 37)
    obtain ⟨_, _, ⟨_, _, _⟩, _, _, _⟩ := id S0
    obtain ⟨_, _, _⟩ := id pA
    have S0a := HO _ _ S0 b1_
    obtain ⟨_, _, _⟩ := id X3
    clear S0 b1_
    have S0 := S0a
    clear S0a
    clear pA hown hsz QS HF HE
    obtain ⟨_, _, ⟨_, _, _⟩, _, _, _⟩ := id S0
    go_wp2_with fail
    generalize wr.alloc (Obj.cells #[.int .i64 z, .int .i64 kd, .int .i64 mo] 37) = v1 at *
    refine (Q.out _ (S0.1.wide S0.2.2.2.2.2.size)).mono ?_
    rintro e wz ⟨rfl, hb_⟩
    replace S0 := HO _ _ S0 hb_
    clear hb_ Q
    obtain ⟨_, _, ⟨_, _, _⟩, _, _, _⟩ := id S0
    cases o
    · skip
      have HL2 : Hid (thatTo f (k + 1) = l0) := Lib.hid (by rw [HL.out]; rfl)
      clear HL
      have hown := Lib.hid S0.2.2.2.1
      have hsz := S0.2.2.2.2.1
      go_wp2_with fail
      first
        | exact ⟨⟨k + 1, by omega, by go_num, by rw [HL2.out, hm]; exact hown.out, hsz, S0.1, S0.2.1, S0.2.2.2.2.2⟩, by simp [intOf]; omega⟩
        | (go_roundw <;> first | exact ⟨k + 1, by omega, by go_num, by rw [HL2.out, hm]; exact hown.out, hsz, S0.1, S0.2.1, S0.2.2.2.2.2⟩ | (simp [intOf]; omega))
    · skip
      have HL2 : Hid (thatTo f (k + 1) = l0 ++ [(k : Int)]) := Lib.hid (by rw [HL.out]; rfl)
      clear HL
      have hown := S0.2.2.2.1
      have hsz := S0.2.2.2.2.1
      go_wp2_with (at_builtin; refine wpList_append_own _ rfl _ _ 34 rfl (w.heap.size) 3 i0 (.int .i64 0) 1 8 Try.underlying34 hi hz0 hz1 hz2 rfl (by decide) _ _ _ rfl (hown.alloc _) ⟨wz.heap.size, 0, none⟩ 1 1 [.int .i64 (k : Int)] rfl rfl ?c1 ?c2 ?c3 ?c4 ?c5 ?_)
      try (case c1 => (intro j u hj; match j, hj with | 0, hj => (simp at hj; subst hj; simp [Addr.add])))
      case c2 => (intro u hu; simp at hu; subst hu; rfl)
      case c3 => (unfold maxLen; omega)
      case c4 => omega
      case c5 => (simp; omega)
      intro v1_ wa_ ho_ hg_ _
      have HN : Hid (wa_.ownsRow (w.heap.size) 3 1 v1_ (thatTo f (k + 1)).length (icells (thatTo f (k + 1))) ∧ w.heap.size ≤ wa_.heap.size ∧ (TsAt wa_ w.heap.size A ps ∧ TsAt wa_ w.heap.size (some bd) qs ∧ Below w.heap.size w wa_)) := Lib.hid (by
        have hb0 : Below (w.heap.size) wz (wz.alloc (Obj.cells #[.int .i64 (k : Int)] 3)) := (below1 _ _).mono hsz
        have hb1 := hb0.grown hg_ (by simp; omega) (fun g hg => (hown.lt g hg).1)
        rw [HL2.out, icells_snoc, List.length_append, hm]
        exact ⟨ho_, Nat.le_trans hsz hb1.size, HO2 _ _ ⟨S0.1, S0.2.1, S0.2.2.2.2.2⟩ hb1⟩)
      clear ho_ hg_ hown HL2 S0
      go_wp2_with fail
      first
        | exact ⟨⟨k + 1, by omega, by go_num, HN.out.1, HN.out.2.1, HN.out.2.2⟩, by simp [intOf]; omega⟩
        | (go_roundw <;> first | exact ⟨k + 1, by omega, by go_num, HN.out.1, HN.out.2.1, HN.out.2.2⟩ | (simp [intOf]; omega))

end Go.Proofs.Ytmcjnldkhnebcaa.AlarmImpl

