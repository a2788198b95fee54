/-
  What the functions on lists of shifts and of halls do, as contracts: what each answers; new memory alone is written.
-/
import Derived.Test.YtcpepljgnkmajaaDutyImpl
import Derived.Test.YtcpepljgnkmajaaGround
import Derived.Test.YtcpepljgnkmajaaInShiftImpl
import Derived.Test.YtcpepljgnkmajaaFiltShiftImpl
namespace Go.Proofs.Ytcpepljgnkmajaa.DutyListImpl
open Go.RowKit Own PointMath DiagMath DutyMath Tup3 Blk
open PointOk (ret_bool ret_i64 below1 below2 below3)

theorem infoI : (Try.prog.info? 3).map (fun i => (i.zero, i.size, i.bytes)) = some (some (.int .i64 0), 1, 8) := by kernel_rfl

theorem isWrong (g a b : Int) (w : World) : Calls Try.prog 79 #[.agg #[.int .i64 g, .int .i64 a, .int .i64 b]] w fun e w' => e = .returned (.bool (!shiftB g a b)) ∧ Below w.heap.size w w' := by
  have Q1 := Lib.hid fun w => DutyImpl.shiftOk g a b w
  generalize shiftB g a b = r at *
  go_enter Try.func79, Try.ntmps79
  go_wp2_with fail
  have X0 := Tup3.box1 w g a b 54 (k := w.heap.size) (by simp)
  have b0 := PointOk.below1 w (Obj.cells #[.int .i64 g, .int .i64 a, .int .i64 b] 54)
  have HO : ∀ W W' : World, (Tup3.Box W (w.heap.size) g a b ∧ Below w.heap.size w W) → Below W.heap.size W W' → (Tup3.Box W' (w.heap.size) g a b ∧ Below w.heap.size w W') := fun W W' ⟨h0, hb⟩ h => ⟨h0.later h, hb.trans (h.mono hb.size)⟩
  have hz0_ : Hid (((w.alloc (Obj.cells #[.int .i64 g, .int .i64 a, .int .i64 b] 54))).heap.size = w.heap.size + 1) := Lib.hid (by simp)
  generalize (w.alloc (Obj.cells #[.int .i64 g, .int .i64 a, .int .i64 b] 54)) = w0 at X0 b0 hz0_ ⊢
  have S0 := (⟨X0, b0⟩ : Tup3.Box w0 (w.heap.size) g a b ∧ Below w.heap.size w w0)
  clear X0 b0
  obtain ⟨⟨_, _, _⟩, _⟩ := id S0
  refine (Q1.out _).mono ?_
  rintro e w1 ⟨rfl, hb_⟩
  replace S0 := HO _ _ S0 hb_
  clear hb_
  obtain ⟨⟨_, _, _⟩, _⟩ := id S0
  go_wp2_with fail
  go_ret
  exact ⟨rfl, S0.2⟩

set_option maxRecDepth 100000 in
set_option maxHeartbeats 6400000 in
theorem valid (A : Option Addr) (n cap : Nat) (w : World) (ps : List Tu) (hl : ps.length = n) (hn : n ≤ 1048576) (hp : TsAt w w.heap.size A ps) :
    Calls Try.prog 70 #[.slice A n cap] w fun e w' => e = .returned (.bool (shiftsV ps)) ∧ Below w.heap.size w w' := by
  obtain ⟨r, hr⟩ : ∃ r, shiftsV ps = r := ⟨_, rfl⟩
  have HR := Lib.hid hr
  rw [hr]
  clear hr
  have HE : Hid (r = (decide (n ≤ 20) && !(List.range n).any fun k => !shiftT (tt ps k))) := Lib.hid (by rw [← HR.out, shiftsV_any, hl])
  clear HR
  by_cases h60 : 20 < n
  · have h61 : ¬ (n : Int) ≤ 20 := by omega
    have E : Hid (r = false) := Lib.hid (by rw [HE.out, show decide (n ≤ 20) = false from decide_eq_false (by omega)]; rfl)
    clear hl hp HE
    go_enter Try.func70, Try.ntmps70
    go_wp2_with fail
    go_ret
    exact ⟨ret_bool E.out.symm, Below.refl _ _⟩
  have h61 : (n : Int) ≤ 20 := by omega
  have QC := Lib.hid fun eF Q => InShiftImpl.containsFunc 79 #[] (fun k => !shiftT (tt ps k)) A n cap w ps hl hn hp eF Q
  have E : Hid (r = !(List.range n).any fun k => !shiftT (tt ps k)) := Lib.hid (by rw [HE.out, show decide (n ≤ 20) = true from decide_eq_true (by omega)]; rfl)
  clear HE hl hp
  generalize hz : ((List.range n).any fun k => !shiftT (tt ps k)) = z at *
  clear hz
  go_enter Try.func70, Try.ntmps70
  go_wp2_with fail
  refine (QC.out Try.call79 (fun W k hk hb => isWrong (tt ps k).1 (tt ps k).2.1 (tt ps k).2.2 W)).mono ?_
  rintro e w1 ⟨rfl, hb_⟩
  go_wp2_with fail
  go_ret
  exact ⟨ret_bool E.out.symm, hb_⟩

set_option maxRecDepth 100000 in
set_option maxHeartbeats 6400000 in
/-- The closure asks whether a shift is on at a moment. -/
theorem asks (C1 : Nat) (g a b m : Int) (w : World) (h1 : w.cell? ⟨C1, 0, none⟩ = some (.int .i64 m)) :
    Calls Try.prog 73 #[.agg #[.int .i64 g, .int .i64 a, .int .i64 b], .pointer (some ⟨C1, 0, none⟩)] w fun e w' => e = .returned (.bool (shiftB g a b && decide (a ≤ m) && decide (m < b))) ∧ Below w.heap.size w w' := by
  obtain ⟨r, hr⟩ : ∃ r, (shiftB g a b && decide (a ≤ m) && decide (m < b)) = r := ⟨_, rfl⟩
  have HR := Lib.hid hr
  rw [hr]
  clear hr
  have Q1 := Lib.hid fun w => DutyImpl.shiftOk g a b w
  generalize shiftB g a b = s at *
  cases s
  · have E : Hid (r = false) := Lib.hid (by rw [← HR.out]; rfl)
    clear HR
    go_enter Try.func73, Try.ntmps73
    go_wp2_with fail
    have X0 := Tup3.box1 w g a b 54 (k := w.heap.size) (by simp)
    have b0 := PointOk.below1 w (Obj.cells #[.int .i64 g, .int .i64 a, .int .i64 b] 54)
    have HO : ∀ W W' : World, (Tup3.Box W (w.heap.size) g a b ∧ W.cell? ⟨C1, 0, none⟩ = some (.int .i64 m) ∧ Below w.heap.size w W) → Below W.heap.size W W' → (Tup3.Box W' (w.heap.size) g a b ∧ W'.cell? ⟨C1, 0, none⟩ = some (.int .i64 m) ∧ Below w.heap.size w W') := fun W W' ⟨h0, x0, hb⟩ h => ⟨h0.later h, cell_later h x0, hb.trans (h.mono hb.size)⟩
    have hz0_ : Hid (((w.alloc (Obj.cells #[.int .i64 g, .int .i64 a, .int .i64 b] 54))).heap.size = w.heap.size + 1) := Lib.hid (by simp)
    have Y0 : ((w.alloc (Obj.cells #[.int .i64 g, .int .i64 a, .int .i64 b] 54))).cell? ⟨C1, 0, none⟩ = some (.int .i64 m) := cell_later b0 h1
    generalize (w.alloc (Obj.cells #[.int .i64 g, .int .i64 a, .int .i64 b] 54)) = w0 at X0 Y0 b0 hz0_ ⊢
    have S0 := (⟨X0, Y0, b0⟩ : Tup3.Box w0 (w.heap.size) g a b ∧ w0.cell? ⟨C1, 0, none⟩ = some (.int .i64 m) ∧ Below w.heap.size w w0)
    clear X0 Y0 b0
    obtain ⟨⟨_, _, _⟩, _, _⟩ := id S0
    refine (Q1.out _).mono ?_
    rintro e w1 ⟨rfl, hb_⟩
    replace S0 := HO _ _ S0 hb_
    clear hb_
    obtain ⟨⟨_, _, _⟩, _, _⟩ := id S0
    go_wp2_with fail
    go_ret
    exact ⟨ret_bool E.out.symm, S0.2.2⟩
  by_cases k1 : a ≤ m
  rotate_left
  · have E : Hid (r = false) := Lib.hid (by rw [← HR.out, decide_eq_false k1]; rfl)
    clear HR
    go_enter Try.func73, Try.ntmps73
    go_wp2_with fail
    have X0 := Tup3.box1 w g a b 54 (k := w.heap.size) (by simp)
    have b0 := PointOk.below1 w (Obj.cells #[.int .i64 g, .int .i64 a, .int .i64 b] 54)
    have HO : ∀ W W' : World, (Tup3.Box W (w.heap.size) g a b ∧ W.cell? ⟨C1, 0, none⟩ = some (.int .i64 m) ∧ Below w.heap.size w W) → Below W.heap.size W W' → (Tup3.Box W' (w.heap.size) g a b ∧ W'.cell? ⟨C1, 0, none⟩ = some (.int .i64 m) ∧ Below w.heap.size w W') := fun W W' ⟨h0, x0, hb⟩ h => ⟨h0.later h, cell_later h x0, hb.trans (h.mono hb.size)⟩
    have hz0_ : Hid (((w.alloc (Obj.cells #[.int .i64 g, .int .i64 a, .int .i64 b] 54))).heap.size = w.heap.size + 1) := Lib.hid (by simp)
    have Y0 : ((w.alloc (Obj.cells #[.int .i64 g, .int .i64 a, .int .i64 b] 54))).cell? ⟨C1, 0, none⟩ = some (.int .i64 m) := cell_later b0 h1
    generalize (w.alloc (Obj.cells #[.int .i64 g, .int .i64 a, .int .i64 b] 54)) = w0 at X0 Y0 b0 hz0_ ⊢
    have S0 := (⟨X0, Y0, b0⟩ : Tup3.Box w0 (w.heap.size) g a b ∧ w0.cell? ⟨C1, 0, none⟩ = some (.int .i64 m) ∧ Below w.heap.size w w0)
    clear X0 Y0 b0
    obtain ⟨⟨_, _, _⟩, _, _⟩ := id S0
    refine (Q1.out _).mono ?_
    rintro e w1 ⟨rfl, hb_⟩
    replace S0 := HO _ _ S0 hb_
    clear hb_
    obtain ⟨⟨_, _, _⟩, _, _⟩ := id S0
    go_wp2_with fail
    go_ret
    exact ⟨ret_bool E.out.symm, S0.2.2⟩
  · have E : Hid (r = decide (m < b)) := Lib.hid (by rw [← HR.out, decide_eq_true k1]; rfl)
    clear HR
    go_enter Try.func73, Try.ntmps73
    go_wp2_with fail
    have X0 := Tup3.box1 w g a b 54 (k := w.heap.size) (by simp)
    have b0 := PointOk.below1 w (Obj.cells #[.int .i64 g, .int .i64 a, .int .i64 b] 54)
    have HO : ∀ W W' : World, (Tup3.Box W (w.heap.size) g a b ∧ W.cell? ⟨C1, 0, none⟩ = some (.int .i64 m) ∧ Below w.heap.size w W) → Below W.heap.size W W' → (Tup3.Box W' (w.heap.size) g a b ∧ W'.cell? ⟨C1, 0, none⟩ = some (.int .i64 m) ∧ Below w.heap.size w W') := fun W W' ⟨h0, x0, hb⟩ h => ⟨h0.later h, cell_later h x0, hb.trans (h.mono hb.size)⟩
    have hz0_ : Hid (((w.alloc (Obj.cells #[.int .i64 g, .int .i64 a, .int .i64 b] 54))).heap.size = w.heap.size + 1) := Lib.hid (by simp)
    have Y0 : ((w.alloc (Obj.cells #[.int .i64 g, .int .i64 a, .int .i64 b] 54))).cell? ⟨C1, 0, none⟩ = some (.int .i64 m) := cell_later b0 h1
    generalize (w.alloc (Obj.cells #[.int .i64 g, .int .i64 a, .int .i64 b] 54)) = w0 at X0 Y0 b0 hz0_ ⊢
    have S0 := (⟨X0, Y0, b0⟩ : Tup3.Box w0 (w.heap.size) g a b ∧ w0.cell? ⟨C1, 0, none⟩ = some (.int .i64 m) ∧ Below w.heap.size w w0)
    clear X0 Y0 b0
    obtain ⟨⟨_, _, _⟩, _, _⟩ := id S0
    refine (Q1.out _).mono ?_
    rintro e w1 ⟨rfl, hb_⟩
    replace S0 := HO _ _ S0 hb_
    clear hb_
    obtain ⟨⟨_, _, _⟩, _, _⟩ := id S0
    go_wp2_with fail
    go_ret
    exact ⟨ret_bool E.out.symm, S0.2.2⟩

set_option maxRecDepth 100000 in
set_option maxHeartbeats 6400000 in
theorem onDuty (A : Option Addr) (n cap : Nat) (m : Int) (w : World) (ps : List Tu) (hl : ps.length = n) (hn : n ≤ 1048576) (hp : TsAt w w.heap.size A ps) :
    Calls Try.prog 43 #[.slice A n cap, .int .i64 m] w fun e w' => e = .returned (.int .i64 (dutyI ps m)) ∧ Below w.heap.size w w' := by
  obtain ⟨r, hr⟩ : ∃ r, dutyI ps m = r := ⟨_, rfl⟩
  have HR := Lib.hid hr
  rw [hr]
  clear hr
  have HE : Hid (((filtT (dutyF ps m) ps n).length : Int) = r) := Lib.hid (by rw [← HR.out, ← hl]; rfl)
  have hmf : ∀ (fn : Fn) (first cap : Array Value) (w : World), (Instr.makeFunc fn first cap).run Try.prog w = .ok (.func fn first cap) w := fun _ _ _ _ => rfl
  clear HR
  go_enter Try.func43, Try.ntmps43
  go_wp2_with fail
  have X0 := Blk.boxI w m 3 (k := w.heap.size) (by simp)
  have b0 := PointOk.below1 w (Obj.cells #[.int .i64 m] 3)
  have HO : ∀ W W' : World, (W.cell? ⟨w.heap.size, 0, none⟩ = some (.int .i64 m) ∧ TsAt W w.heap.size A ps ∧ Below w.heap.size w W) → Below W.heap.size W W' → (W'.cell? ⟨w.heap.size, 0, none⟩ = some (.int .i64 m) ∧ TsAt W' w.heap.size A ps ∧ Below w.heap.size w W') := fun W W' ⟨h0, x0, hb⟩ h => ⟨cell_later h h0, x0.later (h.mono hb.size), hb.trans (h.mono hb.size)⟩
  have hz0_ : Hid (((w.alloc (Obj.cells #[.int .i64 m] 3))).heap.size = w.heap.size + 1) := Lib.hid (by simp)
  have Y0 : TsAt ((w.alloc (Obj.cells #[.int .i64 m] 3))) w.heap.size A ps := hp.later b0
  generalize (w.alloc (Obj.cells #[.int .i64 m] 3)) = w0 at X0 Y0 b0 hz0_ ⊢
  have S0 := (⟨X0, Y0, b0⟩ : w0.cell? ⟨w.heap.size, 0, none⟩ = some (.int .i64 m) ∧ TsAt w0 w.heap.size A ps ∧ Below w.heap.size w w0)
  clear X0 Y0 b0
  obtain ⟨_, _, _⟩ := id S0
  have QF := Lib.hid fun hp eF Q => FiltShiftImpl.filtered 73 #[.pointer (some ⟨w.heap.size, 0, none⟩)] (dutyF ps m) A n cap w0 ps hl hn hp eF Q
  unfold GivesC at QF
  refine (QF.out (S0.2.1.wide S0.2.2.size) Try.call73 (fun W k hk hb => asks w.heap.size (tt ps k).1 (tt ps k).2.1 (tt ps k).2.2 m W (cell_later hb S0.1))).mono ?_
  rintro e w5 ⟨A2, c2, rfl, H2, hb_⟩
  replace S0 := HO _ _ S0 hb_
  clear hb_ QF H2
  go_wp2_with fail
  go_ret
  exact ⟨ret_i64 HE.out, S0.2.2⟩

set_option maxRecDepth 100000 in
set_option maxHeartbeats 6400000 in
theorem shiftsOk (A : Option Addr) (n cap : Nat) (rest : Int) (w : World) (ps : List Tu) (hl : ps.length = n) (hn : n ≤ 1048576) (hp : TsAt w w.heap.size A ps) (hc : n ≤ cap) :
    Calls Try.prog 40 #[.slice A n cap, .int .i64 rest] w fun e w' => e = .returned (.bool (shiftsB ps rest)) ∧ Below w.heap.size w w' := by
  obtain ⟨r, hr⟩ : ∃ r, shiftsB ps rest = r := ⟨_, rfl⟩
  have HR := Lib.hid hr
  rw [hr]
  clear hr
  go_enter Try.func40, Try.ntmps40
  go_wp2_with fail
  have HO : ∀ W W' : World, (TsAt W w.heap.size A ps ∧ Below w.heap.size w W) → Below W.heap.size W W' → (TsAt W' w.heap.size A ps ∧ Below w.heap.size w W') := fun W W' ⟨x0, hb⟩ h => ⟨x0.later (h.mono hb.size), hb.trans (h.mono hb.size)⟩
  have S0 : TsAt w w.heap.size A ps ∧ Below w.heap.size w w := ⟨hp, Below.refl _ _⟩
  clear hp
  refine (valid A n cap _ ps hl hn (S0.1.wide S0.2.size)).mono ?_
  rintro e w1 ⟨rfl, hb_⟩
  replace S0 := HO _ _ S0 hb_
  clear hb_
  obtain ⟨_, _⟩ := id S0
  cases hv : shiftsV ps
  · have E : Hid (r = false) := Lib.hid (by rw [← HR.out]; unfold shiftsB; rw [hv]; rfl)
    clear hl HR
    go_wp2_with fail
    go_ret
    exact ⟨ret_bool E.out.symm, S0.2⟩
  go_wp2_with fail
  refine (DutyImpl.isUpTo rest 1000 _).mono ?_
  rintro e w_ ⟨rfl, rfl⟩
  cases hi : decide (0 ≤ rest ∧ rest ≤ 1000)
  · have E : Hid (r = false) := Lib.hid (by rw [← HR.out]; unfold shiftsB; rw [hv, hi]; rfl)
    clear hl HR
    go_wp2_with fail
    go_ret
    exact ⟨ret_bool E.out.symm, S0.2⟩
  have HV := Lib.hid (shiftsV_at hv)
  have hrest := of_decide_eq_true hi
  have HT : Hid ((∀ k, k < n → clearAt ps rest k = true) → r = true) := Lib.hid (fun h => by rw [← HR.out]; exact shiftsB_of hv hi (by rw [hl]; exact h))
  have HF : Hid (∀ k i, k < n → i < k → clash (tt ps k) (tt ps i) rest = true → r = false) := Lib.hid (fun k i hk hik h => by rw [← HR.out]; exact shiftsB_not (by omega) (clearAt_not hik h))
  clear hv hi HR
  go_wp2_with fail
  go_loopw [19] (fun q wr => ∃ k : Nat, k ≤ n ∧ q = .int .i64 k ∧ Hid (∀ j, j < k → clearAt ps rest j = true) ∧ (TsAt wr w.heap.size A ps ∧ Below w.heap.size w wr))
    (fun q _ => n - (intOf q).toNat)
  case atStart => exact ⟨0, Nat.zero_le _, rfl, Lib.hid (fun j hj => absurd hj (by omega)), S0⟩
  case round =>
    clear S0
    obtain ⟨k, hkn, rfl, hw0, S0⟩ := hrel
    by_cases hlt : k < n
    rotate_left
    · obtain rfl : n = k := by omega
      have E : Hid (r = true) := Lib.hid (HT.out hw0.out)
      obtain ⟨_, _⟩ := id S0
      clear hl HT HF hw0 HV
      go_wp2_with fail
      go_ret
      exact ⟨ret_bool E.out.symm, S0.2⟩
    have hk1 : (k : Int) < (n : Int) := by omega
    have hk0 : (0 : Int) ≤ (k : Int) := by omega
    have p0 := tt_at (ps := ps) (k := k) (by omega)
    have v0 := HV.out.2 k (by omega)
    have HX0 : Hid (∀ i, i < k → clash (tt ps k) (tt ps i) rest = true → r = false) := Lib.hid (fun i => HF.out k i hlt)
    have HY : Hid ((∀ i, i < k → clash (tt ps k) (tt ps i) rest = false) → ∀ j, j < k + 1 → clearAt ps rest j = true) := Lib.hid (fun h j hj => by
      rcases Nat.lt_or_ge j k with h1 | h1
      · exact hw0.out j h1
      · obtain rfl : j = k := by omega
        exact clearAt_of h)
    obtain ⟨g, a, b, hg⟩ : ∃ a b c, tt ps k = (a, b, c) := ⟨_, _, _, rfl⟩
    rw [hg] at p0 v0 HX0 HY
    have q0 : (0 ≤ g ∧ g ≤ 20) ∧ (0 ≤ a ∧ a ≤ 10000) ∧ (0 ≤ b ∧ b ≤ 10000) ∧ a < b := shift_parts v0
    have u2 : IntKind.i64.wrap (b + rest) = b + rest := IntWalk.i64_in _ (by omega)
    obtain ⟨bd, eB, bB, pB⟩ := S0.1.get p0
    subst eB
    have HO : ∀ W W' : World, (TsAt W w.heap.size (some bd) ps ∧ TAt W bd k g a b ∧ Below w.heap.size w W) → Below W.heap.size W W' → (TsAt W' w.heap.size (some bd) ps ∧ TAt W' bd k g a b ∧ Below w.heap.size w W') := fun W W' ⟨x0, x1, hb⟩ h => ⟨x0.later (h.mono hb.size), x1.later bB (h.mono hb.size), hb.trans (h.mono hb.size)⟩
    replace S0 : TsAt wr w.heap.size (some bd) ps ∧ TAt wr bd k g a b ∧ Below w.heap.size w wr := ⟨S0.1, pB, S0.2⟩
    clear pB p0 hg hw0 HT HF v0
    obtain ⟨_, ⟨_, _, _⟩, _⟩ := id S0
    have hcap : (k : Int) ≤ (cap : Int) := by omega
    have X5 := Tup3.box1 wr g a b 54 (k := wr.heap.size) rfl
    have b5_ := below1 wr (Obj.cells #[.int .i64 g, .int .i64 a, .int .i64 b] 54)
    obtain ⟨kb, hkb⟩ : ∃ K, wr.heap.size = K := ⟨_, rfl⟩
    have S0a := HO _ _ S0 b5_
    obtain ⟨_, _, _⟩ := id X5
    rw [hkb] at X5
    clear b5_ S0
    go_wp2_with fail
    generalize wr.alloc (Obj.cells #[.int .i64 g, .int .i64 a, .int .i64 b] 54) = v1 at *
    try rw [hkb]
    clear hkb
    have HO : ∀ W W' : World, (TsAt W w.heap.size (some bd) ps ∧ TAt W bd k g a b ∧ Tup3.Box W kb g a b ∧ Below w.heap.size w W) → Below W.heap.size W W' → (TsAt W' w.heap.size (some bd) ps ∧ TAt W' bd k g a b ∧ Tup3.Box W' kb g a b ∧ Below w.heap.size w W') := fun W W' ⟨x0, x1, x2, hb⟩ h => ⟨x0.later (h.mono hb.size), x1.later bB (h.mono hb.size), x2.later h, hb.trans (h.mono hb.size)⟩
    have S0 : TsAt v1 w.heap.size (some bd) ps ∧ TAt v1 bd k g a b ∧ Tup3.Box v1 kb g a b ∧ Below w.heap.size w v1 := ⟨S0a.1, S0a.2.1, X5, S0a.2.2⟩
    clear S0a X5
    go_loopw [28] (fun q wr => ∃ i : Nat, i ≤ k ∧ q = .int .i64 i ∧ Hid (∀ j, j < i → clash (g, a, b) (tt ps j) rest = false) ∧ (TsAt wr w.heap.size (some bd) ps ∧ TAt wr bd k g a b ∧ Tup3.Box wr kb g a b ∧ Below w.heap.size w wr))
      (fun q _ => k - (intOf q).toNat)
    case atStart => exact ⟨0, Nat.zero_le _, rfl, Lib.hid (fun j hj => absurd hj (by omega)), S0⟩
    case round =>
      clear S0
      obtain ⟨i, hik, rfl, hw, S0⟩ := hrel
      by_cases hlt2 : i < k
      rotate_left
      · obtain rfl : k = i := by omega
        have HN2 := Lib.hid (HY.out hw.out)
        obtain ⟨_, ⟨_, _, _⟩, ⟨_, _, _⟩, _⟩ := id S0
        clear hl HX0 HY hw HV
        go_wp2_with fail
        first
          | exact ⟨⟨k + 1, by omega, by go_num, HN2, S0.1, S0.2.2.2⟩, by simp [intOf]; omega⟩
          | (go_roundw <;> first | exact ⟨k + 1, by omega, by go_num, HN2, S0.1, S0.2.2.2⟩ | (simp [intOf]; omega))
      have hi1 : (i : Int) < (k : Int) := by omega
      have hin : (i : Int) < (n : Int) := by omega
      have hi0 : (0 : Int) ≤ (i : Int) := by omega
      have p1 := tt_at (ps := ps) (k := i) (by omega)
      have v1 := HV.out.2 i (by omega)
      have HX : Hid (clash (g, a, b) (tt ps i) rest = true → r = false) := Lib.hid (HX0.out i hlt2)
      have HN : Hid (clash (g, a, b) (tt ps i) rest = false → ∀ j, j < i + 1 → clash (g, a, b) (tt ps j) rest = false) := Lib.hid (fun h j hj => by
        rcases Nat.lt_or_ge j i with h1 | h1
        · exact hw.out j h1
        · obtain rfl : j = i := by omega
          exact h)
      obtain ⟨d, e, f, hj⟩ : ∃ a b c, tt ps i = (a, b, c) := ⟨_, _, _, rfl⟩
      rw [hj] at p1 v1 HX HN
      have q1 : (0 ≤ d ∧ d ≤ 20) ∧ (0 ≤ e ∧ e ≤ 10000) ∧ (0 ≤ f ∧ f ≤ 10000) ∧ e < f := shift_parts v1
      have u1 : IntKind.i64.wrap (f + rest) = f + rest := IntWalk.i64_in _ (by omega)
      obtain ⟨bd2, eB2, _, pJ⟩ := S0.1.get p1
      injection eB2 with eB2
      subst eB2
      unfold clash at HX HN
      simp only at HX HN
      have HO : ∀ W W' : World, (TsAt W w.heap.size (some bd) ps ∧ TAt W bd k g a b ∧ Tup3.Box W kb g a b ∧ TAt W bd i d e f ∧ Below w.heap.size w W) → Below W.heap.size W W' → (TsAt W' w.heap.size (some bd) ps ∧ TAt W' bd k g a b ∧ Tup3.Box W' kb g a b ∧ TAt W' bd i d e f ∧ Below w.heap.size w W') := fun W W' ⟨x0, x1, x2, x3, hb⟩ h => ⟨x0.later (h.mono hb.size), x1.later bB (h.mono hb.size), x2.later h, x3.later bB (h.mono hb.size), hb.trans (h.mono hb.size)⟩
      replace S0 : TsAt wr w.heap.size (some bd) ps ∧ TAt wr bd k g a b ∧ Tup3.Box wr kb g a b ∧ TAt wr bd i d e f ∧ Below w.heap.size w wr := ⟨S0.1, S0.2.1, S0.2.2.1, pJ, S0.2.2.2⟩
      clear pJ p1 hj HX0 HV hl v1 q0 q1
      have b1_ := below1 wr (Obj.cells #[.int .i64 d, .int .i64 e, .int .i64 f] 54)
      obtain ⟨_, ⟨_, _, _⟩, ⟨_, _, _⟩, ⟨_, _, _⟩, _⟩ := id S0
      have S2 := HO _ _ S0 b1_
      have X3 := Tup3.box1 wr d e f 54 (k := wr.heap.size) rfl
      obtain ⟨_, ⟨_, _, _⟩, ⟨_, _, _⟩, ⟨_, _, _⟩, _⟩ := id S2
      obtain ⟨_, _, _⟩ := id X3
      clear b1_ S0 X3
      by_cases k1 : g = d
      rotate_left
      · have k1b : (g == d) = false := by simp; omega
        have k1c : ¬ g = d := by omega
        have HN2 := Lib.hid (HN.out (by rw [decide_eq_false k1]; rfl))
        clear HX HN HY hw
        go_wp2_with fail
        first
          | exact ⟨⟨i + 1, by omega, by go_num, HN2, S2.1, S2.2.1, S2.2.2.1, S2.2.2.2.2⟩, by simp [intOf]; omega⟩
          | (go_roundw <;> first | exact ⟨i + 1, by omega, by go_num, HN2, S2.1, S2.2.1, S2.2.2.1, S2.2.2.2.2⟩ | (simp [intOf]; omega))
      subst k1
      rw [show decide (g = g) = true from decide_eq_true rfl] at HX HN
      by_cases k2 : a < f + rest
      rotate_left
      · have HN2 := Lib.hid (HN.out (by rw [decide_eq_false k2]; rfl))
        clear HX HN HY hw
        go_wp2_with fail
        first
          | exact ⟨⟨i + 1, by omega, by go_num, HN2, S2.1, S2.2.1, S2.2.2.1, S2.2.2.2.2⟩, by simp [intOf]; omega⟩
          | (go_roundw <;> first | exact ⟨i + 1, by omega, by go_num, HN2, S2.1, S2.2.1, S2.2.2.1, S2.2.2.2.2⟩ | (simp [intOf]; omega))
      rw [decide_eq_true k2] at HX HN
      by_cases k3 : e < b + rest
      rotate_left
      · have HN2 := Lib.hid (HN.out (by rw [decide_eq_false k3]; rfl))
        clear HX HN HY hw
        go_wp2_with fail
        first
          | exact ⟨⟨i + 1, by omega, by go_num, HN2, S2.1, S2.2.1, S2.2.2.1, S2.2.2.2.2⟩, by simp [intOf]; omega⟩
          | (go_roundw <;> first | exact ⟨i + 1, by omega, by go_num, HN2, S2.1, S2.2.1, S2.2.2.1, S2.2.2.2.2⟩ | (simp [intOf]; omega))
      have E := Lib.hid (HX.out (by rw [decide_eq_true k3]; rfl))
      clear HX HN HY hw
      go_wp2_with fail
      go_ret
      exact ⟨ret_bool E.out.symm, S2.2.2.2.2⟩

end Go.Proofs.Ytcpepljgnkmajaa.DutyListImpl

