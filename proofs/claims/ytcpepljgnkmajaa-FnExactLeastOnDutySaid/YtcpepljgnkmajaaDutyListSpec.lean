/-
  What the functions on lists of shifts and of halls do, as contracts: what each answers; new memory alone is written.
-/
import Derived.Test.YtcpepljgnkmajaaDutySpec
import Derived.Test.YtcpepljgnkmajaaGround
namespace Go.Proofs.Ytcpepljgnkmajaa.DutyListSpec
open Go.RowKit Own PointMath DiagMath DutyMath Tup3 Blk
open PointOk (ret_bool ret_i64 below1 below2 below3)

theorem infoI : (Try.prog.info? 3).map (fun i => (i.zero, i.size, i.bytes)) = some (some (.int .i64 0), 1, 8) := by kernel_rfl

set_option maxRecDepth 100000 in
set_option maxHeartbeats 6400000 in
theorem valid (A : Option Addr) (n cap : Nat) (w : World) (ps : List Tu) (hl : ps.length = n) (hn : n ≤ 1048576) (hp : TsAt w w.heap.size A ps) :
    Calls Try.prog 69 #[.slice A n cap] w fun e w' => e = .returned (.bool (shiftsV ps)) ∧ Below w.heap.size w w' := by
  obtain ⟨r, hr⟩ : ∃ r, shiftsV ps = r := ⟨_, rfl⟩
  have HR := Lib.hid hr
  rw [hr]
  clear hr
  go_enter Try.func69, Try.ntmps69
  go_wp2_with fail
  have HO : ∀ W W' : World, (TsAt W w.heap.size A ps ∧ Below w.heap.size w W) → Below W.heap.size W W' → (TsAt W' w.heap.size A ps ∧ Below w.heap.size w W') := fun W W' ⟨x0, hb⟩ h => ⟨x0.later (h.mono hb.size), hb.trans (h.mono hb.size)⟩
  have S0 : TsAt w w.heap.size A ps ∧ Below w.heap.size w w := ⟨hp, Below.refl _ _⟩
  clear hp
  go_loopw [3] (fun q wr => ∃ k : Nat, k ≤ n ∧ q = .int .i64 k ∧ Hid (∀ j, j < k → shiftT (tt ps j) = true) ∧ (TsAt wr w.heap.size A ps ∧ Below w.heap.size w wr))
    (fun q _ => n - (intOf q).toNat)
  case atStart => exact ⟨0, Nat.zero_le _, rfl, Lib.hid (fun j hj => absurd hj (by omega)), S0⟩
  case round =>
    clear S0
    obtain ⟨k, hkn, rfl, hw, S0⟩ := hrel
    by_cases hlt : k < n
    rotate_left
    · obtain rfl : n = k := by omega
      have E : Hid (r = decide (n ≤ 20)) := Lib.hid (by rw [← HR.out, shiftsV_of (by rw [hl]; exact hw.out), hl])
      by_cases h60 : n ≤ 20
      · have h61 : (n : Int) ≤ 20 := by omega
        clear hl HR hw
        go_wp2_with fail
        go_ret
        exact ⟨ret_bool (by rw [E.out]; exact (decide_eq_true h60).symm), S0.2⟩
      · have h61 : ¬ (n : Int) ≤ 20 := by omega
        clear hl HR hw
        go_wp2_with fail
        go_ret
        exact ⟨ret_bool (by rw [E.out]; exact (decide_eq_false h60).symm), S0.2⟩
    have hk1 : (k : Int) < (n : Int) := by omega
    have hk0 : (0 : Int) ≤ (k : Int) := by omega
    have p0 := tt_at (ps := ps) (k := k) (by omega)
    obtain ⟨g, a, b, hg⟩ : ∃ a b c, tt ps k = (a, b, c) := ⟨_, _, _, rfl⟩
    have HF : Hid (shiftB g a b = false → r = false) := Lib.hid (fun h => by rw [← HR.out]; exact shiftsV_not (k := k) (by omega) (by unfold shiftT; rw [hg]; exact h))
    have HN : Hid (shiftB g a b = true → ∀ j, j < k + 1 → shiftT (tt ps j) = true) := Lib.hid (fun h j hj => by
      rcases Nat.lt_or_ge j k with h1 | h1
      · exact hw.out j h1
      · obtain rfl : j = k := by omega
        unfold shiftT; rw [hg]; exact h)
    rw [hg] at p0
    obtain ⟨bd, eB, bB, pB⟩ := S0.1.get p0
    subst eB
    have HO : ∀ W W' : World, (TsAt W w.heap.size (some bd) ps ∧ TAt W bd k g a b ∧ Below w.heap.size w W) → Below W.heap.size W W' → (TsAt W' w.heap.size (some bd) ps ∧ TAt W' bd k g a b ∧ Below w.heap.size w W') := fun W W' ⟨x0, x1, hb⟩ h => ⟨x0.later (h.mono hb.size), x1.later bB (h.mono hb.size), hb.trans (h.mono hb.size)⟩
    replace S0 : TsAt wr w.heap.size (some bd) ps ∧ TAt wr bd k g a b ∧ Below w.heap.size w wr := ⟨S0.1, pB, S0.2⟩
    clear pB p0 hg hl HR hw
    obtain ⟨_, ⟨_, _, _⟩, _⟩ := id S0
    have Q1 : Hid (∀ w, _) := Lib.hid fun w => DutySpec.shiftOk g a b w
    cases hf : shiftB g a b
    · have E := Lib.hid (HF.out hf)
      rw [hf] at Q1
      clear HN HF hf
      go_wp2_with fail
      refine (Q1.out _).mono ?_
      rintro e w1 ⟨rfl, hb_⟩
      replace S0 := HO _ _ S0 hb_
      clear hb_
      obtain ⟨_, ⟨_, _, _⟩, _⟩ := id S0
      go_wp2_with fail
      go_ret
      exact ⟨ret_bool E.out.symm, S0.2.2⟩
    · have HN2 := Lib.hid (HN.out hf)
      rw [hf] at Q1
      clear HN HF hf
      go_wp2_with fail
      refine (Q1.out _).mono ?_
      rintro e w2 ⟨rfl, hb_⟩
      replace S0 := HO _ _ S0 hb_
      clear hb_
      obtain ⟨_, ⟨_, _, _⟩, _⟩ := id S0
      go_wp2_with fail
      first
        | exact ⟨⟨k + 1, by omega, by go_num, HN2, S0.1, S0.2.2⟩, by simp [intOf]; omega⟩
        | (go_roundw <;> first | exact ⟨k + 1, by omega, by go_num, HN2, S0.1, S0.2.2⟩ | (simp [intOf]; omega))

set_option maxRecDepth 100000 in
set_option maxHeartbeats 6400000 in
theorem onDuty (A : Option Addr) (n cap : Nat) (m : Int) (w : World) (ps : List Tu) (hl : ps.length = n) (hn : n ≤ 1048576) (hp : TsAt w w.heap.size A ps) :
    Calls Try.prog 42 #[.slice A n cap, .int .i64 m] w fun e w' => e = .returned (.int .i64 (dutyI ps m)) ∧ Below w.heap.size w w' := by
  obtain ⟨r, hr⟩ : ∃ r, dutyI ps m = r := ⟨_, rfl⟩
  have HR := Lib.hid hr
  rw [hr]
  clear hr
  have HE : Hid (((filtT (dutyF ps m) ps n).length : Int) = r) := Lib.hid (by rw [← HR.out, ← hl]; rfl)
  clear HR
  go_enter Try.func42, Try.ntmps42
  go_wp2_with fail
  have HO : ∀ W W' : World, (TsAt W w.heap.size A ps ∧ Below w.heap.size w W) → Below W.heap.size W W' → (TsAt W' w.heap.size A ps ∧ Below w.heap.size w W') := fun W W' ⟨x0, hb⟩ h => ⟨x0.later (h.mono hb.size), hb.trans (h.mono hb.size)⟩
  have S0 : TsAt w w.heap.size A ps ∧ Below w.heap.size w w := ⟨hp, Below.refl _ _⟩
  clear hp
  go_loopw [5, 6] (fun v q wr => ∃ k : Nat, k ≤ n ∧ q = .int .i64 k ∧ v = .int .i64 ((filtT (dutyF ps m) ps k).length : Int) ∧ (TsAt wr w.heap.size A ps ∧ Below w.heap.size w wr))
    (fun _ q _ => n - (intOf q).toNat)
  case atStart => exact ⟨0, Nat.zero_le _, rfl, rfl, S0⟩
  case round =>
    clear S0
    obtain ⟨k, hkn, rfl, rfl, S0⟩ := hrel
    by_cases hlt : k < n
    rotate_left
    · obtain rfl : n = k := by omega
      rw [HE.out]
      clear hl HE
      go_wp2_with fail
      go_ret
      exact ⟨rfl, S0.2⟩
    have hk1 : (k : Int) < (n : Int) := by omega
    have hk0 : (0 : Int) ≤ (k : Int) := by omega
    have p0 := tt_at (ps := ps) (k := k) (by omega)
    have hcl := filtT_len (dutyF ps m) ps k
    have HN := Lib.hid (filt_next (dutyF ps m) ps k)
    rw [show dutyF ps m k = (shiftT (tt ps k) && decide ((tt ps k).2.1 ≤ m) && decide (m < (tt ps k).2.2)) from rfl] at HN
    obtain ⟨g, a, b, hg⟩ : ∃ a b c, tt ps k = (a, b, c) := ⟨_, _, _, rfl⟩
    rw [hg] at p0 HN
    have Q1 : Hid (∀ w, _) := Lib.hid fun w => DutySpec.shiftOk g a b w
    rw [show shiftT (g, a, b) = shiftB g a b from rfl] at HN
    generalize shiftB g a b = s at *
    generalize (filtT (dutyF ps m) ps k).length = v at *
    obtain ⟨bd, eB, bB, pB⟩ := S0.1.get p0
    subst eB
    have u1 : IntKind.i64.wrap ((v : Int) + 1) = (v : Int) + 1 := IntWalk.i64_in _ (by omega)
    have HO : ∀ W W' : World, (TsAt W w.heap.size (some bd) ps ∧ TAt W bd k g a b ∧ Below w.heap.size w W) → Below W.heap.size W W' → (TsAt W' w.heap.size (some bd) ps ∧ TAt W' bd k g a b ∧ Below w.heap.size w W') := fun W W' ⟨x0, x1, hb⟩ h => ⟨x0.later (h.mono hb.size), x1.later bB (h.mono hb.size), hb.trans (h.mono hb.size)⟩
    replace S0 : TsAt wr w.heap.size (some bd) ps ∧ TAt wr bd k g a b ∧ Below w.heap.size w wr := ⟨S0.1, pB, S0.2⟩
    clear pB p0 hg hl HE
    obtain ⟨_, ⟨_, _, _⟩, _⟩ := id S0
    cases s
    · have HN2 : Hid (((filtT (dutyF ps m) ps (k + 1)).length : Int) = (v : Int)) := Lib.hid (by rw [HN.out]; simp only []; rfl)
      clear HN
      go_wp2_with fail
      refine (Q1.out _).mono ?_
      rintro e w1 ⟨rfl, hb_⟩
      replace S0 := HO _ _ S0 hb_
      clear hb_
      obtain ⟨_, ⟨_, _, _⟩, _⟩ := id S0
      go_wp2_with fail
      first
        | exact ⟨⟨k + 1, by omega, by go_num, by rw [HN2.out], S0.1, S0.2.2⟩, by simp [intOf]; omega⟩
        | (go_roundw <;> first | exact ⟨k + 1, by omega, by go_num, by rw [HN2.out], S0.1, S0.2.2⟩ | (simp [intOf]; omega))
    by_cases h1 : a ≤ m
    rotate_left
    · have HN2 : Hid (((filtT (dutyF ps m) ps (k + 1)).length : Int) = (v : Int)) := Lib.hid (by rw [HN.out]; simp only []; rw [decide_eq_false h1]; rfl)
      clear HN
      go_wp2_with fail
      refine (Q1.out _).mono ?_
      rintro e w2 ⟨rfl, hb_⟩
      replace S0 := HO _ _ S0 hb_
      clear hb_
      obtain ⟨_, ⟨_, _, _⟩, _⟩ := id S0
      go_wp2_with fail
      first
        | exact ⟨⟨k + 1, by omega, by go_num, by rw [HN2.out], S0.1, S0.2.2⟩, by simp [intOf]; omega⟩
        | (go_roundw <;> first | exact ⟨k + 1, by omega, by go_num, by rw [HN2.out], S0.1, S0.2.2⟩ | (simp [intOf]; omega))
    by_cases h2 : m < b
    rotate_left
    · have HN2 : Hid (((filtT (dutyF ps m) ps (k + 1)).length : Int) = (v : Int)) := Lib.hid (by rw [HN.out]; simp only []; rw [decide_eq_true h1, decide_eq_false h2]; rfl)
      clear HN
      go_wp2_with fail
      refine (Q1.out _).mono ?_
      rintro e w3 ⟨rfl, hb_⟩
      replace S0 := HO _ _ S0 hb_
      clear hb_
      obtain ⟨_, ⟨_, _, _⟩, _⟩ := id S0
      go_wp2_with fail
      first
        | exact ⟨⟨k + 1, by omega, by go_num, by rw [HN2.out], S0.1, S0.2.2⟩, by simp [intOf]; omega⟩
        | (go_roundw <;> first | exact ⟨k + 1, by omega, by go_num, by rw [HN2.out], S0.1, S0.2.2⟩ | (simp [intOf]; omega))
    · have HN2 : Hid (((filtT (dutyF ps m) ps (k + 1)).length : Int) = (v : Int) + 1) := Lib.hid (by rw [HN.out]; simp only []; rw [decide_eq_true h1, decide_eq_true h2]; rfl)
      clear HN
      go_wp2_with fail
      refine (Q1.out _).mono ?_
      rintro e w4 ⟨rfl, hb_⟩
      replace S0 := HO _ _ S0 hb_
      clear hb_
      obtain ⟨_, ⟨_, _, _⟩, _⟩ := id S0
      go_wp2_with fail
      first
        | exact ⟨⟨k + 1, by omega, by go_num, by rw [HN2.out], S0.1, S0.2.2⟩, by simp [intOf]; omega⟩
        | (go_roundw <;> first | exact ⟨k + 1, by omega, by go_num, by rw [HN2.out], S0.1, S0.2.2⟩ | (simp [intOf]; omega))

set_option maxRecDepth 100000 in
set_option maxHeartbeats 6400000 in
theorem shiftsOk (A : Option Addr) (n cap : Nat) (rest : Int) (w : World) (ps : List Tu) (hl : ps.length = n) (hn : n ≤ 1048576) (hp : TsAt w w.heap.size A ps) (_hc : n ≤ cap) :
    Calls Try.prog 38 #[.slice A n cap, .int .i64 rest] w fun e w' => e = .returned (.bool (shiftsB ps rest)) ∧ Below w.heap.size w w' := by
  obtain ⟨r, hr⟩ : ∃ r, shiftsB ps rest = r := ⟨_, rfl⟩
  have HR := Lib.hid hr
  rw [hr]
  clear hr
  go_enter Try.func38, Try.ntmps38
  go_wp2_with fail
  have HO : ∀ W W' : World, (TsAt W w.heap.size A ps ∧ Below w.heap.size w W) → Below W.heap.size W W' → (TsAt W' w.heap.size A ps ∧ Below w.heap.size w W') := fun W W' ⟨x0, hb⟩ h => ⟨x0.later (h.mono hb.size), hb.trans (h.mono hb.size)⟩
  have S0 : TsAt w w.heap.size A ps ∧ Below w.heap.size w w := ⟨hp, Below.refl _ _⟩
  clear hp
  refine (valid A n cap _ ps hl hn (S0.1.wide S0.2.size)).mono ?_
  rintro e w1 ⟨rfl, hb_⟩
  replace S0 := HO _ _ S0 hb_
  clear hb_
  obtain ⟨_, _⟩ := id S0
  cases hv : shiftsV ps
  · have E : Hid (r = false) := Lib.hid (by rw [← HR.out]; unfold shiftsB; rw [hv]; rfl)
    clear hl HR
    go_wp2_with fail
    go_ret
    exact ⟨ret_bool E.out.symm, S0.2⟩
  go_wp2_with fail
  refine (PointOk.l01In rest 0 1000 _).mono ?_
  rintro e w_ ⟨rfl, rfl⟩
  cases hi : decide (0 ≤ rest ∧ rest ≤ 1000)
  · have E : Hid (r = false) := Lib.hid (by rw [← HR.out]; unfold shiftsB; rw [hv, hi]; rfl)
    clear hl HR
    go_wp2_with fail
    go_ret
    exact ⟨ret_bool E.out.symm, S0.2⟩
  have HV := Lib.hid (shiftsV_at hv)
  have hrest := of_decide_eq_true hi
  have HT : Hid ((∀ k, k < n → clearAt ps rest k = true) → r = true) := Lib.hid (fun h => by rw [← HR.out]; exact shiftsB_of hv hi (by rw [hl]; exact h))
  have HF : Hid (∀ k i, k < n → i < k → clash (tt ps k) (tt ps i) rest = true → r = false) := Lib.hid (fun k i hk hik h => by rw [← HR.out]; exact shiftsB_not (by omega) (clearAt_not hik h))
  clear hv hi HR
  go_wp2_with fail
  go_loopw [5] (fun q wr => ∃ k : Nat, k ≤ n ∧ q = .int .i64 k ∧ Hid (∀ j, j < k → clearAt ps rest j = true) ∧ (TsAt wr w.heap.size A ps ∧ Below w.heap.size w wr))
    (fun q _ => n - (intOf q).toNat)
  case atStart => exact ⟨0, Nat.zero_le _, rfl, Lib.hid (fun j hj => absurd hj (by omega)), S0⟩
  case round =>
    clear S0
    obtain ⟨k, hkn, rfl, hw0, S0⟩ := hrel
    by_cases hlt : k < n
    rotate_left
    · obtain rfl : n = k := by omega
      have E : Hid (r = true) := Lib.hid (HT.out hw0.out)
      obtain ⟨_, _⟩ := id S0
      clear hl HT HF hw0 HV
      go_wp2_with fail
      go_ret
      exact ⟨ret_bool E.out.symm, S0.2⟩
    have hk1 : (k : Int) < (n : Int) := by omega
    have hk0 : (0 : Int) ≤ (k : Int) := by omega
    have p0 := tt_at (ps := ps) (k := k) (by omega)
    have v0 := HV.out.2 k (by omega)
    have HX0 : Hid (∀ i, i < k → clash (tt ps k) (tt ps i) rest = true → r = false) := Lib.hid (fun i => HF.out k i hlt)
    have HY : Hid ((∀ i, i < k → clash (tt ps k) (tt ps i) rest = false) → ∀ j, j < k + 1 → clearAt ps rest j = true) := Lib.hid (fun h j hj => by
      rcases Nat.lt_or_ge j k with h1 | h1
      · exact hw0.out j h1
      · obtain rfl : j = k := by omega
        exact clearAt_of h)
    obtain ⟨g, a, b, hg⟩ : ∃ a b c, tt ps k = (a, b, c) := ⟨_, _, _, rfl⟩
    rw [hg] at p0 v0 HX0 HY
    have q0 : (0 ≤ g ∧ g ≤ 20) ∧ (0 ≤ a ∧ a ≤ 10000) ∧ (0 ≤ b ∧ b ≤ 10000) ∧ a < b := shift_parts v0
    have u2 : IntKind.i64.wrap (b + rest) = b + rest := IntWalk.i64_in _ (by omega)
    obtain ⟨bd, eB, bB, pB⟩ := S0.1.get p0
    subst eB
    have HO : ∀ W W' : World, (TsAt W w.heap.size (some bd) ps ∧ TAt W bd k g a b ∧ Below w.heap.size w W) → Below W.heap.size W W' → (TsAt W' w.heap.size (some bd) ps ∧ TAt W' bd k g a b ∧ Below w.heap.size w W') := fun W W' ⟨x0, x1, hb⟩ h => ⟨x0.later (h.mono hb.size), x1.later bB (h.mono hb.size), hb.trans (h.mono hb.size)⟩
    replace S0 : TsAt wr w.heap.size (some bd) ps ∧ TAt wr bd k g a b ∧ Below w.heap.size w wr := ⟨S0.1, pB, S0.2⟩
    clear pB p0 hg hw0 HT HF v0
    obtain ⟨_, ⟨_, _, _⟩, _⟩ := id S0
    go_wp2_with fail
    go_loopw [6] (fun q wr => ∃ i : Nat, i ≤ k ∧ q = .int .i64 i ∧ Hid (∀ j, j < i → clash (g, a, b) (tt ps j) rest = false) ∧ (TsAt wr w.heap.size (some bd) ps ∧ TAt wr bd k g a b ∧ Below w.heap.size w wr))
      (fun q _ => k - (intOf q).toNat)
    case atStart => exact ⟨0, Nat.zero_le _, rfl, Lib.hid (fun j hj => absurd hj (by omega)), S0⟩
    case round =>
      clear S0
      obtain ⟨i, hik, rfl, hw, S0⟩ := hrel
      by_cases hlt2 : i < k
      rotate_left
      · obtain rfl : k = i := by omega
        have HN2 := Lib.hid (HY.out hw.out)
        obtain ⟨_, ⟨_, _, _⟩, _⟩ := id S0
        clear hl HX0 HY hw HV
        go_wp2_with fail
        first
          | exact ⟨⟨k + 1, by omega, by go_num, HN2, S0.1, S0.2.2⟩, by simp [intOf]; omega⟩
          | (go_roundw <;> first | exact ⟨k + 1, by omega, by go_num, HN2, S0.1, S0.2.2⟩ | (simp [intOf]; omega))
      have hi1 : (i : Int) < (k : Int) := by omega
      have hin : (i : Int) < (n : Int) := by omega
      have hi0 : (0 : Int) ≤ (i : Int) := by omega
      have p1 := tt_at (ps := ps) (k := i) (by omega)
      have v1 := HV.out.2 i (by omega)
      have HX : Hid (clash (g, a, b) (tt ps i) rest = true → r = false) := Lib.hid (HX0.out i hlt2)
      have HN : Hid (clash (g, a, b) (tt ps i) rest = false → ∀ j, j < i + 1 → clash (g, a, b) (tt ps j) rest = false) := Lib.hid (fun h j hj => by
        rcases Nat.lt_or_ge j i with h1 | h1
        · exact hw.out j h1
        · obtain rfl : j = i := by omega
          exact h)
      obtain ⟨d, e, f, hj⟩ : ∃ a b c, tt ps i = (a, b, c) := ⟨_, _, _, rfl⟩
      rw [hj] at p1 v1 HX HN
      have q1 : (0 ≤ d ∧ d ≤ 20) ∧ (0 ≤ e ∧ e ≤ 10000) ∧ (0 ≤ f ∧ f ≤ 10000) ∧ e < f := shift_parts v1
      have u1 : IntKind.i64.wrap (f + rest) = f + rest := IntWalk.i64_in _ (by omega)
      obtain ⟨bd2, eB2, _, pJ⟩ := S0.1.get p1
      injection eB2 with eB2
      subst eB2
      unfold clash at HX HN
      simp only at HX HN
      have HO : ∀ W W' : World, (TsAt W w.heap.size (some bd) ps ∧ TAt W bd k g a b ∧ TAt W bd i d e f ∧ Below w.heap.size w W) → Below W.heap.size W W' → (TsAt W' w.heap.size (some bd) ps ∧ TAt W' bd k g a b ∧ TAt W' bd i d e f ∧ Below w.heap.size w W') := fun W W' ⟨x0, x1, x2, hb⟩ h => ⟨x0.later (h.mono hb.size), x1.later bB (h.mono hb.size), x2.later bB (h.mono hb.size), hb.trans (h.mono hb.size)⟩
      replace S0 : TsAt wr w.heap.size (some bd) ps ∧ TAt wr bd k g a b ∧ TAt wr bd i d e f ∧ Below w.heap.size w wr := ⟨S0.1, S0.2.1, pJ, S0.2.2⟩
      clear pJ p1 hj HX0 HV hl v1 q0 q1
      have b1_ := below1 wr (Obj.cells #[.int .i64 d, .int .i64 e, .int .i64 f] 54)
      have S1 := HO _ _ S0 b1_
      have X3 := Tup3.box1 wr d e f 54 (k := wr.heap.size) rfl
      obtain ⟨_, ⟨_, _, _⟩, ⟨_, _, _⟩, _⟩ := id S0
      obtain ⟨_, ⟨_, _, _⟩, ⟨_, _, _⟩, _⟩ := id S1
      have b2_ := below1 (wr.alloc (Obj.cells #[.int .i64 d, .int .i64 e, .int .i64 f] 54)) (Obj.cells #[.int .i64 g, .int .i64 a, .int .i64 b] 54)
      have S2 := HO _ _ S1 b2_
      have X4 := Tup3.box1 (wr.alloc (Obj.cells #[.int .i64 d, .int .i64 e, .int .i64 f] 54)) g a b 54 (k := wr.heap.size + 1) (by simp)
      have X3b := X3.later b2_
      obtain ⟨_, _, _⟩ := id X3b
      obtain ⟨_, _, _⟩ := id X4
      clear b1_ b2_ S0 S1 X3 X3b X4
      by_cases k1 : g = d
      rotate_left
      · have k1b : (d == g) = false := by simp; omega
        have k1c : ¬ d = g := by omega
        have HN2 := Lib.hid (HN.out (by rw [decide_eq_false k1]; rfl))
        clear HX HN HY hw
        go_wp2_with fail
        first
          | exact ⟨⟨i + 1, by omega, by go_num, HN2, S2.1, S2.2.1, S2.2.2.2⟩, by simp [intOf]; omega⟩
          | (go_roundw <;> first | exact ⟨i + 1, by omega, by go_num, HN2, S2.1, S2.2.1, S2.2.2.2⟩ | (simp [intOf]; omega))
      subst k1
      rw [show decide (g = g) = true from decide_eq_true rfl] at HX HN
      by_cases k2 : a < f + rest
      rotate_left
      · have HN2 := Lib.hid (HN.out (by rw [decide_eq_false k2]; rfl))
        clear HX HN HY hw
        go_wp2_with fail
        first
          | exact ⟨⟨i + 1, by omega, by go_num, HN2, S2.1, S2.2.1, S2.2.2.2⟩, by simp [intOf]; omega⟩
          | (go_roundw <;> first | exact ⟨i + 1, by omega, by go_num, HN2, S2.1, S2.2.1, S2.2.2.2⟩ | (simp [intOf]; omega))
      rw [decide_eq_true k2] at HX HN
      by_cases k3 : e < b + rest
      rotate_left
      · have HN2 := Lib.hid (HN.out (by rw [decide_eq_false k3]; rfl))
        clear HX HN HY hw
        go_wp2_with fail
        first
          | exact ⟨⟨i + 1, by omega, by go_num, HN2, S2.1, S2.2.1, S2.2.2.2⟩, by simp [intOf]; omega⟩
          | (go_roundw <;> first | exact ⟨i + 1, by omega, by go_num, HN2, S2.1, S2.2.1, S2.2.2.2⟩ | (simp [intOf]; omega))
      have E := Lib.hid (HX.out (by rw [decide_eq_true k3]; rfl))
      clear HX HN HY hw
      go_wp2_with fail
      go_ret
      exact ⟨ret_bool E.out.symm, S2.2.2.2⟩

end Go.Proofs.Ytcpepljgnkmajaa.DutyListSpec

