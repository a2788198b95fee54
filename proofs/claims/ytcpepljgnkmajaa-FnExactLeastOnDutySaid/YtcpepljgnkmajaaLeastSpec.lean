/-
  What LeastOnDuty does, as a contract: what it answers; new memory alone is written.
-/
import Derived.Test.YtcpepljgnkmajaaDutyListSpec
import Derived.Test.YtcpepljgnkmajaaLeastMath
import Derived.Lib.MinMax
namespace Go.Proofs.Ytcpepljgnkmajaa.LeastSpec
open Go.RowKit Own PointMath DiagMath DutyMath LeastMath Tup3 Blk
open PointOk (ret_bool ret_i64 below1 below2 below3)

set_option maxRecDepth 100000 in
set_option maxHeartbeats 6400000 in
theorem leastOnDuty (A : Option Addr) (n cap : Nat) (f t : Int) (w : World) (ps : List Tu) (hl : ps.length = n) (hn : n ≤ 1048576) (hp : TsAt w w.heap.size A ps) :
    Calls Try.prog 44 #[.slice A n cap, .int .i64 f, .int .i64 t] w fun e w' => e = .returned (.int .i64 (leastI ps f t)) ∧ Below w.heap.size w w' := by
  obtain ⟨r, hr⟩ : ∃ r, leastI ps f t = r := ⟨_, rfl⟩
  have HR := Lib.hid hr
  rw [hr]
  clear hr
  by_cases hft : f < t
  rotate_left
  · have hf2 : t ≤ f := by omega
    have E : Hid (r = -1) := Lib.hid (by rw [← HR.out]; unfold leastI; rw [decide_eq_false hft]; simp)
    clear HR
    go_enter Try.func44, Try.ntmps44
    go_wp2_with fail
    have HO : ∀ W W' : World, (TsAt W w.heap.size A ps ∧ Below w.heap.size w W) → Below W.heap.size W W' → (TsAt W' w.heap.size A ps ∧ Below w.heap.size w W') := fun W W' ⟨x0, hb⟩ h => ⟨x0.later (h.mono hb.size), hb.trans (h.mono hb.size)⟩
    have S0 : TsAt w w.heap.size A ps ∧ Below w.heap.size w w := ⟨hp, Below.refl _ _⟩
    clear hp
    refine (DutyListSpec.valid A n cap _ ps hl hn (S0.1.wide S0.2.size)).mono ?_
    rintro e w1 ⟨rfl, hb_⟩
    replace S0 := HO _ _ S0 hb_
    clear hb_
    obtain ⟨_, _⟩ := id S0
    clear hl
    cases hv : shiftsV ps
    · skip
      go_wp2_with fail
      go_ret
      exact ⟨ret_i64 E.out.symm, S0.2⟩
    go_wp2_with fail
    refine (PointOk.l01In f 0 10000 _).mono ?_
    rintro e w_ ⟨rfl, rfl⟩
    cases hv2 : decide (0 ≤ f ∧ f ≤ 10000)
    · skip
      go_wp2_with fail
      go_ret
      exact ⟨ret_i64 E.out.symm, S0.2⟩
    go_wp2_with fail
    refine (PointOk.l01In t 0 10000 _).mono ?_
    rintro e w_ ⟨rfl, rfl⟩
    cases hv3 : decide (0 ≤ t ∧ t ≤ 10000)
    · skip
      go_wp2_with fail
      go_ret
      exact ⟨ret_i64 E.out.symm, S0.2⟩
    go_wp2_with fail
    go_ret
    exact ⟨ret_i64 E.out.symm, S0.2⟩
  have hf2 : ¬ t ≤ f := by omega
  go_enter Try.func44, Try.ntmps44
  go_wp2_with fail
  have HO : ∀ W W' : World, (TsAt W w.heap.size A ps ∧ Below w.heap.size w W) → Below W.heap.size W W' → (TsAt W' w.heap.size A ps ∧ Below w.heap.size w W') := fun W W' ⟨x0, hb⟩ h => ⟨x0.later (h.mono hb.size), hb.trans (h.mono hb.size)⟩
  have S0 : TsAt w w.heap.size A ps ∧ Below w.heap.size w w := ⟨hp, Below.refl _ _⟩
  clear hp
  refine (DutyListSpec.valid A n cap _ ps hl hn (S0.1.wide S0.2.size)).mono ?_
  rintro e w4 ⟨rfl, hb_⟩
  replace S0 := HO _ _ S0 hb_
  clear hb_
  obtain ⟨_, _⟩ := id S0
  cases hv : shiftsV ps
  · have E : Hid (r = -1) := Lib.hid (by rw [← HR.out]; unfold leastI; rw [hv]; rfl)
    clear HR hl
    go_wp2_with fail
    go_ret
    exact ⟨ret_i64 E.out.symm, S0.2⟩
  go_wp2_with fail
  refine (PointOk.l01In f 0 10000 _).mono ?_
  rintro e w_ ⟨rfl, rfl⟩
  cases h1 : decide (0 ≤ f ∧ f ≤ 10000)
  · have E : Hid (r = -1) := Lib.hid (by rw [← HR.out]; unfold leastI; rw [hv, h1]; rfl)
    clear HR hl
    go_wp2_with fail
    go_ret
    exact ⟨ret_i64 E.out.symm, S0.2⟩
  go_wp2_with fail
  refine (PointOk.l01In t 0 10000 _).mono ?_
  rintro e w_ ⟨rfl, rfl⟩
  cases h2 : decide (0 ≤ t ∧ t ≤ 10000)
  · have E : Hid (r = -1) := Lib.hid (by rw [← HR.out]; unfold leastI; rw [hv, h1, h2]; rfl)
    clear HR hl
    go_wp2_with fail
    go_ret
    exact ⟨ret_i64 E.out.symm, S0.2⟩
  have HM : Hid (r = minOn ps f (t - f).toNat) := Lib.hid (by rw [← HR.out]; unfold leastI; rw [hv, h1, h2, decide_eq_true hft]; rfl)
  have hfb := of_decide_eq_true h1
  have htb := of_decide_eq_true h2
  have n20 := (shiftsV_at hv).1
  rw [hl] at n20
  clear HR hv h1 h2
  have HE : Hid (endsTo ps f t n = r) := Lib.hid (by rw [HM.out, min_ends hft, hl])
  have u1 : IntKind.i64.wrap (t - 1) = t - 1 := IntWalk.i64_in _ (by omega)
  clear HM
  go_wp2_with fail
  refine (DutyListSpec.onDuty A n cap f _ ps hl hn (S0.1.wide S0.2.size)).mono ?_
  rintro e w7 ⟨rfl, hb_⟩
  replace S0 := HO _ _ S0 hb_
  clear hb_
  obtain ⟨_, _⟩ := id S0
  go_wp2_with fail
  go_loopw [7, 8] (fun v q wr => ∃ k : Nat, k ≤ n ∧ q = .int .i64 k ∧ v = .int .i64 (endsTo ps f t k) ∧ (TsAt wr w.heap.size A ps ∧ Below w.heap.size w wr))
    (fun _ q _ => n - (intOf q).toNat)
  case atStart => exact ⟨0, Nat.zero_le _, rfl, rfl, S0⟩
  case round =>
    clear S0
    obtain ⟨k, hkn, rfl, rfl, S0⟩ := hrel
    by_cases hlt : k < n
    rotate_left
    · obtain rfl : n = k := by omega
      rw [HE.out]
      obtain ⟨_, _⟩ := id S0
      clear hl HE
      go_wp2_with fail
      go_ret
      exact ⟨rfl, S0.2⟩
    have hk1 : (k : Int) < (n : Int) := by omega
    have hk0 : (0 : Int) ≤ (k : Int) := by omega
    have HN : Hid (endsTo ps f t (k + 1) = if f ≤ (tt ps k).2.2 ∧ (tt ps k).2.2 ≤ t - 1 then min (endsTo ps f t k) (dutyI ps (tt ps k).2.2) else endsTo ps f t k) := Lib.hid rfl
    have p0 := tt_at (ps := ps) (k := k) (by omega)
    have QD := Lib.hid fun m w hp => DutyListSpec.onDuty A n cap m w ps hl hn hp
    obtain ⟨g, a, b, hg⟩ : ∃ a b c, tt ps k = (a, b, c) := ⟨_, _, _, rfl⟩
    rw [hg] at HN
    dsimp only at HN
    rw [hg] at p0
    generalize endsTo ps f t k = v at *
    replace QD := Lib.hid (QD.out b)
    generalize dutyI ps b = x at *
    obtain ⟨bd, eB, bB, pB⟩ := S0.1.get p0
    subst eB
    have HO : ∀ W W' : World, (TsAt W w.heap.size (some bd) ps ∧ TAt W bd k g a b ∧ Below w.heap.size w W) → Below W.heap.size W W' → (TsAt W' w.heap.size (some bd) ps ∧ TAt W' bd k g a b ∧ Below w.heap.size w W') := fun W W' ⟨x0, x1, hb⟩ h => ⟨x0.later (h.mono hb.size), x1.later bB (h.mono hb.size), hb.trans (h.mono hb.size)⟩
    replace S0 : TsAt wr w.heap.size (some bd) ps ∧ TAt wr bd k g a b ∧ Below w.heap.size w wr := ⟨S0.1, pB, S0.2⟩
    clear pB p0 hg hl HE
    obtain ⟨_, ⟨_, _, _⟩, _⟩ := id S0
    go_wp2_with fail
    refine (PointOk.l01In b f (t - 1) _).mono ?_
    rintro e w_ ⟨rfl, rfl⟩
    cases h3 : decide (f ≤ b ∧ b ≤ t - 1)
    · have HN2 : Hid (endsTo ps f t (k + 1) = v) := Lib.hid (by rw [HN.out]; exact if_neg (of_decide_eq_false h3))
      clear HN
      go_wp2_with fail
      first
        | exact ⟨⟨k + 1, by omega, by go_num, by rw [HN2.out], S0.1, S0.2.2⟩, by simp [intOf]; omega⟩
        | (go_roundw <;> first | exact ⟨k + 1, by omega, by go_num, by rw [HN2.out], S0.1, S0.2.2⟩ | (simp [intOf]; omega))
    · have HN2 : Hid (endsTo ps f t (k + 1) = min v x) := Lib.hid (by rw [HN.out]; exact if_pos (of_decide_eq_true h3))
      clear HN
      go_wp2_with fail
      refine (QD.out _ (S0.1.wide S0.2.2.size)).mono ?_
      rintro e w9 ⟨rfl, hb_⟩
      replace S0 := HO _ _ S0 hb_
      clear hb_
      obtain ⟨_, ⟨_, _, _⟩, _⟩ := id S0
      go_wp2_with fail
      first
        | exact ⟨⟨k + 1, by omega, by go_num, by rw [HN2.out], S0.1, S0.2.2⟩, by simp [intOf]; omega⟩
        | (go_roundw <;> first | exact ⟨k + 1, by omega, by go_num, by rw [HN2.out], S0.1, S0.2.2⟩ | (simp [intOf]; omega))

end Go.Proofs.Ytcpepljgnkmajaa.LeastSpec

