/-
  What LeastOnDuty does, as a contract: what it answers; new memory alone is written.
-/
import Derived.Test.YtcpepljgnkmajaaDutyListImpl
import Derived.Test.YtcpepljgnkmajaaLeastMath
import Derived.Lib.MinMax
namespace Go.Proofs.Ytcpepljgnkmajaa.LeastImpl
open Go.RowKit Own PointMath DiagMath DutyMath LeastMath Tup3 Blk
open PointOk (ret_bool ret_i64 below1 below2 below3)

set_option maxRecDepth 100000 in
set_option maxHeartbeats 6400000 in
theorem leastOnDuty (A : Option Addr) (n cap : Nat) (f t : Int) (w : World) (ps : List Tu) (hl : ps.length = n) (hn : n ≤ 1048576) (hp : TsAt w w.heap.size A ps) :
    Calls Try.prog 45 #[.slice A n cap, .int .i64 f, .int .i64 t] w fun e w' => e = .returned (.int .i64 (leastI ps f t)) ∧ Below w.heap.size w w' := by
  obtain ⟨r, hr⟩ : ∃ r, leastI ps f t = r := ⟨_, rfl⟩
  have HR := Lib.hid hr
  rw [hr]
  clear hr
  by_cases hft : f < t
  rotate_left
  · have hf2 : t ≤ f := by omega
    have E : Hid (r = -1) := Lib.hid (by rw [← HR.out]; unfold leastI; rw [decide_eq_false hft]; simp)
    clear HR
    go_enter Try.func45, Try.ntmps45
    go_wp2_with fail
    have HO : ∀ W W' : World, (TsAt W w.heap.size A ps ∧ Below w.heap.size w W) → Below W.heap.size W W' → (TsAt W' w.heap.size A ps ∧ Below w.heap.size w W') := fun W W' ⟨x0, hb⟩ h => ⟨x0.later (h.mono hb.size), hb.trans (h.mono hb.size)⟩
    have S0 : TsAt w w.heap.size A ps ∧ Below w.heap.size w w := ⟨hp, Below.refl _ _⟩
    clear hp
    refine (DutyListImpl.valid A n cap _ ps hl hn (S0.1.wide S0.2.size)).mono ?_
    rintro e w1 ⟨rfl, hb_⟩
    replace S0 := HO _ _ S0 hb_
    clear hb_
    obtain ⟨_, _⟩ := id S0
    clear hl
    cases hv : shiftsV ps
    · skip
      go_wp2_with fail
      go_ret
      exact ⟨ret_i64 E.out.symm, S0.2⟩
    go_wp2_with fail
    go_ret
    exact ⟨ret_i64 E.out.symm, S0.2⟩
  have hf2 : ¬ t ≤ f := by omega
  go_enter Try.func45, Try.ntmps45
  go_wp2_with fail
  have HO : ∀ W W' : World, (TsAt W w.heap.size A ps ∧ Below w.heap.size w W) → Below W.heap.size W W' → (TsAt W' w.heap.size A ps ∧ Below w.heap.size w W') := fun W W' ⟨x0, hb⟩ h => ⟨x0.later (h.mono hb.size), hb.trans (h.mono hb.size)⟩
  have S0 : TsAt w w.heap.size A ps ∧ Below w.heap.size w w := ⟨hp, Below.refl _ _⟩
  clear hp
  refine (DutyListImpl.valid A n cap _ ps hl hn (S0.1.wide S0.2.size)).mono ?_
  rintro e w2 ⟨rfl, hb_⟩
  replace S0 := HO _ _ S0 hb_
  clear hb_
  obtain ⟨_, _⟩ := id S0
  cases hv : shiftsV ps
  · have E : Hid (r = -1) := Lib.hid (by rw [← HR.out]; unfold leastI; rw [hv]; rfl)
    clear HR hl
    go_wp2_with fail
    go_ret
    exact ⟨ret_i64 E.out.symm, S0.2⟩
  go_wp2_with fail
  refine (DutyImpl.isUpTo f 10000 _).mono ?_
  rintro e w_ ⟨rfl, rfl⟩
  cases h1 : decide (0 ≤ f ∧ f ≤ 10000)
  · have E : Hid (r = -1) := Lib.hid (by rw [← HR.out]; unfold leastI; rw [hv, h1]; rfl)
    clear HR hl
    go_wp2_with fail
    go_ret
    exact ⟨ret_i64 E.out.symm, S0.2⟩
  go_wp2_with fail
  refine (DutyImpl.isUpTo t 10000 _).mono ?_
  rintro e w_ ⟨rfl, rfl⟩
  cases h2 : decide (0 ≤ t ∧ t ≤ 10000)
  · have E : Hid (r = -1) := Lib.hid (by rw [← HR.out]; unfold leastI; rw [hv, h1, h2]; rfl)
    clear HR hl
    go_wp2_with fail
    go_ret
    exact ⟨ret_i64 E.out.symm, S0.2⟩
  have HM : Hid (r = minOn ps f (t - f).toNat) := Lib.hid (by rw [← HR.out]; unfold leastI; rw [hv, h1, h2, decide_eq_true hft]; rfl)
  have hfb := of_decide_eq_true h1
  have htb := of_decide_eq_true h2
  have n20 := (shiftsV_at hv).1
  rw [hl] at n20
  clear HR hv h1 h2
  obtain ⟨d, hd⟩ : ∃ d : Nat, t = f + (d : Int) := ⟨(t - f).toNat, by omega⟩
  have HE : Hid (minOn ps f d = r) := Lib.hid (by rw [HM.out, show (t - f).toNat = d by omega])
  have HS : Hid (∀ k, minOn ps f (k + 1) = min (minOn ps f k) (dutyI ps (f + (k : Int)))) := Lib.hid (fun k => rfl)
  have H0 : Hid (minOn ps f 0 = (n : Int)) := Lib.hid (by rw [← hl]; rfl)
  have hd3 := Lib.hid hd
  clear HM hd
  go_wp2_with fail
  go_loopw [7, 8] (fun v q wr => ∃ k : Nat, k ≤ d ∧ q = .int .i64 (f + (k : Int)) ∧ v = .int .i64 (minOn ps f k) ∧ (TsAt wr w.heap.size A ps ∧ Below w.heap.size w wr))
    (fun _ q _ => (f + (d : Int) - intOf q).toNat)
  case atStart => exact ⟨0, Nat.zero_le _, by simp, by rw [H0.out], S0⟩
  case round =>
    clear S0
    obtain ⟨k, hkn, rfl, rfl, S0⟩ := hrel
    by_cases hlt : k < d
    rotate_left
    · obtain rfl : d = k := by omega
      rw [HE.out]
      have hx : ¬ f + (d : Int) < t := by have := hd3.out; omega
      obtain ⟨_, _⟩ := id S0
      clear hl HE HS H0
      go_wp2_with fail
      go_ret
      exact ⟨rfl, S0.2⟩
    have hx : f + (k : Int) < t := by have := hd3.out; omega
    have QD := Lib.hid fun w hp => DutyListImpl.onDuty A n cap (f + (k : Int)) w ps hl hn hp
    have HN := Lib.hid (HS.out k)
    generalize minOn ps f k = v at *
    generalize dutyI ps (f + (k : Int)) = x at *
    obtain ⟨y, hy⟩ : ∃ y, f + (k : Int) = y := ⟨_, rfl⟩
    rw [hy] at QD hx ⊢
    have u1 : IntKind.i64.wrap (y + 1) = y + 1 := IntWalk.i64_in _ (by have := hd3.out; omega)
    have hy2 : y + 1 = f + ((k + 1 : Nat) : Int) := by omega
    have hy3 := Lib.hid hy
    have hy4 := Lib.hid hy2
    obtain ⟨_, _⟩ := id S0
    clear hl HE HS H0 hy hy2
    go_wp2_with fail
    refine (QD.out _ (S0.1.wide S0.2.size)).mono ?_
    rintro e w5 ⟨rfl, hb_⟩
    replace S0 := HO _ _ S0 hb_
    clear hb_
    obtain ⟨_, _⟩ := id S0
    go_wp2_with fail
    have hd := hd3.out
    have hy := hy3.out
    first
      | exact ⟨⟨k + 1, by omega, by rw [hy4.out], by rw [HN.out], S0⟩, by simp [intOf]; omega⟩
      | (go_roundw <;> first | exact ⟨k + 1, by omega, by rw [hy4.out], by rw [HN.out], S0⟩ | (simp [intOf]; omega))

end Go.Proofs.Ytcpepljgnkmajaa.LeastImpl

