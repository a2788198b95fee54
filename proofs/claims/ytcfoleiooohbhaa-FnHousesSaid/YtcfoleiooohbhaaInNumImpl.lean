/-
  What slices.IndexFunc and slices.ContainsFunc do over a slice of numbers with a test that is handed over, as contracts.
-/
import Derived.Test.YtcfoleiooohbhaaGround
import Derived.Test.YtcfoleiooohbhaaJoinMath
import Derived.Test.YtcfoleiooohbhaaFirstMath
import Derived.OwnWalk
namespace Go.Proofs.Ytcfoleiooohbhaa.InNumImpl
open Go.RowKit Own Blk Ints JoinMath FirstMath
open PointOk (ret_bool ret_i64 below1 below2 below3)

set_option maxRecDepth 100000 in
set_option maxHeartbeats 1600000 in
theorem indexFunc (F : FuncId) (cs : Array Value) (f : Nat → Bool) (B : Option Addr) (m cb : Nat) (w : World) (qs : List Int) (hl2 : qs.length = m) (hn2 : m ≤ 1048576) (hq : IntsAt w w.heap.size B qs) (eF : ∀ (args : Array Value) (w : World), (callFunc F args).run Try.prog w = .ok (.enter F args) w)
    (Q : ∀ (W : World) (k : Nat), k < m → Below w.heap.size w W → Calls Try.prog F (#[.int .i64 (qs.getD k 0)] ++ cs) W fun e w' => e = .returned (.bool (f k)) ∧ Below W.heap.size W w') :
    Calls Try.prog 63 #[.slice B m cb, .func (.func F) #[] cs] w fun e w' => e = .returned (.int .i64 (firstI m f)) ∧ Below w.heap.size w w' := by
  obtain ⟨r, hr⟩ : ∃ r, firstI m f = r := ⟨_, rfl⟩
  have HR := Lib.hid hr
  rw [hr]
  clear hr
  have Q := Lib.hid Q
  go_enter Try.func63, Try.ntmps63
  go_wp2_with fail
  have HO : ∀ W W' : World, (IntsAt W w.heap.size B qs ∧ Below w.heap.size w W) → Below W.heap.size W W' → (IntsAt W' w.heap.size B qs ∧ Below w.heap.size w W') := fun W W' ⟨x0, hb⟩ h => ⟨x0.later (h.mono hb.size), hb.trans (h.mono hb.size)⟩
  have S0 : IntsAt w w.heap.size B qs ∧ Below w.heap.size w w := ⟨hq, Below.refl _ _⟩
  clear hq
  go_loopw [8] (fun q wr => ∃ k : Nat, k ≤ m ∧ q = .int .i64 k ∧ Hid (∀ j, j < k → f j = false) ∧ (IntsAt wr w.heap.size B qs ∧ Below w.heap.size w wr))
    (fun q _ => m - (intOf q).toNat)
  case atStart => exact ⟨0, Nat.zero_le _, rfl, Lib.hid (fun t ht => absurd ht (by omega)), S0⟩
  case round =>
    clear S0
    obtain ⟨k, hk, rfl, hno, S0⟩ := hrel
    obtain ⟨_, _⟩ := id S0
    by_cases hkm : k < m
    · have hk1 : (k : Int) < (m : Int) := by omega
      have hk0 : (0 : Int) ≤ (k : Int) := by omega
      have QK : Hid (∀ W hb, _) := Lib.hid fun W hb => Q.out W k hkm hb
      have uk : IntKind.i64.wrap ((k : Int) + 1) = (k : Int) + 1 := IntWalk.i64_in _ (by omega)
      have p0 := at_d (zs := qs) (k := k) (by omega)
      obtain ⟨x, hx⟩ : ∃ x, qs.getD k 0 = x := ⟨_, rfl⟩
      rw [hx] at p0 QK
      obtain ⟨ad, eA, bA, pA⟩ := S0.1.get p0
      subst eA
      obtain ⟨_, _⟩ := id pA
      obtain ⟨o, ho⟩ : ∃ o, f k = o := ⟨_, rfl⟩
      rw [ho] at QK
      clear p0 hx pA Q
      go_wp2_with fail
      refine (QK.out _ S0.2).mono ?_
      rintro e w4 ⟨rfl, hb_⟩
      replace S0 := HO _ _ S0 hb_
      clear hb_ QK
      obtain ⟨_, _⟩ := id S0
      cases o
      · have hno2 : Hid (∀ j, j < k + 1 → f j = false) := Lib.hid (by
          intro j hj
          rcases Nat.lt_or_ge j k with h | h
          · exact hno.out j h
          · obtain rfl : j = k := by omega
            exact ho)
        clear hno ho HR
        go_wp2_with fail
        first
          | exact ⟨⟨k + 1, by omega, by go_num, hno2, S0⟩, by simp [intOf]; omega⟩
          | (go_roundw <;> first | exact ⟨k + 1, by omega, by go_num, hno2, S0⟩ | (simp [intOf]; omega))
      · have E : Hid (r = (k : Int)) := Lib.hid (by rw [← HR.out]; exact firstI_at hkm ho hno.out)
        clear hno ho HR
        go_wp2_with fail
        go_ret
        exact ⟨ret_i64 E.out.symm, S0.2⟩
    · obtain rfl : m = k := by omega
      have E : Hid (r = -1) := Lib.hid (by rw [← HR.out]; exact firstI_none hno.out)
      clear hno HR hl2
      go_wp2_with fail
      go_ret
      exact ⟨ret_i64 E.out.symm, S0.2⟩

set_option maxRecDepth 100000 in
theorem containsFunc (F : FuncId) (cs : Array Value) (f : Nat → Bool) (B : Option Addr) (m cb : Nat) (w : World) (qs : List Int) (hl2 : qs.length = m) (hn2 : m ≤ 1048576) (hq : IntsAt w w.heap.size B qs) (eF : ∀ (args : Array Value) (w : World), (callFunc F args).run Try.prog w = .ok (.enter F args) w)
    (Q : ∀ (W : World) (k : Nat), k < m → Below w.heap.size w W → Calls Try.prog F (#[.int .i64 (qs.getD k 0)] ++ cs) W fun e w' => e = .returned (.bool (f k)) ∧ Below W.heap.size W w') :
    Calls Try.prog 47 #[.slice B m cb, .func (.func F) #[] cs] w fun e w' => e = .returned (.bool ((List.range m).any f)) ∧ Below w.heap.size w w' := by
  have QI := Lib.hid (indexFunc F cs f B m cb w qs hl2 hn2 hq eF Q)
  rw [← first_any]
  generalize firstI m f = q at *
  clear Q eF hq hl2 hn2
  go_enter Try.func47, Try.ntmps47
  go_wp2_with fail
  refine QI.out.mono ?_
  rintro e w1 ⟨rfl, hb_⟩
  go_wp2_with fail
  go_ret
  exact ⟨ret_bool (by first | rfl | (rw [Bool.eq_iff_iff]; simp)), hb_⟩

end Go.Proofs.Ytcfoleiooohbhaa.InNumImpl

