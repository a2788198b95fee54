/-
  What slices.Index and slices.Contains do over a slice of numbers, as contracts.
-/
import Derived.Test.YtcfoleiooohbhaaGround
import Derived.Test.YtcfoleiooohbhaaJoinMath
import Derived.Test.YtcfoleiooohbhaaFirstMath
import Derived.OwnWalk
namespace Go.Proofs.Ytcfoleiooohbhaa.IntSl
open Go.RowKit Blk Ints JoinMath FirstMath
open PointOk (ret_bool ret_i64 below1 below2 below3)

set_option maxRecDepth 100000 in
set_option maxHeartbeats 1600000 in
theorem index (B : Option Addr) (m cb : Nat) (z : Int) (w : World) (qs : List Int) (hl2 : qs.length = m) (hn2 : m ≤ 1048576) (hq : IntsAt w w.heap.size B qs) :
    Calls Try.prog 62 #[.slice B m cb, .int .i64 z] w fun e w' => e = .returned (.int .i64 (firstI m fun k => decide (z = qs.getD k 0))) ∧ Below w.heap.size w w' := by
  obtain ⟨r, hr⟩ : ∃ r, (firstI m fun k => decide (z = qs.getD k 0)) = r := ⟨_, rfl⟩
  have HR := Lib.hid hr
  rw [hr]
  clear hr
  have HA := Lib.hid fun k hk h h2 => firstI_at (n := m) (f := fun k => decide (z = qs.getD k 0)) (k := k) hk h h2
  have HN := Lib.hid fun h => firstI_none (n := m) (f := fun k => decide (z = qs.getD k 0)) h
  go_enter Try.func62, Try.ntmps62
  go_wp2_with fail
  have HO : ∀ W W' : World, (IntsAt W w.heap.size B qs ∧ Below w.heap.size w W) → Below W.heap.size W W' → (IntsAt W' w.heap.size B qs ∧ Below w.heap.size w W') := fun W W' ⟨x0, hb⟩ h => ⟨x0.later (h.mono hb.size), hb.trans (h.mono hb.size)⟩
  have S0 : IntsAt w w.heap.size B qs ∧ Below w.heap.size w w := ⟨hq, Below.refl _ _⟩
  clear hq
  go_loopw [8] (fun q wr => ∃ k : Nat, k ≤ m ∧ q = .int .i64 k ∧ Hid (∀ j, j < k → decide (z = qs.getD j 0) = false) ∧ (IntsAt wr w.heap.size B qs ∧ Below w.heap.size w wr))
    (fun q _ => m - (intOf q).toNat)
  case atStart => exact ⟨0, Nat.zero_le _, rfl, Lib.hid (fun t ht => absurd ht (by omega)), S0⟩
  case round =>
    clear S0
    obtain ⟨k, hk, rfl, hno, S0⟩ := hrel
    obtain ⟨_, _⟩ := id S0
    by_cases hkm : k < m
    · have hk1 : (k : Int) < (m : Int) := by omega
      have hk0 : (0 : Int) ≤ (k : Int) := by omega
      have uk : IntKind.i64.wrap ((k : Int) + 1) = (k : Int) + 1 := IntWalk.i64_in _ (by omega)
      have p0 := at_d (zs := qs) (k := k) (by omega)
      have HAk := Lib.hid (fun h => HA.out k hkm h hno.out)
      have HW : Hid (z ≠ qs.getD k 0 → ∀ j, j < k + 1 → decide (z = qs.getD j 0) = false) := Lib.hid (fun h j hj => by
        rcases Nat.lt_or_ge j k with h1 | h1
        · exact hno.out j h1
        · obtain rfl : j = k := by omega
          exact decide_eq_false h)
      obtain ⟨x, hx⟩ : ∃ x, qs.getD k 0 = x := ⟨_, rfl⟩
      rw [hx] at p0 HAk HW
      obtain ⟨ad, eA, bA, pA⟩ := S0.1.get p0
      subst eA
      obtain ⟨_, _⟩ := id pA
      clear p0 hx pA HA HN hno hl2
      by_cases hzx : z = x
      · have E : Hid (r = (k : Int)) := Lib.hid (by rw [← HR.out]; exact HAk.out (decide_eq_true hzx))
        subst hzx
        clear HR HAk HW
        go_wp2_with fail
        go_ret
        exact ⟨ret_i64 E.out.symm, S0.2⟩
      · have hb : (z == x) = false := beq_eq_false_iff_ne.2 hzx
        have HW2 := Lib.hid (HW.out hzx)
        clear HR HAk HW
        go_wp2_with fail
        exact ⟨⟨k + 1, by omega, by go_num, HW2, S0⟩, by simp [intOf]; omega⟩
    · obtain rfl : m = k := by omega
      have E : Hid (r = -1) := Lib.hid (by rw [← HR.out]; exact HN.out hno.out)
      clear hno HR hl2 HA HN
      go_wp2_with fail
      go_ret
      exact ⟨ret_i64 E.out.symm, S0.2⟩

set_option maxRecDepth 100000 in
theorem contains (B : Option Addr) (m cb : Nat) (z : Int) (w : World) (qs : List Int) (hl2 : qs.length = m) (hn2 : m ≤ 1048576) (hq : IntsAt w w.heap.size B qs) :
    Calls Try.prog 46 #[.slice B m cb, .int .i64 z] w fun e w' => e = .returned (.bool (qs.contains z)) ∧ Below w.heap.size w w' := by
  have QI := Lib.hid (index B m cb z w qs hl2 hn2 hq)
  have e : qs.contains z = decide (0 ≤ firstI m fun k => decide (z = qs.getD k 0)) := by
    rw [first_any, ← hl2]
    rw [Bool.eq_iff_iff, List.contains_iff_mem, List.any_eq_true]
    constructor
    · intro h
      obtain ⟨k, hk, e⟩ := List.mem_iff_getElem.1 h
      exact ⟨k, List.mem_range.2 hk, by simp [List.getD, hk, e]⟩
    · rintro ⟨k, hk, e⟩
      have hk := List.mem_range.1 hk
      simp only [decide_eq_true_eq] at e
      rw [e]
      simp [List.getD, hk]
  rw [e]
  clear e
  generalize (firstI m fun k => decide (z = qs.getD k 0)) = q at *
  clear hq hl2 hn2
  go_enter Try.func46, Try.ntmps46
  go_wp2_with fail
  refine QI.out.mono ?_
  rintro e w1 ⟨rfl, hb_⟩
  go_wp2_with fail
  go_ret
  exact ⟨ret_bool (by first | rfl | (rw [Bool.eq_iff_iff]; simp)), hb_⟩

end Go.Proofs.Ytcfoleiooohbhaa.IntSl

