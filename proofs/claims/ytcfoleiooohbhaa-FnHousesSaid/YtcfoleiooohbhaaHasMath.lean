/-
  The laws' own test whether a list has a number, as a contract; a row of the call's own, read as a list.
-/
import Derived.Test.YtcfoleiooohbhaaGround
import Derived.Test.YtcfoleiooohbhaaTup3
import Derived.Test.YtcfoleiooohbhaaLawInt
namespace Go.Proofs.Ytcfoleiooohbhaa.HasMath
open Go.RowKit PointOk Blk Ints
open Go.Proofs.Ytcfoleiooohbhaa.Own (icells icells_length icells_at own_shape own_cell)

theorem ints_own {w : World} {b n c : Nat} {A : Option Addr} {xs : List Int} (h : w.ownsRow b 3 1 (.slice A n c) n (icells xs)) (hl : xs.length = n) : IntsAt w w.heap.size A xs := by
  intro j hj
  obtain ⟨g, hA, _, hg, h1, _⟩ := own_cell h (by omega) (icells_at hj)
  subst hA
  exact ⟨⟨g, 0, none⟩, rfl, hg, by rw [Pts.add_head]; exact h1⟩
open Tup3 in
theorem ts_own {w : World} {b n c : Nat} {A : Option Addr} {T : TypeId} {ps : List Tu} (h : w.ownsRow b T 3 (.slice A n c) n (cellsT ps)) (hl : ps.length = n) : TsAt w w.heap.size A ps := by
  intro j hj
  obtain ⟨c0, c1, c2⟩ := cellsT_at ps j hj
  have hj3 : j * 3 + 2 < (cellsT ps).length := by rw [cellsT_length]; omega
  obtain ⟨g, hA, _, hg, h1, _⟩ := LawInt.own_cellN h (by omega) (j := j * 3) (by omega) c0
  obtain ⟨g2, hA2, _, _, h2, _⟩ := LawInt.own_cellN h (by omega) (j := j * 3 + 1) (by omega) c1
  obtain ⟨g3, hA3, _, _, h3, _⟩ := LawInt.own_cellN h (by omega) (j := j * 3 + 2) (by omega) c2
  subst hA
  injection hA2 with hA2
  injection hA2 with hA2
  injection hA3 with hA3
  injection hA3 with hA3
  subst hA2 hA3
  exact ⟨⟨g, 0, none⟩, rfl, hg, by rw [Pts.add_head]; exact h1, by rw [Pts.add_head]; exact h2, by rw [Pts.add_head]; exact h3⟩

set_option maxRecDepth 100000 in
set_option maxHeartbeats 800000 in
theorem has (A : Option Addr) (n cap : Nat) (w : World) (xs : List Int) (x : Int) (hl : xs.length = n) (hn : n ≤ 1048576) (hp : IntsAt w w.heap.size A xs) :
    Calls Try.prog 10 #[.slice A n cap, .int .i64 x] w fun e w' => e = .returned (.bool (decide (x ∈ xs))) ∧ w = w' := by
  obtain ⟨r, hr⟩ : ∃ r, decide (x ∈ xs) = r := ⟨_, rfl⟩
  have HR := Lib.hid hr
  rw [hr]
  clear hr
  go_enter Try.func10, Try.ntmps10
  go_wp2_with fail
  go_loopw [5] (fun q wr => ∃ k : Nat, k ≤ n ∧ q = .int .i64 k ∧ Hid (∀ j, (h : j < xs.length) → j < k → xs[j] ≠ x) ∧ wr = w) (fun q _ => n - (intOf q).toNat)
  case atStart => exact ⟨0, Nat.zero_le _, rfl, Lib.hid (fun j _ h => absurd h (by omega)), rfl⟩
  case round =>
    obtain ⟨k, hkn, rfl, hno, rfl⟩ := hrel
    by_cases hlt : k < n
    · have hk1 : (k : Int) < (n : Int) := by omega
      have hk0 : (0 : Int) ≤ (k : Int) := by omega
      obtain ⟨ad, eA, bA, pA⟩ := hp k (by omega)
      subst eA
      have hmem : xs[k]'(by omega) ∈ xs := List.getElem_mem _
      by_cases he : xs[k]'(by omega) = x
      · have E : Hid (r = true) := Lib.hid (by rw [← HR.out]; exact decide_eq_true (he ▸ hmem))
        rw [he] at pA
        clear HR hno hmem he hp
        go_wp2_with fail
        go_ret
        exact ⟨ret_bool E.out.symm, rfl⟩
      · have HN2 : Hid (∀ j, (h : j < xs.length) → j < k + 1 → xs[j] ≠ x) := Lib.hid (by
          intro j h hj
          rcases Nat.lt_or_ge j k with h1 | h1
          · exact hno.out j h h1
          · obtain rfl : j = k := by omega
            exact he)
        generalize xs[k]'(by omega) = y at *
        have hb : (y == x) = false := beq_eq_false_iff_ne.2 he
        clear hno hmem
        go_wp2_with fail
        first | exact ⟨⟨k + 1, by omega, by go_num, HN2, trivial⟩, by simp [intOf] <;> omega⟩ | exact ⟨⟨k + 1, by omega, by go_num, HN2, rfl⟩, by simp [intOf] <;> omega⟩
    · obtain rfl : k = n := by omega
      have E : Hid (r = false) := Lib.hid (by
        rw [← HR.out]
        refine decide_eq_false (fun h => ?_)
        obtain ⟨j, hj, e⟩ := List.mem_iff_getElem.1 h
        exact hno.out j hj (by omega) e)
      clear HR hno hp
      go_wp2_with fail
      go_ret
      exact ⟨ret_bool E.out.symm, rfl⟩
end Go.Proofs.Ytcfoleiooohbhaa.HasMath
