/-
  What the model's PlanOk does, as a contract: what it answers; new memory alone is written.
-/
import Derived.Test.YtgelkpaiabhklaaPlanMath
import Derived.Test.YtgelkpaiabhklaaDutySpec
import Derived.Test.YtgelkpaiabhklaaGround
import Derived.Test.YtgelkpaiabhklaaJoinMath
import Derived.Laws.OwnMore
import Derived.OwnWalk
import Derived.BigRegion
namespace Go.Proofs.Ytgelkpaiabhklaa.PlanSpec
open Go.RowKit Own Blk Ints JoinMath PlanMath DutyMath
open PointOk (ret_bool ret_i64 below1 below2 below3)

theorem infoI : (Try.prog.info? 3).map (fun i => (i.zero, i.size, i.bytes)) = some (some (.int .i64 0), 1, 8) := by kernel_rfl

set_option maxRecDepth 100000 in
set_option maxHeartbeats 1600000 in
theorem valid (A B C : Option Addr) (n cap m cm l cl : Nat) (w : World) (ps : List Tup4.Tu) (hs : List Tup3.Tu) (ls : List Int) (hp : ps.length = n) (hm : hs.length = m) (hl : ls.length = l) (hn : n ≤ 1048576) (hn2 : m ≤ 1048576) (hn3 : l ≤ 1048576) (hi : IntsAt w w.heap.size C ls) :
    Calls Try.prog 67 #[.slice A n cap, .slice B m cm, .slice C l cl] w fun e w' => e = .returned (.bool (validB ps hs ls)) ∧ w = w' := by
  obtain ⟨r, hr⟩ : ∃ r, validB ps hs ls = r := ⟨_, rfl⟩
  have HR := Lib.hid hr
  rw [hr]
  clear hr
  go_enter Try.func67, Try.ntmps67
  go_wp2_with fail
  go_loopw [7] (fun q wr => ∃ k : Nat, k ≤ l ∧ q = .int .i64 k ∧ Hid (∀ j, j < k → inB 6 (ls.getD j 0) = true) ∧ w = wr)
    (fun q _ => l - (intOf q).toNat)
  case atStart => exact ⟨0, Nat.zero_le _, rfl, Lib.hid (fun j hj => absurd hj (by omega)), rfl⟩
  case round =>
    obtain ⟨k, hkn, rfl, hw, rfl⟩ := hrel
    by_cases hlt : k < l
    · have hk1 : (k : Int) < (l : Int) := by omega
      have hk0 : (0 : Int) ≤ (k : Int) := by omega
      have uk : IntKind.i64.wrap ((k : Int) + 1) = (k : Int) + 1 := IntWalk.i64_in _ (by omega)
      have p0 := at_d (zs := ls) (k := k) (by omega)
      have HF : Hid (inB 6 (ls.getD k 0) = false → r = false) := Lib.hid (fun h => by
        rw [← HR.out]
        have : (List.range ls.length).all (fun k => inB 6 (ls.getD k 0)) = false := by
          rw [List.all_eq_false]
          exact ⟨k, List.mem_range.2 (by omega), by rw [h]; simp⟩
        unfold validB
        rw [this]; simp)
      have HT : Hid (inB 6 (ls.getD k 0) = true → ∀ j, j < k + 1 → inB 6 (ls.getD j 0) = true) := Lib.hid (fun h j hj => by
        rcases Nat.lt_or_ge j k with h1 | h1
        · exact hw.out j h1
        · obtain rfl : j = k := by omega
          exact h)
      generalize ls.getD k 0 = x at *
      obtain ⟨bd, eB, _, pB⟩ := hi.get p0
      subst eB
      obtain ⟨_, _⟩ := pB
      unfold inB at HF HT
      clear hw HR p0
      go_wp2_with fail
      refine (PointOk.l01In x 0 6 _).mono ?_
      rintro e w_ ⟨rfl, rfl⟩
      cases hi2 : decide (0 ≤ x ∧ x ≤ 6)
      · have E := Lib.hid (HF.out hi2)
        clear HF HT
        go_wp2_with fail
        go_ret
        exact ⟨ret_bool E.out.symm, rfl⟩
      · have HT2 := Lib.hid (HT.out hi2)
        clear HF HT
        go_wp2_with fail
        first
          | exact ⟨⟨k + 1, by omega, by go_num, HT2, by first | rfl | trivial⟩, by simp [intOf]; omega⟩
          | (go_roundw <;> first | exact ⟨k + 1, by omega, by go_num, HT2, by first | rfl | trivial⟩ | (simp [intOf]; omega))
    · obtain rfl : l = k := by omega
      have HV : Hid (r = (decide (n ≤ 6) && decide (1 ≤ m ∧ m ≤ 5) && decide (l = m))) := Lib.hid (by
        have : (List.range ls.length).all (fun k => inB 6 (ls.getD k 0)) = true := by
          rw [List.all_eq_true]
          exact fun k hk => hw.out k (by have := List.mem_range.1 hk; omega)
        rw [← HR.out]
        unfold validB
        rw [this, hp, hm, hl]
        simp)
      clear hw HR hp hm hl
      by_cases h6 : n ≤ 6
      rotate_left
      · have E : Hid (r = false) := Lib.hid (by rw [HV.out, decide_eq_false h6]; simp)
        have h6i : ¬ (n : Int) ≤ 6 := by omega
        clear HV
        go_wp2_with fail
        go_ret
        exact ⟨ret_bool (by rw [E.out]), rfl⟩
      have h6i : (n : Int) ≤ 6 := by omega
      go_wp2_with fail
      refine (PointOk.l01In (m : Int) 1 5 _).mono ?_
      rintro e w_ ⟨rfl, rfl⟩
      by_cases h5 : (1 : Int) ≤ (m : Int) ∧ (m : Int) ≤ 5
      rotate_left
      · have E : Hid (r = false) := Lib.hid (by rw [HV.out, decide_eq_true h6, show decide (1 ≤ m ∧ m ≤ 5) = false from decide_eq_false (by omega)]; simp)
        rw [decide_eq_false h5]
        clear HV
        go_wp2_with fail
        go_ret
        exact ⟨ret_bool (by rw [E.out]), rfl⟩
      rw [decide_eq_true h5]
      by_cases hlm : l = m
      · subst hlm
        have E : Hid (r = true) := Lib.hid (by rw [HV.out, decide_eq_true h6, show decide (1 ≤ l ∧ l ≤ 5) = true from decide_eq_true (by omega)]; simp)
        clear HV
        go_wp2_with fail
        go_ret
        exact ⟨ret_bool (by rw [E.out]), rfl⟩
      · have E : Hid (r = false) := Lib.hid (by rw [HV.out, decide_eq_false hlm]; simp)
        have hx : ((l : Int) == (m : Int)) = false := beq_eq_false_iff_ne.2 (by omega)
        clear HV
        go_wp2_with fail
        go_ret
        exact ⟨ret_bool (by rw [E.out]), rfl⟩

end Go.Proofs.Ytgelkpaiabhklaa.PlanSpec

