/-
  What the model's digests and seals are, as contracts: what each answers; no cell is written.
-/
import Derived.Test.YtcfoleiooohbhaaGround
import Derived.Test.YtcfoleiooohbhaaSealMath
import Derived.WalkKit
import Derived.Laws.IdiomStrings
namespace Go.Proofs.Ytcfoleiooohbhaa.SealSpec
open Go.RowKit PointMath SealMath
open PointOk (ret_bool ret_i64 below1 below2 below3)

set_option maxHeartbeats 1600000 in
theorem digestOf (s : ByteArray) (w : World) :
    Calls Try.prog 73 #[.string s] w fun e w' => e = .returned (.int .i64 (digestI s)) ∧ w = w' := by
  by_cases h : s.size ≤ 200
  rotate_left
  · have H : Hid (digestI s = -1) := Lib.hid (if_neg h)
    have h2 : (200 : Int) < (s.size : Int) := by omega
    go_enter Try.func73, Try.ntmps73
    go_wp2_with fail
    go_ret
    exact ⟨ret_i64 H.out.symm, rfl⟩
  have H : Hid (digs 7 (s.data.toList.take s.size) = digestI s) := Lib.hid (by rw [take_all]; exact (if_pos h).symm)
  have h2 : ¬ (200 : Int) < (s.size : Int) := by omega
  go_enter Try.func73, Try.ntmps73
  go_wp2_with fail
  go_loopw [3, 4] (fun v i wr => ∃ k : Nat, k ≤ s.size ∧ i = .int .i64 k ∧ v = .int .i64 (digs 7 (s.data.toList.take k)) ∧ w = wr)
    (fun _ i _ => s.size - (intOf i).toNat)
  case atStart => exact ⟨0, Nat.zero_le _, rfl, rfl, rfl⟩
  case round =>
    obtain ⟨k, hk, rfl, rfl, rfl⟩ := hrel
    by_cases hlt : k < s.size
    · have hb : (s[k].toNat : Int) < 256 := by have := s[k].toNat_lt; omega
      have hk0 : (0 : Int) ≤ (k : Int) := by omega
      have hk1 : (k : Int) < (s.size : Int) := by omega
      have HS := Lib.hid (digs_take 7 s hlt)
      have hd := digs_in (n := 7) (by omega) (s.data.toList.take k)
      generalize digs 7 (s.data.toList.take k) = d at *
      unfold digStep at HS
      have W1 : IntKind.i64.wrap (s[k].toNat : Int) = s[k].toNat := IntWalk.i64_in _ (by omega)
      have W2 : IntKind.i64.wrap (d * 257) = d * 257 := IntWalk.i64_in _ (by omega)
      have W3 : IntKind.i64.wrap (d * 257 + (s[k].toNat : Int)) = d * 257 + s[k].toNat := IntWalk.i64_in _ (by omega)
      have W4 : IntKind.i64.wrap (d * 257 + (s[k].toNat : Int) + 1) = d * 257 + s[k].toNat + 1 := IntWalk.i64_in _ (by omega)
      obtain ⟨x, hx⟩ : ∃ x, (d * 257 + (s[k].toNat : Int) + 1) % 1000003 = x := ⟨_, rfl⟩
      rw [hx] at HS
      have W5 : (d * 257 + (s[k].toNat : Int) + 1).tmod 1000003 = x := by rw [← hx]; exact Int.tmod_eq_emod_of_nonneg (by omega)
      have W6 : IntKind.i64.wrap x = x := IntWalk.i64_in _ (by omega)
      clear hd hx
      go_wp2_with fail
      go_roundw
      case rel => exact ⟨k + 1, by omega, by go_num, by rw [HS.out], by first | rfl | trivial⟩
      case measure => simp [intOf]; omega
    · obtain rfl : k = s.size := by omega
      rw [H.out]
      go_wp2_with fail
      go_ret
      exact ⟨rfl, rfl⟩

set_option maxHeartbeats 1600000 in
theorem sealAfter (p m : Int) (s : ByteArray) (w : World) :
    Calls Try.prog 68 #[.int .i64 p, .int .i64 m, .string s] w fun e w' => e = .returned (.int .i64 (sealI p m s)) ∧ w = w' := by
  obtain ⟨r, hr⟩ : ∃ r, sealI p m s = r := ⟨_, rfl⟩
  have HR := Lib.hid hr
  rw [hr]
  clear hr
  have QD := Lib.hid fun w => digestOf s w
  have hd := digest_in s
  have HE : Hid (r = if (0 ≤ p ∧ p ≤ 1000002) ∧ (0 ≤ m ∧ m ≤ 1000000) ∧ 0 ≤ digestI s then (p * 1009 + m * 31 + digestI s) % 1000003 else -1) := Lib.hid HR.out.symm
  generalize digestI s = d at *
  clear HR
  go_enter Try.func68, Try.ntmps68
  go_wp2_with fail
  refine (QD.out _).mono ?_
  rintro e w_ ⟨rfl, rfl⟩
  go_wp2_with fail
  refine (PointOk.l01In p 0 1000002 _).mono ?_
  rintro e w_ ⟨rfl, rfl⟩
  cases h1 : decide (0 ≤ p ∧ p ≤ 1000002)
  · have E : Hid (r = -1) := Lib.hid (by rw [HE.out]; exact if_neg (fun h => of_decide_eq_false h1 h.1))
    clear HE
    go_wp2_with fail
    go_ret
    exact ⟨ret_i64 E.out.symm, rfl⟩
  go_wp2_with fail
  refine (PointOk.l01In m 0 1000000 _).mono ?_
  rintro e w_ ⟨rfl, rfl⟩
  cases h2 : decide (0 ≤ m ∧ m ≤ 1000000)
  · have E : Hid (r = -1) := Lib.hid (by rw [HE.out]; exact if_neg (fun h => of_decide_eq_false h2 h.2.1))
    clear HE
    go_wp2_with fail
    go_ret
    exact ⟨ret_i64 E.out.symm, rfl⟩
  by_cases h3 : 0 ≤ d
  rotate_left
  · have E : Hid (r = -1) := Lib.hid (by rw [HE.out]; exact if_neg (fun h => h3 h.2.2))
    have h4 : d < 0 := by omega
    clear HE
    go_wp2_with fail
    go_ret
    exact ⟨ret_i64 E.out.symm, rfl⟩
  have k1 := of_decide_eq_true h1
  have k2 := of_decide_eq_true h2
  have E : Hid (r = (p * 1009 + m * 31 + d) % 1000003) := Lib.hid (by rw [HE.out]; exact if_pos ⟨k1, k2, h3⟩)
  have h4 : ¬ d < 0 := by omega
  have W1 : IntKind.i64.wrap (p * 1009) = p * 1009 := IntWalk.i64_in _ (by omega)
  have W2 : IntKind.i64.wrap (m * 31) = m * 31 := IntWalk.i64_in _ (by omega)
  have W3 : IntKind.i64.wrap (p * 1009 + m * 31) = p * 1009 + m * 31 := IntWalk.i64_in _ (by omega)
  have W4 : IntKind.i64.wrap (p * 1009 + m * 31 + d) = p * 1009 + m * 31 + d := IntWalk.i64_in _ (by omega)
  obtain ⟨x, hx⟩ : ∃ x, (p * 1009 + m * 31 + d) % 1000003 = x := ⟨_, rfl⟩
  rw [hx] at E
  have W5 : (p * 1009 + m * 31 + d).tmod 1000003 = x := by rw [← hx]; exact Int.tmod_eq_emod_of_nonneg (by omega)
  have W6 : IntKind.i64.wrap x = x := IntWalk.i64_in _ (by omega)
  clear HE k1 k2 h1 h2 hd hx
  go_wp2_with fail
  go_ret
  exact ⟨ret_i64 (by rw [E.out]), rfl⟩

end Go.Proofs.Ytcfoleiooohbhaa.SealSpec

