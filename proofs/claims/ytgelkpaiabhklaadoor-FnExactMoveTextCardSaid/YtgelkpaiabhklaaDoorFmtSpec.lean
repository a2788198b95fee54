/-
  What the model's FormatInt does, as a contract: the decimal numeral, with a sign ahead where the number is below zero; no old cell is written.
-/
import Derived.Test.YtgelkpaiabhklaaDoorFmtMath
import Derived.Test.YtgelkpaiabhklaaDoorChecked
import Derived.WalkKit
import Derived.ProofKit
import Derived.WalkSpells
import Derived.Laws.IdiomStrings
import Derived.Laws.Rows
import Derived.Deep.AppendLies
import Derived.Lib.Hide
import Derived.Outline
namespace Go.Proofs.YtgelkpaiabhklaaDoor.FmtSpec
open Go.RowKit Go.Lib FmtMath

theorem ret_u8 {a b : Int} (h : a = b) : Ending.returned (.int .u8 a) = .returned (.int .u8 b) := by rw [h]
theorem ret_str {a b : ByteArray} (h : a = b) : Ending.returned (.string a) = .returned (.string b) := by rw [h]

theorem figure (n : Int) (c : UInt8) (h0 : 0 ≤ n) (h1 : n < 10) (hc : (c.toNat : Int) = 48 + n) (w : World) :
    Calls Tryd.prog 32 #[.int .i64 n] w fun e w' => e = .returned (.int .u8 (c.toNat : Int)) ∧ w = w' := by
  have H := Lib.hid hc
  clear hc
  go_enter Tryd.func32, Tryd.ntmps32
  go_wp2_with fail
  go_ret
  exact ⟨ret_u8 (by rw [H.out]), rfl⟩

/-- 'string([]byte{c})': a text of one byte. -/
theorem conv_one (W : World) (c : UInt8) : ∃ C : ByteArray, C.data.toList = [c] ∧
    (convert 64 9 (.slice (some ⟨W.heap.size, 0, none⟩) 1 1)).run Tryd.prog (W.alloc (.cells #[.int .u8 (c.toNat : Int)] 5)) = .ok (.string C) (W.alloc (.cells #[.int .u8 (c.toNat : Int)] 5)) := by
  refine ⟨⟨[c].toArray⟩, rfl, ?_⟩
  exact run_convert_bytes_back (P := Tryd.prog) (W.alloc (.cells #[.int .u8 (c.toNat : Int)] 5)) 64 9 5 ⟨W.heap.size, 0, none⟩ 1 [c] Tryd.underlying64 Tryd.underlying5 Tryd.underlying9 (fun j hj => by
    have hj0 : j = 0 := by simpa using hj
    subst hj0
    exact World.news_of_block (heap_alloc_new W (.cells #[.int .u8 (c.toNat : Int)] 5)) 0 _ (by simp))

set_option maxHeartbeats 800000 in
set_option maxRecDepth 100000 in
theorem format_pos (m : Nat) (hm : 0 < m) (hm2 : m ≤ 9223372036854775807) (w : World) :
    Calls Tryd.prog 18 #[.int .i64 (m : Int)] w fun e w' => e = .returned (.string ⟨(itoa (m : Int)).toArray⟩) ∧ Below w.heap.size w w' := by
  have e0 : ((m : Int) == 0) = false := by simp; omega
  go_enter Tryd.func18, Tryd.ntmps18
  go_wp2_with fail
  go_loopw [0, 4] (fun x s wr => ∃ (q : Nat) (S : ByteArray), q ≤ m ∧ x = .int .i64 (q : Int) ∧ s = .string S ∧ Hid (RestIs m q S.data.toList) ∧ Below w.heap.size w wr) (fun x _ _ => (intOf x).toNat)
  case atStart => exact ⟨m, ⟨#[]⟩, Nat.le_refl _, rfl, rfl, Lib.hid (left_start hm), Below.refl _ _⟩
  case round =>
    obtain ⟨q, S, hq, rfl, rfl, hl, hbel⟩ := hrel
    clear e0
    have hS : S.size ≤ 20 := left_len (by omega) hl.out
    have hz := hbel.size
    by_cases h0 : 0 < q
    · have t0 : ((q : Int) != 0) = true := by rw [bne_iff_ne]; omega
      obtain ⟨c, hc⟩ : ∃ c, c = dgt (q % 10) := ⟨_, rfl⟩
      have hc2 : (c.toNat : Int) = 48 + (q : Int) % 10 := by rw [hc, dgt_toNat (by omega)]; omega
      have HC2 := Lib.hid hc2
      have Hc := Lib.hid hc
      obtain ⟨C, hC, hconv⟩ := conv_one wr c
      have hC1 : C.size ≤ 1 := by show C.data.size ≤ 1; rw [← Array.length_toList, hC]; exact Nat.le_refl _
      have HC := Lib.hid hC
      clear hC hc hc2
      go_wp2_with (go_at_call 32; ((with_reducible refine (figure _ c ?_ ?_ ?_ _).mono ?_); (omega); (omega); (exact HC2.out); rintro e w' ⟨rfl, rfl⟩))
      go_roundw
      case rel => exact ⟨q / 10, C ++ S, by omega, by go_num, rfl, Lib.hid (by rw [ByteArray.data_append, Array.toList_append, HC.out, Hc.out]; exact left_step h0 hl.out), hbel.alloc hz _⟩
      case measure => simp [intOf]; omega
    · obtain rfl : q = 0 := by omega
      have hfin := Lib.hid (string_of (hl.out.1 rfl))
      have hit := Lib.hid (itoa_pos (n := (m : Int)) (m := m) rfl)
      have hneg : decide ((m : Int) < 0) = false := by simp
      go_wp2_with fail
      go_ret
      exact ⟨ret_str (by rw [hit.out, hfin.out]), hbel⟩

set_option maxHeartbeats 800000 in
set_option maxRecDepth 100000 in
theorem format_neg (m : Nat) (hm : 0 < m) (hm2 : m ≤ 9223372036854775808) (w : World) :
    Calls Tryd.prog 18 #[.int .i64 (-(m : Int))] w fun e w' => e = .returned (.string ⟨(itoa (-(m : Int))).toArray⟩) ∧ Below w.heap.size w w' := by
  have e0 : ((-(m : Int)) == 0) = false := by simp; omega
  go_enter Tryd.func18, Tryd.ntmps18
  go_wp2_with fail
  go_loopw [0, 4] (fun x s wr => ∃ (q : Nat) (S : ByteArray), q ≤ m ∧ x = .int .i64 (-(q : Int)) ∧ s = .string S ∧ Hid (RestIs m q S.data.toList) ∧ Below w.heap.size w wr) (fun x _ _ => (-(intOf x)).toNat)
  case atStart => exact ⟨m, ⟨#[]⟩, Nat.le_refl _, rfl, rfl, Lib.hid (left_start hm), Below.refl _ _⟩
  case round =>
    obtain ⟨q, S, hq, rfl, rfl, hl, hbel⟩ := hrel
    clear e0
    have hS : S.size ≤ 20 := left_len (by omega) hl.out
    have hz := hbel.size
    by_cases h0 : 0 < q
    · have t0 : ((-(q : Int)) != 0) = true := by rw [bne_iff_ne]; omega
      obtain ⟨c, hc⟩ : ∃ c, c = dgt (q % 10) := ⟨_, rfl⟩
      have hc2 : (c.toNat : Int) = 48 + (q : Int) % 10 := by rw [hc, dgt_toNat (by omega)]; omega
      have m1 : (-(q : Int)).tmod 10 = -((q : Int) % 10) := by rw [Int.neg_tmod, Int.tmod_eq_emod_of_nonneg (by omega)]
      have d1 : (-(q : Int)).tdiv 10 = -((q : Int) / 10) := by rw [Int.neg_tdiv, Int.tdiv_eq_ediv_of_nonneg (by omega)]
      have HC2 := Lib.hid hc2
      have Hc := Lib.hid hc
      obtain ⟨C, hC, hconv⟩ := conv_one wr c
      have hC1 : C.size ≤ 1 := by show C.data.size ≤ 1; rw [← Array.length_toList, hC]; exact Nat.le_refl _
      have HC := Lib.hid hC
      clear hC hc hc2
      by_cases hd : 0 < q % 10
      · have hd1 : -((q : Int) % 10) < 0 := by omega
        go_wp2_with (go_at_call 32; ((with_reducible refine (figure _ c ?_ ?_ ?_ _).mono ?_); (omega); (omega); (have := HC2.out; omega); rintro e w' ⟨rfl, rfl⟩))
        go_roundw
        case rel => exact ⟨q / 10, C ++ S, by omega, by go_num, rfl, Lib.hid (by rw [ByteArray.data_append, Array.toList_append, HC.out, Hc.out]; exact left_step h0 hl.out), hbel.alloc hz _⟩
        case measure => simp [intOf]; omega
      · have hd1 : ¬ -((q : Int) % 10) < 0 := by omega
        go_wp2_with (go_at_call 32; ((with_reducible refine (figure _ c ?_ ?_ ?_ _).mono ?_); (omega); (omega); (have := HC2.out; omega); rintro e w' ⟨rfl, rfl⟩))
        go_roundw
        case rel => exact ⟨q / 10, C ++ S, by omega, by go_num, rfl, Lib.hid (by rw [ByteArray.data_append, Array.toList_append, HC.out, Hc.out]; exact left_step h0 hl.out), hbel.alloc hz _⟩
        case measure => simp [intOf]; omega
    · obtain rfl : q = 0 := by omega
      have hfin := Lib.hid (string_of (hl.out.1 rfl))
      have hit := Lib.hid (itoa_neg (n := -(m : Int)) hm rfl)
      have hneg : decide (-(m : Int) < 0) = true := by simp; omega
      go_wp2_with fail
      go_ret
      exact ⟨ret_str (by rw [hit.out, hfin.out]; rfl), hbel⟩

set_option maxRecDepth 100000 in
theorem format_zero (w : World) :
    Calls Tryd.prog 18 #[.int .i64 0] w fun e w' => e = .returned (.string ⟨(itoa 0).toArray⟩) ∧ Below w.heap.size w w' := by
  have H : Hid ((⟨(itoa 0).toArray⟩ : ByteArray) = ⟨#[48]⟩) := Lib.hid (by rw [itoa_pos (n := 0) (m := 0) rfl, decDigits_one (by omega)]; rfl)
  go_enter Tryd.func18, Tryd.ntmps18
  go_wp2_with fail
  go_ret
  exact ⟨ret_str (by rw [H.out]), Below.refl _ _⟩

set_option maxRecDepth 100000 in
/-- THE CONTRACT: every int. -/
theorem format (n : Int) (h0 : -9223372036854775808 ≤ n) (h1 : n ≤ 9223372036854775807) (w : World) :
    Calls Tryd.prog 18 #[.int .i64 n] w fun e w' => e = .returned (.string ⟨(itoa n).toArray⟩) ∧ Below w.heap.size w w' := by
  rcases Int.lt_trichotomy n 0 with h | h | h
  · obtain ⟨m, rfl⟩ : ∃ m : Nat, n = -(m : Int) := ⟨n.natAbs, by omega⟩
    exact format_neg m (by omega) (by omega) w
  · subst h
    exact format_zero w
  · obtain ⟨m, rfl⟩ : ∃ m : Nat, n = (m : Int) := ⟨n.natAbs, by omega⟩
    exact format_pos m (by omega) (by omega) w
end Go.Proofs.YtgelkpaiabhklaaDoor.FmtSpec
