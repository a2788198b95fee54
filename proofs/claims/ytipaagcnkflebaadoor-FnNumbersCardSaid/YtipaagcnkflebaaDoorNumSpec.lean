/-
  What the model's ParseUint does, as a contract: the number and true where the text is the numeral of a number up to the limit, else 0 and false; no old cell is written.
-/
import Derived.Test.YtipaagcnkflebaaDoorNumMath
import Derived.Test.YtipaagcnkflebaaDoorFmtSpec
namespace Go.Proofs.YtipaagcnkflebaaDoor.NumSpec
open Go.RowKit Go.Lib FmtMath NumMath

theorem ret_ans {l : List UInt8} {x : Int} {b : Bool} (hx : (ansN l : Int) = x) (hb : ansB l = b) : Ending.returned (.tuple #[.int .i64 x, .bool b]) = .returned (.tuple #[.int .i64 (ansN l : Int), .bool (ansB l)]) := by rw [hx, hb]
theorem take_snoc (s : ByteArray) (k : Nat) (h : k < s.size) : s.data.toList.take (k + 1) = s.data.toList.take k ++ [s[k]] := by
  rw [List.take_succ_eq_append_getElem (by simpa using h)]; rfl
theorem mem_at (s : ByteArray) (k : Nat) (h : k < s.size) : s[k] ∈ s.data.toList := by
  have : s[k] = s.data.toList[k]'(by simpa using h) := rfl
  rw [this]; exact List.getElem_mem _

set_option maxRecDepth 100000 in
set_option maxHeartbeats 800000 in
theorem parse (s : ByteArray) (w : World) (hs : s.size ≤ 1048576) :
    Calls Tryd.prog 20 #[.string s] w fun e w' => e = .returned (.tuple #[.int .i64 (ansN s.data.toList : Int), .bool (ansB s.data.toList)]) ∧ Below w.heap.size w w' := by
  by_cases h1 : 10 < s.size
  · have H := Lib.hid (ansB_long (l := s.data.toList) (by simpa using h1))
    go_enter Tryd.func20, Tryd.ntmps20
    go_wp2_with fail
    go_ret2
    exact ⟨ret_ans (by rw [ansN_no H.out]; rfl) H.out, Below.refl _ _⟩
  go_enter Tryd.func20, Tryd.ntmps20
  go_wp2_with fail
  go_loop [4, 5] (fun n i => ∃ k v : Nat, k ≤ s.size ∧ i = .int .i64 k ∧ n = .int .i64 v ∧ v ≤ 9999999999 ∧ Hid (v = val (s.data.toList.take k)) ∧ Hid ((s.data.toList.take k).all digitB = true)) (fun _ i => s.size - (intOf i).toNat)
  case atStart => exact ⟨0, 0, Nat.zero_le _, rfl, rfl, by omega, Lib.hid rfl, Lib.hid rfl⟩
  case round =>
    obtain ⟨k, v, hk, rfl, rfl, hv, Hv, Hd⟩ := hrel
    by_cases hlt : k < s.size
    · have hb : (s[k].toNat : Int) < 256 := by have := s[k].toNat_lt; omega
      by_cases hdig : 48 ≤ s[k].toNat ∧ s[k].toNat ≤ 57
      · obtain ⟨d1, d2⟩ := hdig
        have e1 : val (s.data.toList.take (k + 1)) = 10 * v + (s[k].toNat - 48) := by rw [take_snoc s k hlt, val_snoc, ← Hv.out]
        have e2 : (s.data.toList.take (k + 1)).all digitB = true := by rw [take_snoc s k hlt, List.all_append, Hd.out]; simp [digitB, d1, d2]
        have e3 : val (s.data.toList.take (k + 1)) < 10 ^ 10 := by
          refine Nat.lt_of_lt_of_le (val_lt (k + 1) _ (by rw [List.length_take]; simp; omega) e2) (Nat.pow_le_pow_right (by omega) (by omega))
        have e4 : 10 * v + (s[k].toNat - 48) ≤ 9999999999 := by rw [e1] at e3; omega
        have E1 := Lib.hid e1
        have E2 := Lib.hid e2
        clear e1 e2 e3
        go_wp2_with fail
        go_round
        case rel => exact ⟨k + 1, 10 * v + (s[k].toNat - 48), by omega, by go_num, by go_num, e4, Lib.hid E1.out.symm, E2⟩
        case measure => simp [intOf]; omega
      · have H := Lib.hid (ansB_bad (mem_at s k hlt) (by simp only [digitB, decide_eq_false_iff_not]; exact hdig))
        by_cases d1 : s[k].toNat < 48
        · go_wp2_with fail
          go_ret2
          exact ⟨ret_ans (by rw [ansN_no H.out]; rfl) H.out, Below.refl _ _⟩
        · have d2 : 57 < s[k].toNat := by omega
          go_wp2_with fail
          go_ret2
          exact ⟨ret_ans (by rw [ansN_no H.out]; rfl) H.out, Below.refl _ _⟩
    · obtain rfl : k = s.size := by omega
      have ht : s.data.toList.take s.size = s.data.toList := List.take_of_length_le (by simp)
      rw [ht] at Hv
      by_cases hbig : 1000000000 < v
      · have H := Lib.hid (ansB_val (l := s.data.toList) (.inl (by rw [← Hv.out]; exact hbig)))
        clear ht
        go_wp2_with fail
        go_ret2
        exact ⟨ret_ans (by rw [ansN_no H.out]; rfl) H.out, Below.refl _ _⟩
      · have HF := Lib.hid (FmtSpec.format (v : Int) (by omega) (by omega))
        obtain ⟨T, hT⟩ : ∃ T : ByteArray, T = ⟨(itoa (v : Int)).toArray⟩ := ⟨_, rfl⟩
        rw [← hT] at HF
        have hT2 : T.data.toList = decDigits v := by rw [hT, itoa_pos rfl]
        clear ht hT
        go_wp2_with fail
        refine (HF.out _).mono ?_
        rintro e w1 ⟨rfl, hb1⟩
        by_cases heq : T = s
        · have H := ansN_yes (l := s.data.toList) (n := v) (by omega) (by rw [← hT2, heq])
          have H1 := Lib.hid H.1
          have H2 := Lib.hid H.2
          clear H hT2 HF
          subst heq
          go_wp2_with fail
          go_ret2
          exact ⟨ret_ans (by rw [H2.out]) H1.out, hb1⟩
        · have H := Lib.hid (ansB_val (l := s.data.toList) (.inr (by
            rw [← Hv.out, ← hT2]
            intro e
            apply heq
            rw [string_of e.symm])))
          have hne := str_ne heq
          go_wp2_with fail
          go_ret2
          exact ⟨ret_ans (by rw [ansN_no H.out]; rfl) H.out, hb1⟩
end Go.Proofs.YtipaagcnkflebaaDoor.NumSpec
