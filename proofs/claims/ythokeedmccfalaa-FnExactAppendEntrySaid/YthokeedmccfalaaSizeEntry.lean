/-
  The size of the law's record: its entries and the bytes of their texts, as a contract.
-/
import Derived.Test.YthokeedmccfalaaEntryMath
import Derived.Test.YthokeedmccfalaaGround
import Derived.Laws.IdiomStrings
import Derived.WalkKit
namespace Go.Proofs.Ythokeedmccfalaa.SizeEntry
open Go.RowKit PointOk Blk TupISI EntryMath

theorem szEntry (a : Int) (s : ByteArray) (b L : Int) (hs : s.size ≤ maxLen) (hL : 0 ≤ L ∧ L ≤ 1048576) (w : World) :
    Calls Try.prog 53 #[.agg #[.int .i64 a, .string s, .int .i64 b], .int .i64 L] w fun e w' => e = .returned (.int .i64 (if (s.size : Int) ≤ L then L - (s.size : Int) else -1)) ∧ Below w.heap.size w w' := by
  have hs2 : s.size ≤ 9223372036854775807 := by unfold maxLen at hs; omega
  have u1 : IntKind.i64.wrap (L - (s.size : Int)) = L - (s.size : Int) := IntWalk.i64_in _ (by omega)
  clear hs
  by_cases h : (s.size : Int) ≤ L
  · simp only [h, if_true]
    have h2 : ¬ (L - (s.size : Int) < 0) := by omega
    go_enter Try.func53, Try.ntmps53
    go_wp2_with fail
    go_ret
    exact ⟨rfl, below1 _ _⟩
  · simp only [h, if_false]
    have h2 : (L - (s.size : Int) < 0) := by omega
    go_enter Try.func53, Try.ntmps53
    go_wp2_with fail
    go_ret
    exact ⟨rfl, below1 _ _⟩

set_option maxRecDepth 100000 in
set_option maxHeartbeats 1600000 in
theorem szEntrySL (A : Option Addr) (n cap : Nat) (L : Int) (hn : n ≤ 9223372036854775807) (hL : 0 ≤ L ∧ L ≤ 1048576) (w : World) (ps : List Tu) (hl : ps.length = n) (hp : TsAt w w.heap.size A ps) (hsz : ∀ p ∈ ps, (Lit.int .i64 p.1).wf = true ∧ p.2.1.size ≤ maxLen ∧ (Lit.int .i64 p.2.2).wf = true) :
    Calls Try.prog 10 #[.slice A n cap, .int .i64 L] w fun e w' => e = .returned (.int .i64 (if (total ps : Int) ≤ L then L - (total ps : Int) else -1)) ∧ Below w.heap.size w w' := by
  obtain ⟨r, hr⟩ : ∃ r, (if (total ps : Int) ≤ L then L - (total ps : Int) else -1) = r := ⟨_, rfl⟩
  have HR := Lib.hid hr
  rw [hr]
  clear hr
  have HY : Hid ((total ps : Int) ≤ L → r = L - (n : Int) - (sumTo ps n : Int)) := Lib.hid (fun h => by rw [← HR.out, if_pos h]; unfold total; rw [hl]; omega)
  have HF : Hid (∀ k, k ≤ n → L - (n : Int) - (sumTo ps k : Int) < 0 → r = -1) := Lib.hid (fun k hk h => by
    rw [← HR.out, if_neg]
    have := sum_mono ps hk
    unfold total
    rw [hl]; omega)
  have HT : Hid (0 ≤ L - (n : Int) - (sumTo ps n : Int) → (total ps : Int) ≤ L) := Lib.hid (fun h => by unfold total; rw [hl]; omega)
  clear HR
  have u1 : IntKind.i64.wrap (L - (n : Int)) = L - (n : Int) := IntWalk.i64_in _ (by omega)
  by_cases h0 : L - (n : Int) < 0
  · have E := Lib.hid (HF.out 0 (Nat.zero_le _) (by show L - (n : Int) - ((0 : Nat) : Int) < 0; omega))
    clear HY HF HT hl
    go_enter Try.func10, Try.ntmps10
    go_wp2_with fail
    go_ret
    exact ⟨ret_i64 E.out.symm, Below.refl _ _⟩
  have hn2 : (n : Int) ≤ 1048576 := by omega
  go_enter Try.func10, Try.ntmps10
  go_wp2_with fail
  have HO : ∀ W W' : World, (TsAt W w.heap.size A ps ∧ Below w.heap.size w W) → Below W.heap.size W W' → (TsAt W' w.heap.size A ps ∧ Below w.heap.size w W') := fun W W' ⟨x0, hb⟩ h => ⟨x0.later (h.mono hb.size), hb.trans (h.mono hb.size)⟩
  have S0 : TsAt w w.heap.size A ps ∧ Below w.heap.size w w := ⟨hp, Below.refl _ _⟩
  clear hp
  go_loopw [1, 5] (fun v q wr => ∃ (k : Nat) (m : Int), k ≤ n ∧ q = .int .i64 k ∧ v = .int .i64 m ∧ Hid (m = L - (n : Int) - (sumTo ps k : Int)) ∧ 0 ≤ m ∧ m ≤ 1048576 ∧ (TsAt wr w.heap.size A ps ∧ Below w.heap.size w wr))
    (fun _ q _ => n - (intOf q).toNat)
  case atStart => exact ⟨0, L - (n : Int), Nat.zero_le _, rfl, rfl, Lib.hid (by show _ = L - (n : Int) - ((0 : Nat) : Int); omega), by omega, by omega, S0⟩
  case round =>
    clear S0
    obtain ⟨k, m, hkn, rfl, rfl, hm, hm0, hm1, S0⟩ := hrel
    by_cases hlt : k < n
    rotate_left
    · obtain rfl : n = k := by omega
      have E : Hid (r = m) := Lib.hid (by rw [hm.out]; exact HY.out (HT.out (by rw [← hm.out]; exact hm0)))
      obtain ⟨_, _⟩ := id S0
      clear hl HY HF HT
      go_wp2_with fail
      go_ret
      exact ⟨ret_i64 E.out.symm, S0.2⟩
    have hk1 : (k : Int) < (n : Int) := by omega
    have hk0 : (0 : Int) ≤ (k : Int) := by omega
    have p0 := tt_at (ps := ps) (k := k) (by omega)
    have HS : Hid (sumTo ps (k + 1) = sumTo ps k + (tt ps k).2.1.size) := Lib.hid rfl
    have hsk := (hsz (tt ps k) (List.mem_of_getElem? p0)).2.1
    have HFk := Lib.hid (HF.out (k + 1) (by omega))
    obtain ⟨a, s, b, hg⟩ : ∃ a s b, tt ps k = (a, s, b) := ⟨_, _, _, rfl⟩
    rw [hg] at p0 HS hsk
    replace HS : Hid (sumTo ps (k + 1) = sumTo ps k + s.size) := HS
    replace hsk : s.size ≤ maxLen := hsk
    have QZ := Lib.hid fun w => szEntry a s b m hsk ⟨hm0, hm1⟩ w
    obtain ⟨bd, eB, bB, pB⟩ := S0.1.get p0
    subst eB
    have HO : ∀ W W' : World, (TsAt W w.heap.size (some bd) ps ∧ TAt W bd k a s b ∧ Below w.heap.size w W) → Below W.heap.size W W' → (TsAt W' w.heap.size (some bd) ps ∧ TAt W' bd k a s b ∧ Below w.heap.size w W') := fun W W' ⟨x0, x1, hb⟩ h => ⟨x0.later (h.mono hb.size), x1.later bB (h.mono hb.size), hb.trans (h.mono hb.size)⟩
    replace S0 : TsAt wr w.heap.size (some bd) ps ∧ TAt wr bd k a s b ∧ Below w.heap.size w wr := ⟨S0.1, pB, S0.2⟩
    clear pB p0 hg
    obtain ⟨_, ⟨_, _, _⟩, _⟩ := id S0
    by_cases h1 : (s.size : Int) ≤ m
    · have HM : Hid (m - (s.size : Int) = L - (n : Int) - (sumTo ps (k + 1) : Int)) := Lib.hid (by rw [HS.out, hm.out]; omega)
      rw [if_pos h1] at QZ
      obtain ⟨x, hx⟩ : ∃ x, m - (s.size : Int) = x := ⟨_, rfl⟩
      rw [hx] at QZ HM
      have hx0 : ¬ x < 0 := by omega
      have hx1 : x ≤ 1048576 := by omega
      have hx2 : 0 ≤ x := by omega
      clear hl HY HF HT HFk hm HS hx h1 hsk
      go_wp2_with fail
      refine (QZ.out _).mono ?_
      rintro e w1 ⟨rfl, hb_⟩
      replace S0 := HO _ _ S0 hb_
      clear hb_
      obtain ⟨_, ⟨_, _, _⟩, _⟩ := id S0
      go_wp2_with fail
      first
        | exact ⟨⟨k + 1, x, by omega, by go_num, rfl, HM, hx2, hx1, S0.1, S0.2.2⟩, by simp [intOf]; omega⟩
        | (go_roundw <;> first | exact ⟨k + 1, x, by omega, by go_num, rfl, HM, hx2, hx1, S0.1, S0.2.2⟩ | (simp [intOf]; omega))
    · have E : Hid (r = -1) := Lib.hid (HFk.out (by rw [HS.out]; have := hm.out; omega))
      rw [if_neg h1] at QZ
      clear hl HY HF HT HFk hm HS h1 hsk
      go_wp2_with fail
      refine (QZ.out _).mono ?_
      rintro e w2 ⟨rfl, hb_⟩
      replace S0 := HO _ _ S0 hb_
      clear hb_
      obtain ⟨_, ⟨_, _, _⟩, _⟩ := id S0
      go_wp2_with fail
      go_ret
      exact ⟨ret_i64 E.out.symm, S0.2.2⟩

end Go.Proofs.Ythokeedmccfalaa.SizeEntry

