/-
  What MoveText does, as a contract: the text of the move; new memory alone is written.
-/
import Derived.Test.YtgelkpaiabhklaaDoorMtxMath
import Derived.Test.YtgelkpaiabhklaaDoorTup4
import Derived.Test.YtgelkpaiabhklaaDoorFmtImpl
import Derived.Test.YtgelkpaiabhklaaDoorDutyImpl
import Derived.Test.YtgelkpaiabhklaaDoorGround
import Derived.Lib.ItoaMem
namespace Go.Proofs.YtgelkpaiabhklaaDoor.MtxImpl
open Go.RowKit MtxMath Own Blk
open Go.Lib (itoa decDigits)
open PointOk (ret_bool ret_i64 below1 below2 below3)
open PointTextSpec (ret_str)

set_option maxRecDepth 100000 in
set_option maxHeartbeats 1600000 in
theorem moveText (a b c d : Int) (w : World) :
    Calls Tryd.prog 8 #[.agg #[.int .i64 a, .int .i64 b, .int .i64 c, .int .i64 d]] w fun e w' => e = .returned (.string (moveT [a, b, c, d])) ∧ Below w.heap.size w w' := by
  obtain ⟨r, hr⟩ : ∃ r, moveT [a, b, c, d] = r := ⟨_, rfl⟩
  have HR := Lib.hid hr
  rw [hr]
  clear hr
  go_enter Tryd.func8, Tryd.ntmps8
  go_wp2_with fail
  have X0 := Tup4.box1 w a b c d 25 (k := w.heap.size) (by simp)
  have b0 := PointOk.below1 w (Obj.cells #[.int .i64 a, .int .i64 b, .int .i64 c, .int .i64 d] 25)
  have HO : ∀ W W' : World, (Tup4.Box W (w.heap.size) a b c d ∧ Below w.heap.size w W) → Below W.heap.size W W' → (Tup4.Box W' (w.heap.size) a b c d ∧ Below w.heap.size w W') := fun W W' ⟨h0, hb⟩ h => ⟨h0.later h, hb.trans (h.mono hb.size)⟩
  have hz0_ : Hid (((w.alloc (Obj.cells #[.int .i64 a, .int .i64 b, .int .i64 c, .int .i64 d] 25))).heap.size = w.heap.size + 1) := Lib.hid (by simp)
  generalize (w.alloc (Obj.cells #[.int .i64 a, .int .i64 b, .int .i64 c, .int .i64 d] 25)) = w0 at X0 b0 hz0_ ⊢
  have S0 := (⟨X0, b0⟩ : Tup4.Box w0 (w.heap.size) a b c d ∧ Below w.heap.size w w0)
  clear X0 b0
  obtain ⟨⟨_, _, _, _⟩, _⟩ := id S0
  have HB : Blk.Holds (w0.alloc (Obj.cells #[.int .i64 a, .int .i64 b, .int .i64 c, .int .i64 d] 3)) (w.heap.size + 1) (icells [a, b, c, d]).toArray 3 := Blk.Holds.box w0 #[.int .i64 a, .int .i64 b, .int .i64 c, .int .i64 d] 3 (k := w.heap.size + 1) hz0_.out.symm
  replace S0 := HO _ _ S0 (below1 w0 (Obj.cells #[.int .i64 a, .int .i64 b, .int .i64 c, .int .i64 d] 3))
  generalize w0.alloc (Obj.cells #[.int .i64 a, .int .i64 b, .int .i64 c, .int .i64 d] 3) = w6 at *
  obtain ⟨l, hll, hl4⟩ : ∃ l : List Int, [a, b, c, d] = l ∧ l.length = 4 := ⟨_, rfl, rfl⟩
  rw [hll] at HB HR
  clear hz0_ hll
  generalize w.heap.size + 1 = kb at HB ⊢
  go_loopw [3, 16] (fun s i wr => ∃ k : Nat, k ≤ 4 ∧ i = .int .i64 k ∧ s = .string ⟨(tTo [109, 111, 118, 101] l k).toArray⟩ ∧ Hid (∀ j, j < k → inB 20 (l.getD j 0) = true) ∧ Blk.Holds wr kb (icells l).toArray 3 ∧ (Tup4.Box wr (w.heap.size) a b c d ∧ Below w.heap.size w wr))
    (fun _ i _ => 4 - (intOf i).toNat)
  case atStart => exact ⟨0, by omega, rfl, rfl, Lib.hid (fun j hj => by omega), HB, S0⟩
  case round =>
    clear S0 HB
    obtain ⟨k, hk4, rfl, rfl, HA, HB, S0⟩ := hrel
    obtain ⟨⟨_, _, _, _⟩, _⟩ := id S0
    by_cases hlt : k < 4
    · have hk1 : (k : Int) < 4 := by omega
      have hk0 : (0 : Int) ≤ (k : Int) := by omega
      have uk : IntKind.i64.wrap ((k : Int) + 1) = (k : Int) + 1 := IntWalk.i64_in _ (by omega)
      obtain ⟨z, hz⟩ : ∃ z, l[k]? = some z := ⟨_, List.getElem?_eq_getElem (by omega)⟩
      have cz := (cell_of_row wr kb k _ _ _ HB).trans (icells_at' hz)
      have HN : Hid (inB 20 z = false → moveT l = r → (⟨#[]⟩ : ByteArray) = r) := Lib.hid (fun h e => by rw [← e, moveT_no hz h])
      have HS := Lib.hid (tTo_lenB (h := [109, 111, 118, 101]) (l := l) (m := 20) (by omega) k HA.out)
      obtain ⟨s, hs⟩ : ∃ s : ByteArray, (⟨(tTo [109, 111, 118, 101] l k).toArray⟩ : ByteArray) = s := ⟨_, rfl⟩
      have hs1 : s.size ≤ 4 + 22 * k := by rw [← hs]; simpa [ByteArray.size] using HS.out
      rw [hs]
      clear HS
      go_wp2_with fail
      refine (DutyImpl.isUpTo z 20 _).mono ?_
      rintro e w_ ⟨rfl, rfl⟩
      cases hi : decide (0 ≤ z ∧ z ≤ 20)
      · have E : Hid ((⟨#[]⟩ : ByteArray) = r) := Lib.hid (HN.out hi HR.out)
        clear HN HR HA hs HB
        go_wp2_with fail
        go_ret
        exact ⟨ret_str E.out, S0.2⟩
      have HA2 : Hid (∀ j, j < k + 1 → inB 20 (l.getD j 0) = true) := Lib.hid (fun j hj => by
        by_cases e : j = k
        · subst e; rw [List.getD_eq_getElem?_getD, hz]; exact hi
        · exact HA.out j (by omega))
      have hzz := of_decide_eq_true hi
      obtain ⟨i, rfl⟩ := Int.eq_ofNat_of_zero_le hzz.1
      have hi1 : i < 100 := by omega
      obtain ⟨t, ht⟩ : ∃ t : ByteArray, (⟨(itoa (i : Int)).toArray⟩ : ByteArray) = t := ⟨_, rfl⟩
      have ht1 : t.size ≤ 21 := by rw [← ht]; simpa [ByteArray.size] using Lib.itoa_length_le (i : Int) (by omega) (by omega)
      have HT := Lib.hid (step_right hz hs ht)
      have W1 : ¬ 9223372036854775807 < s.size + 1 := by omega
      have W2 : ¬ 9223372036854775807 < s.size + 1 + t.size := by omega
      have W3 : ¬ 9223372036854775807 < 1 + t.size := by omega
      have W4 : ¬ 9223372036854775807 < s.size + (1 + t.size) := by omega
      have H1 := Lib.hid (fun w => FmtImpl.format_small i hi1 w)
      rw [show decDigits i = itoa (i : Int) from (Lib.itoa_nonneg i).symm, ht] at H1
      clear HN HA hs ht hs1 ht1 hz hi1 hzz
      go_wp2_with fail
      refine (H1.out _).mono ?_
      rintro e w9 ⟨rfl, rfl⟩
      go_wp2_with fail
      first
        | exact ⟨⟨k + 1, by omega, by go_num, by rw [HT.out], HA2, HB, S0⟩, by simp [intOf]; omega⟩
        | (go_roundw <;> first | exact ⟨k + 1, by omega, by go_num, by rw [HT.out], HA2, HB, S0⟩ | (simp [intOf]; omega))
    · obtain rfl : k = 4 := by omega
      have E : Hid ((⟨(tTo [109, 111, 118, 101] l 4).toArray⟩ : ByteArray) = r) := Lib.hid (by rw [← HR.out, moveT_yes (by rw [hl4]; exact HA.out), hl4])
      generalize (⟨(tTo [109, 111, 118, 101] l 4).toArray⟩ : ByteArray) = s at *
      clear HA HR
      go_wp2_with fail
      go_ret
      exact ⟨ret_str E.out, S0.2⟩

end Go.Proofs.YtgelkpaiabhklaaDoor.MtxImpl

