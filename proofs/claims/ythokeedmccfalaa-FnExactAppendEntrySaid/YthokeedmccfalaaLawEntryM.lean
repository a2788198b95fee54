/-
  The law compares, marks and holds slices of entries: contracts over rows that the call itself made.
-/
import Derived.Test.YthokeedmccfalaaLawEntry
import Derived.Test.YthokeedmccfalaaLawInt
import Derived.Test.YthokeedmccfalaaLawStr
namespace Go.Proofs.Ythokeedmccfalaa.LawEntryM
open Go.RowKit PointOk Blk TupISI Go.Lib Own FmtMath SplitMath HexBase
open Go.Proofs.Ythokeedmccfalaa.LawStr (conv_one ret_str)
open LawInt

theorem own_of_row {w : World} {g n b : Nat} {T : TypeId} {ps : List Tu} (h : Row w g T ps) (hl : ps.length = n) (hn : n ≤ 1048576) (hb : b ≤ g) : w.ownsRow b T 3 (.slice (some ⟨g, 0, none⟩) n n) n (cellsT ps) :=
  ⟨by rw [cellsT_length, hl], .inr ⟨g, n, _, rfl, hb, h, Nat.le_refl _, by unfold maxLen; omega, by simp [cellsT_length, hl], List.take_of_length_le (by simp [cellsT_length, hl])⟩⟩
theorem own_some {w : World} {b e sz n cap : Nat} {A : Option Addr} {xs : List Value} (j : Nat) (h : w.ownsRow b e sz (.slice A n cap) n xs) (h0 : 0 < n) (hj : j < n * sz) :
    ∃ g x, A = some ⟨g, 0, none⟩ ∧ w.cell? ⟨g, j, none⟩ = some x ∧ w.frozen? ⟨g, j, none⟩ = false := by
  have hl : j < xs.length := by rw [h.1]; exact hj
  obtain ⟨g, hA, _, _, h1, h2⟩ := own_cellN h h0 hl (List.getElem?_eq_getElem hl)
  exact ⟨g, _, hA, h1, h2⟩
/-- A row of the call's own, read as a slice of entries. -/
theorem own_ts {w : World} {b n c : Nat} {A : Option Addr} {T : TypeId} {ps : List Tu} (h : w.ownsRow b T 3 (.slice A n c) n (cellsT ps)) (hl : ps.length = n) : TsAt w w.heap.size A ps := by
  intro j hj
  obtain ⟨c0, c1, c2⟩ := cellsT_at ps j hj
  have hj3 : j * 3 + 2 < (cellsT ps).length := by rw [cellsT_length]; omega
  obtain ⟨g, hA, _, hg, h1, _⟩ := own_cellN h (by omega) (j := j * 3) (by omega) c0
  obtain ⟨g2, hA2, _, _, h2, _⟩ := own_cellN h (by omega) (j := j * 3 + 1) (by omega) c1
  obtain ⟨g3, hA3, _, _, h3, _⟩ := own_cellN h (by omega) (j := j * 3 + 2) (by omega) c2
  subst hA
  injection hA2 with hA2
  injection hA2 with hA2
  injection hA3 with hA3
  injection hA3 with hA3
  subst hA2 hA3
  exact ⟨⟨g, 0, none⟩, rfl, hg, by rw [Pts.add_head]; exact h1, by rw [Pts.add_head]; exact h2, by rw [Pts.add_head]; exact h3⟩

theorem eqE (w : World) (b1 b2 n : Nat) (hn : n ≤ 1048576) (v1 v2 : Value) (l : List Tu) (h1 : w.ownsRow b1 90 3 v1 n (cellsT l)) (h2 : w.ownsRow b2 90 3 v2 n (cellsT l)) :
    Calls Try.prog 14 #[v1, v2] w fun e w' => e = .returned (.bool true) ∧ Below w.heap.size w w' := by
  have hl : l.length = n := by have := h1.1; rw [cellsT_length] at this; omega
  obtain ⟨A1, c1, rfl⟩ := own_shape h1
  obtain ⟨A2, c2, rfl⟩ := own_shape h2
  exact LawEntry.eqEntryS_same A1 A2 l n c1 c2 w hl hn (own_ts h1 hl) (own_ts h2 hl)

set_option maxRecDepth 100000 in
set_option maxHeartbeats 800000 in
theorem markText (m : Nat) (hm : 0 < m) (hm2 : m ≤ 100000000) (w : World) :
    Calls Try.prog 65 #[.int .i64 (m : Int)] w fun e w' => e = .returned (.string (LawStr.mark m)) ∧ Below w.heap.size w w' := by
  go_enter Try.func65, Try.ntmps65
  go_wp2_with fail
  go_loopw [0, 3] (fun x s wr => ∃ (q : Nat) (S : ByteArray), q ≤ m ∧ x = .int .i64 (q : Int) ∧ s = .string S ∧ Hid (RestIs m q S.data.toList) ∧ Below w.heap.size w wr) (fun x _ _ => (intOf x).toNat)
  case atStart => exact ⟨m, ⟨#[]⟩, Nat.le_refl _, rfl, rfl, Lib.hid (left_start hm), Below.refl _ _⟩
  case round =>
    obtain ⟨q, S, hq, rfl, rfl, hl, hbel⟩ := hrel
    have hS : S.size ≤ 20 := left_len (by omega) hl.out
    have hz := hbel.size
    by_cases h0 : 0 < q
    · obtain ⟨c, hc⟩ : ∃ c, c = dgt (q % 10) := ⟨_, rfl⟩
      have hc2 : (48 + (q : Int) % 10) = (c.toNat : Int) := by rw [hc, dgt_toNat (by omega)]; omega
      have Hc := Lib.hid hc
      obtain ⟨C, hC, hconv⟩ := conv_one wr c
      have hC1 : C.size ≤ 1 := by show C.data.size ≤ 1; rw [← Array.length_toList, hC]; exact Nat.le_refl _
      have HC := Lib.hid hC
      clear hC hc
      go_wp2_with fail
      go_roundw
      case rel => exact ⟨q / 10, C ++ S, by omega, by go_num, rfl, Lib.hid (by rw [ByteArray.data_append, Array.toList_append, HC.out, Hc.out]; exact left_step h0 hl.out), hbel.alloc hz _⟩
      case measure => simp [intOf]; omega
    · obtain rfl : q = 0 := by omega
      have hfin := Lib.hid (string_of (hl.out.1 rfl))
      go_wp2_with fail
      go_ret
      exact ⟨ret_str (by unfold LawStr.mark; rw [hfin.out]; rfl), hbel⟩

/-- The i-th cell of a marked row: number, text, number. -/
def markC (k i : Nat) : Value := if i % 3 = 1 then .string (LawStr.mark (k + i)) else .int .i64 ((k + i : Nat) : Int)
def marksE (k n : Nat) : List Value := (List.range n).map (markC k)
theorem marksE_length (k n : Nat) : (marksE k n).length = n := by simp [marksE]
theorem marksE_at {k n j : Nat} (h : j < n) : (marksE k n)[j]? = some (markC k j) := by simp [marksE, h]
theorem marksE_snoc (k n : Nat) : marksE k (n + 1) = marksE k n ++ [markC k n] := by simp [marksE, List.range_succ]
theorem marksE_set {k i n : Nat} {xs : List Value} (hx : xs.length = n) (hi : i < n) : (marksE k i ++ xs.drop i).set i (markC k i) = marksE k (i + 1) ++ xs.drop (i + 1) := by
  rw [List.set_append_right _ _ (by rw [marksE_length]; omega), marksE_length, Nat.sub_self, List.drop_eq_getElem_cons (by omega), List.set_cons_zero, marksE_snoc, List.append_assoc]; rfl
theorem markC_int {k i : Nat} (h : i % 3 ≠ 1) : markC k i = .int .i64 ((k + i : Nat) : Int) := if_neg h
theorem markC_str {k i : Nat} (h : i % 3 = 1) : markC k i = .string (LawStr.mark (k + i)) := if_pos h

/-- The row is marked; nothing else is written. -/
def MarkE (w : World) (b : Nat) (v : Value) (k n : Nat) (en : Ending) (w' : World) : Prop :=
  en = .returned (.int .i64 ((k + n * 3 : Nat) : Int)) ∧ w'.ownsRow b 90 3 v n (marksE k (n * 3)) ∧ w.grownBy w' v.ownBlock

set_option maxRecDepth 100000 in
set_option maxHeartbeats 3200000 in
theorem markEntrySL (w : World) (b n k : Nat) (hn : n ≤ 1048576) (hk : 0 < k) (hk2 : k ≤ 20000000) (v : Value) (xs : List Value) (h1 : w.ownsRow b 90 3 v n xs) :
    Calls Try.prog 15 #[v, .int .i64 (k : Int)] w (MarkE w b v k n) := by
  have hlen : xs.length = n * 3 := h1.1
  have HLen := Lib.hid hlen
  obtain ⟨A1, c1, rfl⟩ := own_shape h1
  have H1 := Lib.hid h1
  clear h1 hlen
  go_enter Try.func15, Try.ntmps15
  go_wp2_with fail
  go_loopw [1, 5] (fun kk i wr => ∃ j m : Nat, j ≤ n ∧ i = .int .i64 j ∧ kk = .int .i64 (m : Int) ∧ Hid (m = k + j * 3) ∧ Hid (wr.ownsRow b 90 3 (.slice A1 n c1) n (marksE k (j * 3) ++ xs.drop (j * 3))) ∧ Hid (w.grownBy wr (Value.slice A1 n c1).ownBlock)) (fun _ i _ => n - (intOf i).toNat)
  case atStart => exact ⟨0, k, Nat.zero_le _, rfl, rfl, Lib.hid rfl, Lib.hid H1.out, Lib.hid (World.grownBy.refl w _)⟩
  case round =>
    obtain ⟨j, m, hj, rfl, rfl, hm, hown, hgr⟩ := hrel
    by_cases hlt : j < n
    · have hm0 : 0 < m := by have := hm.out; omega
      have hm1 : m ≤ 40000000 := by have := hm.out; omega
      have ho0 := hown.out
      obtain ⟨g, x0_, hA, hc0, hf0⟩ := own_some (j * 3) ho0 (by omega) (by omega)
      obtain rfl := hA
      have hst0 := ho0.stored (j * 3) (.int .i64 (m : Int))
      rw [show Value.int .i64 (m : Int) = markC k (j * 3) by rw [markC_int (by omega), hm.out], marksE_set (n := n * 3) HLen.out (by omega), show markC k (j * 3) = Value.int .i64 (m : Int) by rw [markC_int (by omega), hm.out]] at hst0
      have HO1 := Lib.hid hst0.1
      have HG0 := Lib.hid (grown_trans hgr.out hst0.2)
      have QM := Lib.hid (fun W => markText (m + 1) (by omega) (by omega) W)
      have hcast1 : ((m + 1 : Nat) : Int) = (m : Int) + 1 := by omega
      rw [hcast1] at QM
      clear ho0 hst0 hown
      have hk0 : (0 : Int) ≤ (j : Int) := by omega
      have hk1 : (j : Int) < (n : Int) := by omega
      generalize hM : LawStr.mark (m + 1) = M at QM
      replace hM := Lib.hid hM
      go_wp2_with fail
      refine (QM.out _).mono ?_
      rintro e w1 ⟨rfl, hb1⟩
      have ho1 := own_below HO1.out hb1
      have hG1 := grown_trans HG0.out (LawStr.grown_of_below hb1 (some g))
      obtain ⟨g0_, x3_, hA0_, hc1, hf1⟩ := own_some (j * 3 + 1) ho1 (by omega) (by omega)
      injection hA0_ with hA0_
      injection hA0_ with hA0_
      subst hA0_
      obtain ⟨g0b, x1_, hA0b, hd1, he1⟩ := own_some (j * 3 + 2) ho1 (by omega) (by omega)
      injection hA0b with hA0b
      injection hA0b with hA0b
      subst hA0b
      have hst1 := ho1.stored (j * 3 + 1) (.string M)
      rw [show Value.string M = markC k (j * 3 + 1) by rw [markC_str (by omega), ← hM.out, hm.out]; try rfl, marksE_set (n := n * 3) HLen.out (by omega), show markC k (j * 3 + 1) = Value.string M by rw [markC_str (by omega), ← hM.out, hm.out]; try rfl] at hst1
      have ho2 := hst1.1
      obtain ⟨g1_, x4_, hA1_, hc2, hf2⟩ := own_some (j * 3 + 2) ho2 (by omega) (by omega)
      injection hA1_ with hA1_
      injection hA1_ with hA1_
      subst hA1_
      have hst2 := ho2.stored (j * 3 + 2) (.int .i64 ((m : Int) + 2))
      rw [show Value.int .i64 ((m : Int) + 2) = markC k (j * 3 + 1 + 1) by rw [markC_int (by omega), hm.out]; congr 1 <;> omega, show j * 3 + 2 = j * 3 + 1 + 1 by omega, marksE_set (n := n * 3) HLen.out (by omega), show markC k (j * 3 + 1 + 1) = Value.int .i64 ((m : Int) + 2) by rw [markC_int (by omega), hm.out]; congr 1 <;> omega, show j * 3 + 1 + 1 = j * 3 + 2 by omega] at hst2
      have HG := Lib.hid (grown_trans (grown_trans hG1 hst1.2) hst2.2)
      have HS := Lib.hid hst2.1
      clear ho1 ho2 hst1 hst2 hG1 hb1 HO1 HG0 QM
      go_wp2_with fail
      go_roundw
      case rel => exact ⟨j + 1, m + 3, by omega, by go_num, by go_num, Lib.hid (by rw [hm.out]; omega), Lib.hid (by rw [show (j + 1) * 3 = j * 3 + 2 + 1 by omega]; exact HS.out), HG⟩
      case measure => simp [intOf]; omega
    · have hjn : j = n := by omega
      have HF : Hid (wr.ownsRow b 90 3 (.slice A1 n c1) n (marksE k (n * 3))) := Lib.hid (by have := hown.out; rw [hjn, List.drop_of_length_le (by rw [HLen.out]; exact Nat.le_refl _), List.append_nil] at this; exact this)
      have HM : Hid ((k + n * 3 : Nat) = m) := Lib.hid (by rw [hm.out]; omega)
      clear hjn
      go_wp2_with fail
      go_ret
      exact ⟨PointOk.ret_i64 (by rw [HM.out]), HF.out, hgr.out⟩

/-- All marks are held. -/
def HeldE (w : World) (k n : Nat) (en : Ending) (w' : World) : Prop := en = .returned (.int .i64 ((k + n * 3 : Nat) : Int)) ∧ Below w.heap.size w w'

set_option maxRecDepth 100000 in
set_option maxHeartbeats 3200000 in
theorem heldE (w : World) (b n k : Nat) (hn : n ≤ 1048576) (hk : 0 < k) (hk2 : k ≤ 20000000) (v : Value) (h1 : w.ownsRow b 90 3 v n (marksE k (n * 3))) :
    Calls Try.prog 16 #[v, .int .i64 (k : Int)] w (HeldE w k n) := by
  obtain ⟨A1, c1, rfl⟩ := own_shape h1
  have H1 := Lib.hid h1
  clear h1
  go_enter Try.func16, Try.ntmps16
  go_wp2_with fail
  go_loopw [1, 5] (fun kk i wr => ∃ j m : Nat, j ≤ n ∧ i = .int .i64 j ∧ kk = .int .i64 (m : Int) ∧ Hid (m = k + j * 3) ∧ Hid (Below w.heap.size w wr)) (fun _ i _ => n - (intOf i).toNat)
  case atStart => exact ⟨0, k, Nat.zero_le _, rfl, rfl, Lib.hid rfl, Lib.hid (Below.refl _ _)⟩
  case round =>
    obtain ⟨j, m, hj, rfl, rfl, hm, hbel⟩ := hrel
    by_cases hlt : j < n
    · have hm0 : 0 < m := by have := hm.out; omega
      have hm1 : m ≤ 40000000 := by have := hm.out; omega
      have hO := own_below H1.out hbel.out
      have hlm : (marksE k (n * 3)).length = n * 3 := marksE_length _ _
      obtain ⟨g, hA, _, _, hc0, _⟩ := own_cellN hO (by omega) (j := j * 3) (by omega) (marksE_at (by omega))
      obtain rfl := hA
      obtain ⟨g1, hA1, _, _, hc1, _⟩ := own_cellN hO (by omega) (j := j * 3 + 1) (by omega) (marksE_at (by omega))
      injection hA1 with hA1
      injection hA1 with hA1
      subst hA1
      obtain ⟨g2, hA2, _, _, hc2, _⟩ := own_cellN hO (by omega) (j := j * 3 + 2) (by omega) (marksE_at (by omega))
      injection hA2 with hA2
      injection hA2 with hA2
      subst hA2
      rw [markC_int (by omega), show ((k + j * 3 : Nat) : Int) = (m : Int) by rw [hm.out]] at hc0
      rw [markC_str (by omega), show k + (j * 3 + 1) = m + 1 by rw [hm.out]; omega] at hc1
      rw [markC_int (by omega), show ((k + (j * 3 + 2) : Nat) : Int) = (m : Int) + 2 by rw [hm.out]; omega] at hc2
      have QM := Lib.hid (fun W => markText (m + 1) (by omega) (by omega) W)
      have hcast1 : ((m + 1 : Nat) : Int) = (m : Int) + 1 := by omega
      rw [hcast1] at QM
      have hgl : g < wr.heap.size := World.block_lt_of_cell? wr _ hc0
      generalize LawStr.mark (m + 1) = M at QM hc1
      clear hO hlm
      have hk0 : (0 : Int) ≤ (j : Int) := by omega
      have hk1 : (j : Int) < (n : Int) := by omega
      go_wp2_with fail
      go_region_held3 (fun w' => w'.cell? ⟨g, j * 3 + 1, none⟩ = some (.string M)) (first | assumption | exact hc1 | exact (hb1.cell (p := ⟨g, j * 3 + 1, none⟩) hgl).trans hc1) ((go_at_call 65; refine (QM.out _).mono ?_; rintro e w1 ⟨rfl, hb1⟩))
      have hd2 := (hb1.cell (p := ⟨g, j * 3 + 2, none⟩) hgl).trans hc2
      go_wp2_with fail
      go_roundw
      case rel => exact ⟨j + 1, m + 3, by omega, by go_num, by go_num, Lib.hid (by rw [hm.out]; omega), Lib.hid (hbel.out.trans ⟨hb1.os, hb1.tape, hb1.output, hb1.size, fun i hi => hb1.block i (Nat.lt_of_lt_of_le hi hbel.out.size)⟩)⟩
      case measure => simp [intOf]; omega
    · have HM : Hid ((k + n * 3 : Nat) = m) := Lib.hid (by rw [hm.out]; omega)
      go_wp2_with fail
      go_ret
      exact ⟨PointOk.ret_i64 (by rw [HM.out]), hbel.out⟩
end Go.Proofs.Ythokeedmccfalaa.LawEntryM
