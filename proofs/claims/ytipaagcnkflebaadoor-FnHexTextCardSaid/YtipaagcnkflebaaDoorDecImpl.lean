/-
  What the landed DecodeHex does, as a contract: the decoded bytes and true, or nothing and false; no old cell is written.
-/
import Derived.Test.YtipaagcnkflebaaDoorDecMath
import Derived.Test.YtipaagcnkflebaaDoorHexBase
import Derived.Lib.Hide
import Derived.Deep.AppendLies
import Derived.Laws.IdiomStrings
import Derived.Outline
import Derived.Test.YtipaagcnkflebaaDoorShelf
import Derived.WalkSpells
namespace Go.Proofs.YtipaagcnkflebaaDoor.DecImpl
open Go.RowKit HexMath DecMath HexBase

theorem dig_hv (n : Nat) (h : n < 256) : Lib.indexByte [48, 49, 50, 51, 52, 53, 54, 55, 56, 57, 97, 98, 99, 100, 101, 102] ((n : Int).toNat.toUInt8) = hv n := by
  have : ∀ m : Fin 256, Lib.indexByte [48, 49, 50, 51, 52, 53, 54, 55, 56, 57, 97, 98, 99, 100, 101, 102] ((m.val : Int).toNat.toUInt8) = hv m.val := by decide +kernel
  exact this ⟨n, h⟩
theorem value (n : Nat) (hn : n < 256) (w : World) :
    Calls Tryd.prog 27 #[.string ⟨#[48, 49, 50, 51, 52, 53, 54, 55, 56, 57, 97, 98, 99, 100, 101, 102]⟩, .int .u8 (n : Int)] w fun e w' => e = .returned (.int .i64 (hv n)) ∧ w' = w := by
  have h := Tryd.strings_IndexByte ⟨#[48, 49, 50, 51, 52, 53, 54, 55, 56, 57, 97, 98, 99, 100, 101, 102]⟩ (n : Int) w
  have e := dig_hv n hn
  rw [show (⟨#[48, 49, 50, 51, 52, 53, 54, 55, 56, 57, 97, 98, 99, 100, 101, 102]⟩ : ByteArray).data.toList = [48, 49, 50, 51, 52, 53, 54, 55, 56, 57, 97, 98, 99, 100, 101, 102] from rfl, e] at h
  exact h

theorem or_low (a b : Int) (h0 : 0 ≤ a) (h1 : a ≤ 15) (h2 : 0 ≤ b) (h3 : b ≤ 15) : bits .or .i64 (a * 16) b = 16 * a + b := by
  have : ∀ m n : Fin 16, bits .or .i64 ((m.val : Int) * 16) (n.val : Int) = 16 * (m.val : Int) + (n.val : Int) := by decide +kernel
  obtain ⟨m, rfl⟩ := Int.eq_ofNat_of_zero_le h0
  obtain ⟨n, rfl⟩ := Int.eq_ofNat_of_zero_le h2
  exact this ⟨m, by omega⟩ ⟨n, by omega⟩

set_option maxHeartbeats 800000 in
theorem decode (s : ByteArray) (w : World) (hs : s.size ≤ 1048576) :
    Calls Tryd.prog 12 #[.string s] w fun e w' => e = .returned (.tuple #[.string (ansS s), .bool (ansB s)]) ∧ Below w.heap.size w w' := by
  by_cases h2 : s.size % 2 = 1
  · have H := Lib.hid (ansB_odd h2)
    have ht : ((s.size : Int) % 2 != 0) = true := by rw [bne_iff_ne]; omega
    clear h2
    go_enter Tryd.func12, Tryd.ntmps12
    go_wp2
    go_ret2
    exact ⟨ret_sb (ansS_no H.out) H.out, Below.refl _ _⟩
  have ht : ((s.size : Int) % 2 != 0) = false := by rw [bne_eq_false_iff_eq]; omega
  have HE : Hid (s.size % 2 = 0) := Lib.hid (by omega)
  by_cases h1 : 40000 < s.size
  · have H := Lib.hid (ansB_long h1)
    have h3 : (20000 : Int) < (s.size : Int) / 2 := by have := HE.out; omega
    clear h2
    go_enter Tryd.func12, Tryd.ntmps12
    go_wp2
    go_ret2
    exact ⟨ret_sb (ansS_no H.out) H.out, Below.refl _ _⟩
  obtain ⟨i0, hi, hz0, hz1, hz2⟩ := info_parts HexBase.infoB
  have h1' : s.size ≤ 40000 := by omega
  have h3 : (s.size : Int) / 2 ≤ 20000 := by omega
  clear h2
  go_enter Tryd.func12, Tryd.ntmps12
  go_wp2_with (at_make; go_must (refine wpList_make_own _ rfl _ _ 22 rfl w.heap.size 5 i0 (.int .u8 0) 1 Tryd.underlying22 hi hz0 hz1 _ _ _ (s.size / 2) rfl rfl (by omega) ?b2 ?b3 (Nat.le_refl _) ?_))
  case b2 => rw [hz2]; omega
  case b3 => unfold maxLen; omega
  intro w0 hown0 hgr0
  have hbel0 : Below w.heap.size w w0 := Below.grown (Below.refl _ _) hgr0 (Nat.le_refl _) (fun g' hg' => by cases hg')
  clear hgr0
  go_wp2
  go_loopw [4, 5] (fun v i wr => ∃ j m g cap : Nat, j ≤ s.size ∧ Hid (j = 2 * m) ∧ i = .int .i64 j ∧ v = .slice (some ⟨g, 0, none⟩) m cap ∧ Hid (okTo s m = true) ∧ wr.ownsRow w.heap.size 5 1 (.slice (some ⟨g, 0, none⟩) m cap) m (cellsOf (bytesTo s m)) ∧ Below w.heap.size w wr)
    (fun _ i _ => s.size - (intOf i).toNat)
  case atStart => exact ⟨0, 0, _, _, Nat.zero_le _, Lib.hid rfl, rfl, rfl, Lib.hid rfl, hown0, hbel0⟩
  case round =>
    obtain ⟨j, m, g, cap, hj, hd, rfl, rfl, hok, hown, hbel⟩ := hrel
    clear hown0 hbel0 ht
    by_cases hlt : j < s.size
    · have hlt1 : j + 1 < s.size := by have := hd.out; have := HE.out; omega
      have hz := hbel.size
      have hm : m < s.size := by have := hd.out; omega
      have hm2 : m < s.size / 2 := by have := hd.out; omega
      obtain ⟨a, ha⟩ : ∃ a, a = hv (gb s (2 * m)) := ⟨_, rfl⟩
      obtain ⟨b, hb⟩ : ∃ b, b = hv (gb s (2 * m + 1)) := ⟨_, rfl⟩
      have ha1 : -1 ≤ a := by rw [ha]; exact hv_lo _
      have hb1 : -1 ≤ b := by rw [hb]; exact hv_lo _
      have ha2 : a ≤ 15 := by rw [ha]; exact hv_hi _
      have hb2 : b ≤ 15 := by rw [hb]; exact hv_hi _
      have C1 : Hid (∀ W, Calls Tryd.prog 27 #[.string ⟨#[48, 49, 50, 51, 52, 53, 54, 55, 56, 57, 97, 98, 99, 100, 101, 102]⟩, .int .u8 (s[j].toNat : Int)] W fun e w' => e = .returned (.int .i64 a) ∧ W = w') := Lib.hid (fun W => by
        rw [ha, ← hd.out, gb_at hlt]; exact (value _ s[j].toNat_lt W).mono fun _ _ h => ⟨h.1, h.2.symm⟩)
      have C2 : Hid (∀ W, Calls Tryd.prog 27 #[.string ⟨#[48, 49, 50, 51, 52, 53, 54, 55, 56, 57, 97, 98, 99, 100, 101, 102]⟩, .int .u8 (s[j + 1].toNat : Int)] W fun e w' => e = .returned (.int .i64 b) ∧ W = w') := Lib.hid (fun W => by
        rw [hb, ← hd.out, gb_at hlt1]; exact (value _ s[j + 1].toNat_lt W).mono fun _ _ h => ⟨h.1, h.2.symm⟩)
      have HA := Lib.hid ha
      have HB := Lib.hid hb
      clear ha hb
      by_cases hna : a < 0
      · have X := Lib.hid (ansB_bad hm2 (okPair_no (s := s) (m := m) (.inl (by rw [← HA.out]; exact hna))))
        go_wp2_with (first | (go_at_call 27; ((with_reducible refine (C1.out _).mono ?_); rintro e w' ⟨rfl, rfl⟩)) | (go_at_call 27; ((with_reducible refine (C2.out _).mono ?_); rintro e w' ⟨rfl, rfl⟩)))
        go_ret2
        exact ⟨ret_sb (ansS_no X.out) X.out, hbel⟩
      · by_cases hnb : b < 0
        · have X := Lib.hid (ansB_bad hm2 (okPair_no (s := s) (m := m) (.inr (by rw [← HB.out]; exact hnb))))
          go_wp2_with (first | (go_at_call 27; ((with_reducible refine (C1.out _).mono ?_); rintro e w' ⟨rfl, rfl⟩)) | (go_at_call 27; ((with_reducible refine (C2.out _).mono ?_); rintro e w' ⟨rfl, rfl⟩)))
          go_ret2
          exact ⟨ret_sb (ansS_no X.out) X.out, hbel⟩
        · have HO := or_low a b (by omega) ha2 (by omega) hb2
          go_wp2_with (first | (go_at_call 27; ((with_reducible refine (C1.out _).mono ?_); rintro e w' ⟨rfl, rfl⟩)) | (go_at_call 27; ((with_reducible refine (C2.out _).mono ?_); rintro e w' ⟨rfl, rfl⟩)) | (at_builtin; go_must (refine wpList_append_lies _ rfl _ _ _ rfl w.heap.size 5 i0 _ 1 1 Tryd.underlying22 hi hz0 hz1 hz2 rfl (by omega) _ _ _ (by rfl) (hown.alloc _) ⟨wr.heap.size, 0, none⟩ 1 1 [.int .u8 (16 * a + b)] (by rfl) (by rfl) (World.news_of_block (cs := #[.int .u8 (16 * a + b)]) (t := 5) (fr := (0, 0)) (heap_alloc_new wr _)) (by simp [Value.oneCell']) (by omega) (by unfold maxLen; omega) (by omega) (by simp; omega) (wr.heap.size + 1) (by simp) ?_); intro gg cap1 w1 hown1 hgrow hat hlt2))
          have hb3 : Below w.heap.size w w1 := Below.grown (hbel.alloc hz _) hgrow (by simp; omega) (fun g' hg' => (hown.lt g' hg').1)
          rw [dec_step s m _ a b HA.out HB.out (by omega) (by omega) rfl] at hown1
          have hok1 : Hid (okTo s (m + 1) = true) := Lib.hid (by rw [okTo_succ, hok.out, okPair_yes (by rw [← HA.out]; omega) (by rw [← HB.out]; omega)]; rfl)
          clear hgrow hat hown hbel
          go_wp2
          go_roundw
          case rel => exact ⟨j + 2, m + 1, gg, cap1, by omega, Lib.hid (by rw [hd.out]; omega), by go_num, rfl, hok1, hown1, hb3⟩
          case measure => simp [intOf]; omega
    · obtain rfl : j = s.size := by omega
      have hm2 : m = s.size / 2 := by have := hd.out; omega
      have X := ansB_good HE.out h1' (by rw [← hm2]; exact hok.out)
      have XS := Lib.hid (ansS_yes X)
      have X := Lib.hid X
      have hl : (bytesTo s m).length = m := bytesTo_length _ _
      have hconv := run_convert_bytes_back (P := Tryd.prog) wr 22 9 5 ⟨g, 0, none⟩ cap (bytesTo s m) Tryd.underlying22 Tryd.underlying5 Tryd.underlying9 (fun i hi => hown.cells (g := g) rfl i _ (by simp [cellsOf, List.getElem?_map, List.getElem?_eq_getElem hi]))
      rw [hl] at hconv
      have hm3 := Lib.hid hm2
      clear hl hm2
      go_wp2
      go_ret2
      exact ⟨ret_sb (by rw [XS.out, hm3.out]) X.out, hbel⟩
end Go.Proofs.YtipaagcnkflebaaDoor.DecImpl
