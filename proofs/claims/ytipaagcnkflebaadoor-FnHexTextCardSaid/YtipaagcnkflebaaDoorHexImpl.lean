/-
  What the landed EncodeHex does, as a contract: the hexadecimal text and true up to the limit, nothing and false beyond it; no old cell is written.
-/
import Derived.Test.YtipaagcnkflebaaDoorHexMath
import Derived.Test.YtipaagcnkflebaaDoorHexBase
import Derived.Test.YtipaagcnkflebaaDoorChecked
import Derived.WalkKit
import Derived.ProofKit
import Derived.Deep.RegionHeld3
import Derived.Deep.AppendLies
import Derived.Laws.IdiomStrings
import Derived.Lib.Hide
import Derived.Outline
namespace Go.Proofs.YtipaagcnkflebaaDoor.HexImpl
open Go.RowKit HexMath

theorem digit_nat (n : Nat) (h : n < 16) (w : World) :
    (Instr.index 9 (.string ⟨#[48, 49, 50, 51, 52, 53, 54, 55, 56, 57, 97, 98, 99, 100, 101, 102]⟩) (.int .u8 (n : Int))).run Tryd.prog w = .ok (.int .u8 ((hx n).toNat : Int)) w := by
  have : n = 0 ∨ n = 1 ∨ n = 2 ∨ n = 3 ∨ n = 4 ∨ n = 5 ∨ n = 6 ∨ n = 7 ∨ n = 8 ∨ n = 9 ∨ n = 10 ∨ n = 11 ∨ n = 12 ∨ n = 13 ∨ n = 14 ∨ n = 15 := by omega
  rcases this with rfl | rfl | rfl | rfl | rfl | rfl | rfl | rfl | rfl | rfl | rfl | rfl | rfl | rfl | rfl | rfl <;> (show _ = _; kernel_rfl)
theorem digit (x : Int) (h0 : 0 ≤ x) (h1 : x < 16) (w : World) :
    (Instr.index 9 (.string ⟨#[48, 49, 50, 51, 52, 53, 54, 55, 56, 57, 97, 98, 99, 100, 101, 102]⟩) (.int .u8 x)).run Tryd.prog w = .ok (.int .u8 ((hx x.toNat).toNat : Int)) w := by
  obtain ⟨n, rfl⟩ := Int.eq_ofNat_of_zero_le h0
  exact digit_nat n (by omega) w
theorem low (n : Nat) (h : n < 256) : bits .and .u8 (n : Int) 15 = (n : Int) % 16 := by
  have : ∀ m : Fin 256, bits .and .u8 (m.val : Int) 15 = (m.val : Int) % 16 := by decide +kernel
  exact this ⟨n, h⟩

theorem encode_no (s : ByteArray) (h : 20000 < s.size) (w : World) :
    Calls Tryd.prog 10 #[.string s] w fun e w' => e = .returned (.tuple #[.string ⟨#[]⟩, .bool false]) ∧ w' = w := by
  go_enter Tryd.func10, Tryd.ntmps10
  go_wp2
  go_ret2
  exact ⟨rfl, rfl⟩

set_option maxHeartbeats 400000 in
theorem encode_yes (s : ByteArray) (h : s.size ≤ 20000) (w : World) :
    Calls Tryd.prog 10 #[.string s] w fun e w' => e = .returned (.tuple #[.string ⟨(hexEnc s.data.toList).toArray⟩, .bool true]) ∧ Below w.heap.size w w' := by
  obtain ⟨i0, hi, hz0, hz1, hz2⟩ := info_parts HexBase.infoB
  go_enter Tryd.func10, Tryd.ntmps10
  go_wp2_with (at_make; refine wpList_make_own _ rfl _ _ 22 rfl w.heap.size 5 i0 (.int .u8 0) 1 Tryd.underlying22 hi hz0 hz1 _ _ _ (2 * s.size) rfl rfl (by omega) ?b2 ?b3 (Nat.le_refl _) ?_)
  case b2 => rw [hz2]; omega
  case b3 => unfold maxLen; omega
  intro w0 hown0 hgr0
  have hbel0 : Below w.heap.size w w0 := Below.grown (Below.refl _ _) hgr0 (Nat.le_refl _) (fun g' hg' => by cases hg')
  clear hgr0
  go_wp2
  go_loopw [4, 5] (fun v i wr => ∃ k g cap : Nat, k ≤ s.size ∧ i = .int .i64 k ∧ v = .slice (some ⟨g, 0, none⟩) (2 * k) cap ∧ wr.ownsRow w.heap.size 5 1 (.slice (some ⟨g, 0, none⟩) (2 * k) cap) (2 * k) (cellsOf (hexEnc (s.data.toList.take k))) ∧ Below w.heap.size w wr)
    (fun _ i _ => s.size - (intOf i).toNat)
  case atStart => exact ⟨0, _, _, Nat.zero_le _, rfl, rfl, hown0, hbel0⟩
  case round =>
    obtain ⟨k, g, cap, hk, rfl, rfl, hown, hbel⟩ := hrel
    clear hown0 hbel0
    by_cases hlt : k < s.size
    · have hb : (s[k].toNat : Int) < 256 := by have := s[k].toNat_lt; omega
      have hz := hbel.size
      have hk0 : (0 : Int) ≤ (k : Int) := by omega
      have hk1 : (k : Int) < (s.size : Int) := by omega
      have I1 := fun w => digit ((s[k].toNat : Int) / 16) (by omega) (by omega) w
      have I2 := fun w => digit ((s[k].toNat : Int) % 16) (by omega) (by omega) w
      have A1 := low s[k].toNat s[k].toNat_lt
      go_wp2_with fail
      go_region_held3 (fun _ => True) (exact True.intro) ((refine step_append_lies _ (by rfl) _ _ _ (by rfl) w.heap.size 5 i0 _ 1 1 Tryd.underlying22 hi hz0 hz1 hz2 rfl (by omega) _ _ _ (by rfl) ((hown.alloc _).drew) ⟨wr.heap.size, 0, none⟩ 2 2 [.int .u8 ((hx ((s[k].toNat : Int) / 16).toNat).toNat : Int), .int .u8 ((hx ((s[k].toNat : Int) % 16).toNat).toNat : Int)] (by rfl) (by rfl) (World.news_of_block (cs := #[.int .u8 ((hx ((s[k].toNat : Int) / 16).toNat).toNat : Int), .int .u8 ((hx ((s[k].toNat : Int) % 16).toNat).toNat : Int)]) (t := 5) (fr := (0, 0)) (heap_alloc_new wr _)) (by simp [Value.oneCell']) (by omega) (by unfold maxLen; omega) (by omega) (by simp; omega) (wr.heap.size + 1) (by simp) ?_; intro gg cap1 w1 hown1 hgrow hat hlt1))
      all_goals
        have hb1 : Below w.heap.size w w1 := Below.grown ((hbel.alloc hz _).drew) hgrow (by simp; omega) (fun g' hg' => (hown.lt g' hg').1)
        have e1 : (((s[k].toNat : Int) / 16).toNat) = s[k].toNat / 16 := by omega
        have e2 : (((s[k].toNat : Int) % 16).toNat) = s[k].toNat % 16 := by omega
        rw [e1, e2, enc_step s k hlt _ _ rfl rfl] at hown1
        clear I1 I2 A1 e1 e2 hgrow hat hown hbel
        go_wp2
        go_roundw
        case rel => exact ⟨k + 1, gg, cap1, by omega, by go_num, rfl, hown1, hb1⟩
        case measure => simp [intOf]; omega
    · obtain rfl : k = s.size := by omega
      have hl : (hexEnc s.data.toList).length = 2 * s.size := by rw [hexEnc_length]; rfl
      have ht : s.data.toList.take s.size = s.data.toList := List.take_of_length_le (by simp)
      rw [ht] at hown
      have hconv := run_convert_bytes_back (P := Tryd.prog) wr 22 9 5 ⟨g, 0, none⟩ cap (hexEnc s.data.toList) Tryd.underlying22 Tryd.underlying5 Tryd.underlying9 (fun j hj => hown.cells (g := g) rfl j _ (by simp [cellsOf, List.getElem?_map, List.getElem?_eq_getElem hj]))
      rw [hl] at hconv
      clear hl ht
      go_wp2
      go_ret2
      exact ⟨rfl, hbel⟩
end Go.Proofs.YtipaagcnkflebaaDoor.HexImpl
