/-
  What the model's EncodeHex does, as a contract: the hexadecimal text and true up to the limit, nothing and false beyond it; no old cell is written.
-/
import Derived.Test.YtipaagcnkflebaaHexMath
import Derived.Test.YtipaagcnkflebaaChecked
import Derived.WalkKit
import Derived.ProofKit
import Derived.Deep.RegionHeld3
import Derived.Deep.AppendLies
import Derived.Laws.IdiomStrings
import Derived.Lib.Hide
import Derived.Outline
namespace Go.Proofs.Ytipaagcnkflebaa.HexSpec
open Go.RowKit HexMath

theorem ret_u8 {a b : Int} (h : a = b) : Ending.returned (.int .u8 a) = .returned (.int .u8 b) := by rw [h]

theorem figure (n : Int) (h0 : 0 ≤ n) (h1 : n < 16) (w : World) :
    Calls Try.prog 25 #[.int .i64 n] w fun e w' => e = .returned (.int .u8 ((hx n.toNat).toNat : Int)) ∧ w' = w := by
  have hh := hx_toNat (n := n.toNat) (by omega)
  by_cases h : n < 10
  · have H : Hid (((hx n.toNat).toNat : Int) = 48 + n) := by refine Lib.hid ?_; rw [hh, if_pos (by omega)]; omega
    clear hh
    go_enter Try.func25, Try.ntmps25
    go_wp2
    go_ret
    exact ⟨ret_u8 (by rw [H.out]), rfl⟩
  · have H : Hid (((hx n.toNat).toNat : Int) = 97 + n - 10) := by refine Lib.hid ?_; rw [hh, if_neg (by omega)]; omega
    clear hh
    go_enter Try.func25, Try.ntmps25
    go_wp2
    go_ret
    exact ⟨ret_u8 (by rw [H.out]), rfl⟩

theorem Try.info5 : (Try.prog.info? 5).map (fun i => (i.zero, i.size, i.bytes)) = some (some (.int .u8 0), 1, 1) := by kernel_rfl

theorem encode_no (s : ByteArray) (h : 20000 < s.size) (w : World) :
    Calls Try.prog 11 #[.string s] w fun e w' => e = .returned (.tuple #[.string ⟨#[]⟩, .bool false]) ∧ w' = w := by
  go_enter Try.func11, Try.ntmps11
  go_wp2
  go_ret2
  exact ⟨rfl, rfl⟩

set_option maxHeartbeats 400000 in
theorem encode_yes (s : ByteArray) (h : s.size ≤ 20000) (w : World) :
    Calls Try.prog 11 #[.string s] w fun e w' => e = .returned (.tuple #[.string ⟨(hexEnc s.data.toList).toArray⟩, .bool true]) ∧ Below w.heap.size w w' := by
  obtain ⟨i0, hi, hz0, hz1, hz2⟩ := info_parts Try.info5
  go_enter Try.func11, Try.ntmps11
  go_wp2
  have hown0 : (w.alloc (Obj.cells #[] 5)).ownsRow w.heap.size 5 1 (.slice (some ⟨w.heap.size, 0, none⟩) 0 0) 0 [] := World.ownsRow_lit (base := w.heap.size) (e := 5) (size := 1) w #[] 0 (Nat.le_refl _) (by decide) rfl
  go_loopw [4, 5] (fun v i wr => ∃ k g cap : Nat, k ≤ s.size ∧ i = .int .i64 k ∧ v = .slice (some ⟨g, 0, none⟩) (2 * k) cap ∧ wr.ownsRow w.heap.size 5 1 (.slice (some ⟨g, 0, none⟩) (2 * k) cap) (2 * k) (cellsOf (hexEnc (s.data.toList.take k))) ∧ Below w.heap.size w wr)
    (fun _ i _ => s.size - (intOf i).toNat)
  case atStart => exact ⟨0, _, 0, Nat.zero_le _, rfl, rfl, hown0, (Below.refl _ _).alloc (Nat.le_refl _) _⟩
  case round =>
    obtain ⟨k, g, cap, hk, rfl, rfl, hown, hbel⟩ := hrel
    clear hown0
    by_cases hlt : k < s.size
    · have hb : (s[k].toNat : Int) < 256 := by have := s[k].toNat_lt; omega
      have W1 : IntKind.i64.wrap (s[k].toNat : Int) = s[k].toNat := IntWalk.i64_in _ (by omega)
      have W2 : IntKind.i64.wrap ((s[k].toNat : Int).tdiv 16) = (s[k].toNat : Int) / 16 := by rw [Int.tdiv_eq_ediv_of_nonneg (by omega)]; exact IntWalk.i64_in _ (by omega)
      have W5 : IntKind.i64.wrap ((s[k].toNat : Int) / 16) = (s[k].toNat : Int) / 16 := IntWalk.i64_in _ (by omega)
      have W3 : (s[k].toNat : Int).tmod 16 = (s[k].toNat : Int) % 16 := Int.tmod_eq_emod_of_nonneg (by omega)
      have W4 : IntKind.i64.wrap ((s[k].toNat : Int) % 16) = (s[k].toNat : Int) % 16 := IntWalk.i64_in _ (by omega)
      have hz := hbel.size
      have hk0 : (0 : Int) ≤ (k : Int) := by omega
      have hk1 : (k : Int) < (s.size : Int) := by omega
      go_wp2_with fail
      go_region_held3 (fun _ => True) (exact True.intro) (first | (go_at_call 25; refine (figure _ ?_ ?_ _).mono ?_; (omega); (omega); rintro e w' ⟨rfl, rfl⟩) | (refine step_append_lies _ (by rfl) _ _ _ (by rfl) w.heap.size 5 i0 _ 1 1 Try.underlying22 hi hz0 hz1 hz2 rfl (by omega) _ _ _ (by rfl) ((hown.alloc _).drew) ⟨wr.heap.size, 0, none⟩ 2 2 [.int .u8 ((hx ((s[k].toNat : Int) / 16).toNat).toNat : Int), .int .u8 ((hx ((s[k].toNat : Int) % 16).toNat).toNat : Int)] (by rfl) (by rfl) (World.news_of_block (cs := #[.int .u8 ((hx ((s[k].toNat : Int) / 16).toNat).toNat : Int), .int .u8 ((hx ((s[k].toNat : Int) % 16).toNat).toNat : Int)]) (t := 5) (fr := (0, 0)) (heap_alloc_new wr _)) (by simp [Value.oneCell']) (by omega) (by unfold maxLen; omega) (by omega) (by simp; omega) (wr.heap.size + 1) (by simp) ?_; intro gg cap1 w1 hown1 hgrow hat hlt1))
      all_goals
        have hb1 : Below w.heap.size w w1 := Below.grown ((hbel.alloc hz _).drew) hgrow (by simp; omega) (fun g' hg' => (hown.lt g' hg').1)
        have e1 : (((s[k].toNat : Int) / 16).toNat) = s[k].toNat / 16 := by omega
        have e2 : (((s[k].toNat : Int) % 16).toNat) = s[k].toNat % 16 := by omega
        rw [e1, e2, enc_step s k hlt _ _ rfl rfl] at hown1
        clear W1 W2 W3 W4 W5 e1 e2 hgrow hat hown hbel
        go_wp2
        go_roundw
        case rel => exact ⟨k + 1, gg, cap1, by omega, by go_num, rfl, hown1, hb1⟩
        case measure => simp [intOf]; omega
    · obtain rfl : k = s.size := by omega
      have hl : (hexEnc s.data.toList).length = 2 * s.size := by rw [hexEnc_length]; rfl
      have ht : s.data.toList.take s.size = s.data.toList := List.take_of_length_le (by simp)
      rw [ht] at hown
      have hconv := run_convert_bytes_back (P := Try.prog) wr 22 9 5 ⟨g, 0, none⟩ cap (hexEnc s.data.toList) Try.underlying22 Try.underlying5 Try.underlying9 (fun j hj => hown.cells (g := g) rfl j _ (by simp [cellsOf, List.getElem?_map, List.getElem?_eq_getElem hj]))
      rw [hl] at hconv
      clear hl ht
      go_wp2
      go_ret2
      exact ⟨rfl, hbel⟩
end Go.Proofs.Ytipaagcnkflebaa.HexSpec
