/-
  The line that the model draws for SplitFields: as a contract: some text of at most 2000 bytes; no old cell is written.
-/
import Derived.Test.YtipaagcnkflebaaDoorDrawText
import Derived.Laws.Concat
import Derived.Test.YtipaagcnkflebaaDoorConvOne
namespace Go.Proofs.YtipaagcnkflebaaDoor.DrawLine
open Go.RowKit Draw HexMath DrawText ConvOne

theorem longI (w : World) (z : Int) (h0 : 0 ≤ z) (h1 : z ≤ 100000) (c : UInt8) :
    Calls Tryd.prog 23 #[.int .i64 z, .int .u8 (c.toNat : Int)] w (LongP w z.toNat) := by
  obtain ⟨m, rfl⟩ := Int.eq_ofNat_of_zero_le h0
  exact long w m (by omega) c
theorem longSp (w : World) (z : Int) (h0 : 0 ≤ z) (h1 : z ≤ 100000) :
    Calls Tryd.prog 23 #[.int .i64 z, .int .u8 32] w (LongP w z.toNat) := longI w z h0 h1 32

theorem St.text {w w' : World} {cb : Nat} {A : Option Addr} {n cap : Nat} (hs : St w cb A n cap) (hb : Below w.heap.size w w') : St w' cb A n cap := hs.kept (grown_of_below hb none) (fun g e => by cases e)
theorem prod_of {a b : Int} (a0 : 0 ≤ a) (a1 : a < 2) (b0 : 0 ≤ b) (b1 : b < 3) : ∃ z : Int, 0 ≤ z ∧ z ≤ 2 ∧ wrap64 (a * b) = z ∧ IntKind.i64.wrap (a * b) = z := by
  have h : a * b = 0 ∨ a * b = b := by
    rcases show a = 0 ∨ a = 1 by omega with rfl | rfl
    · left; simp
    · right; simp
  rcases h with h | h
  · exact ⟨0, by omega, by omega, by rw [h]; exact IntWalk.wrap64_in _ ⟨by omega, by omega⟩, by rw [h]; exact IntWalk.i64_in _ (by omega)⟩
  · exact ⟨b, by omega, by omega, by rw [h]; exact IntWalk.wrap64_in _ ⟨by omega, by omega⟩, by rw [h]; exact IntWalk.i64_in _ (by omega)⟩

/-- A text of at most two bytes came back. -/
def PickP (w : World) (cb : Nat) (A : Option Addr) (n cap : Nat) (e : Ending) (w' : World) : Prop :=
  ∃ s : ByteArray, s.size ≤ 2 ∧ e = .returned (.string s) ∧ St w' cb A n cap ∧ w.grownBy w' (some cb)

set_option maxHeartbeats 400000 in
theorem pick (w : World) (cb : Nat) (A : Option Addr) (n cap : Nat) (hs : St w cb A n cap) (ad : Addr) (len c : Nat) (h0 : 0 < len) (hl : len ≤ 1000) (f : Nat → ByteArray) (hsz : ∀ j, j < len → (f j).size ≤ 2)
    (hb : ad.block < w.heap.size) (hne : ad.block ≠ cb) (hf : ∀ j, j < len → w.cell? (ad.add j) = some (.string (f j))) :
    Calls Tryd.prog 30 #[.pointer (some ⟨cb, 0, none⟩), .slice (some ad) len c] w (PickP w cb A n cap) := by
  have HF := Lib.hid hf
  have HNE := Lib.hid hne
  have HSZ := Lib.hid hsz
  clear hf hne hsz
  go_enter Tryd.func30, Tryd.ntmps30
  go_wp2_with fail
  refine (below _ cb A n cap hs _ (by omega)).mono ?_
  rintro e w1 ⟨x, ⟨hx0, hx1⟩, rfl, hs1, hg1⟩
  obtain ⟨j, rfl⟩ := Int.eq_ofNat_of_zero_le hx0
  have hj : j < len := by omega
  have hcell : w1.cell? (ad.add j) = some (.string (f j)) := by
    rw [hg1.cell_far _ (by rw [block_add]; exact hb) (by rw [block_add]; intro e; injection e with e; exact HNE.out e)]
    exact HF.out j hj
  have HJ := Lib.hid (HSZ.out j hj)
  generalize f j = T at hcell HJ
  go_wp2_with fail
  go_ret
  exact ⟨T, HJ.out, rfl, hs1, hg1⟩

def texts : List ByteArray := [⟨#[32]⟩, ⟨#[32, 32]⟩, ⟨#[9]⟩, ⟨#[10]⟩, ⟨#[127]⟩, ⟨#[233]⟩]
theorem texts_size (j : Nat) (h : j < 6) : (texts.getD j ⟨#[]⟩).size ≤ 2 := by
  have : ∀ k : Fin 6, (texts.getD k.val ⟨#[]⟩).size ≤ 2 := by decide +kernel
  exact this ⟨j, h⟩

/-- Some line came back. -/
def LineP (w : World) (e : Ending) (w' : World) : Prop := ∃ s : ByteArray, s.size ≤ 1048576 ∧ e = .returned (.string s) ∧ Below w.heap.size w w'

set_option maxRecDepth 100000 in
set_option maxHeartbeats 3200000 in
theorem drawLine (w : World) (A : Option Addr) (n cap : Nat) (hn : n ≤ 1048576) (hcode : Draw.Code w w.heap.size A n) :
    Calls Tryd.prog 15 #[.slice A n cap] w (LineP w) := by
  have HC := Lib.hid hcode
  clear hcode
  go_enter Tryd.func15, Tryd.ntmps15
  go_wp2_with fail
  refine (newCur _ A n cap hn HC.out).mono ?_
  rintro e w1 ⟨rfl, hs1, hb1⟩
  go_wp2_with fail
  refine (below _ w.heap.size A n cap hs1 9 (by omega)).mono ?_
  rintro e w2 ⟨x, ⟨hx0, hx1⟩, rfl, hs2, hg2⟩
  have hb2 := below_of hb1 hg2 (Nat.le_refl _)
  clear hs1 hg2 hb1
  obtain ⟨m, rfl⟩ := Int.eq_ofNat_of_zero_le hx0
  go_wp2_with fail
  refine (once _ w.heap.size A n cap hs2 15 (by omega)).mono ?_
  rintro e w3 ⟨b, rfl, hs3, hg3⟩
  have hb3 := below_of hb2 hg3 (Nat.le_refl _)
  clear hs2 hg3 hb2
  cases b
  · obtain ⟨M, hM⟩ : ∃ M, M = m := ⟨_, rfl⟩
    subst hM
    have hM25 : M ≤ 25 := by omega
    go_wp2_with fail
    go_loopw [5, 6] (fun s i wr => ∃ (k : Nat) (S : ByteArray), k ≤ M ∧ i = .int .i64 k ∧ s = .string S ∧ S.size ≤ 8 * k ∧ St wr w.heap.size A n cap ∧ Below w.heap.size w wr) (fun _ i _ => M - (intOf i).toNat)
    case atStart => exact ⟨0, _, Nat.zero_le _, rfl, rfl, Nat.le_refl _, hs3, hb3⟩
    case round =>
      obtain ⟨k, S, hk, rfl, rfl, hS, hs5, hb5⟩ := hrel
      clear hs3 hb3
      by_cases hlt : k < M
      · by_cases hk0 : 0 < k
        · skip
          go_wp2_with fail
          refine (below _ w.heap.size A n cap hs5 2 (by omega)).mono ?_
          rintro e wa ⟨xa, ⟨xa0, xa1⟩, rfl, hsa, hga⟩
          have hba := below_of hb5 hga (Nat.le_refl _)
          clear hga
          go_wp2_with fail
          refine (below _ w.heap.size A n cap hsa 3 (by omega)).mono ?_
          rintro e wb ⟨xb, ⟨xb0, xb1⟩, rfl, hsb, hgb⟩
          have hbb := below_of hba hgb (Nat.le_refl _)
          clear hsa hgb hba
          obtain ⟨z, hz0, hz1, hw1, hw2⟩ := prod_of xa0 xa1 xb0 xb1
          go_wp2_with fail
          refine (longSp _ (1 + z) (by omega) (by omega)).mono ?_
          rintro e wc ⟨T, hT, rfl, hbc⟩
          have hT2 : T.size ≤ 3 := by omega
          have hsi := St.text hsb hbc
          have hbi := hbb.trans (hbc.mono hbb.size)
          clear hsb hbb hbc hT hw1 hw2
          have hSs : (S ++ T).size ≤ 8 * k + 3 + 0 := by rw [ByteArray.size_append]; omega
          go_wp2_with fail
          have HSs := Lib.hid hSs
          go_loopw [5, 7] (fun s j wr2 => ∃ (q : Nat) (S2 : ByteArray), q ≤ 5 ∧ j = .int .i64 q ∧ s = .string S2 ∧ S2.size ≤ 8 * k + 3 + q ∧ St wr2 w.heap.size A n cap ∧ Below w.heap.size w wr2) (fun _ j _ => 5 - (intOf j).toNat)
          case atStart => exact ⟨0, _, by omega, rfl, rfl, HSs.out, hsi, hbi⟩
          case round =>
            obtain ⟨q, S2, hq, rfl, rfl, hS2, hs7, hb7⟩ := hrel
            clear hsi hbi HSs hSs
            go_wp2_with fail
            refine (below _ w.heap.size A n cap hs7 5 (by omega)).mono ?_
            rintro e w8 ⟨x8, ⟨x80, x81⟩, rfl, hs8, hg8⟩
            have hb8 := below_of hb7 hg8 (Nat.le_refl _)
            clear hs7 hg8 hb7
            by_cases hqx : (q : Int) ≤ x8
            · go_wp2_with fail
              refine (below _ w.heap.size A n cap hs8 94 (by omega)).mono ?_
              rintro e w9 ⟨x9, ⟨x90, x91⟩, rfl, hs9, hg9⟩
              have hb9 := below_of hb8 hg9 (Nat.le_refl _)
              clear hs8 hg9 hb8
              obtain ⟨C, hC1, hconv⟩ := conv_num w9 (33 + x9) (by omega) (by omega)
              go_wp2_with fail
              go_roundw
              case rel => exact ⟨q + 1, S2 ++ C, by omega, by go_num, rfl, by rw [ByteArray.size_append]; omega, hs9.alloc _, hb9.alloc hb9.size _⟩
              case measure => simp [intOf]; omega
            · go_wp2_with fail
              go_roundw
              case rel => exact ⟨k + 1, S2, by omega, by go_num, rfl, by omega, hs8, hb8⟩
              case measure => simp [intOf]; omega
        · obtain rfl : k = 0 := by omega
          go_wp2_with fail
          refine (once _ w.heap.size A n cap hs5 5 (by omega)).mono ?_
          rintro e w6 ⟨b6, rfl, hs6, hg6⟩
          have hb6 := below_of hb5 hg6 (Nat.le_refl _)
          clear hs5 hg6 hb5
          cases b6
          · skip
            have hsi := hs6
            have hbi := hb6
            have hSs : S.size ≤ 8 * 0 + 3 + 0 := by omega
            go_wp2_with fail
            have HSs := Lib.hid hSs
            go_loopw [5, 7] (fun s j wr2 => ∃ (q : Nat) (S2 : ByteArray), q ≤ 5 ∧ j = .int .i64 q ∧ s = .string S2 ∧ S2.size ≤ 8 * 0 + 3 + q ∧ St wr2 w.heap.size A n cap ∧ Below w.heap.size w wr2) (fun _ j _ => 5 - (intOf j).toNat)
            case atStart => exact ⟨0, _, by omega, rfl, rfl, HSs.out, hsi, hbi⟩
            case round =>
              obtain ⟨q, S2, hq, rfl, rfl, hS2, hs7, hb7⟩ := hrel
              clear hsi hbi HSs hSs
              go_wp2_with fail
              refine (below _ w.heap.size A n cap hs7 5 (by omega)).mono ?_
              rintro e w8 ⟨x8, ⟨x80, x81⟩, rfl, hs8, hg8⟩
              have hb8 := below_of hb7 hg8 (Nat.le_refl _)
              clear hs7 hg8 hb7
              by_cases hqx : (q : Int) ≤ x8
              · go_wp2_with fail
                refine (below _ w.heap.size A n cap hs8 94 (by omega)).mono ?_
                rintro e w9 ⟨x9, ⟨x90, x91⟩, rfl, hs9, hg9⟩
                have hb9 := below_of hb8 hg9 (Nat.le_refl _)
                clear hs8 hg9 hb8
                obtain ⟨C, hC1, hconv⟩ := conv_num w9 (33 + x9) (by omega) (by omega)
                go_wp2_with fail
                go_roundw
                case rel => exact ⟨q + 1, S2 ++ C, by omega, by go_num, rfl, by rw [ByteArray.size_append]; omega, hs9.alloc _, hb9.alloc hb9.size _⟩
                case measure => simp [intOf]; omega
              · go_wp2_with fail
                go_roundw
                case rel => exact ⟨1, S2, by omega, by go_num, rfl, by omega, hs8, hb8⟩
                case measure => simp [intOf]; omega
          · skip
            go_wp2_with fail
            refine (below _ w.heap.size A n cap hs6 2 (by omega)).mono ?_
            rintro e wa ⟨xa, ⟨xa0, xa1⟩, rfl, hsa, hga⟩
            have hba := below_of hb6 hga (Nat.le_refl _)
            clear hga
            go_wp2_with fail
            refine (below _ w.heap.size A n cap hsa 3 (by omega)).mono ?_
            rintro e wb ⟨xb, ⟨xb0, xb1⟩, rfl, hsb, hgb⟩
            have hbb := below_of hba hgb (Nat.le_refl _)
            clear hsa hgb hba
            obtain ⟨z, hz0, hz1, hw1, hw2⟩ := prod_of xa0 xa1 xb0 xb1
            go_wp2_with fail
            refine (longSp _ (1 + z) (by omega) (by omega)).mono ?_
            rintro e wc ⟨T, hT, rfl, hbc⟩
            have hT2 : T.size ≤ 3 := by omega
            have hsi := St.text hsb hbc
            have hbi := hbb.trans (hbc.mono hbb.size)
            clear hsb hbb hbc hT hw1 hw2
            have hSs : (S ++ T).size ≤ 8 * 0 + 3 + 0 := by rw [ByteArray.size_append]; omega
            go_wp2_with fail
            have HSs := Lib.hid hSs
            go_loopw [5, 7] (fun s j wr2 => ∃ (q : Nat) (S2 : ByteArray), q ≤ 5 ∧ j = .int .i64 q ∧ s = .string S2 ∧ S2.size ≤ 8 * 0 + 3 + q ∧ St wr2 w.heap.size A n cap ∧ Below w.heap.size w wr2) (fun _ j _ => 5 - (intOf j).toNat)
            case atStart => exact ⟨0, _, by omega, rfl, rfl, HSs.out, hsi, hbi⟩
            case round =>
              obtain ⟨q, S2, hq, rfl, rfl, hS2, hs7, hb7⟩ := hrel
              clear hsi hbi HSs hSs
              go_wp2_with fail
              refine (below _ w.heap.size A n cap hs7 5 (by omega)).mono ?_
              rintro e w8 ⟨x8, ⟨x80, x81⟩, rfl, hs8, hg8⟩
              have hb8 := below_of hb7 hg8 (Nat.le_refl _)
              clear hs7 hg8 hb7
              by_cases hqx : (q : Int) ≤ x8
              · go_wp2_with fail
                refine (below _ w.heap.size A n cap hs8 94 (by omega)).mono ?_
                rintro e w9 ⟨x9, ⟨x90, x91⟩, rfl, hs9, hg9⟩
                have hb9 := below_of hb8 hg9 (Nat.le_refl _)
                clear hs8 hg9 hb8
                obtain ⟨C, hC1, hconv⟩ := conv_num w9 (33 + x9) (by omega) (by omega)
                go_wp2_with fail
                go_roundw
                case rel => exact ⟨q + 1, S2 ++ C, by omega, by go_num, rfl, by rw [ByteArray.size_append]; omega, hs9.alloc _, hb9.alloc hb9.size _⟩
                case measure => simp [intOf]; omega
              · go_wp2_with fail
                go_roundw
                case rel => exact ⟨1, S2, by omega, by go_num, rfl, by omega, hs8, hb8⟩
                case measure => simp [intOf]; omega
      · skip
        have hS200 : S.size ≤ 200 := by omega
        go_wp2_with fail
        refine (below _ w.heap.size A n cap hs5 12 (by omega)).mono ?_
        rintro e w6 ⟨x6, ⟨x60, x61⟩, rfl, hs6, hg6⟩
        have hb6 := below_of hb5 hg6 (Nat.le_refl _)
        clear hs5 hg6 hb5
        by_cases h0 : x6 = 0
        · subst h0
          go_wp2_with fail
          have hlt6 := hs6.lt
          refine (pick _ w.heap.size A n cap (hs6.alloc _) ⟨w6.heap.size, 0, none⟩ 6 6 (by omega) (by omega) (fun j => texts.getD j ⟨#[]⟩) texts_size (by simp) (by simp; omega) ?_).mono ?_
          · intro j hj
            have hn := heap_alloc_new w6 (.cells (texts.map Value.string).toArray 9)
            exact World.news_of_block hn j (.string (texts.getD j ⟨#[]⟩)) (by
              have hj2 : j < texts.length := hj
              rw [List.getElem?_map, List.getElem?_eq_getElem hj2, List.getD_eq_getElem?_getD, List.getElem?_eq_getElem hj2]; rfl)
          · rintro e w7 ⟨T, hT, rfl, hs7, hg7⟩
            have hb7 := below_of (hb6.alloc hb6.size _) hg7 (Nat.le_refl _)
            have hSs : (S ++ T).size ≤ 1048576 := by rw [ByteArray.size_append]; omega
            have HSs := Lib.hid hSs
            clear hSs
            go_wp2_with fail
            go_ret
            exact ⟨_, HSs.out, rfl, hb7⟩
        · by_cases h1 : x6 = 1
          · subst h1
            go_wp2_with fail
            refine (below _ w.heap.size A n cap hs6 2 (by omega)).mono ?_
            rintro e w7 ⟨x7, ⟨x70, x71⟩, rfl, hs7, hg7⟩
            have hb7 := below_of hb6 hg7 (Nat.le_refl _)
            clear hs6 hg7 hb6
            go_wp2_with fail
            refine (longSp _ (600 - (S.size : Int) + x7) (by omega) (by omega)).mono ?_
            rintro e w8 ⟨T, hT, rfl, hb8⟩
            have hT2 : T.size ≤ 700 := by omega
            have hb9 := hb7.trans (hb8.mono hb7.size)
            clear hT
            have hSs : (S ++ T).size ≤ 1048576 := by rw [ByteArray.size_append]; omega
            have HSs := Lib.hid hSs
            clear hSs
            go_wp2_with fail
            go_ret
            exact ⟨_, HSs.out, rfl, hb9⟩
          · have e0 : (x6 == 0) = false := by simpa using h0
            have e1 : (x6 == 1) = false := by simpa using h1
            clear h0 h1
            go_wp2_with fail
            go_ret
            exact ⟨S, by omega, rfl, hb6⟩
  · go_wp2_with fail
    refine (below _ w.heap.size A n cap hs3 2 (by omega)).mono ?_
    rintro e w4 ⟨y, ⟨hy0, hy1⟩, rfl, hs4, hg4⟩
    have hb4 := below_of hb3 hg4 (Nat.le_refl _)
    clear hs3 hg4 hb3
    obtain ⟨M, hM⟩ : ∃ M : Nat, 24 + y = (M : Int) := ⟨(24 + y).toNat, by omega⟩
    have hM25 : M ≤ 25 := by omega
    go_wp2_with fail
    clear hM
    go_loopw [5, 6] (fun s i wr => ∃ (k : Nat) (S : ByteArray), k ≤ M ∧ i = .int .i64 k ∧ s = .string S ∧ S.size ≤ 8 * k ∧ St wr w.heap.size A n cap ∧ Below w.heap.size w wr) (fun _ i _ => M - (intOf i).toNat)
    case atStart => exact ⟨0, _, Nat.zero_le _, rfl, rfl, Nat.le_refl _, hs4, hb4⟩
    case round =>
      obtain ⟨k, S, hk, rfl, rfl, hS, hs5, hb5⟩ := hrel
      clear hs4 hb4
      by_cases hlt : k < M
      · by_cases hk0 : 0 < k
        · skip
          go_wp2_with fail
          refine (below _ w.heap.size A n cap hs5 2 (by omega)).mono ?_
          rintro e wa ⟨xa, ⟨xa0, xa1⟩, rfl, hsa, hga⟩
          have hba := below_of hb5 hga (Nat.le_refl _)
          clear hga
          go_wp2_with fail
          refine (below _ w.heap.size A n cap hsa 3 (by omega)).mono ?_
          rintro e wb ⟨xb, ⟨xb0, xb1⟩, rfl, hsb, hgb⟩
          have hbb := below_of hba hgb (Nat.le_refl _)
          clear hsa hgb hba
          obtain ⟨z, hz0, hz1, hw1, hw2⟩ := prod_of xa0 xa1 xb0 xb1
          go_wp2_with fail
          refine (longSp _ (1 + z) (by omega) (by omega)).mono ?_
          rintro e wc ⟨T, hT, rfl, hbc⟩
          have hT2 : T.size ≤ 3 := by omega
          have hsi := St.text hsb hbc
          have hbi := hbb.trans (hbc.mono hbb.size)
          clear hsb hbb hbc hT hw1 hw2
          have hSs : (S ++ T).size ≤ 8 * k + 3 + 0 := by rw [ByteArray.size_append]; omega
          go_wp2_with fail
          have HSs := Lib.hid hSs
          go_loopw [5, 7] (fun s j wr2 => ∃ (q : Nat) (S2 : ByteArray), q ≤ 5 ∧ j = .int .i64 q ∧ s = .string S2 ∧ S2.size ≤ 8 * k + 3 + q ∧ St wr2 w.heap.size A n cap ∧ Below w.heap.size w wr2) (fun _ j _ => 5 - (intOf j).toNat)
          case atStart => exact ⟨0, _, by omega, rfl, rfl, HSs.out, hsi, hbi⟩
          case round =>
            obtain ⟨q, S2, hq, rfl, rfl, hS2, hs7, hb7⟩ := hrel
            clear hsi hbi HSs hSs
            go_wp2_with fail
            refine (below _ w.heap.size A n cap hs7 5 (by omega)).mono ?_
            rintro e w8 ⟨x8, ⟨x80, x81⟩, rfl, hs8, hg8⟩
            have hb8 := below_of hb7 hg8 (Nat.le_refl _)
            clear hs7 hg8 hb7
            by_cases hqx : (q : Int) ≤ x8
            · go_wp2_with fail
              refine (below _ w.heap.size A n cap hs8 94 (by omega)).mono ?_
              rintro e w9 ⟨x9, ⟨x90, x91⟩, rfl, hs9, hg9⟩
              have hb9 := below_of hb8 hg9 (Nat.le_refl _)
              clear hs8 hg9 hb8
              obtain ⟨C, hC1, hconv⟩ := conv_num w9 (33 + x9) (by omega) (by omega)
              go_wp2_with fail
              go_roundw
              case rel => exact ⟨q + 1, S2 ++ C, by omega, by go_num, rfl, by rw [ByteArray.size_append]; omega, hs9.alloc _, hb9.alloc hb9.size _⟩
              case measure => simp [intOf]; omega
            · go_wp2_with fail
              go_roundw
              case rel => exact ⟨k + 1, S2, by omega, by go_num, rfl, by omega, hs8, hb8⟩
              case measure => simp [intOf]; omega
        · obtain rfl : k = 0 := by omega
          go_wp2_with fail
          refine (once _ w.heap.size A n cap hs5 5 (by omega)).mono ?_
          rintro e w6 ⟨b6, rfl, hs6, hg6⟩
          have hb6 := below_of hb5 hg6 (Nat.le_refl _)
          clear hs5 hg6 hb5
          cases b6
          · skip
            have hsi := hs6
            have hbi := hb6
            have hSs : S.size ≤ 8 * 0 + 3 + 0 := by omega
            go_wp2_with fail
            have HSs := Lib.hid hSs
            go_loopw [5, 7] (fun s j wr2 => ∃ (q : Nat) (S2 : ByteArray), q ≤ 5 ∧ j = .int .i64 q ∧ s = .string S2 ∧ S2.size ≤ 8 * 0 + 3 + q ∧ St wr2 w.heap.size A n cap ∧ Below w.heap.size w wr2) (fun _ j _ => 5 - (intOf j).toNat)
            case atStart => exact ⟨0, _, by omega, rfl, rfl, HSs.out, hsi, hbi⟩
            case round =>
              obtain ⟨q, S2, hq, rfl, rfl, hS2, hs7, hb7⟩ := hrel
              clear hsi hbi HSs hSs
              go_wp2_with fail
              refine (below _ w.heap.size A n cap hs7 5 (by omega)).mono ?_
              rintro e w8 ⟨x8, ⟨x80, x81⟩, rfl, hs8, hg8⟩
              have hb8 := below_of hb7 hg8 (Nat.le_refl _)
              clear hs7 hg8 hb7
              by_cases hqx : (q : Int) ≤ x8
              · go_wp2_with fail
                refine (below _ w.heap.size A n cap hs8 94 (by omega)).mono ?_
                rintro e w9 ⟨x9, ⟨x90, x91⟩, rfl, hs9, hg9⟩
                have hb9 := below_of hb8 hg9 (Nat.le_refl _)
                clear hs8 hg9 hb8
                obtain ⟨C, hC1, hconv⟩ := conv_num w9 (33 + x9) (by omega) (by omega)
                go_wp2_with fail
                go_roundw
                case rel => exact ⟨q + 1, S2 ++ C, by omega, by go_num, rfl, by rw [ByteArray.size_append]; omega, hs9.alloc _, hb9.alloc hb9.size _⟩
                case measure => simp [intOf]; omega
              · go_wp2_with fail
                go_roundw
                case rel => exact ⟨1, S2, by omega, by go_num, rfl, by omega, hs8, hb8⟩
                case measure => simp [intOf]; omega
          · skip
            go_wp2_with fail
            refine (below _ w.heap.size A n cap hs6 2 (by omega)).mono ?_
            rintro e wa ⟨xa, ⟨xa0, xa1⟩, rfl, hsa, hga⟩
            have hba := below_of hb6 hga (Nat.le_refl _)
            clear hga
            go_wp2_with fail
            refine (below _ w.heap.size A n cap hsa 3 (by omega)).mono ?_
            rintro e wb ⟨xb, ⟨xb0, xb1⟩, rfl, hsb, hgb⟩
            have hbb := below_of hba hgb (Nat.le_refl _)
            clear hsa hgb hba
            obtain ⟨z, hz0, hz1, hw1, hw2⟩ := prod_of xa0 xa1 xb0 xb1
            go_wp2_with fail
            refine (longSp _ (1 + z) (by omega) (by omega)).mono ?_
            rintro e wc ⟨T, hT, rfl, hbc⟩
            have hT2 : T.size ≤ 3 := by omega
            have hsi := St.text hsb hbc
            have hbi := hbb.trans (hbc.mono hbb.size)
            clear hsb hbb hbc hT hw1 hw2
            have hSs : (S ++ T).size ≤ 8 * 0 + 3 + 0 := by rw [ByteArray.size_append]; omega
            go_wp2_with fail
            have HSs := Lib.hid hSs
            go_loopw [5, 7] (fun s j wr2 => ∃ (q : Nat) (S2 : ByteArray), q ≤ 5 ∧ j = .int .i64 q ∧ s = .string S2 ∧ S2.size ≤ 8 * 0 + 3 + q ∧ St wr2 w.heap.size A n cap ∧ Below w.heap.size w wr2) (fun _ j _ => 5 - (intOf j).toNat)
            case atStart => exact ⟨0, _, by omega, rfl, rfl, HSs.out, hsi, hbi⟩
            case round =>
              obtain ⟨q, S2, hq, rfl, rfl, hS2, hs7, hb7⟩ := hrel
              clear hsi hbi HSs hSs
              go_wp2_with fail
              refine (below _ w.heap.size A n cap hs7 5 (by omega)).mono ?_
              rintro e w8 ⟨x8, ⟨x80, x81⟩, rfl, hs8, hg8⟩
              have hb8 := below_of hb7 hg8 (Nat.le_refl _)
              clear hs7 hg8 hb7
              by_cases hqx : (q : Int) ≤ x8
              · go_wp2_with fail
                refine (below _ w.heap.size A n cap hs8 94 (by omega)).mono ?_
                rintro e w9 ⟨x9, ⟨x90, x91⟩, rfl, hs9, hg9⟩
                have hb9 := below_of hb8 hg9 (Nat.le_refl _)
                clear hs8 hg9 hb8
                obtain ⟨C, hC1, hconv⟩ := conv_num w9 (33 + x9) (by omega) (by omega)
                go_wp2_with fail
                go_roundw
                case rel => exact ⟨q + 1, S2 ++ C, by omega, by go_num, rfl, by rw [ByteArray.size_append]; omega, hs9.alloc _, hb9.alloc hb9.size _⟩
                case measure => simp [intOf]; omega
              · go_wp2_with fail
                go_roundw
                case rel => exact ⟨1, S2, by omega, by go_num, rfl, by omega, hs8, hb8⟩
                case measure => simp [intOf]; omega
      · skip
        have hS200 : S.size ≤ 200 := by omega
        go_wp2_with fail
        refine (below _ w.heap.size A n cap hs5 12 (by omega)).mono ?_
        rintro e w6 ⟨x6, ⟨x60, x61⟩, rfl, hs6, hg6⟩
        have hb6 := below_of hb5 hg6 (Nat.le_refl _)
        clear hs5 hg6 hb5
        by_cases h0 : x6 = 0
        · subst h0
          go_wp2_with fail
          have hlt6 := hs6.lt
          refine (pick _ w.heap.size A n cap (hs6.alloc _) ⟨w6.heap.size, 0, none⟩ 6 6 (by omega) (by omega) (fun j => texts.getD j ⟨#[]⟩) texts_size (by simp) (by simp; omega) ?_).mono ?_
          · intro j hj
            have hn := heap_alloc_new w6 (.cells (texts.map Value.string).toArray 9)
            exact World.news_of_block hn j (.string (texts.getD j ⟨#[]⟩)) (by
              have hj2 : j < texts.length := hj
              rw [List.getElem?_map, List.getElem?_eq_getElem hj2, List.getD_eq_getElem?_getD, List.getElem?_eq_getElem hj2]; rfl)
          · rintro e w7 ⟨T, hT, rfl, hs7, hg7⟩
            have hb7 := below_of (hb6.alloc hb6.size _) hg7 (Nat.le_refl _)
            have hSs : (S ++ T).size ≤ 1048576 := by rw [ByteArray.size_append]; omega
            have HSs := Lib.hid hSs
            clear hSs
            go_wp2_with fail
            go_ret
            exact ⟨_, HSs.out, rfl, hb7⟩
        · by_cases h1 : x6 = 1
          · subst h1
            go_wp2_with fail
            refine (below _ w.heap.size A n cap hs6 2 (by omega)).mono ?_
            rintro e w7 ⟨x7, ⟨x70, x71⟩, rfl, hs7, hg7⟩
            have hb7 := below_of hb6 hg7 (Nat.le_refl _)
            clear hs6 hg7 hb6
            go_wp2_with fail
            refine (longSp _ (600 - (S.size : Int) + x7) (by omega) (by omega)).mono ?_
            rintro e w8 ⟨T, hT, rfl, hb8⟩
            have hT2 : T.size ≤ 700 := by omega
            have hb9 := hb7.trans (hb8.mono hb7.size)
            clear hT
            have hSs : (S ++ T).size ≤ 1048576 := by rw [ByteArray.size_append]; omega
            have HSs := Lib.hid hSs
            clear hSs
            go_wp2_with fail
            go_ret
            exact ⟨_, HSs.out, rfl, hb9⟩
          · have e0 : (x6 == 0) = false := by simpa using h0
            have e1 : (x6 == 1) = false := by simpa using h1
            clear h0 h1
            go_wp2_with fail
            go_ret
            exact ⟨S, by omega, rfl, hb6⟩
end Go.Proofs.YtipaagcnkflebaaDoor.DrawLine
