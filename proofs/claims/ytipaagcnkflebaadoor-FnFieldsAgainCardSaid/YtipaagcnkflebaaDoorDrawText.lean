/-
  Texts that the model draws: a text of one kind of byte, a text of drawn bytes, the text for EncodeHex: as contracts: some text of the length that was asked for; no old cell but the cursor's is written.
-/
import Derived.Test.YtipaagcnkflebaaDoorDraw
import Derived.Test.YtipaagcnkflebaaDoorHexMath
import Derived.Test.YtipaagcnkflebaaDoorHexBase
import Derived.Laws.IdiomStrings
import Derived.Laws.OwnMore
namespace Go.Proofs.YtipaagcnkflebaaDoor.DrawText
open Go.RowKit Draw HexMath

theorem below_of {w w1 w' : World} {cb : Nat} (hb : Below w.heap.size w w1) (h : w1.grownBy w' (some cb)) (hc : w.heap.size ≤ cb) : Below w.heap.size w w' :=
  hb.grown h hb.size (fun k e => by injection e with e; omega)
/-- What was written into a row of the call's own leaves the old blocks as they were. -/
theorem grown_own {a w w' : World} {row : Option Nat} {g : Nat} (h : a.grownBy w row) (k : w.grownBy w' (some g)) (hg : a.heap.size ≤ g) : a.grownBy w' row :=
  ⟨k.os.trans h.os, k.tape.trans h.tape, k.output.trans h.output, Nat.le_trans h.size k.size, fun i hi hne => (k.block i (Nat.lt_of_lt_of_le hi h.size) (fun e => by injection e with e; omega)).trans (h.block i hi hne)⟩
theorem grown_of_below {w w' : World} (h : Below w.heap.size w w') (row : Option Nat) : w.grownBy w' row := ⟨h.os, h.tape, h.output, h.size, fun k hk _ => h.block k hk⟩

/-- A text of m bytes came back. -/
def LongP (w : World) (m : Nat) (e : Ending) (w' : World) : Prop := ∃ s : ByteArray, s.size = m ∧ e = .returned (.string s) ∧ Below w.heap.size w w'
def TextP (w : World) (cb : Nat) (A : Option Addr) (n cap m : Nat) (e : Ending) (w' : World) : Prop :=
  ∃ s : ByteArray, s.size = m ∧ e = .returned (.string s) ∧ St w' cb A n cap ∧ w.grownBy w' (some cb)

theorem cells_set (l : List UInt8) (k : Nat) (c : UInt8) : (cellsOf l).set k (.int .u8 (c.toNat : Int)) = cellsOf (l.set k c) := by
  simp [cellsOf, List.map_set]

theorem cells_snoc (l : List UInt8) {c : UInt8} {x : Int} (hc : (c.toNat : Int) = x) : cellsOf l ++ [.int .u8 x] = cellsOf (l ++ [c]) := by rw [cellsOf_append, ← hc]; rfl
theorem made_zeros (m : Nat) : (madeCells #[Value.int .u8 0] m).toList = cellsOf (List.replicate m 0) := by
  apply List.ext_getElem
  · simp [madeCells, cellsOf]
  · intro i h1 h2
    simp [madeCells, cellsOf, Nat.mod_one]

set_option maxRecDepth 100000 in
set_option maxHeartbeats 800000 in
theorem long (w : World) (m : Nat) (hm : m ≤ 100000) (c : UInt8) :
    Calls Tryd.prog 23 #[.int .i64 (m : Int), .int .u8 (c.toNat : Int)] w (LongP w m) := by
  obtain ⟨i0, hi, hz0, hz1, hz2⟩ := info_parts HexBase.infoB
  go_enter Tryd.func23, Tryd.ntmps23
  go_wp2_with (at_make; go_must (refine wpList_make_full _ rfl _ _ 22 rfl w.heap.size 5 i0 (.int .u8 0) 1 Tryd.underlying22 hi hz0 hz1 _ _ _ _ m rfl rfl (by omega) (by omega) ?b2 ?b3 (Nat.le_refl _) ?_))
  case b2 => rw [hz2]; omega
  case b3 => unfold maxLen; omega
  intro w0 hown0 hgr0
  have hbel0 : Below w.heap.size w w0 := Below.grown (Below.refl _ _) hgr0 (Nat.le_refl _) (fun g' hg' => by cases hg')
  have hown1 : ∃ l : List UInt8, l.length = m ∧ w0.ownsRow w.heap.size 5 1 (.slice (some ⟨w.heap.size, 0, none⟩) m m) m (cellsOf l) := by
    refine ⟨List.replicate m 0, by simp, ?_⟩
    have e := made_zeros m
    first
      | (rw [e] at hown0; exact hown0)
      | (rw [show (Value.int .u8 0).cells = #[Value.int .u8 0] from rfl, Nat.mul_one, e] at hown0; exact hown0)
  clear hown0 hgr0
  go_wp2_with fail
  go_loopw [6] (fun i wr => ∃ (k : Nat) (l : List UInt8), k ≤ m ∧ i = .int .i64 k ∧ l.length = m ∧ wr.ownsRow w.heap.size 5 1 (.slice (some ⟨w.heap.size, 0, none⟩) m m) m (cellsOf l) ∧ Below w.heap.size w wr)
    (fun i _ => m - (intOf i).toNat)
  case atStart =>
    obtain ⟨l, hl, ho⟩ := hown1
    exact ⟨0, l, Nat.zero_le _, rfl, hl, ho, hbel0⟩
  case round =>
    clear hown1 hbel0
    obtain ⟨k, l, hk, rfl, hl, hown, hbel⟩ := hrel
    have HL := Lib.hid hl
    by_cases hlt : k < m
    · have hc : wr.cell? ⟨w.heap.size, k, none⟩ = some (.int .u8 ((l.getD k 0).toNat : Int)) := by
        rw [hown.cellAt k (by omega)]
        simp [cellsOf, List.getElem?_map, List.getD_eq_getElem?_getD, List.getElem?_eq_getElem (show k < l.length by omega)]
      have hf := hown.frozenAt k
      have hst := hown.stored k (.int .u8 (c.toNat : Int))
      rw [cells_set] at hst
      have hb1 := Below.setCell hbel (p := ⟨w.heap.size, k, none⟩) (Nat.le_refl _) (.int .u8 (c.toNat : Int))
      have hk1 : (k : Int) < (m : Int) := by omega
      clear hl hown hbel
      have HS := Lib.hid hst.1
      have HB := Lib.hid hb1
      clear hst hb1
      go_wp2_with fail
      go_roundw
      case rel => exact ⟨k + 1, l.set k c, by omega, by go_num, by rw [List.length_set]; exact HL.out, HS.out, HB.out⟩
      case measure => simp [intOf]; omega
    · have hconv := run_convert_bytes_back (P := Tryd.prog) wr 22 9 5 ⟨w.heap.size, 0, none⟩ m l Tryd.underlying22 Tryd.underlying5 Tryd.underlying9 (fun j hj => hown.cells (g := w.heap.size) rfl j _ (by simp [cellsOf, List.getElem?_map, List.getElem?_eq_getElem hj]))
      rw [hl] at hconv
      clear hl
      go_wp2_with fail
      go_ret
      exact ⟨⟨l.toArray⟩, (by show l.toArray.size = m; simpa using HL.out), rfl, hbel⟩

set_option maxRecDepth 100000 in
set_option maxHeartbeats 800000 in
theorem text (w : World) (cb : Nat) (A : Option Addr) (n cap : Nat) (hs : St w cb A n cap) (m : Nat) (hm : m ≤ 5000) :
    Calls Tryd.prog 25 #[.pointer (some ⟨cb, 0, none⟩), .int .i64 (m : Int)] w (TextP w cb A n cap m) := by
  obtain ⟨i0, hi, hz0, hz1, hz2⟩ := info_parts HexBase.infoB
  have hcb := hs.lt
  go_enter Tryd.func25, Tryd.ntmps25
  go_wp2_with fail
  have hown0 : (w.alloc (Obj.cells #[] 5)).ownsRow w.heap.size 5 1 (.slice (some ⟨w.heap.size, 0, none⟩) 0 0) 0 [] := World.ownsRow_lit (base := w.heap.size) (e := 5) (size := 1) w #[] 0 (Nat.le_refl _) (by decide) rfl
  go_loopw [5, 6] (fun v i wr => ∃ (k g c : Nat) (l : List UInt8), k ≤ m ∧ i = .int .i64 k ∧ v = .slice (some ⟨g, 0, none⟩) k c ∧ l.length = k ∧ wr.ownsRow w.heap.size 5 1 (.slice (some ⟨g, 0, none⟩) k c) k (cellsOf l) ∧ St wr cb A n cap ∧ w.grownBy wr (some cb))
    (fun _ i _ => m - (intOf i).toNat)
  case atStart => exact ⟨0, _, 0, [], Nat.zero_le _, rfl, rfl, rfl, hown0, hs.alloc _, World.grownBy_alloc w _ _⟩
  case round =>
    clear hown0
    obtain ⟨k, g, c, l, hk, rfl, rfl, hl, hown, hst, hgr⟩ := hrel
    have HL := Lib.hid hl
    clear hl
    by_cases hlt : k < m
    · go_wp2_with fail
      refine (byte _ cb A n cap hst).mono ?_
      rintro e w1 ⟨x, ⟨hx0, hx1⟩, rfl, hs1, hg1⟩
      have hgb : w.heap.size ≤ g := (hown.lt g rfl).1
      have hown1 := hown.kept hg1 (.inr (by intro e; have e2 : g = cb := (by injection e); omega))
      have hgr1 := grown_trans hgr hg1
      have hz1' : w.heap.size ≤ w1.heap.size := hgr1.size
      clear hown hg1 hgr hst
      go_wp2_with (at_builtin; go_must (refine wpList_append_lies _ rfl _ _ _ rfl w.heap.size 5 i0 _ 1 1 Tryd.underlying22 hi hz0 hz1 hz2 rfl (by omega) _ _ _ (by rfl) (hown1.alloc _) ⟨w1.heap.size, 0, none⟩ 1 1 [.int .u8 x] (by rfl) (by rfl) (World.news_of_block (cs := #[.int .u8 x]) (t := 5) (fr := (0, 0)) (heap_alloc_new w1 _)) (by simp [Value.oneCell']) (by omega) (by unfold maxLen; omega) (by omega) (by simp; omega) (w1.heap.size + 1) (by simp) ?_); intro gg cap1 w2 hown2 hgrow hat hlt2)
      have hc : ((UInt8.ofNat x.toNat).toNat : Int) = x := by simp; omega
      have e1 : cellsOf l ++ [.int .u8 x] = cellsOf (l ++ [UInt8.ofNat x.toNat]) := cells_snoc l hc
      rw [e1] at hown2
      have hgr2 : w.grownBy w2 (some cb) := grown_own (grown_alloc hgr1 _) hgrow hgb
      have hs2 : St w2 cb A n cap := (hs1.alloc _).kept hgrow (fun g' hg' => by have e2 : g = g' := (by injection hg'); omega)
      clear hgrow hat hown1 hs1 hgr1 hc e1
      go_wp2_with fail
      go_roundw
      case rel => exact ⟨k + 1, gg, cap1, l ++ [UInt8.ofNat x.toNat], by omega, by go_num, rfl, by rw [List.length_append, HL.out]; rfl, hown2, hs2, hgr2⟩
      case measure => simp [intOf]; omega
    · have hconv := run_convert_bytes_back (P := Tryd.prog) wr 22 9 5 ⟨g, 0, none⟩ c l Tryd.underlying22 Tryd.underlying5 Tryd.underlying9 (fun j hj => hown.cells (g := g) rfl j _ (by simp [cellsOf, List.getElem?_map, List.getElem?_eq_getElem hj]))
      rw [HL.out] at hconv
      have hkm : k = m := by omega
      have HK := Lib.hid hkm
      clear hkm
      go_wp2_with fail
      go_ret
      exact ⟨⟨l.toArray⟩, (by show l.toArray.size = m; simpa using HL.out.trans HK.out), rfl, hst, hgr⟩
/-- Some text of at most 20001 bytes came back. -/
def SomeP (w : World) (e : Ending) (w' : World) : Prop := ∃ s : ByteArray, s.size ≤ 20001 ∧ e = .returned (.string s) ∧ Below w.heap.size w w'

set_option maxRecDepth 100000 in
set_option maxHeartbeats 800000 in
theorem drawHex (w : World) (A : Option Addr) (n cap : Nat) (hn : n ≤ 1048576) (hcode : Draw.Code w w.heap.size A n) :
    Calls Tryd.prog 9 #[.slice A n cap] w (SomeP w) := by
  have HC := Lib.hid hcode
  clear hcode
  go_enter Tryd.func9, Tryd.ntmps9
  go_wp2_with fail
  refine (newCur _ A n cap hn HC.out).mono ?_
  rintro e w1 ⟨rfl, hs1, hb1⟩
  go_wp2_with fail
  refine (once _ w.heap.size A n cap hs1 60 (by omega)).mono ?_
  rintro e w2 ⟨b, rfl, hs2, hg2⟩
  have hb2 := below_of hb1 hg2 (Nat.le_refl _)
  clear hs1 hg2 hb1
  cases b
  · go_wp2_with fail
    refine (below _ w.heap.size A n cap hs2 30 (by omega)).mono ?_
    rintro e w3 ⟨x, ⟨hx0, hx1⟩, rfl, hs3, hg3⟩
    have hb3 := below_of hb2 hg3 (Nat.le_refl _)
    obtain ⟨m, rfl⟩ := Int.eq_ofNat_of_zero_le hx0
    clear hs2 hg3 hb2
    go_wp2_with fail
    refine (text _ w.heap.size A n cap hs3 m (by omega)).mono ?_
    rintro e w4 ⟨s, hsz, rfl, hs4, hg4⟩
    have hb4 := below_of hb3 hg4 (Nat.le_refl _)
    have hs5 : s.size ≤ 20001 := by omega
    clear hsz
    go_wp2_with fail
    go_ret
    exact ⟨_, hs5, rfl, hb4⟩
  · go_wp2_with fail
    refine (below _ w.heap.size A n cap hs2 2 (by omega)).mono ?_
    rintro e w3 ⟨x, ⟨hx0, hx1⟩, rfl, hs3, hg3⟩
    have hb3 := below_of hb2 hg3 (Nat.le_refl _)
    obtain ⟨m, rfl⟩ := Int.eq_ofNat_of_zero_le hx0
    clear hs2 hg3 hb2
    go_wp2_with fail
    have hl := long w3 (20000 + m) (by omega) 200
    have e1 : (((20000 + m : Nat)) : Int) = 20000 + (m : Int) := by omega
    rw [e1] at hl
    clear e1
    have HL := Lib.hid hl
    clear hl
    refine HL.out.mono ?_
    rintro e w4 ⟨s, hsz, rfl, hb4⟩
    have hs5 : s.size ≤ 20001 := by omega
    clear hsz
    go_wp2_with fail
    go_ret
    exact ⟨_, hs5, rfl, hb3.trans (hb4.mono hb3.size)⟩
end Go.Proofs.YtipaagcnkflebaaDoor.DrawText
