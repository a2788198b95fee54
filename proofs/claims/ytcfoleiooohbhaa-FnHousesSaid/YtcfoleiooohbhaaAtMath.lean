/-
  What the law on seals does besides: a byte of the code, an entry's row copied, as contracts.
-/
import Derived.Test.YtcfoleiooohbhaaDrawSeal
import Derived.Laws.IdiomStrings
import Derived.Lib.SlBytesConst
namespace Go.Proofs.Ytcfoleiooohbhaa.AtMath
open Go.RowKit Draw PointOk Blk TupISI

theorem code_later {w w' : World} {b : Nat} {A : Option Addr} {n : Nat} (hc : Draw.Code w b A n) (hb : Below b w w') : Draw.Code w' b A n := by
  intro j hj
  obtain ⟨ad, x, h1, h2, h3, h4, h5⟩ := hc j hj
  exact ⟨ad, x, h1, h2, h3, h4, (hb.cell (by rw [block_add]; exact h2)).trans h5⟩

set_option maxRecDepth 100000 in
set_option maxHeartbeats 800000 in
theorem at_ (A : Option Addr) (n cap b : Nat) (w : World) (hc : Draw.Code w b A n) (i : Nat) (hi : i ≤ 2) (hn : n ≤ 1048576) :
    Calls Try.prog 15 #[.slice A n cap, .int .i64 (i : Int)] w fun e w' => ∃ x : Int, (0 ≤ x ∧ x ≤ 255) ∧ e = .returned (.int .i64 x) ∧ w = w' := by
  by_cases h0 : n = 0
  · subst h0
    clear hc
    go_enter Try.func15, Try.ntmps15
    go_wp2_with fail
    go_ret
    exact ⟨0, by omega, rfl, rfl⟩
  have hm : (i * 5 + 1) % n < n := Nat.mod_lt _ (by omega)
  obtain ⟨ad, x, h1, h2, h3, h4, h5⟩ := hc _ hm
  subst h1
  have e1t : ((i : Int) * 5 + 1).tmod (n : Int) = (((i * 5 + 1) % n : Nat) : Int) := by rw [Int.tmod_eq_emod_of_nonneg (by omega), Int.natCast_emod]; rfl
  have e1 : ((i : Int) * 5 + 1) % (n : Int) = (((i * 5 + 1) % n : Nat) : Int) := by rw [Int.natCast_emod]; rfl
  generalize (i * 5 + 1) % n = m at *
  have hm1 : (m : Int) < (n : Int) := by omega
  have hm0 : (0 : Int) ≤ (m : Int) := by omega
  have hn0 : ¬ ((n : Int) = 0) := by omega
  have hn1 : ¬ (n = 0) := h0
  have hn2 : ((n : Int) == 0) = false := beq_eq_false_iff_ne.2 hn0
  have u1 : IntKind.i64.wrap ((i : Int) * 5) = (i : Int) * 5 := IntWalk.i64_in _ (by omega)
  have u2 : IntKind.i64.wrap ((i : Int) * 5 + 1) = (i : Int) * 5 + 1 := IntWalk.i64_in _ (by omega)
  have u3 : IntKind.i64.wrap x = x := IntWalk.i64_in _ (by omega)
  clear hc
  go_enter Try.func15, Try.ntmps15
  go_wp2_with fail
  go_ret
  exact ⟨x, ⟨h3, h4⟩, rfl, rfl⟩
theorem at0 (A : Option Addr) (n cap b : Nat) (w : World) (hc : Draw.Code w b A n) (hn : n ≤ 1048576) :
    Calls Try.prog 15 #[.slice A n cap, .int .i64 0] w fun e w' => ∃ x : Int, (0 ≤ x ∧ x ≤ 255) ∧ e = .returned (.int .i64 x) ∧ w = w' := at_ A n cap b w hc 0 (by omega) hn
theorem at1 (A : Option Addr) (n cap b : Nat) (w : World) (hc : Draw.Code w b A n) (hn : n ≤ 1048576) :
    Calls Try.prog 15 #[.slice A n cap, .int .i64 1] w fun e w' => ∃ x : Int, (0 ≤ x ∧ x ≤ 255) ∧ e = .returned (.int .i64 x) ∧ w = w' := at_ A n cap b w hc 1 (by omega) hn
theorem at2 (A : Option Addr) (n cap b : Nat) (w : World) (hc : Draw.Code w b A n) (hn : n ≤ 1048576) :
    Calls Try.prog 15 #[.slice A n cap, .int .i64 2] w fun e w' => ∃ x : Int, (0 ≤ x ∧ x ≤ 255) ∧ e = .returned (.int .i64 x) ∧ w = w' := at_ A n cap b w hc 2 (by omega) hn

/-- The cells of a text's bytes. -/
def byteV (l : List UInt8) : List Value := l.map fun b => .int .u8 (b.toNat : Int)
/-- An entry's text is stored into a row of the call's own. -/
theorem set_text {l : List Tu} {k : Nat} (hk : k < l.length) (t : ByteArray) : (cellsT l).set (k * 3 + 1) (.string t) = cellsT (l.set k ((tt l k).1, t, (tt l k).2.2)) := by
  rw [← cellsT_set]
  obtain ⟨c0, c1, c2⟩ := cellsT_at l k hk
  have et : l[k] = tt l k := by have := tt_at (ps := l) (k := k) hk; rw [List.getElem?_eq_getElem hk] at this; injection this
  rw [et] at c0 c2
  apply List.ext_getElem?
  intro j
  have hlen : (cellsT l).length = l.length * 3 := cellsT_length l
  rw [List.getElem?_set, List.getElem?_set, List.getElem?_set, List.getElem?_set]
  simp only [List.length_set]
  by_cases h1 : j = k * 3 + 2
  · subst h1
    rw [if_neg (by omega), if_pos rfl, if_pos (by omega)]
    exact c2
  · rw [if_neg (c := k * 3 + 2 = j) (by omega)]
    by_cases h2 : j = k * 3 + 1
    · subst h2; simp
    · rw [if_neg (by omega), if_neg (by omega)]
      by_cases h3 : j = k * 3
      · subst h3
        rw [if_pos rfl, if_pos (by omega)]
        exact c0
      · rw [if_neg (by omega)]
/-- An entry's seal is stored. -/
theorem set_seal {l : List Tu} {k : Nat} (hk : k < l.length) (z : Int) : (cellsT l).set (k * 3 + 2) (.int .i64 z) = cellsT (l.set k ((tt l k).1, (tt l k).2.1, z)) := by
  rw [← cellsT_set]
  obtain ⟨c0, c1, c2⟩ := cellsT_at l k hk
  have et : l[k] = tt l k := by have := tt_at (ps := l) (k := k) hk; rw [List.getElem?_eq_getElem hk] at this; injection this
  rw [et] at c0 c1
  apply List.ext_getElem?
  intro j
  have hlen : (cellsT l).length = l.length * 3 := cellsT_length l
  rw [List.getElem?_set, List.getElem?_set, List.getElem?_set, List.getElem?_set]
  simp only [List.length_set]
  by_cases h1 : j = k * 3 + 2
  · subst h1; simp
  · rw [if_neg (by omega), if_neg (by omega)]
    by_cases h2 : j = k * 3 + 1
    · subst h2
      rw [if_pos rfl, if_pos (by omega)]
      exact c1
    · rw [if_neg (by omega)]
      by_cases h3 : j = k * 3
      · subst h3
        rw [if_pos rfl, if_pos (by omega)]
        exact c0
      · rw [if_neg (by omega)]
theorem frozen_later {w w' : World} {g j : Nat} (h : Below w.heap.size w w') (hg : g < w.heap.size) (hf : w.frozen? ⟨g, j, none⟩ = false) : w'.frozen? ⟨g, j, none⟩ = false := by
  unfold World.frozen? at hf ⊢
  rw [show w'.heap[g]? = w.heap[g]? from h.block g hg]
  exact hf
theorem frozen_far {w w' : World} {g j : Nat} {row : Option Nat} (h : w.grownBy w' row) (hg : g < w.heap.size) (hne : some g ≠ row) (hf : w.frozen? ⟨g, j, none⟩ = false) : w'.frozen? ⟨g, j, none⟩ = false := by
  unfold World.frozen? at hf ⊢
  rw [show w'.heap[g]? = w.heap[g]? from h.block g hg hne]
  exact hf
theorem bytes_size (t : ByteArray) (G : Nat) : t.size ≤ (bytesRow t G).size := by
  unfold bytesRow; simp
theorem bytes_at (t : ByteArray) (G : Nat) {i : Nat} (hi : i < t.data.toList.length) : (bytesRow t G)[i]? = some (.int .u8 ((t.data.toList[i]).toNat : Int)) := by
  unfold bytesRow
  rw [Array.length_toList] at hi
  rw [Array.getElem?_append_left (by simpa using hi)]
  rw [Array.getElem?_map, Array.getElem?_eq_getElem hi]
  simp
theorem bytes_free (w : World) (t : ByteArray) (G : Nat) (j : Nat) (hj : j < t.size) : (w.alloc (.cells (bytesRow t G) 5 ((bytesRow t G).size, (bytesRow t G).size + 1))).frozen? ⟨w.heap.size, j, none⟩ = false := by
  have h := bytes_size t G
  have : (w.alloc (.cells (bytesRow t G) 5 ((bytesRow t G).size, (bytesRow t G).size + 1))).heap[w.heap.size]? = some (.cells (bytesRow t G) 5 ((bytesRow t G).size, (bytesRow t G).size + 1)) := by
    show (w.heap.push _)[w.heap.size]? = _
    simp
  unfold World.frozen?
  rw [show (⟨w.heap.size, j, none⟩ : Addr).block = w.heap.size from rfl, this]
  show (decide ((bytesRow t G).size ≤ j) && decide (j < (bytesRow t G).size + 1)) = false
  have h1 : decide ((bytesRow t G).size ≤ j) = false := decide_eq_false (by omega)
  rw [h1]; rfl
theorem byte_wrap (b : UInt8) : IntKind.u8.wrap ((b.toNat : Int) + 1) = ((b + 1).toNat : Int) := by
  have h := b.toNat_lt
  rw [UInt8.toNat_add]
  simp [IntKind.wrap, IntKind.signed, IntKind.bits]
theorem back_set (w : World) (gb : Nat) (t : ByteArray) (G i : Nat) (b : UInt8) (_hi : i < t.data.toList.length) (hcb : ∀ j, w.cell? ⟨gb, j, none⟩ = (bytesRow t G)[j]?) {v : Value} (hc : w.cell? ⟨gb, i, none⟩ = some v) :
    (convert 22 9 (.slice (some ⟨gb, 0, none⟩) t.size G)).run Try.prog (w.setCell ⟨gb, i, none⟩ (.int .u8 (b.toNat : Int))) = .ok (.string ⟨(t.data.toList.set i b).toArray⟩) (w.setCell ⟨gb, i, none⟩ (.int .u8 (b.toNat : Int))) := by
  have hl : (t.data.toList.set i b).length = t.size := by rw [List.length_set, Array.length_toList]; rfl
  have := run_convert_bytes_back (P := Try.prog) (w.setCell ⟨gb, i, none⟩ (.int .u8 (b.toNat : Int))) 22 9 5 ⟨gb, 0, none⟩ G (t.data.toList.set i b) Try.underlying22 Try.underlying5 Try.underlying9 (fun j hj => by
    rw [Pts.add_head]
    by_cases h : i = j
    · subst h
      rw [World.cell?_setCell_same _ _ _ hc, List.getElem_set_self]
    · rw [World.cell?_setCell_other _ _ _ _ (fun e => by injection e with _ e _; exact h e), hcb, List.getElem_set_ne h]
      exact bytes_at t G (by rw [List.length_set] at hj; exact hj))
  rw [hl] at this
  exact this
end Go.Proofs.Ytcfoleiooohbhaa.AtMath
