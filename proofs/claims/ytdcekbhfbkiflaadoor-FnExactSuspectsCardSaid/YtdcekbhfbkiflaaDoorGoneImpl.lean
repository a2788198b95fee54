/-
  What lookFor, missingIn, FirstMissed and IsMissing do as they landed, as contracts: what they answer; new memory alone is written. errors.As by AsErr.
-/
import Derived.Test.YtdcekbhfbkiflaaDoorGoneMath
import Derived.Test.YtdcekbhfbkiflaaDoorStockImpl
import Derived.Test.YtdcekbhfbkiflaaDoorAsErr
import Derived.Test.YtdcekbhfbkiflaaDoorGround
namespace Go.Proofs.YtdcekbhfbkiflaaDoor.GoneImpl
open Go.RowKit StockMath GoneMath TupIIB Blk
open PointOk (ret_bool ret_i64 below1 below2 below3)

/-- What lookFor hands back. -/
def lookV (s m : Int) : Value := if m < 0 then .nilIface else .iface 74 (.agg #[.int .i64 s, .int .i64 m])
theorem look_neg (s m : Int) (h : m < 0) : lookV s m = .nilIface := if_pos h
theorem look_pos (s m : Int) (h : ¬ m < 0) : lookV s m = .iface 74 (.agg #[.int .i64 s, .int .i64 m]) := if_neg h
/-- The library's variable, as the row lists it. -/
def Laid (w : World) : Prop := w.cell? ⟨1, 0, none⟩ = some (.iface 142 (.agg #[.pointer (some ⟨2, 92, none⟩)]))
theorem Laid.later {w w' : World} (h : Laid w) (hb : Below w.heap.size w w') : Laid w' := by
  have hlt : 1 < w.heap.size := by
    rcases Nat.lt_or_ge 1 w.heap.size with h' | h'
    · exact h'
    · simp [Laid, World.cell?, Array.getElem?_eq_none h'] at h
  unfold Laid at *
  rw [World.cell?_of_block (a := ⟨1, 0, none⟩) (hb.block 1 hlt)]
  exact h

set_option maxRecDepth 100000 in
set_option maxHeartbeats 6400000 in
theorem lookFor (A : Option Addr) (n cap : Nat) (o : Int) (w : World) (ps : List Tu) (hl : ps.length = n) (hn : n ≤ 1048576) (hp : TsAt w w.heap.size A ps) :
    Calls Tryd.prog 72 #[.slice A n cap, .int .i64 o] w fun e w' => e = .returned (lookV (seenI ps o) (missI ps o)) ∧ Below w.heap.size w w' := by
  obtain ⟨r, hr⟩ : ∃ r, missI ps o = r := ⟨_, rfl⟩
  have HR := Lib.hid hr
  rw [hr]
  clear hr
  have HE : Hid (missTo ps o (seenI ps o) n = r) := Lib.hid (by rw [← HR.out, ← hl]; rfl)
  clear HR
  have QL : Hid (∀ w hp, _) := Lib.hid fun w hp => StockImpl.lastSeen A n cap o w ps hl hn hp
  generalize seenI ps o = s at *
  go_enter Tryd.func72, Tryd.ntmps72
  go_wp2_with fail
  have HO : ∀ W W' : World, (TsAt W w.heap.size A ps ∧ Below w.heap.size w W) → Below W.heap.size W W' → (TsAt W' w.heap.size A ps ∧ Below w.heap.size w W') := fun W W' ⟨x0, hb⟩ h => ⟨x0.later (h.mono hb.size), hb.trans (h.mono hb.size)⟩
  have S0 : TsAt w w.heap.size A ps ∧ Below w.heap.size w w := ⟨hp, Below.refl _ _⟩
  refine (QL.out _ hp).mono ?_
  rintro e w1 ⟨rfl, hb_⟩
  replace S0 := HO _ _ S0 hb_
  clear hb_ QL hp HO
  go_wp2_with fail
  go_loopw [6, 15] (fun v q wr => ∃ k : Nat, k ≤ n ∧ q = .int .i64 k ∧ v = .int .i64 (missTo ps o s k) ∧ (TsAt wr w.heap.size A ps ∧ Below w.heap.size w wr))
    (fun _ q _ => n - (intOf q).toNat)
  case atStart => exact ⟨0, Nat.zero_le _, rfl, rfl, S0⟩
  case round =>
    clear S0
    obtain ⟨k, hkn, rfl, rfl, S0⟩ := hrel
    by_cases hlt : k < n
    rotate_left
    · obtain rfl : n = k := by omega
      rw [HE.out]
      obtain ⟨_, _⟩ := id S0
      clear hl HE
      by_cases hr0 : r < 0
      · go_wp2_with fail
        go_ret
        exact ⟨by rw [look_neg _ _ hr0]; rfl, S0.2⟩
      · go_wp2_with fail
        go_ret
        exact ⟨by rw [look_pos _ _ (by omega)]; rfl, S0.2⟩
    have hk1 : (k : Int) < (n : Int) := by omega
    have hk0 : (0 : Int) ≤ (k : Int) := by omega
    have HN := Lib.hid (show missTo ps o s (k + 1) = if (tt ps k).2.1 = o ∧ (tt ps k).2.2 = false ∧ s < (tt ps k).1 ∧ (missTo ps o s k < 0 ∨ (tt ps k).1 < missTo ps o s k) then (tt ps k).1 else missTo ps o s k from rfl)
    have p0 := tt_at (ps := ps) (k := k) (by omega)
    obtain ⟨a, b, c, hg⟩ : ∃ a b c, tt ps k = (a, b, c) := ⟨_, _, _, rfl⟩
    rw [hg] at p0 HN
    dsimp only at HN
    generalize missTo ps o s k = v at *
    obtain ⟨bd, eB, bB, pB⟩ := S0.1.get p0
    subst eB
    have HO : ∀ W W' : World, (TsAt W w.heap.size (some bd) ps ∧ TAt W bd k a b c ∧ Below w.heap.size w W) → Below W.heap.size W W' → (TsAt W' w.heap.size (some bd) ps ∧ TAt W' bd k a b c ∧ Below w.heap.size w W') := fun W W' ⟨x0, x1, hb⟩ h => ⟨x0.later (h.mono hb.size), x1.later bB (h.mono hb.size), hb.trans (h.mono hb.size)⟩
    replace S0 : TsAt wr w.heap.size (some bd) ps ∧ TAt wr bd k a b c ∧ Below w.heap.size w wr := ⟨S0.1, pB, S0.2⟩
    clear pB p0 hg hl HE
    obtain ⟨_, ⟨_, _, _⟩, _⟩ := id S0
    have b1_ := below1 wr (Obj.cells #[.int .i64 a, .int .i64 b, .bool c] 70)
    have S2 := HO _ _ S0 b1_
    have X3 := box1 wr a b c 70 (k := wr.heap.size) rfl
    obtain ⟨_, ⟨_, _, _⟩, _⟩ := id S2
    obtain ⟨_, _, _⟩ := id X3
    clear b1_ S0 X3
    by_cases h1 : b = o
    rotate_left
    · have h1b : (b == o) = false := by simpa using h1
      have HN2 : Hid (missTo ps o s (k + 1) = v) := Lib.hid (by rw [HN.out]; exact if_neg (fun h => h1 h.1))
      clear HN
      go_wp2_with fail
      first
        | exact ⟨⟨k + 1, by omega, by go_num, by rw [HN2.out], S2.1, S2.2.2⟩, by simp [intOf]; omega⟩
        | (go_roundw <;> first | exact ⟨k + 1, by omega, by go_num, by rw [HN2.out], S2.1, S2.2.2⟩ | (simp [intOf]; omega))
    replace h1 := h1.symm
    subst h1
    cases c
    rotate_left
    · have HN2 : Hid (missTo ps o s (k + 1) = v) := Lib.hid (by rw [HN.out]; exact if_neg (fun h => by simp at h))
      clear HN
      go_wp2_with fail
      first
        | exact ⟨⟨k + 1, by omega, by go_num, by rw [HN2.out], S2.1, S2.2.2⟩, by simp [intOf]; omega⟩
        | (go_roundw <;> first | exact ⟨k + 1, by omega, by go_num, by rw [HN2.out], S2.1, S2.2.2⟩ | (simp [intOf]; omega))
    by_cases h3 : s < a
    rotate_left
    · have HN2 : Hid (missTo ps o s (k + 1) = v) := Lib.hid (by rw [HN.out]; exact if_neg (fun h => h3 h.2.2.1))
      clear HN
      go_wp2_with fail
      first
        | exact ⟨⟨k + 1, by omega, by go_num, by rw [HN2.out], S2.1, S2.2.2⟩, by simp [intOf]; omega⟩
        | (go_roundw <;> first | exact ⟨k + 1, by omega, by go_num, by rw [HN2.out], S2.1, S2.2.2⟩ | (simp [intOf]; omega))
    by_cases h4 : v < 0
    · have HN2 : Hid (missTo ps o s (k + 1) = a) := Lib.hid (by rw [HN.out]; exact if_pos ⟨rfl, rfl, h3, .inl h4⟩)
      clear HN
      go_wp2_with fail
      first
        | exact ⟨⟨k + 1, by omega, by go_num, by rw [HN2.out], S2.1, S2.2.2⟩, by simp [intOf]; omega⟩
        | (go_roundw <;> first | exact ⟨k + 1, by omega, by go_num, by rw [HN2.out], S2.1, S2.2.2⟩ | (simp [intOf]; omega))
    by_cases h5 : a < v
    · have HN2 : Hid (missTo ps o s (k + 1) = a) := Lib.hid (by rw [HN.out]; exact if_pos ⟨rfl, rfl, h3, .inr h5⟩)
      clear HN
      go_wp2_with fail
      first
        | exact ⟨⟨k + 1, by omega, by go_num, by rw [HN2.out], S2.1, S2.2.2⟩, by simp [intOf]; omega⟩
        | (go_roundw <;> first | exact ⟨k + 1, by omega, by go_num, by rw [HN2.out], S2.1, S2.2.2⟩ | (simp [intOf]; omega))
    · have HN2 : Hid (missTo ps o s (k + 1) = v) := Lib.hid (by rw [HN.out]; exact if_neg (fun h => h.2.2.2.elim h4 h5))
      clear HN
      go_wp2_with fail
      first
        | exact ⟨⟨k + 1, by omega, by go_num, by rw [HN2.out], S2.1, S2.2.2⟩, by simp [intOf]; omega⟩
        | (go_roundw <;> first | exact ⟨k + 1, by omega, by go_num, by rw [HN2.out], S2.1, S2.2.2⟩ | (simp [intOf]; omega))

/-- errors.As, of an own variable: it is set, or nothing turns. -/
theorem as_own (s m : Int) (b : Nat) (w : World) (hg : Laid w) (tb : Nat) (x y : Int) (ht : Holds w tb #[.int .i64 x, .int .i64 y] 74) (hb : b ≤ tb) :
    Calls Tryd.prog 71 #[lookV s m, .iface 102 (.pointer (some ⟨tb, 0, none⟩))] w fun e w' => e = .returned (.bool (decide (0 ≤ m))) ∧ Below b w w' ∧
      Holds w' tb #[.int .i64 (if m < 0 then x else s), .int .i64 (if m < 0 then y else m)] 74 ∧ (∀ g, g < w.heap.size → g ≠ tb → w'.heap[g]? = w.heap[g]?) := by
  by_cases hm : m < 0
  · rw [look_neg _ _ hm]
    refine (AsErr.as_nil _ w).mono ?_
    rintro e w' ⟨rfl, rfl⟩
    rw [if_pos hm, if_pos hm]
    exact ⟨ret_bool (by simp; omega), Below.refl _ _, ht, fun _ _ _ => rfl⟩
  · rw [look_pos _ _ hm]
    obtain ⟨⟨c0, c1⟩, f0, f1⟩ := ht.two
    refine (AsErr.as_hit s m tb _ _ w hg c0 c1 f0 f1).mono ?_
    rintro e w' ⟨rfl, rfl⟩
    rw [if_neg hm, if_neg hm]
    have hlt := ht.lt
    dsimp only
    generalize hA : (Obj.cells _ _) = o1
    generalize hB : (Obj.cells _ _) = o2
    generalize hC : (Obj.cells _ _) = o3
    have k1 : Holds (((((w.alloc o1).alloc o2).alloc o2).alloc o3)) tb #[.int .i64 x, .int .i64 y] 74 := (((ht.alloc _).alloc _).alloc _).alloc _
    have q1 := set_own k1 0 (.int .i64 s)
    have q2 := set_own q1 1 (.int .i64 m)
    refine ⟨ret_bool (by simp; omega), ?_, ?_, ?_⟩
    · exact ((((((Below.refl b w).alloc (by omega) _).alloc (by simp; omega) _).alloc (by simp; omega) _).alloc (by simp; omega) _).setCell (p := ⟨tb, 0, none⟩) hb _).setCell (p := ⟨tb, 1, none⟩) hb _
    · unfold Holds
      rw [q2]
      simp
    · intro g hg1 hg2
      rw [Below.heap_setCell _ ⟨tb, 1, none⟩ _ _ hg2, Below.heap_setCell _ ⟨tb, 0, none⟩ _ _ hg2, Below.heap_alloc _ _ _ (by simp; omega), Below.heap_alloc _ _ _ (by simp; omega), Below.heap_alloc _ _ _ (by simp; omega), Below.heap_alloc _ _ _ (by omega)]

set_option maxRecDepth 100000 in
set_option maxHeartbeats 6400000 in
theorem missingIn (A : Option Addr) (n cap : Nat) (o : Int) (w : World) (ps : List Tu) (hl : ps.length = n) (hn : n ≤ 1048576) (hp : TsAt w w.heap.size A ps) (hg : Laid w) :
    Calls Tryd.prog 47 #[.slice A n cap, .int .i64 o] w fun e w' => ∃ x y : Int, e = .returned (.tuple #[.agg #[.int .i64 x, .int .i64 y], .bool (missingB ps o)]) ∧ (missingB ps o = true → x = seenI ps o ∧ y = missI ps o) ∧ Below w.heap.size w w' := by
  have HE : Hid (missingB ps o = decide (0 ≤ missI ps o)) := Lib.hid (by
    have := missI_ge ps o
    unfold missingB
    by_cases h : 0 ≤ missI ps o
    · simp [h]; omega
    · simp [h]; omega)
  have QL : Hid (∀ w hp, _) := Lib.hid fun w hp => lookFor A n cap o w ps hl hn hp
  generalize missI ps o = m at *
  generalize seenI ps o = s at *
  generalize missingB ps o = r at *
  go_enter Tryd.func47, Tryd.ntmps47
  go_wp2_with fail
  have b1 := below2 w (Obj.cells #[.int .i64 0, .int .i64 0] 74) (Obj.cells #[.int .i64 0, .int .i64 0] 74)
  have X1 : Holds ((w.alloc (Obj.cells #[.int .i64 0, .int .i64 0] 74)).alloc (Obj.cells #[.int .i64 0, .int .i64 0] 74)) w.heap.size #[.int .i64 0, .int .i64 0] 74 := (Holds.new w _ _).alloc _
  have X2 : Holds ((w.alloc (Obj.cells #[.int .i64 0, .int .i64 0] 74)).alloc (Obj.cells #[.int .i64 0, .int .i64 0] 74)) (w.heap.size + 1) #[.int .i64 0, .int .i64 0] 74 := Holds.box _ _ _ (by simp)
  generalize (w.alloc (Obj.cells #[.int .i64 0, .int .i64 0] 74)).alloc (Obj.cells #[.int .i64 0, .int .i64 0] 74) = w0 at X1 X2 b1 ⊢
  replace hg := hg.later b1
  refine (QL.out _ ((hp.later b1).wide b1.size)).mono ?_
  rintro e w1 ⟨rfl, hb_⟩
  replace X1 := X1.later hb_
  replace X2 := X2.later hb_
  replace hg := hg.later hb_
  replace b1 := b1.trans (hb_.mono b1.size)
  clear hb_ QL hp
  have QA := Lib.hid (as_own s m w.heap.size w1 hg (w.heap.size + 1) 0 0 X2 (by omega))
  generalize lookV s m = u at *
  go_wp2_with fail
  refine QA.out.mono ?_
  rintro e w2 ⟨rfl, hb_, Y2, hk⟩
  have Y1 : Holds w2 w.heap.size #[.int .i64 0, .int .i64 0] 74 := (hk w.heap.size X1.lt (by omega)).trans X1
  replace b1 := b1.trans hb_
  clear hb_ hk X1 X2 QA
  obtain ⟨x, hx⟩ : ∃ x : Int, (if m < 0 then 0 else s) = x := ⟨_, rfl⟩
  obtain ⟨y, hy⟩ : ∃ y : Int, (if m < 0 then 0 else m) = y := ⟨_, rfl⟩
  rw [hx, hy] at Y2
  have HX : Hid (r = true → x = s ∧ y = m) := Lib.hid (by
    intro h
    rw [HE.out] at h
    have h' := of_decide_eq_true h
    exact ⟨by rw [← hx, if_neg (by omega)], by rw [← hy, if_neg (by omega)]⟩)
  clear hx hy
  have HE2 : Hid (decide (0 ≤ m) = r) := Lib.hid HE.out.symm
  rw [HE2.out]
  clear HE HE2
  obtain ⟨⟨_, _⟩, _, _⟩ := Y1.two
  obtain ⟨⟨_, _⟩, _, _⟩ := Y2.two
  have HB2 : ((w2.setCell ⟨w.heap.size, 0, none⟩ (.int .i64 x)).setCell ⟨w.heap.size, 1, none⟩ (.int .i64 y)).heap[w.heap.size]? = some (.cells #[.int .i64 x, .int .i64 y] 74 (0, 0)) := by
    have q2 := set_own (set_own Y1 0 (.int .i64 x)) 1 (.int .i64 y)
    rw [q2]
    simp
  have hld := run_loadVar_row _ _ 74 74 _ (0, 0) _ HB2 Tryd.underlying74 rfl (by kernel_rfl)
  go_wp2_with fail
  try simp only [Exit.inBlock, Exit.then]
  refine bodyPost_ret (v := .tuple #[.agg #[.int .i64 x, .int .i64 y], .bool r]) ?_ rfl ⟨x, y, rfl, HX.out, (b1.setCell (p := ⟨w.heap.size, 0, none⟩) (Nat.le_refl _) _).setCell (p := ⟨w.heap.size, 1, none⟩) (Nat.le_refl _) _⟩
  rw [results_cell_tmp rfl]
  simp [asAddr, Result.andThen, hld]

set_option maxRecDepth 100000 in
set_option maxHeartbeats 6400000 in
theorem firstMissed (A : Option Addr) (n cap : Nat) (o : Int) (w : World) (ps : List Tu) (hl : ps.length = n) (hn : n ≤ 1048576) (hp : TsAt w w.heap.size A ps) (hg : Laid w) :
    Calls Tryd.prog 13 #[.slice A n cap, .int .i64 o] w fun e w' => e = .returned (.int .i64 (missI ps o)) ∧ Below w.heap.size w w' := by
  have Q := Lib.hid (missingIn A n cap o w ps hl hn hp hg)
  have HE : Hid (missingB ps o = decide (missI ps o ≠ -1)) := Lib.hid rfl
  generalize missI ps o = m at *
  generalize missingB ps o = r at *
  go_enter Tryd.func13, Tryd.ntmps13
  go_wp2_with fail
  refine Q.out.mono ?_
  rintro e w1 ⟨x, y, rfl, hxy, hb_⟩
  clear Q hp hg
  cases r
  · have hm : m = -1 := by have := HE.out; simp at this; exact this
    subst hm
    go_wp2_with fail
    go_ret
    exact ⟨rfl, hb_.alloc hb_.size _⟩
  · obtain ⟨rfl, rfl⟩ := hxy rfl
    go_wp2_with fail
    go_ret
    exact ⟨rfl, hb_.alloc hb_.size _⟩

set_option maxRecDepth 100000 in
set_option maxHeartbeats 6400000 in
theorem isMissing (A : Option Addr) (n cap : Nat) (o : Int) (w : World) (ps : List Tu) (hl : ps.length = n) (hn : n ≤ 1048576) (hp : TsAt w w.heap.size A ps) (hg : Laid w) :
    Calls Tryd.prog 16 #[.slice A n cap, .int .i64 o] w fun e w' => e = .returned (.bool (missingB ps o)) ∧ Below w.heap.size w w' := by
  have Q := Lib.hid (missingIn A n cap o w ps hl hn hp hg)
  generalize missingB ps o = r at *
  go_enter Tryd.func16, Tryd.ntmps16
  go_wp2_with fail
  refine Q.out.mono ?_
  rintro e w1 ⟨x, y, rfl, _, hb_⟩
  clear Q hp hg
  go_wp2_with fail
  go_ret
  exact ⟨rfl, hb_.alloc hb_.size _⟩
end Go.Proofs.YtdcekbhfbkiflaaDoor.GoneImpl
