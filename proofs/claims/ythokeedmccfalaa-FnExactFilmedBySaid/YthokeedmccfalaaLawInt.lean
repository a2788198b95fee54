/-
  The law's own helpers on slices of numbers and of points: they compare, they mark, they look whether the marks are held: as contracts over rows that the call itself made.
-/
import Derived.Test.YthokeedmccfalaaGround
import Derived.Test.YthokeedmccfalaaLawRoom
import Derived.Laws.OwnMore
import Derived.Lib.Hide
namespace Go.Proofs.Ythokeedmccfalaa.LawInt
open Go.RowKit Go.Lib Own Pts
open PointOk (ret_i64)

/-- n marks from k on. -/
def marks (k n : Nat) : List Value := (List.range n).map fun j => .int .i64 ((k + j : Nat) : Int)
theorem marks_length (k n : Nat) : (marks k n).length = n := by simp [marks]
theorem marks_at {k n j : Nat} (h : j < n) : (marks k n)[j]? = some (.int .i64 ((k + j : Nat) : Int)) := by simp [marks, h]
theorem marks_snoc (k n : Nat) : marks k (n + 1) = marks k n ++ [.int .i64 ((k + n : Nat) : Int)] := by simp [marks, List.range_succ]
/-- One more cell is marked. -/
theorem marks_set {k i n : Nat} {xs : List Value} (hx : xs.length = n) (hi : i < n) : (marks k i ++ xs.drop i).set i (.int .i64 ((k + i : Nat) : Int)) = marks k (i + 1) ++ xs.drop (i + 1) := by
  rw [List.set_append_right _ _ (by rw [marks_length]; omega), marks_length, Nat.sub_self, List.drop_eq_getElem_cons (by omega), List.set_cons_zero, marks_snoc, List.append_assoc]; rfl
theorem mark_cell {k i n : Nat} {xs : List Value} (hx : xs.length = n) (hi : i < n) : (marks k i ++ xs.drop i)[i]? = some xs[i] := by
  rw [List.getElem?_append_right (by rw [marks_length]; omega), marks_length, Nat.sub_self, List.drop_eq_getElem_cons (by omega)]; rfl
/-- A cell of a row whose elements take several cells. -/
theorem own_cellN {w : World} {b e sz n cap j : Nat} {A : Option Addr} {xs : List Value} {x : Value} (h : w.ownsRow b e sz (.slice A n cap) n xs) (h0 : 0 < n) (hj : j < xs.length) (hx : xs[j]? = some x) :
    ∃ g, A = some ⟨g, 0, none⟩ ∧ b ≤ g ∧ g < w.heap.size ∧ w.cell? ⟨g, j, none⟩ = some x ∧ w.frozen? ⟨g, j, none⟩ = false := by
  have hl := h.1
  rcases h.2 with ⟨h', h2⟩ | ⟨g, cap', cu, h', hb, hg, _, _, hs, ht⟩
  · omega
  · injection h' with h1 h2 h3
    subst h1
    refine ⟨g, rfl, hb, (Array.getElem?_eq_some_iff.1 hg).1, ?_, by simp [World.frozen?, hg]⟩
    have c0 := cell_of_row w g j _ _ _ hg
    rw [← ht, List.getElem?_take, if_pos (by omega), Array.getElem?_toList] at hx
    exact c0.trans hx
/-- A row of points as a slice of points in memory. -/
theorem own_pts {w : World} {b e n : Nat} {v : Value} {ps : List (Int × Int)} (h : w.ownsRow b e 2 v n (cellsP ps)) : ∃ A cap, v = .slice A n cap ∧ ps.length = n ∧ PtsAt w w.heap.size A ps := by
  obtain ⟨A, cap, rfl⟩ := own_shape h
  have hl := h.1
  rw [cellsP_length] at hl
  refine ⟨A, cap, rfl, by omega, fun j hj => ?_⟩
  obtain ⟨e0, e1⟩ := cellsP_at ps j hj
  obtain ⟨g, rfl, _, hg, c0, _⟩ := own_cellN h (by omega) (by rw [cellsP_length]; omega) e0
  obtain ⟨g2, e2, _, _, c1, _⟩ := own_cellN h (by omega) (by rw [cellsP_length]; omega) e1
  injection e2 with e2
  injection e2 with e2
  subst e2
  exact ⟨_, rfl, hg, by rw [add_head]; exact c0, by rw [add_head]; exact c1⟩

set_option maxRecDepth 100000 in
set_option maxHeartbeats 800000 in
theorem eqI (w : World) (b1 b2 n : Nat) (hn : n ≤ 1048576) (v1 v2 : Value) (l : List Int) (h1 : w.ownsRow b1 3 1 v1 n (icells l)) (h2 : w.ownsRow b2 3 1 v2 n (icells l)) :
    Calls Try.prog 42 #[v1, v2] w fun e w' => e = .returned (.bool true) ∧ ∃ k, w' = w.drewN k := by
  have hlen : l.length = n := by have := h1.1; rw [icells_length] at this; omega
  have HLen := Lib.hid hlen
  clear hlen
  obtain ⟨A1, c1, rfl⟩ := own_shape h1
  obtain ⟨A2, c2, rfl⟩ := own_shape h2
  have H1 := Lib.hid h1
  have H2 := Lib.hid h2
  clear h1 h2
  go_enter Try.func42, Try.ntmps42
  go_wp2_with fail
  go_loopw [5] (fun i wr => ∃ k q : Nat, k ≤ n ∧ i = .int .i64 k ∧ wr = w.drewN q) (fun i _ => n - (intOf i).toNat)
  case atStart => exact ⟨0, 0, Nat.zero_le _, rfl, rfl⟩
  case round =>
    obtain ⟨k, q, hk, rfl, rfl⟩ := hrel
    by_cases hlt : k < n
    · obtain ⟨g1, rfl, _, _, hc1, _⟩ := own_cell H1.out hlt (icells_at (by rw [HLen.out]; exact hlt))
      obtain ⟨g2, rfl, _, _, hc2, _⟩ := own_cell H2.out hlt (icells_at (by rw [HLen.out]; exact hlt))
      generalize (l[k]'(by rw [HLen.out]; exact hlt)) = S at hc1 hc2
      have hk0 : (0 : Int) ≤ (k : Int) := by omega
      have hk1 : (k : Int) < (n : Int) := by omega
      go_wp2_with fail
      go_quiet (fail)
      go_wp2_with fail
      go_roundw
      case rel => exact ⟨k + 1, _, by omega, by go_num, rfl⟩
      case measure => simp [intOf]; omega
    · go_wp2_with fail
      go_ret
      exact ⟨rfl, q, rfl⟩

/-- The row is marked; nothing else is written. -/
def MarkP (w : World) (b e sz : Nat) (v : Value) (k n : Nat) (en : Ending) (w' : World) : Prop :=
  en = .returned (.int .i64 ((k + n * sz : Nat) : Int)) ∧ w'.ownsRow b e sz v n (marks k (n * sz)) ∧ w.grownBy w' v.ownBlock

set_option maxRecDepth 100000 in
set_option maxHeartbeats 800000 in
theorem markI (w : World) (b n k : Nat) (hn : n ≤ 1048576) (hk : 0 < k) (hk2 : k ≤ 100000) (v : Value) (xs : List Value) (h1 : w.ownsRow b 3 1 v n xs) :
    Calls Try.prog 47 #[v, .int .i64 (k : Int)] w (MarkP w b 3 1 v k n) := by
  have hlen : xs.length = n := by have := h1.1; omega
  have HLen := Lib.hid hlen
  obtain ⟨A1, c1, rfl⟩ := own_shape h1
  have H1 := Lib.hid h1
  clear hlen h1
  go_enter Try.func47, Try.ntmps47
  go_wp2_with fail
  go_loopw [1, 5] (fun kk i wr => ∃ j m : Nat, j ≤ n ∧ i = .int .i64 j ∧ kk = .int .i64 (m : Int) ∧ Hid (m = k + j) ∧ Hid (wr.ownsRow b 3 1 (.slice A1 n c1) n (marks k j ++ xs.drop j)) ∧ Hid (w.grownBy wr (Value.slice A1 n c1).ownBlock)) (fun _ i _ => n - (intOf i).toNat)
  case atStart => exact ⟨0, k, Nat.zero_le _, rfl, rfl, Lib.hid rfl, Lib.hid H1.out, Lib.hid (World.grownBy.refl w _)⟩
  case round =>
    obtain ⟨j, m, hj, rfl, rfl, hm, hown, hgr⟩ := hrel
    by_cases hlt : j < n
    · have hm0 : 0 < m := by have := hm.out; omega
      have hm1 : m ≤ 2000000 := by have := hm.out; omega
      have ho2 := hown.out
      obtain ⟨g, hA, _, _, hc1, hf1⟩ := own_cell ho2 hlt (mark_cell HLen.out hlt)
      obtain rfl := hA
      have hst := ho2.stored j (.int .i64 (m : Int))
      rw [hm.out, marks_set HLen.out hlt, ← hm.out] at hst
      have hgr2 := grown_trans hgr.out hst.2
      have HS := Lib.hid hst.1
      have HG := Lib.hid hgr2
      clear ho2 hst hgr2
      generalize (xs[j]'(by rw [HLen.out]; exact hlt)) = x0 at hc1
      have hk0 : (0 : Int) ≤ (j : Int) := by omega
      have hk1 : (j : Int) < (n : Int) := by omega
      go_wp2_with fail
      go_roundw
      case rel => exact ⟨j + 1, m + 1, by omega, by go_num, by go_num, Lib.hid (by rw [hm.out]; omega), HS, HG⟩
      case measure => simp [intOf]; omega
    · have hjn : j = n := by omega
      have HF : Hid (wr.ownsRow b 3 1 (.slice A1 n c1) n (marks k (n * 1))) := Lib.hid (by have := hown.out; rw [hjn, List.drop_of_length_le (by rw [HLen.out]; exact Nat.le_refl _), List.append_nil] at this; rw [Nat.mul_one]; exact this)
      have HM : Hid ((k + n * 1 : Nat) = m) := Lib.hid (by rw [hm.out]; omega)
      clear hjn
      go_wp2_with fail
      go_ret
      exact ⟨ret_i64 (by rw [HM.out]), HF.out, hgr.out⟩

/-- All marks are held. -/
def HeldP (w : World) (k n : Nat) (e : Ending) (w' : World) : Prop := e = .returned (.int .i64 ((k + n : Nat) : Int)) ∧ Below w.heap.size w w'

set_option maxRecDepth 100000 in
set_option maxHeartbeats 1600000 in
theorem heldI (w : World) (b n k : Nat) (hn : n ≤ 1048576) (hk : 0 < k) (hk2 : k ≤ 100000) (v : Value) (h1 : w.ownsRow b 3 1 v n (marks k (n * 1))) :
    Calls Try.prog 48 #[v, .int .i64 (k : Int)] w (HeldP w k (n * 1)) := by
  rw [Nat.mul_one] at h1 ⊢
  obtain ⟨A1, c1, rfl⟩ := own_shape h1
  have H1 := Lib.hid h1
  clear h1
  go_enter Try.func48, Try.ntmps48
  go_wp2_with fail
  go_loopw [1, 5] (fun kk i wr => ∃ j m : Nat, j ≤ n ∧ i = .int .i64 j ∧ kk = .int .i64 (m : Int) ∧ Hid (m = k + j) ∧ Hid (Below w.heap.size w wr)) (fun _ i _ => n - (intOf i).toNat)
  case atStart => exact ⟨0, k, Nat.zero_le _, rfl, rfl, Lib.hid rfl, Lib.hid (Below.refl _ _)⟩
  case round =>
    obtain ⟨j, m, hj, rfl, rfl, hm, hbel⟩ := hrel
    by_cases hlt : j < n
    · have hm0 : 0 < m := by have := hm.out; omega
      have hm1 : m ≤ 2000000 := by have := hm.out; omega
      obtain ⟨g, hA, _, hgl, hc1, _⟩ := own_cell (own_below H1.out hbel.out) hlt (marks_at hlt)
      rw [← hm.out] at hc1
      obtain rfl := hA
      have hk0 : (0 : Int) ≤ (j : Int) := by omega
      have hk1 : (j : Int) < (n : Int) := by omega
      go_wp2_with fail
      go_roundw
      case rel => exact ⟨j + 1, m + 1, by omega, by go_num, by go_num, Lib.hid (by rw [hm.out]; omega), hbel⟩
      case measure => simp [intOf]; omega
    · have HM : Hid ((k + n : Nat) = m) := Lib.hid (by rw [hm.out]; omega)
      go_wp2_with fail
      go_ret
      exact ⟨ret_i64 (by rw [HM.out]), hbel.out⟩

set_option maxRecDepth 100000 in
set_option maxHeartbeats 1600000 in
theorem markP (w : World) (b n k : Nat) (hn : n ≤ 1048576) (hk : 0 < k) (hk2 : k ≤ 100000) (v : Value) (xs : List Value) (h1 : w.ownsRow b 49 2 v n xs) :
    Calls Try.prog 28 #[v, .int .i64 (k : Int)] w (MarkP w b 49 2 v k n) := by
  have hlen : xs.length = n * 2 := h1.1
  have HLen := Lib.hid hlen
  obtain ⟨A1, c1, rfl⟩ := own_shape h1
  have H1 := Lib.hid h1
  clear hlen h1
  go_enter Try.func28, Try.ntmps28
  go_wp2_with fail
  go_loopw [1, 5] (fun kk i wr => ∃ j m : Nat, j ≤ n ∧ i = .int .i64 j ∧ kk = .int .i64 (m : Int) ∧ Hid (m = k + j * 2) ∧ Hid (wr.ownsRow b 49 2 (.slice A1 n c1) n (marks k (j * 2) ++ xs.drop (j * 2))) ∧ Hid (w.grownBy wr (Value.slice A1 n c1).ownBlock)) (fun _ i _ => n - (intOf i).toNat)
  case atStart => exact ⟨0, k, Nat.zero_le _, rfl, rfl, Lib.hid rfl, Lib.hid H1.out, Lib.hid (World.grownBy.refl w _)⟩
  case round =>
    obtain ⟨j, m, hj, rfl, rfl, hm, hown, hgr⟩ := hrel
    by_cases hlt : j < n
    · have hm0 : 0 < m := by have := hm.out; omega
      have hm1 : m ≤ 4000000 := by have := hm.out; omega
      have ho2 := hown.out
      have hxl : (marks k (j * 2) ++ xs.drop (j * 2)).length = n * 2 := ho2.1
      obtain ⟨g, hA, _, _, hc1, hf1⟩ := own_cellN ho2 (by omega) (by rw [hxl]; omega) (mark_cell (n := n * 2) HLen.out (by omega))
      obtain rfl := hA
      have hst := ho2.stored (j * 2) (.int .i64 (m : Int))
      rw [hm.out, marks_set (n := n * 2) HLen.out (by omega), ← hm.out] at hst
      have ho3 := hst.1
      have hxl3 : (marks k (j * 2 + 1) ++ xs.drop (j * 2 + 1)).length = n * 2 := ho3.1
      obtain ⟨g3, hA3, _, _, hc3, hf3⟩ := own_cellN ho3 (by omega) (by rw [hxl3]; omega) (mark_cell (n := n * 2) HLen.out (by omega))
      injection hA3 with hA3
      injection hA3 with hA3
      subst hA3
      have hst2 := ho3.stored (j * 2 + 1) (.int .i64 ((m + 1 : Nat) : Int))
      rw [show m + 1 = k + (j * 2 + 1) by rw [hm.out]; omega, marks_set (n := n * 2) HLen.out (by omega), show k + (j * 2 + 1) = m + 1 by rw [hm.out]; omega] at hst2
      have HG := Lib.hid (grown_trans (grown_trans hgr.out hst.2) hst2.2)
      have HS := Lib.hid hst2.1
      obtain ⟨g4, hA4, _, _, hc4, hf4⟩ := own_cellN ho2 (by omega) (j := j * 2 + 1) (by rw [hxl]; omega) (x := xs[j * 2 + 1]'(by rw [HLen.out]; omega)) (by
        rw [List.getElem?_append_right (by rw [marks_length]; omega), marks_length, List.getElem?_drop, show j * 2 + (j * 2 + 1 - j * 2) = j * 2 + 1 by omega, List.getElem?_eq_getElem (by rw [HLen.out]; omega)])
      injection hA4 with hA4
      injection hA4 with hA4
      subst hA4
      clear ho2 ho3 hst hst2 hxl hxl3
      generalize (xs[j * 2]'(by rw [HLen.out]; omega)) = x0 at hc1
      generalize (xs[j * 2 + 1]'(by rw [HLen.out]; omega)) = x1 at hc3 hc4
      have hk0 : (0 : Int) ≤ (j : Int) := by omega
      have hk1 : (j : Int) < (n : Int) := by omega
      have hcast : ((m + 1 : Nat) : Int) = (m : Int) + 1 := by omega
      rw [hcast] at HS HG
      go_wp2_with fail
      go_roundw
      case rel => exact ⟨j + 1, m + 2, by omega, by go_num, by go_num, Lib.hid (by rw [hm.out]; omega), Lib.hid (by rw [show (j + 1) * 2 = j * 2 + 1 + 1 by omega]; exact HS.out), HG⟩
      case measure => simp [intOf]; omega
    · have hjn : j = n := by omega
      have HF : Hid (wr.ownsRow b 49 2 (.slice A1 n c1) n (marks k (n * 2))) := Lib.hid (by have := hown.out; rw [hjn, List.drop_of_length_le (by rw [HLen.out]; exact Nat.le_refl _), List.append_nil] at this; exact this)
      have HM : Hid ((k + n * 2 : Nat) = m) := Lib.hid (by rw [hm.out]; omega)
      clear hjn
      go_wp2_with fail
      go_ret
      exact ⟨ret_i64 (by rw [HM.out]), HF.out, hgr.out⟩

set_option maxRecDepth 100000 in
set_option maxHeartbeats 1600000 in
theorem heldPt (w : World) (b n k : Nat) (hn : n ≤ 1048576) (hk : 0 < k) (hk2 : k ≤ 100000) (v : Value) (h1 : w.ownsRow b 49 2 v n (marks k (n * 2))) :
    Calls Try.prog 29 #[v, .int .i64 (k : Int)] w (HeldP w k (n * 2)) := by
  obtain ⟨A1, c1, rfl⟩ := own_shape h1
  have H1 := Lib.hid h1
  clear h1
  go_enter Try.func29, Try.ntmps29
  go_wp2_with fail
  go_loopw [1, 5] (fun kk i wr => ∃ j m : Nat, j ≤ n ∧ i = .int .i64 j ∧ kk = .int .i64 (m : Int) ∧ Hid (m = k + j * 2) ∧ Hid (Below w.heap.size w wr)) (fun _ i _ => n - (intOf i).toNat)
  case atStart => exact ⟨0, k, Nat.zero_le _, rfl, rfl, Lib.hid rfl, Lib.hid (Below.refl _ _)⟩
  case round =>
    obtain ⟨j, m, hj, rfl, rfl, hm, hbel⟩ := hrel
    by_cases hlt : j < n
    · have hm0 : 0 < m := by have := hm.out; omega
      have hm1 : m ≤ 4000000 := by have := hm.out; omega
      have ho := own_below H1.out hbel.out
      obtain ⟨g, hA, _, hgl, hc1, _⟩ := own_cellN ho (by omega) (j := j * 2) (by rw [marks_length]; omega) (marks_at (by omega))
      obtain ⟨g2, hA2, _, _, hc2, _⟩ := own_cellN ho (by omega) (j := j * 2 + 1) (by rw [marks_length]; omega) (marks_at (by omega))
      rw [← hm.out] at hc1
      rw [show k + (j * 2 + 1) = m + 1 by rw [hm.out]; omega, show ((m + 1 : Nat) : Int) = (m : Int) + 1 by omega] at hc2
      rw [hA] at hA2
      injection hA2 with hA2
      injection hA2 with hA2
      subst hA2
      obtain rfl := hA
      have hk0 : (0 : Int) ≤ (j : Int) := by omega
      have hk1 : (j : Int) < (n : Int) := by omega
      clear ho
      go_wp2_with fail
      go_roundw
      case rel => exact ⟨j + 1, m + 2, by omega, by go_num, by go_num, Lib.hid (by rw [hm.out]; omega), hbel⟩
      case measure => simp [intOf]; omega
    · have HM : Hid ((k + n * 2 : Nat) = m) := Lib.hid (by rw [hm.out]; omega)
      go_wp2_with fail
      go_ret
      exact ⟨ret_i64 (by rw [HM.out]), hbel.out⟩
theorem eqIB (w : World) (b1 b2 n : Nat) (hn : n ≤ 1048576) (v1 v2 : Value) (l : List Int) (h1 : w.ownsRow b1 3 1 v1 n (icells l)) (h2 : w.ownsRow b2 3 1 v2 n (icells l)) :
    Calls Try.prog 42 #[v1, v2] w fun e w' => e = .returned (.bool true) ∧ Below w.heap.size w w' := by
  refine (eqI w b1 b2 n hn v1 v2 l h1 h2).mono ?_
  rintro e w' ⟨rfl, k, rfl⟩
  exact ⟨rfl, drewN_below k⟩
theorem eqPB (w : World) (b1 b2 n : Nat) (hn : n ≤ 1048576) (v1 v2 : Value) (ps : List (Int × Int)) (h1 : w.ownsRow b1 49 2 v1 n (cellsP ps)) (h2 : w.ownsRow b2 49 2 v2 n (cellsP ps)) :
    Calls Try.prog 27 #[v1, v2] w fun e w' => e = .returned (.bool true) ∧ Below w.heap.size w w' := by
  obtain ⟨A1, c1, rfl, hl, hp1⟩ := own_pts h1
  obtain ⟨A2, c2, rfl, _, hp2⟩ := own_pts h2
  exact LawRoom.eqPointS_same A1 A2 ps n c1 c2 w hl hn hp1 hp2

theorem own_of_row {w : World} {g n b : Nat} {T : TypeId} {ps : List (Int × Int)} (h : Row w g T ps) (hl : ps.length = n) (hn : n ≤ 1048576) (hb : b ≤ g) : w.ownsRow b T 2 (.slice (some ⟨g, 0, none⟩) n n) n (cellsP ps) :=
  ⟨by rw [cellsP_length, hl], .inr ⟨g, n, _, rfl, hb, h, Nat.le_refl _, by unfold maxLen; omega, by simp [cellsP_length, hl], List.take_of_length_le (by simp [cellsP_length, hl])⟩⟩

set_option maxRecDepth 100000 in
set_option maxHeartbeats 800000 in
theorem markRoom (w : World) (g n : Nat) (ps : List (Int × Int)) (hl : ps.length = n) (hn : n ≤ 1048576) (h : Row w g 49 ps) :
    Calls Try.prog 22 #[.agg #[.slice (some ⟨g, 0, none⟩) n n], .int .i64 1] w fun e w' => e = .returned (.int .i64 ((1 + n * 2 : Nat) : Int)) ∧ w.grownBy w' (some g) := by
  have hb1 := PointOk.below1 w (Obj.cells #[.slice (some ⟨g, 0, none⟩) n n] 37)
  have Q := markP (w.alloc (Obj.cells #[.slice (some ⟨g, 0, none⟩) n n] 37)) g n 1 hn (by omega) (by omega) _ _ (own_of_row (h.later hb1) hl hn (Nat.le_refl _))
  go_enter Try.func22, Try.ntmps22
  go_wp2_with fail
  refine Q.mono ?_
  rintro e w2 ⟨rfl, _, hg⟩
  have HG := Lib.hid (grown_trans (grown_of_below hb1 (some g)) hg)
  clear hg hb1
  go_wp2_with fail
  go_ret
  exact ⟨rfl, HG.out⟩
end Go.Proofs.Ythokeedmccfalaa.LawInt
