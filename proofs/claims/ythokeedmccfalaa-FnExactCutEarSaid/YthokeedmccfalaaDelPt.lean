/-
  slices.Delete on a row of points of the call's own: one point is taken out.
-/
import Derived.Test.YthokeedmccfalaaRoomRes
import Derived.Test.YthokeedmccfalaaLawInt
import Derived.Shelf.RegionOpenPlain
import Derived.Deep.RegionLaw
import Derived.Lib.SliceRun
import Derived.Laws.OwnMore
namespace Go.Proofs.Ythokeedmccfalaa.DelPt
open Go.RowKit Own PointOk Pts Blk RoomRes

def setL : List Value → Nat → List Value → List Value
  | xs, _, [] => xs
  | xs, o, v :: r => setL (xs.set o v) (o + 1) r
theorem setL_len : ∀ (vs : List Value) (xs : List Value) (o : Nat), (setL xs o vs).length = xs.length
  | [], _, _ => rfl
  | v :: r, xs, o => by rw [setL, setL_len r]; simp
theorem setL_get : ∀ (vs : List Value) (xs : List Value) (o j : Nat), o + vs.length ≤ xs.length → (setL xs o vs)[j]? = if o ≤ j ∧ j < o + vs.length then vs[j - o]? else xs[j]?
  | [], xs, o, j, _ => by rw [setL, if_neg (by simp)]
  | v :: r, xs, o, j, h => by
    simp at h
    rw [setL, setL_get r _ _ _ (by simp; omega)]
    by_cases h1 : j = o
    · subst h1
      rw [if_neg (by omega), if_pos (by simp), Nat.sub_self, List.getElem?_cons_zero, List.getElem?_set_self (by omega)]
    · by_cases h2 : o + 1 ≤ j ∧ j < o + 1 + r.length
      · rw [if_pos h2, if_pos (by simp; omega)]
        obtain ⟨d, hd⟩ : ∃ d, j = o + 1 + d := ⟨j - (o + 1), by omega⟩
        subst hd
        rw [show o + 1 + d - (o + 1) = d by omega, show o + 1 + d - o = d + 1 by omega, List.getElem?_cons_succ]
      · rw [if_neg h2, if_neg (by simp; omega), List.getElem?_set_ne (by omega)]
theorem stored_list {b e size n cap g : Nat} : ∀ (vs : List Value) (o : Nat) (w : World) (xs : List Value), w.ownsRow b e size (.slice (some ⟨g, 0, none⟩) n cap) n xs →
    (w.setCells g o vs).ownsRow b e size (.slice (some ⟨g, 0, none⟩) n cap) n (setL xs o vs) ∧ w.grownBy (w.setCells g o vs) (some g)
  | [], _, w, _, h => ⟨h, World.grownBy.refl w _⟩
  | v :: r, o, w, xs, h => by
    have h1 := h.stored o v
    have h2 := stored_list r (o + 1) _ _ h1.1
    exact ⟨h2.1, grown_trans h1.2 h2.2⟩
theorem own_shrink {w : World} {b e size n m cap g : Nat} {xs : List Value} (h : w.ownsRow b e size (.slice (some ⟨g, 0, none⟩) n cap) n xs) (hm : m ≤ n) :
    w.ownsRow b e size (.slice (some ⟨g, 0, none⟩) m cap) m (xs.take (m * size)) := by
  obtain ⟨hx, h2⟩ := h
  rcases h2 with ⟨h', _⟩ | ⟨g', cap', cur, h', hb, hg, hnc, hcm, hcs, htake⟩
  · cases h'
  · injection h' with h1 _ h3
    injection h1 with h1
    injection h1 with h1
    subst h1 h3
    have hms : m * size ≤ n * size := Nat.mul_le_mul_right _ hm
    refine ⟨by rw [List.length_take, hx]; omega, .inr ⟨g, cap, cur, rfl, hb, hg, by omega, hcm, hcs, ?_⟩⟩
    rw [← htake, List.take_take, Nat.min_eq_left hms]
theorem cellsP_take : ∀ (l : List (Int × Int)) (k : Nat), (cellsP l).take (k * 2) = cellsP (l.take k)
  | [], k => by simp [cellsP]
  | p :: ps, 0 => by simp [cellsP]
  | p :: ps, k + 1 => by rw [show (k + 1) * 2 = k * 2 + 1 + 1 by omega]; simp [cellsP, cellsP_take ps k]
theorem cellsP_drop : ∀ (l : List (Int × Int)) (k : Nat), (cellsP l).drop (k * 2) = cellsP (l.drop k)
  | [], k => by simp [cellsP]
  | p :: ps, 0 => by simp [cellsP]
  | p :: ps, k + 1 => by rw [show (k + 1) * 2 = k * 2 + 1 + 1 by omega]; simp [cellsP, cellsP_drop ps k]
theorem cellsP_one (l : List (Int × Int)) : ∀ u ∈ cellsP l, u.oneCell' = true := by
  induction l with
  | nil => intro u h; cases h
  | cons p ps ih =>
    intro u h
    simp only [cellsP, List.mem_cons] at h
    rcases h with rfl | rfl | h
    · rfl
    · rfl
    · exact ih u h
/-- What the cells hold behind the two writes. -/
theorem del_cells (l : List (Int × Int)) (n i : Nat) (hl : l.length = n) (hi : i < n) (z : List Value) (hz : z.length = 2) :
    (setL (setL (cellsP l) (i * 2) (cellsP (l.drop (i + 1)))) ((n - 1) * 2) z).take ((n - 1) * 2) = cellsP (l.take i ++ l.drop (i + 1)) := by
  have hc : (cellsP l).length = n * 2 := by rw [cellsP_length, hl]
  have hd : (cellsP (l.drop (i + 1))).length = (n - (i + 1)) * 2 := by rw [cellsP_length, List.length_drop, hl]
  apply List.ext_getElem?
  intro j
  rw [List.getElem?_take]
  by_cases hj : j < (n - 1) * 2
  · rw [if_pos hj, setL_get _ _ _ _ (by rw [setL_len, hc, hz]; omega), if_neg (by omega), setL_get _ _ _ _ (by rw [hc, hd]; omega)]
    rw [cellsP_app, ← cellsP_take, ← cellsP_drop]
    by_cases h1 : i * 2 ≤ j
    · rw [if_pos ⟨h1, by rw [← cellsP_drop] at hd; rw [hd]; omega⟩, List.getElem?_append_right (by rw [List.length_take, hc]; omega)]
      rw [List.length_take, hc, Nat.min_eq_left (by omega)]
    · rw [if_neg (by omega), List.getElem?_append_left (by rw [List.length_take, hc]; omega), List.getElem?_take, if_pos (by omega)]
  · rw [if_neg hj, List.getElem?_eq_none]
    rw [cellsP_length, List.length_append, List.length_take, List.length_drop, hl]
    omega

theorem infoP : (Try.prog.info? 49).map (fun i => (i.zero, i.size, i.bytes)) = some (some (.agg #[.int .i64 0, .int .i64 0]), 2, 16) := by kernel_rfl
/-- 'clear' of one point. -/
theorem clear_pt (w : World) (ty : TypeId) (b o c : Nat) (hc : ∀ j, j < 2 → (w.cell? ⟨b, o + j, none⟩).isSome = true) (hf : ∀ j, j < 2 → w.frozen? ⟨b, o + j, none⟩ = false) :
    (Builtin.clear_ #[35] ty #[.slice (some ⟨b, o, none⟩) 1 c]).run Try.prog w = .ok (.tuple #[]) (w.setCells b o [.int .i64 0, .int .i64 0]) := by
  have hst := run_storeCells_cells (P := Try.prog) b o [.int .i64 0, .int .i64 0] 0 w (by simpa using hc) (by simpa using hf) (by intro v hv'; simp at hv'; rw [hv']; rfl)
  simp only [Nat.add_zero] at hst
  have hv : ∀ w, (zeroValue 49).run Try.prog w = .ok (.agg #[.int .i64 0, .int .i64 0]) w := fun w => by kernel_rfl
  have hzc : (Builtin.zeroCells (Value.agg #[.int .i64 0, .int .i64 0]).cells 1).toList = [.int .i64 0, .int .i64 0] := by kernel_rfl
  simp [Builtin.clear_, run_underlying Try.underlying35, hv, hzc, hst]

set_option maxRecDepth 1000000 in
set_option maxHeartbeats 4000000 in
theorem delete_pt {w : World} {b n cap g : Nat} {l : List (Int × Int)} (h : w.ownsRow b 49 2 (.slice (some ⟨g, 0, none⟩) n cap) n (cellsP l)) (i : Nat) (hi : i < n) :
    Calls Try.prog 74 #[.slice (some ⟨g, 0, none⟩) n cap, .int .i64 (i : Int), .int .i64 ((i : Int) + 1)] w fun e w' => e = .returned (.slice (some ⟨g, 0, none⟩) (n - 1) cap) ∧ w'.ownsRow b 49 2 (.slice (some ⟨g, 0, none⟩) (n - 1) cap) (n - 1) (cellsP (l.take i ++ l.drop (i + 1))) ∧ w.grownBy w' (some g) := by
  have hlen : l.length = n := by have := h.1; rw [cellsP_length] at this; omega
  have hcap : n ≤ cap ∧ cap ≤ 9223372036854775807 := by
    rcases h.2 with ⟨h', _⟩ | ⟨g', cap', cur, h', _, _, hnc, hcm, _⟩
    · cases h'
    · injection h' with _ _ h3; subst h3; exact ⟨hnc, by unfold maxLen at hcm; exact hcm⟩
  have hcl : (cellsP l).length = n * 2 := by rw [cellsP_length, hlen]
  obtain ⟨i0, hi0, hz0, hz1, hz2⟩ := info_parts infoP
  obtain ⟨j, hj⟩ : ∃ j, j = i + 1 := ⟨_, rfl⟩
  have hji : ((i : Int) + 1) = (j : Int) := by omega
  rw [hji, ← hj]
  have hD : w.drew.ownsRow b 49 2 (.slice (some ⟨g, 0, none⟩) n cap) n (cellsP l) := own_below h (Below.refl _ _).drew
  obtain ⟨news, hnews⟩ : ∃ news, news = cellsP (l.drop j) := ⟨_, rfl⟩
  have hnl : news.length = (n - j) * 2 := by rw [hnews, cellsP_length, List.length_drop, hlen]
  have hget : ∀ t, t < (n - j) * 2 → news[t]? = (cellsP l)[j * 2 + t]? := by
    intro t ht
    rw [hnews, ← cellsP_drop, List.getElem?_drop]
  have hcell : ∀ t, t < n * 2 → ∀ u, (cellsP l)[t]? = some u → w.drew.cell? ⟨g, t, none⟩ = some u ∧ w.drew.frozen? ⟨g, t, none⟩ = false := by
    intro t ht u hu
    obtain ⟨g', hA, _, _, h1, h2⟩ := LawInt.own_cellN hD (by omega) (j := t) (by omega) hu
    injection hA with hA
    injection hA with hA
    subst hA
    exact ⟨h1, h2⟩
  obtain ⟨A, hA, hsrc⟩ : ∃ A : Addr, (if cap = j then some (⟨g, 0, none⟩ : Addr) else some ⟨g, j * 2, none⟩) = some A ∧ Hid (∀ t u, news[t]? = some u → w.drew.cell? (A.add t) = some u) := by
    by_cases hc : cap = j
    · refine ⟨⟨g, 0, none⟩, by simp [hc], Lib.hid fun t u hu => ?_⟩
      have h0 : news.length = 0 := by rw [hnl]; omega
      rw [List.length_eq_zero_iff.1 h0] at hu
      simp at hu
    · refine ⟨⟨g, j * 2, none⟩, by simp [hc], Lib.hid fun t u hu => ?_⟩
      have ht : t < (n - j) * 2 := by
        have := (List.getElem?_eq_some_iff.1 hu).1
        rwa [hnl] at this
      rw [hget t ht] at hu
      rw [Addr.add_lit]
      exact (hcell (j * 2 + t) (by omega) u hu).1
  have s1 := Lib.hid hnl
  have s2 : Hid (∀ u ∈ news, u.oneCell' = true) := Lib.hid (by rw [hnews]; exact cellsP_one _)
  have s3 : Hid (∀ t, t < news.length → (w.drew.cell? ⟨g, 0 + i * 2 + t, none⟩).isSome = true ∧ w.drew.frozen? ⟨g, 0 + i * 2 + t, none⟩ = false) := Lib.hid (by
    intro t ht
    rw [hnl] at ht
    have hlt : i * 2 + t < (cellsP l).length := by rw [hcl]; omega
    have := hcell (i * 2 + t) (by omega) _ (List.getElem?_eq_getElem hlt)
    rw [Nat.zero_add]
    exact ⟨by rw [this.1]; rfl, this.2⟩)
  obtain ⟨W1, hW1⟩ : ∃ W1, W1 = w.drew.setCells g (i * 2) news := ⟨_, rfl⟩
  have hO1 := stored_list news (i * 2) _ _ hD
  rw [← hW1] at hO1
  have hO2 := stored_list [.int .i64 0, .int .i64 0] ((n - 1) * 2) _ _ hO1.1
  have hcell1 : ∀ t, t < n * 2 → (W1.cell? ⟨g, t, none⟩).isSome = true ∧ W1.frozen? ⟨g, t, none⟩ = false := by
    intro t ht
    have hlt : t < (setL (cellsP l) (i * 2) news).length := by rw [setL_len, hcl]; omega
    obtain ⟨g', hA, _, _, h1, h2⟩ := LawInt.own_cellN hO1.1 (by omega) (j := t) hlt (List.getElem?_eq_getElem hlt)
    injection hA with hA
    injection hA with hA
    subst hA
    exact ⟨by rw [h1]; rfl, h2⟩
  have HCL : ∀ ty c, (Builtin.clear_ #[35] ty #[.slice (some ⟨g, (n - 1) * 2, none⟩) (n - (n - 1)) c]).run Try.prog W1 = .ok (.tuple #[]) (W1.setCells g ((n - 1) * 2) [.int .i64 0, .int .i64 0]) :=
    fun ty c => by
      rw [show n - (n - 1) = 1 by omega]
      exact clear_pt W1 ty g ((n - 1) * 2) c (fun t ht => (hcell1 _ (by omega)).1) (fun t ht => (hcell1 _ (by omega)).2)
  have HF : Hid ((W1.setCells g ((n - 1) * 2) [.int .i64 0, .int .i64 0]).ownsRow b 49 2 (.slice (some ⟨g, 0, none⟩) (n - 1) cap) (n - 1) (cellsP (l.take i ++ l.drop j)) ∧ w.grownBy (W1.setCells g ((n - 1) * 2) [.int .i64 0, .int .i64 0]) (some g)) := Lib.hid (by
    refine ⟨?_, grown_trans (grown_trans (grown_of_below (Below.refl _ _).drew _) hO1.2) hO2.2⟩
    have := own_shrink hO2.1 (show n - 1 ≤ n by omega)
    rw [hnews, hj, del_cells l n i hlen hi _ rfl] at this
    rw [hj]
    exact this)
  have hW : Hid (W1 = w.drew.setCells g (0 + i * 2) news) := Lib.hid (by rw [Nat.zero_add]; exact hW1)
  have e1 : i + (n - j) = n - 1 := by omega
  have hic : i ≤ cap := by omega
  have hjc : j ≤ cap := by omega
  have hjn : j ≤ n := by omega
  have hne : ¬ (i : Int) = (j : Int) := by omega
  obtain ⟨hcap1, hcap2⟩ := hcap
  clear hO1 hO2 hcell1 hW1 hcell hget hnews hnl hD hj hji hlen h hcl
  go_enter Try.func74, Try.ntmps74
  go_wp2_with fail
  go_region_law (refine step_append_room rfl (.tmp 22) (.tmp 25) 35 rfl 49 i0 2 Try.underlying35 hi0 hz1 g 0 i cap (by simp [Act.eval, Act.put]) A (n - j) (cap - j) news (by simp [Act.eval, Act.put]) s1.out hsrc.out s2.out (by omega) s3.out ?_; rw [← hW.out])
  go_wp2
  go_ret
  exact ⟨rfl, HF.out⟩
end Go.Proofs.Ythokeedmccfalaa.DelPt
