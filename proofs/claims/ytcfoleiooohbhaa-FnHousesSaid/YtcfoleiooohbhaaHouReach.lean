/-
  Breadth first finds just what can be reached; in a valid house every hall can be reached from every hall. No program stands here.
-/
import Derived.Test.YtcfoleiooohbhaaHouMathB
import Derived.Test.YtcfoleiooohbhaaFirstMath
namespace Go.Proofs.Ytcfoleiooohbhaa.HouReach
open HouMath HouMathB FirstMath

inductive Conn (H : Nat) (ds : List (Int × Int)) (a : Nat) : Nat → Prop
  | refl : Conn H ds a a
  | step {x y : Nat} : Conn H ds a x → y ∈ nb H ds x → Conn H ds a y
theorem Conn.trans {H : Nat} {ds : List (Int × Int)} {a b c : Nat} (h : Conn H ds a b) (k : Conn H ds b c) : Conn H ds a c := by
  induction k with
  | refl => exact h
  | step _ hy ih => exact ih.step hy
theorem Conn.lt {H : Nat} {ds : List (Int × Int)} {a b : Nat} (ha : a < H) (h : Conn H ds a b) : b < H := by
  cases h with
  | refl => exact ha
  | step _ hy => exact nb_lt hy
theorem nb_comm {H : Nat} {ds : List (Int × Int)} {x y : Nat} (hx : x < H) (h : y ∈ nb H ds x) : x ∈ nb H ds y := by
  unfold nb at h ⊢
  rw [List.mem_filter, List.mem_range] at h ⊢
  exact ⟨hx, by rw [isDoor_comm]; exact h.2⟩
theorem Conn.symm {H : Nat} {ds : List (Int × Int)} {a b : Nat} (ha : a < H) (h : Conn H ds a b) : Conn H ds b a := by
  induction h with
  | refl => exact .refl
  | step hx hy ih => exact (Conn.step .refl (nb_comm (hx.lt ha) hy)).trans ih
theorem fold_mem (hall : Nat) : ∀ (l : List Nat) (s : S) (y : Nat), y ∈ (l.foldl (stp hall) s).2 → y ∈ s.2 ∨ y ∈ l
  | [], _, _, h => .inl h
  | x :: l, s, y, h => by
    rcases fold_mem hall l _ y h with h | h
    · unfold stp at h
      split at h
      · rcases List.mem_append.1 h with h | h
        · exact .inl h
        · simp at h; subst h; exact .inr (by simp)
      · exact .inl h
    · exact .inr (by simp [h])
theorem fold_all {H hall : Nat} (hh : hall < H) : ∀ (l : List Nat) (s : S), Inv H s → (∀ x ∈ l, x < H) → ∀ y ∈ l, y ∈ (l.foldl (stp hall) s).2
  | [], _, _, _, y, h => by cases h
  | x :: l, s, hs, hl, y, h => by
    have hx := hl x (by simp)
    have h1 : x ∈ (stp hall s x).2 := by
      unfold stp
      split
      · simp
      · rename_i hn
        exact Classical.byContradiction fun hc => hn ((hs.neg x hx).2 hc)
    rcases List.mem_cons.1 h with rfl | h
    · exact (fold_pre hall l _).subset h1
    · exact fold_all hh l _ (hs.step hh hx) (fun z hz => hl z (by simp [hz])) y h
theorem sound {H a : Nat} {ds : List (Int × Int)} : ∀ k, ∀ y ∈ (st H ds a k).2, Conn H ds a y
  | 0, y, h => by
    simp [st] at h
    subst h
    exact .refl
  | k + 1, y, h => by
    by_cases hk : k < (st H ds a k).2.length
    · rw [st_succ hk] at h
      rcases fold_mem _ _ _ _ h with h | h
      · exact sound k y h
      · exact (sound k _ (getD_mem hk)).step h
    · have e : st H ds a (k + 1) = st H ds a k := st_stays (Nat.le_of_not_lt hk) 1
      rw [e] at h
      exact sound k y h
theorem closed {H a : Nat} {ds : List (Int × Int)} (ha : a < H) : ∀ k j, j < k → j < (st H ds a k).2.length → ∀ y ∈ nb H ds ((st H ds a k).2.getD j 0), y ∈ (st H ds a k).2
  | 0, j, hj, _, _, _ => absurd hj (by omega)
  | k + 1, j, hj, hl, y, hy => by
    have hi := inv_st (ds := ds) ha k
    by_cases hk : k < (st H ds a k).2.length
    · have hp : (st H ds a k).2 <+: (st H ds a (k + 1)).2 := by rw [st_succ hk]; exact fold_pre _ _ _
      have hj2 : j < (st H ds a k).2.length := by omega
      rw [pre_getD hp hj2] at hy
      rcases Nat.lt_or_ge j k with h | h
      · exact hp.subset (closed ha k j h hj2 y hy)
      · obtain rfl : j = k := by omega
        rw [st_succ hk]
        exact fold_all (hi.lt _ (getD_mem hk)) _ _ hi (fun z hz => nb_lt hz) y hy
    · have e : st H ds a (k + 1) = st H ds a k := st_stays (Nat.le_of_not_lt hk) 1
      rw [e] at hl hy ⊢
      exact closed ha k j (by omega) hl y hy
theorem whole {H a : Nat} {ds : List (Int × Int)} (ha : a < H) {y : Nat} (h : Conn H ds a y) : y ∈ (st H ds a H).2 := by
  induction h with
  | refl =>
    have : ∀ k, a ∈ (st H ds a k).2 := by
      intro k
      induction k with
      | zero => simp [st]
      | succ k ih =>
        by_cases hk : k < (st H ds a k).2.length
        · rw [st_succ hk]; exact (fold_pre _ _ _).subset ih
        · have e : st H ds a (k + 1) = st H ds a k := st_stays (Nat.le_of_not_lt hk) 1
          rw [e]; exact ih
    exact this H
  | step _ hy ih =>
    obtain ⟨j, hj, e⟩ := List.mem_iff_getElem.1 ih
    have hi := inv_st (ds := ds) ha H
    refine closed ha H j (Nat.lt_of_lt_of_le hj hi.le) hj _ ?_
    have : (st H ds a H).2.getD j 0 = (st H ds a H).2[j] := by simp [List.getD, hj]
    rw [this, e]
    exact hy
/-- What has a distance can be reached, and what can be reached has one. -/
theorem reach {H a : Nat} {ds : List (Int × Int)} (ha : a < H) {y : Nat} (hy : y < H) : 0 ≤ (dist H ds a).getD y 0 ↔ Conn H ds a y := by
  have hi := inv_st (ds := ds) ha H
  have hn := hi.neg y hy
  unfold dist
  constructor
  · intro h
    exact sound H y (Classical.byContradiction fun hc => absurd (hn.2 hc) (by omega))
  · intro h
    have h1 := whole ha h
    exact Int.not_lt.1 (fun hc => (hn.1 hc) h1)
theorem house_conn {N : Nat} {ds : List (Int × Int)} (h : houseB N ds = true) {a b : Nat} (ha : a < N) (hb : b < N) : Conn N ds a b := by
  have h' := h
  unfold houseB at h'
  rw [Bool.and_eq_true, List.all_eq_true] at h'
  have h0 : ∀ x, x < N → Conn N ds 0 x := fun x hx => by
    refine (reach (by omega) hx).1 ?_
    have := h'.2 x (List.mem_range.2 (by simpa using hx))
    exact of_decide_eq_true this
  exact ((h0 a ha).symm (by omega)).trans (h0 b hb)
/-- In a valid house every hall has a distance from every hall. -/
theorem house_dist {N : Nat} {ds : List (Int × Int)} (h : houseB N ds = true) {a b : Nat} (ha : a < N) (hb : b < N) : 0 ≤ (dist N ds a).getD b 0 := (reach ha hb).2 (house_conn h ha hb)

/-- The next hall on the way to b. -/
def stepTo (ds : List (Int × Int)) (D : List Int) (a k : Nat) : Bool := isDoor ds (k : Int) (a : Int) && decide (D.getD k 0 < D.getD a 0)
def stepN (H : Nat) (ds : List (Int × Int)) (D : List Int) (a : Nat) : Int := if firstI H (stepTo ds D a) < 0 then (a : Int) else firstI H (stepTo ds D a)
theorem step_at {H : Nat} {ds : List (Int × Int)} {D : List Int} {a k : Nat} (hk : k < H) (h : stepTo ds D a k = true) (h2 : ∀ j, j < k → stepTo ds D a j = false) : stepN H ds D a = (k : Int) := by
  unfold stepN
  rw [firstI_at hk h h2, if_neg (by omega)]
theorem step_none {H : Nat} {ds : List (Int × Int)} {D : List Int} {a : Nat} (h : ∀ k, k < H → stepTo ds D a k = false) : stepN H ds D a = (a : Int) := by
  unfold stepN
  rw [firstI_none h]
  rfl
def stepI (H : Int) (ds : List (Int × Int)) (a b : Int) : Int := if (hallOf H ds a && hallOf H ds b) = true then stepN H.toNat ds (dist H.toNat ds b.toNat) a.toNat else -1
theorem step_no {H : Int} {ds : List (Int × Int)} {a b : Int} (h : (hallOf H ds a && hallOf H ds b) = false) : stepI H ds a b = -1 := by unfold stepI; rw [h]; rfl
theorem step_yes {N a b : Nat} {ds : List (Int × Int)} (h : (hallOf N ds a && hallOf N ds b) = true) : stepI N ds a b = stepN N ds (dist N ds b) a := by unfold stepI; rw [if_pos h]; rfl
/-- Through the doors in their order: the first of the halls behind them that is nearer. -/
theorem step_pre {H : Nat} {ds : List (Int × Int)} {D : List Int} {a z : Nat} {pv : List Nat} (h : pv ++ [z] <+: nb H ds a) (h1 : ∀ y ∈ pv, ¬ D.getD y 0 < D.getD a 0) (h2 : D.getD z 0 < D.getD a 0) : stepN H ds D a = (z : Int) := by
  have hz : z ∈ nb H ds a := h.subset (by simp)
  have hzd : isDoor ds (z : Int) (a : Int) = true := by unfold nb at hz; exact (List.mem_filter.1 hz).2
  refine step_at (nb_lt hz) (by unfold stepTo; rw [hzd, decide_eq_true h2]; rfl) (fun j hj => ?_)
  unfold stepTo
  cases hd : isDoor ds (j : Int) (a : Int)
  · rfl
  · have hjm : j ∈ nb H ds a := by unfold nb; rw [List.mem_filter, List.mem_range]; exact ⟨by have := nb_lt hz; omega, hd⟩
    have hs : (nb H ds a).Pairwise (· < ·) := by unfold nb; exact List.Pairwise.filter _ List.pairwise_lt_range
    obtain ⟨t, ht⟩ := h
    rw [← ht] at hjm hs
    have hjp : j ∈ pv := by
      rcases List.mem_append.1 hjm with h3 | h3
      · rcases List.mem_append.1 h3 with h4 | h4
        · exact h4
        · simp at h4; omega
      · have := (List.pairwise_append.1 hs).2.2 z (by simp) j h3
        omega
    rw [decide_eq_false (h1 j hjp)]; rfl
theorem step_end {H : Nat} {ds : List (Int × Int)} {D : List Int} {a : Nat} (h1 : ∀ y ∈ nb H ds a, ¬ D.getD y 0 < D.getD a 0) : stepN H ds D a = (a : Int) := by
  refine step_none (fun k hk => ?_)
  unfold stepTo
  cases hd : isDoor ds (k : Int) (a : Int)
  · rfl
  · have : k ∈ nb H ds a := by unfold nb; rw [List.mem_filter, List.mem_range]; exact ⟨hk, hd⟩
    rw [decide_eq_false (h1 k this)]; rfl
end Go.Proofs.Ytcfoleiooohbhaa.HouReach
