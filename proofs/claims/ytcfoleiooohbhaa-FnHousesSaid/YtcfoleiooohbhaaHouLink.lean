/-
  Are some halls linked among themselves: what the model grows and what has a distance through their own doors agree. No program stands here.
-/
import Derived.Test.YtcfoleiooohbhaaHouReach
namespace Go.Proofs.Ytcfoleiooohbhaa.HouLink
open HouMath HouMathB HouReach

/-- What can be reached among these halls. -/
inductive ConnI (ds : List (Int × Int)) (zs : List Int) (a : Int) : Int → Prop
  | refl : ConnI ds zs a a
  | step {x y : Int} : ConnI ds zs a x → y ∈ zs → isDoor ds y x = true → ConnI ds zs a y
theorem ConnI.mem {ds : List (Int × Int)} {zs : List Int} {a x : Int} (ha : a ∈ zs) (h : ConnI ds zs a x) : x ∈ zs := by
  cases h with
  | refl => exact ha
  | step _ hy _ => exact hy
/-- The doors with both ends among these halls. -/
def ownD (ds : List (Int × Int)) (zs : List Int) : List (Int × Int) := ds.filter fun d => zs.contains d.1 && zs.contains d.2
theorem ownD_door (ds : List (Int × Int)) (zs : List Int) (a b : Int) : isDoor (ownD ds zs) a b = true ↔ isDoor ds a b = true ∧ a ∈ zs ∧ b ∈ zs := by
  rw [isDoor_iff, isDoor_iff]
  unfold ownD
  rw [List.mem_filter, Bool.and_eq_true, List.contains_iff_mem, List.contains_iff_mem]
  simp only
  have h : (min a b ∈ zs ∧ max a b ∈ zs) ↔ (a ∈ zs ∧ b ∈ zs) := by
    rcases Int.le_total a b with h | h
    · rw [Int.min_eq_left h, Int.max_eq_right h]
    · rw [Int.min_eq_right h, Int.max_eq_left h]; exact And.comm
  rw [h]
theorem ownD_form {H : Int} {ds : List (Int × Int)} (h : HForm H ds) (zs : List Int) : HForm H (ownD ds zs) := by
  have hp : (ownD ds zs).Pairwise LexLt := List.Pairwise.filter _ h.pairwise
  refine ⟨h.h1, h.h7, Nat.le_trans (List.length_filter_le _ _) h.len, fun k hk => ?_, fun k hk => ?_⟩
  · have hm : dr (ownD ds zs) k ∈ ds := by rw [dr_get hk]; exact (List.mem_filter.1 (List.getElem_mem hk)).1
    exact h.mem _ hm
  · have := (List.pairwise_iff_getElem.1 hp) k (k + 1) (by omega) hk (by omega)
    rw [dr_get (by omega), dr_get hk]
    exact this
/-- Both ways to say it. -/
theorem conn_iff {N a : Nat} {ds : List (Int × Int)} {zs : List Int} (ha : (a : Int) ∈ zs) (hz : ∀ x ∈ zs, 0 ≤ x ∧ x < N) {y : Nat} (_hy : y < N) :
    Conn N (ownD ds zs) a y ↔ ConnI ds zs a y := by
  constructor
  · intro h
    induction h with
    | refl => exact .refl
    | step hx hy ih =>
      unfold nb at hy
      rw [List.mem_filter] at hy
      have := (ownD_door ds zs _ _).1 hy.2
      exact (ih (hx.lt (by have := hz _ ha; omega))).step this.2.1 this.1
  · intro h
    have key : ∀ z : Int, ConnI ds zs a z → Conn N (ownD ds zs) a z.toNat := by
      intro z hz2
      induction hz2 with
      | refl => exact .refl
      | step hx hy hd ih =>
        rename_i x z
        have h1 := hz _ (hx.mem ha)
        have h2 := hz _ hy
        refine ih.step ?_
        unfold nb
        rw [List.mem_filter, List.mem_range]
        refine ⟨by omega, ?_⟩
        rw [show ((z.toNat : Nat) : Int) = z by omega, show ((x.toNat : Nat) : Int) = x by omega]
        exact (ownD_door ds zs _ _).2 ⟨hd, hy, hx.mem ha⟩
    exact key y h

/-! What the model grows. -/
def addZ (ds : List (Int × Int)) (x : Int) (r : List Int) (z : Int) : List Int := if (!r.contains z && isDoor ds z x) = true then r ++ [z] else r
def inL (ds : List (Int × Int)) (zs : List Int) (x : Int) (r : List Int) : Nat → List Int
  | 0 => r
  | j + 1 => addZ ds x (inL ds zs x r j) (zs.getD j 0)
def lk (ds : List (Int × Int)) (zs : List Int) (a : Int) : Nat → List Int
  | 0 => [a]
  | k + 1 => inL ds zs ((lk ds zs a k).getD k 0) (lk ds zs a k) zs.length
structure Lk (ds : List (Int × Int)) (zs : List Int) (a : Int) (r : List Int) : Prop where
  nodup : r.Nodup
  sub : ∀ x ∈ r, x ∈ zs
  conn : ∀ x ∈ r, ConnI ds zs a x
theorem Lk.add {ds : List (Int × Int)} {zs : List Int} {a x z : Int} {r : List Int} (h : Lk ds zs a r) (hx : x ∈ r) (hz : z ∈ zs) : Lk ds zs a (addZ ds x r z) := by
  unfold addZ
  split
  · rename_i hc
    rw [Bool.and_eq_true, Bool.not_eq_true'] at hc
    have hn : z ∉ r := fun h2 => by rw [List.contains_iff_mem.2 h2] at hc; exact absurd hc.1 (by simp)
    refine ⟨?_, fun y hy => ?_, fun y hy => ?_⟩
    · rw [List.nodup_append]
      exact ⟨h.nodup, by simp, fun p hp q hq e => by simp at hq; subst hq; subst e; exact hn hp⟩
    · rcases List.mem_append.1 hy with hy | hy
      · exact h.sub y hy
      · simp at hy; subst hy; exact hz
    · rcases List.mem_append.1 hy with hy | hy
      · exact h.conn y hy
      · simp at hy; subst hy; exact (h.conn x hx).step hz hc.2
  · exact h
theorem add_pre (ds : List (Int × Int)) (x z : Int) (r : List Int) : r <+: addZ ds x r z := by
  unfold addZ
  split
  · exact List.prefix_append _ _
  · exact List.prefix_refl _
theorem in_pre (ds : List (Int × Int)) (zs : List Int) (x : Int) (r : List Int) : ∀ j, r <+: inL ds zs x r j
  | 0 => List.prefix_refl _
  | j + 1 => (in_pre ds zs x r j).trans (add_pre _ _ _ _)
theorem mem_getD {zs : List Int} {j : Nat} (h : j < zs.length) : zs.getD j 0 ∈ zs := by simp [List.getD, h]
theorem Lk.inn {ds : List (Int × Int)} {zs : List Int} {a x : Int} {r : List Int} (h : Lk ds zs a r) (hx : x ∈ r) : ∀ j, j ≤ zs.length → Lk ds zs a (inL ds zs x r j)
  | 0, _ => h
  | j + 1, hj => (Lk.inn h hx j (by omega)).add ((in_pre ds zs x r j).subset hx) (mem_getD (by omega))
theorem lk_ok {ds : List (Int × Int)} {zs : List Int} {a : Int} (ha : a ∈ zs) : ∀ k, (∀ j, j < k → j < (lk ds zs a j).length) → Lk ds zs a (lk ds zs a k)
  | 0, _ => ⟨by simp [lk], fun x hx => by simp [lk] at hx; subst hx; exact ha, fun x hx => by simp [lk] at hx; subst hx; exact .refl⟩
  | k + 1, h => by
    have ih := lk_ok ha k (fun j hj => h j (by omega))
    exact ih.inn (mem_getD (h k (by omega))) _ (Nat.le_refl _)
theorem nodup_sub : ∀ (l zs : List Int), l.Nodup → (∀ x ∈ l, x ∈ zs) → l.length ≤ zs.length
  | [], _, _, _ => by simp
  | x :: l, zs, hn, hs => by
    have hx := hs x (by simp)
    have := nodup_sub l (zs.erase x) (List.nodup_cons.1 hn).2 (fun y hy => (List.mem_erase_of_ne (fun e => by subst e; exact (List.nodup_cons.1 hn).1 hy)).2 (hs y (by simp [hy])))
    rw [List.length_erase_of_mem hx] at this
    have := List.length_pos_of_mem hx
    simp only [List.length_cons]
    omega
theorem Lk.le {ds : List (Int × Int)} {zs : List Int} {a : Int} {r : List Int} (h : Lk ds zs a r) : r.length ≤ zs.length := nodup_sub r zs h.nodup h.sub
theorem in_all {ds : List (Int × Int)} {zs : List Int} {x : Int} {r : List Int} : ∀ j, ∀ i, i < j → isDoor ds (zs.getD i 0) x = true → zs.getD i 0 ∈ inL ds zs x r j
  | 0, _, hi, _ => absurd hi (by omega)
  | j + 1, i, hi, hd => by
    rcases Nat.lt_or_ge i j with h | h
    · exact (add_pre _ _ _ _).subset (in_all j i h hd)
    · obtain rfl : i = j := by omega
      show zs.getD i 0 ∈ addZ ds x (inL ds zs x r i) (zs.getD i 0)
      unfold addZ
      split
      · simp
      · rename_i hc
        rw [hd, Bool.and_true] at hc
        exact List.contains_iff_mem.1 (by simpa using hc)
theorem lk_pre {ds : List (Int × Int)} {zs : List Int} {a : Int} : ∀ k d, lk ds zs a k <+: lk ds zs a (k + d)
  | _, 0 => List.prefix_refl _
  | k, d + 1 => (lk_pre k d).trans (in_pre _ _ _ _ _)
theorem pre_get {l m : List Int} (h : l <+: m) {k : Nat} (hk : k < l.length) : m.getD k 0 = l.getD k 0 := by
  obtain ⟨t, rfl⟩ := h
  simp [List.getD, List.getElem?_append_left hk]
/-- When the list is at its end, it is just what can be reached. -/
theorem lk_end {ds : List (Int × Int)} {zs : List Int} {a : Int} (ha : a ∈ zs) {k : Nat} (hk : ∀ j, j < k → j < (lk ds zs a j).length) (he : (lk ds zs a k).length = k) (y : Int) : y ∈ lk ds zs a k ↔ ConnI ds zs a y := by
  constructor
  · exact (lk_ok ha k hk).conn y
  · intro h
    induction h with
    | refl =>
      have := lk_pre (ds := ds) (zs := zs) (a := a) 0 k
      rw [Nat.zero_add] at this
      exact this.subset (by simp [lk])
    | step hx hy hd ih =>
      rename_i x y
      obtain ⟨j, hj, e⟩ := List.mem_iff_getElem.1 ih
      obtain ⟨i, hi, e2⟩ := List.mem_iff_getElem.1 hy
      have hj' : j < k := by omega
      have hp1 := lk_pre (ds := ds) (zs := zs) (a := a) (j + 1) (k - (j + 1))
      rw [show j + 1 + (k - (j + 1)) = k by omega] at hp1
      have hp0 := lk_pre (ds := ds) (zs := zs) (a := a) j (k - j)
      rw [show j + (k - j) = k by omega] at hp0
      have hg : (lk ds zs a j).getD j 0 = x := by
        rw [← pre_get hp0 (hk j hj')]
        simp [List.getD, hj, e]
      refine hp1.subset ?_
      show y ∈ inL ds zs ((lk ds zs a j).getD j 0) (lk ds zs a j) zs.length
      rw [hg]
      have e3 : zs.getD i 0 = y := by simp [List.getD, hi, e2]
      rw [← e3]
      exact in_all _ i hi (by rw [e3]; exact hd)

def linkedB (H : Int) (ds : List (Int × Int)) (zs : List Int) : Bool :=
  (houseB H ds && hallsB H zs) && (decide (zs.length = 0) || zs.all fun z => decide (0 ≤ (dist H.toNat (ownD ds zs) (zs.getD 0 0).toNat).getD z.toNat 0))
theorem linked_no {H : Int} {ds : List (Int × Int)} {zs : List Int} (h : (houseB H ds && hallsB H zs) = false) : linkedB H ds zs = false := by unfold linkedB; rw [h]; rfl
theorem linked_nil {H : Int} {ds : List (Int × Int)} {zs : List Int} (h : zs.length = 0) : linkedB H ds zs = houseB H ds := by
  have : zs = [] := List.eq_nil_of_length_eq_zero h
  subst this
  simp [linkedB, hallsB]
theorem linked_own {N a : Nat} {ds : List (Int × Int)} {zs : List Int} (h : (houseB N ds && hallsB N zs) = true) (h0 : zs.length ≠ 0) (ha : zs.getD 0 0 = a) :
    linkedB N ds zs = !((List.range zs.length).any fun k => decide ((dist N (ownD ds zs) a).getD (zs.getD k 0).toNat 0 < 0)) := by
  unfold linkedB
  rw [h, decide_eq_false h0, ha]
  simp only [Bool.true_and, Bool.false_or, Int.toNat_natCast]
  rw [Bool.eq_iff_iff, List.all_eq_true, Bool.not_eq_true', List.any_eq_false]
  constructor
  · intro h2 k hk
    have := of_decide_eq_true (h2 _ (mem_getD (List.mem_range.1 hk)))
    simp only [decide_eq_true_eq]
    omega
  · intro h2 z hz
    obtain ⟨k, hk, rfl⟩ := List.mem_iff_getElem.1 hz
    have := h2 k (List.mem_range.2 hk)
    rw [show zs.getD k 0 = zs[k] by simp [List.getD, hk]] at this
    simp only [decide_eq_true_eq] at this ⊢
    omega
theorem linked_lk {N : Nat} {ds : List (Int × Int)} {zs : List Int} (h : (houseB N ds && hallsB N zs) = true) (h0 : zs.length ≠ 0) {k : Nat}
    (hk : ∀ j, j < k → j < (lk ds zs (zs.getD 0 0) j).length) (he : (lk ds zs (zs.getD 0 0) k).length = k) : linkedB N ds zs = (List.range zs.length).all fun i => (lk ds zs (zs.getD 0 0) k).contains (zs.getD i 0) := by
  have hh : hallsB N zs = true := by rw [Bool.and_eq_true] at h; exact h.2
  have hz : ∀ x ∈ zs, 0 ≤ x ∧ x < (N : Int) := fun x hx => by
    obtain ⟨i, hi, rfl⟩ := List.mem_iff_getElem.1 hx
    have := halls_get hh hi
    rwa [show zs.getD i 0 = zs[i] by simp [List.getD, hi]] at this
  have ha0 : zs.getD 0 0 ∈ zs := mem_getD (by omega)
  obtain ⟨a, ha⟩ := Int.eq_ofNat_of_zero_le (hz _ ha0).1
  have haN : a < N := by have := (hz _ ha0).2; omega
  rw [linked_own h h0 ha, Bool.eq_iff_iff, List.all_eq_true, Bool.not_eq_true', List.any_eq_false]
  have key : ∀ i, i < zs.length → (¬ decide ((dist N (ownD ds zs) a).getD (zs.getD i 0).toNat 0 < 0) = true ↔ (lk ds zs (zs.getD 0 0) k).contains (zs.getD i 0) = true) := by
    intro i hi
    have hzi := hz _ (mem_getD hi)
    obtain ⟨y, hy⟩ := Int.eq_ofNat_of_zero_le hzi.1
    have hyN : y < N := by omega
    rw [List.contains_iff_mem, lk_end ha0 hk he, hy, ha, ← conn_iff (N := N) (by rw [← ha]; exact ha0) hz hyN, ← reach haN hyN, decide_eq_true_eq]
    simp only [Int.toNat_natCast]
    omega
  constructor
  · intro h2 i hi
    exact (key i (List.mem_range.1 hi)).1 (h2 i hi)
  · intro h2 i hi
    exact (key i (List.mem_range.1 hi)).2 (h2 i hi)
end Go.Proofs.Ytcfoleiooohbhaa.HouLink
