/-
  Houses: doors, what has the right form, the halls behind a hall's doors, and the distances that both texts work out, breadth first. No program stands here.
-/
namespace Go.Proofs.Ytcfoleiooohbhaa.HouMath

def dr (ds : List (Int × Int)) (k : Nat) : Int × Int := ds.getD k (0, 0)
def bef (d e : Int × Int) : Bool := decide (d.1 < e.1) || decide (d.1 = e.1) && decide (d.2 < e.2)
def okD (H : Int) (ds : List (Int × Int)) (k : Nat) : Bool :=
  decide (0 ≤ (dr ds k).1) && decide ((dr ds k).1 < (dr ds k).2) && decide ((dr ds k).2 < H) && (decide (k = 0) || bef (dr ds (k - 1)) (dr ds k))
def formB (H : Int) (ds : List (Int × Int)) : Bool := decide (1 ≤ H) && decide (H ≤ 7) && decide (ds.length ≤ 12) && (List.range ds.length).all (okD H ds)

theorem form_bad {H : Int} {ds : List (Int × Int)} {k : Nat} (hk : k < ds.length) (h : okD H ds k = false) : formB H ds = false := by
  have : (List.range ds.length).all (okD H ds) = false := by
    rw [List.all_eq_false]
    exact ⟨k, List.mem_range.2 hk, by simp [h]⟩
  simp [formB, this]
theorem form_ok {H : Int} {ds : List (Int × Int)} (h : ∀ k, k < ds.length → okD H ds k = true) : formB H ds = (decide (1 ≤ H) && decide (H ≤ 7) && decide (ds.length ≤ 12)) := by
  have : (List.range ds.length).all (okD H ds) = true := by
    rw [List.all_eq_true]
    exact fun k hk => h k (List.mem_range.1 hk)
  simp [formB, this]
/-- What the right form says. -/
structure HForm (H : Int) (ds : List (Int × Int)) : Prop where
  h1 : 1 ≤ H
  h7 : H ≤ 7
  len : ds.length ≤ 12
  ok : ∀ k, k < ds.length → 0 ≤ (dr ds k).1 ∧ (dr ds k).1 < (dr ds k).2 ∧ (dr ds k).2 < H
  sorted : ∀ k, k + 1 < ds.length → (dr ds k).1 < (dr ds (k + 1)).1 ∨ ((dr ds k).1 = (dr ds (k + 1)).1 ∧ (dr ds k).2 < (dr ds (k + 1)).2)
theorem form_out {H : Int} {ds : List (Int × Int)} (h : formB H ds = true) : HForm H ds := by
  simp only [formB, Bool.and_eq_true, decide_eq_true_eq, List.all_eq_true, List.mem_range] at h
  obtain ⟨⟨⟨h1, h7⟩, hl⟩, hk⟩ := h
  refine ⟨h1, h7, hl, fun k hkl => ?_, fun k hkl => ?_⟩
  · have := hk k hkl
    simp only [okD, Bool.and_eq_true, decide_eq_true_eq] at this
    exact ⟨this.1.1.1, this.1.1.2, this.1.2⟩
  · have := hk (k + 1) hkl
    simp only [okD, bef, Bool.and_eq_true, Bool.or_eq_true, decide_eq_true_eq, Nat.add_sub_cancel] at this
    rcases this.2 with h | h
    · omega
    · exact h
theorem dr_get {ds : List (Int × Int)} {k : Nat} (h : k < ds.length) : dr ds k = ds[k] := by unfold dr; simp [h]
theorem dr_at {ds : List (Int × Int)} {k : Nat} (h : k < ds.length) : ds[k]? = some ((dr ds k).1, (dr ds k).2) := by rw [dr_get h]; exact List.getElem?_eq_getElem h
theorem HForm.mem {H : Int} {ds : List (Int × Int)} (h : HForm H ds) : ∀ d ∈ ds, 0 ≤ d.1 ∧ d.1 < d.2 ∧ d.2 < H := by
  intro d hd
  obtain ⟨k, hk, rfl⟩ := List.mem_iff_getElem.1 hd
  have := h.ok k hk
  rwa [dr_get hk] at this
def LexLt (d e : Int × Int) : Prop := d.1 < e.1 ∨ (d.1 = e.1 ∧ d.2 < e.2)
theorem pairwise_of_next : ∀ (ds : List (Int × Int)), (∀ k, k + 1 < ds.length → LexLt (dr ds k) (dr ds (k + 1))) → ds.Pairwise LexLt
  | [], _ => .nil
  | d :: ds, h => by
    have ih := pairwise_of_next ds (fun k hk => by
      have := h (k + 1) (by simpa using hk)
      simpa [dr] using this)
    refine .cons (fun e he => ?_) ih
    cases ds with
    | nil => cases he
    | cons f fs =>
      have h0 := h 0 (by simp)
      simp only [dr, List.getD_cons_zero, Nat.zero_add, List.getD_cons_succ] at h0
      rcases List.mem_cons.1 he with rfl | he
      · exact h0
      · have := List.rel_of_pairwise_cons ih he
        unfold LexLt at *
        omega
theorem HForm.pairwise {H : Int} {ds : List (Int × Int)} (h : HForm H ds) : ds.Pairwise LexLt := pairwise_of_next ds h.sorted

/-! Doors. -/
def isDoor (ds : List (Int × Int)) (a b : Int) : Bool := ds.any fun d => decide (d.1 = min a b) && decide (d.2 = max a b)
theorem isDoor_iff {ds : List (Int × Int)} {a b : Int} : isDoor ds a b = true ↔ ((min a b, max a b) ∈ ds) := by
  unfold isDoor
  rw [List.any_eq_true]
  constructor
  · rintro ⟨⟨x, y⟩, hd, h⟩
    simp at h
    rw [← h.1, ← h.2]; exact hd
  · intro h; exact ⟨_, h, by simp⟩
theorem isDoor_comm (ds : List (Int × Int)) (a b : Int) : isDoor ds a b = isDoor ds b a := by
  unfold isDoor
  rw [Int.min_comm a b, Int.max_comm a b]
theorem isDoor_self {H : Int} {ds : List (Int × Int)} (h : HForm H ds) (a : Int) : isDoor ds a a = false := by
  cases hx : isDoor ds a a with
  | false => rfl
  | true =>
    have := h.mem _ (isDoor_iff.1 hx)
    simp at this
/-- The halls behind the doors of a hall, one door's part. -/
def outs (x : Int) (d : Int × Int) : List Int := (if d.2 = x then [d.1] else []) ++ if d.1 = x then [d.2] else []
def nbI (ds : List (Int × Int)) (x : Int) : List Int := ds.flatMap (outs x)
theorem mem_nbI {H : Int} {ds : List (Int × Int)} (h : HForm H ds) {x y : Int} : y ∈ nbI ds x ↔ isDoor ds y x = true := by
  rw [isDoor_iff]
  unfold nbI
  rw [List.mem_flatMap]
  constructor
  · rintro ⟨⟨a, b⟩, hd, hy⟩
    have hab := (h.mem _ hd).2.1
    simp only [outs, List.mem_append] at hy
    simp only at hab
    rcases hy with hy | hy
    · split at hy
      · rename_i e; simp at hy e; subst hy; subst e
        rw [Int.min_def, Int.max_def, if_pos (by omega), if_pos (by omega)]; exact hd
      · cases hy
    · split at hy
      · rename_i e; simp at hy e; subst hy; subst e
        rw [Int.min_def, Int.max_def, if_neg (by omega), if_neg (by omega)]; exact hd
      · cases hy
  · intro hd
    have hab := (h.mem _ hd).2.1
    refine ⟨_, hd, ?_⟩
    simp only [outs, List.mem_append]
    simp only [Int.min_def, Int.max_def] at hab ⊢
    by_cases hxy : y ≤ x
    · simp only [if_pos hxy]; simp
    · simp only [if_neg hxy]; simp
theorem nbI_bound {H : Int} {ds : List (Int × Int)} (h : HForm H ds) {x y : Int} (hy : y ∈ nbI ds x) : 0 ≤ y ∧ y < H := by
  unfold nbI at hy
  obtain ⟨d, hd, hy⟩ := List.mem_flatMap.1 hy
  have := h.mem _ hd
  simp only [outs, List.mem_append] at hy
  rcases hy with hy | hy <;> split at hy <;> simp at hy <;> omega
theorem nbI_sorted {H : Int} {ds : List (Int × Int)} (h : HForm H ds) (x : Int) : (nbI ds x).Pairwise (· < ·) := by
  unfold nbI
  rw [List.pairwise_flatMap]
  refine ⟨fun d hd => ?_, ?_⟩
  · have := h.mem _ hd
    unfold outs
    split <;> split <;> simp
    omega
  · refine List.Pairwise.imp_of_mem ?_ h.pairwise
    intro d e hd he hl u hu v hv
    have h1 := h.mem _ hd
    have h2 := h.mem _ he
    unfold LexLt at hl
    simp only [outs, List.mem_append] at hu hv
    rcases hu with hu | hu <;> split at hu <;> simp at hu <;> rcases hv with hv | hv <;> split at hv <;> simp at hv <;> omega
theorem sorted_eq : ∀ (l m : List Int), l.Pairwise (· < ·) → m.Pairwise (· < ·) → (∀ x, x ∈ l ↔ x ∈ m) → l = m
  | [], [], _, _, _ => rfl
  | [], y :: m, _, _, h => absurd ((h y).2 (by simp)) (by simp)
  | x :: l, [], _, _, h => absurd ((h x).1 (by simp)) (by simp)
  | x :: l, y :: m, hl, hm, h => by
    have hl1 := fun z hz => List.rel_of_pairwise_cons hl (a' := z) hz
    have hm1 := fun z hz => List.rel_of_pairwise_cons hm (a' := z) hz
    have e : x = y := by
      rcases List.mem_cons.1 ((h x).1 (by simp)) with e | e
      · exact e
      · rcases List.mem_cons.1 ((h y).2 (by simp)) with e' | e'
        · exact e'.symm
        · have := hm1 x e; have := hl1 y e'; omega
    subst e
    congr 1
    refine sorted_eq l m (List.Pairwise.of_cons hl) (List.Pairwise.of_cons hm) (fun z => ?_)
    constructor
    · intro hz
      rcases List.mem_cons.1 ((h z).1 (by simp [hz])) with e | e
      · have := hl1 z hz; omega
      · exact e
    · intro hz
      rcases List.mem_cons.1 ((h z).2 (by simp [hz])) with e | e
      · have := hm1 z hz; omega
      · exact e

/-- The halls behind the doors of a hall. -/
def nb (H : Nat) (ds : List (Int × Int)) (x : Nat) : List Nat := (List.range H).filter fun i => isDoor ds (i : Int) (x : Int)
theorem nb_lt {H : Nat} {ds : List (Int × Int)} {x y : Nat} (h : y ∈ nb H ds x) : y < H := List.mem_range.1 (List.mem_filter.1 h).1
/-- As the landed text goes through the doors. -/
theorem nb_eq {H : Nat} {ds : List (Int × Int)} (h : HForm H ds) (x : Nat) : nbI ds (x : Int) = (nb H ds x).map fun (y : Nat) => (y : Int) := by
  refine sorted_eq _ _ (nbI_sorted h _) ?_ (fun y => ?_)
  · rw [List.pairwise_map]
    unfold nb
    refine (List.Pairwise.filter _ List.pairwise_lt_range).imp ?_
    intro a b hab; omega
  · constructor
    · intro hy
      obtain ⟨h0, hH⟩ := nbI_bound h hy
      obtain ⟨z, rfl⟩ := Int.eq_ofNat_of_zero_le h0
      rw [List.mem_map]
      refine ⟨z, ?_, rfl⟩
      unfold nb
      rw [List.mem_filter, List.mem_range]
      exact ⟨by omega, (mem_nbI h).1 hy⟩
    · intro hy
      obtain ⟨z, hz, rfl⟩ := List.mem_map.1 hy
      exact (mem_nbI h).2 (List.mem_filter.1 hz).2

/-! Distances, breadth first: what is known of each hall, and the halls in the order in which they came. -/
abbrev S := List Int × List Nat
def stp (hall : Nat) (s : S) (x : Nat) : S := if s.1.getD x 0 < 0 then (s.1.set x (s.1.getD hall 0 + 1), s.2 ++ [x]) else s
def rnd (H : Nat) (ds : List (Int × Int)) (s : S) (k : Nat) : S := (nb H ds (s.2.getD k 0)).foldl (stp (s.2.getD k 0)) s
def st (H : Nat) (ds : List (Int × Int)) (a : Nat) : Nat → S
  | 0 => ((List.replicate H (-1)).set a 0, [a])
  | k + 1 => if k < (st H ds a k).2.length then rnd H ds (st H ds a k) k else st H ds a k
structure Inv (H : Nat) (s : S) : Prop where
  len : s.1.length = H
  lt : ∀ x ∈ s.2, x < H
  nodup : s.2.Nodup
  neg : ∀ x, x < H → (s.1.getD x 0 < 0 ↔ x ∉ s.2)
  lo : ∀ x, x < H → -1 ≤ s.1.getD x 0
  hi : ∀ x, x < H → s.1.getD x 0 < s.2.length
theorem getD_set {l : List Int} {x y : Nat} {v : Int} (hx : x < l.length) : (l.set x v).getD y 0 = if y = x then v else l.getD y 0 := by
  by_cases h : y = x
  · subst h; simp [hx]
  · simp [List.getD, h, Ne.symm h]
theorem Inv.step {H : Nat} {s : S} (h : Inv H s) {hall x : Nat} (hh : hall < H) (hx : x < H) : Inv H (stp hall s x) := by
  unfold stp
  split
  · rename_i hn
    have hxl : x < s.1.length := by rw [h.len]; exact hx
    have hh1 := h.lo hall hh
    have hh2 := h.hi hall hh
    refine ⟨by simp [h.len], fun y hy => ?_, ?_, fun y hy => ?_, fun y hy => ?_, fun y hy => ?_⟩
    · rcases List.mem_append.1 hy with hy | hy
      · exact h.lt y hy
      · simp at hy; omega
    · rw [List.nodup_append]
      refine ⟨h.nodup, by simp, fun a ha b hb => ?_⟩
      simp at hb; subst hb
      intro e; subst e
      exact ((h.neg _ hx).1 hn) ha
    · simp only [getD_set hxl, List.mem_append, List.mem_singleton]
      split
      · rename_i e; subst e; constructor
        · intro; omega
        · intro hc; exact absurd (Or.inr rfl) hc
      · rename_i e; rw [h.neg y hy]; constructor
        · rintro h1 (h2 | h2)
          · exact h1 h2
          · exact e h2
        · intro h1 h2; exact h1 (.inl h2)
    · simp only [getD_set hxl]
      split
      · omega
      · exact h.lo y hy
    · simp only [getD_set hxl, List.length_append, List.length_singleton]
      have := h.hi y hy
      split <;> omega
  · exact h
theorem Inv.fold {H : Nat} {hall : Nat} (hh : hall < H) : ∀ (l : List Nat) (s : S), Inv H s → (∀ x ∈ l, x < H) → Inv H (l.foldl (stp hall) s)
  | [], _, h, _ => h
  | x :: l, s, h, hl => Inv.fold hh l _ (h.step hh (hl x (by simp))) (fun y hy => hl y (by simp [hy]))
theorem Inv.start {H a : Nat} (ha : a < H) : Inv H ((List.replicate H (-1)).set a 0, [a]) := by
  have hl : a < (List.replicate H (-1 : Int)).length := by simpa using ha
  have hr : ∀ y, y < H → (List.replicate H (-1 : Int)).getD y 0 = -1 := fun y hy => by simp [List.getD, hy]
  refine ⟨by simp, fun x hx => ?_, by simp, fun y hy => ?_, fun y hy => ?_, fun y hy => ?_⟩
  · simp at hx; omega
  · simp only [getD_set hl, hr y hy, List.mem_singleton]
    split <;> simp_all
  · simp only [getD_set hl, hr y hy]
    split <;> omega
  · simp only [getD_set hl, hr y hy]
    split <;> simp
theorem getD_mem {l : List Nat} {k : Nat} (h : k < l.length) : l.getD k 0 ∈ l := by simp [List.getD, h]
theorem inv_st {H a : Nat} {ds : List (Int × Int)} (ha : a < H) : ∀ k, Inv H (st H ds a k)
  | 0 => Inv.start ha
  | k + 1 => by
    have ih := inv_st (ds := ds) ha k
    unfold st
    split
    · rename_i h
      exact Inv.fold (ih.lt _ (getD_mem h)) _ _ ih (fun x hx => nb_lt hx)
    · exact ih
theorem nodup_lt : ∀ (H : Nat) (l : List Nat), l.Nodup → (∀ x ∈ l, x < H) → l.length ≤ H
  | 0, l, _, h => by
    cases l with
    | nil => simp
    | cons x l => exact absurd (h x (by simp)) (by omega)
  | H + 1, l, hn, h => by
    by_cases hm : H ∈ l
    · have := nodup_lt H (l.erase H) (hn.erase H) (fun x hx => by
        have h1 := (hn.mem_erase_iff).1 hx
        have := h x h1.2
        have := h1.1
        omega)
      rw [List.length_erase_of_mem hm] at this
      omega
    · have := nodup_lt H l hn (fun x hx => by
        have := h x hx
        rcases Nat.lt_or_ge x H with h1 | h1
        · exact h1
        · exact absurd (show H ∈ l by rw [show H = x by omega]; exact hx) hm)
      omega
theorem Inv.le {H : Nat} {s : S} (h : Inv H s) : s.2.length ≤ H := nodup_lt H s.2 h.nodup h.lt
theorem st_stays {H a : Nat} {ds : List (Int × Int)} {k : Nat} (h : (st H ds a k).2.length ≤ k) : ∀ j, st H ds a (k + j) = st H ds a k
  | 0 => rfl
  | j + 1 => by
    have ih := st_stays h j
    have e : st H ds a ((k + j) + 1) = if k + j < (st H ds a (k + j)).2.length then rnd H ds (st H ds a (k + j)) (k + j) else st H ds a (k + j) := rfl
    rw [← Nat.add_assoc, e, ih, if_neg (by omega)]
/-- The model's inner loop: halls below i have been looked at. -/
def inn (ds : List (Int × Int)) (x : Nat) (s : S) (i : Nat) : S := ((List.range i).filter fun (z : Nat) => isDoor ds (z : Int) (x : Int)).foldl (stp x) s
theorem inn_succ (ds : List (Int × Int)) (x : Nat) (s : S) (i : Nat) : inn ds x s (i + 1) = if isDoor ds (i : Int) (x : Int) = true then stp x (inn ds x s i) i else inn ds x s i := by
  unfold inn
  rw [List.range_succ, List.filter_append, List.foldl_append]
  by_cases h : isDoor ds (i : Int) (x : Int) = true
  · simp [h]
  · simp [h]
theorem inn_inv {H : Nat} {ds : List (Int × Int)} {x : Nat} {s : S} (hx : x < H) (h : Inv H s) {i : Nat} (hi : i ≤ H) : Inv H (inn ds x s i) :=
  Inv.fold hx _ _ h (fun y hy => by have := List.mem_range.1 (List.mem_filter.1 hy).1; omega)
theorem stp_pre (hall : Nat) (s : S) (x : Nat) : s.2 <+: (stp hall s x).2 := by
  unfold stp
  split
  · exact List.prefix_append _ _
  · exact List.prefix_refl _
theorem fold_pre (hall : Nat) : ∀ (l : List Nat) (s : S), s.2 <+: (l.foldl (stp hall) s).2
  | [], _ => List.prefix_refl _
  | x :: l, s => (stp_pre hall s x).trans (fold_pre hall l _)
theorem pre_getD {l m : List Nat} (h : l <+: m) {k : Nat} (hk : k < l.length) : m.getD k 0 = l.getD k 0 := by
  obtain ⟨t, rfl⟩ := h
  simp [List.getD, List.getElem?_append_left hk]
theorem stp_len (hall : Nat) (s : S) (x : Nat) : s.2.length ≤ (stp hall s x).2.length := by
  unfold stp
  split <;> simp
theorem fold_len (hall : Nat) : ∀ (l : List Nat) (s : S), s.2.length ≤ (l.foldl (stp hall) s).2.length
  | [], _ => Nat.le_refl _
  | x :: l, s => Nat.le_trans (stp_len hall s x) (fold_len hall l _)
theorem stp_new {hall x : Nat} {s : S} (h : s.1.getD x 0 < 0) : stp hall s x = (s.1.set x (s.1.getD hall 0 + 1), s.2 ++ [x]) := by unfold stp; rw [if_pos h]
theorem stp_old {hall x : Nat} {s : S} (h : ¬ s.1.getD x 0 < 0) : stp hall s x = s := by unfold stp; rw [if_neg h]
theorem st_succ {H a : Nat} {ds : List (Int × Int)} {k : Nat} (h : k < (st H ds a k).2.length) : st H ds a (k + 1) = (nb H ds ((st H ds a k).2.getD k 0)).foldl (stp ((st H ds a k).2.getD k 0)) (st H ds a k) := by
  have e : st H ds a (k + 1) = if k < (st H ds a k).2.length then rnd H ds (st H ds a k) k else st H ds a k := rfl
  rw [e, if_pos h]
  rfl
/-- The distances of all halls from a hall. -/
def dist (H : Nat) (ds : List (Int × Int)) (a : Nat) : List Int := (st H ds a H).1
theorem dist_end {H a : Nat} {ds : List (Int × Int)} (_ha : a < H) {k : Nat} (hk : k ≤ H) (h : (st H ds a k).2.length ≤ k) : dist H ds a = (st H ds a k).1 := by
  unfold dist
  have := st_stays h (H - k)
  rw [show k + (H - k) = H by omega] at this
  rw [this]
theorem dist_len {H a : Nat} {ds : List (Int × Int)} (ha : a < H) : (dist H ds a).length = H := (inv_st ha H).len
theorem dist_lo {H a : Nat} {ds : List (Int × Int)} (ha : a < H) {x : Nat} (hx : x < H) : -1 ≤ (dist H ds a).getD x 0 := (inv_st ha H).lo x hx
theorem dist_hi {H a : Nat} {ds : List (Int × Int)} (ha : a < H) {x : Nat} (hx : x < H) : (dist H ds a).getD x 0 < H := by
  have h := inv_st (ds := ds) ha H
  have := h.hi x hx
  have := h.le
  unfold dist
  omega
/-- A house is valid. -/
def houseB (H : Int) (ds : List (Int × Int)) : Bool := formB H ds && (List.range H.toNat).all fun k => decide (0 ≤ (dist H.toNat ds 0).getD k 0)
theorem house_form {H : Int} {ds : List (Int × Int)} (h : houseB H ds = true) : HForm H ds := by
  unfold houseB at h
  rw [Bool.and_eq_true] at h
  exact form_out h.1
theorem house_bad {H : Int} {ds : List (Int × Int)} (h : formB H ds = false) : houseB H ds = false := by simp [houseB, h]
theorem house_of {H : Int} {ds : List (Int × Int)} (h : formB H ds = true) : houseB H ds = (List.range H.toNat).all fun k => decide (0 ≤ (dist H.toNat ds 0).getD k 0) := by simp [houseB, h]
theorem house_contains {H : Int} {ds : List (Int × Int)} (h : formB H ds = true) : houseB H ds = !((dist H.toNat ds 0).contains (-1)) := by
  have hf := form_out h
  have hH : 0 < H.toNat := by have := hf.h1; omega
  rw [house_of h]
  cases hc : (dist H.toNat ds 0).contains (-1) with
  | true =>
    rw [List.contains_iff_mem] at hc
    obtain ⟨k, hk, e⟩ := List.mem_iff_getElem.1 hc
    rw [Bool.not_true, List.all_eq_false]
    refine ⟨k, List.mem_range.2 (by rw [dist_len hH] at hk; exact hk), ?_⟩
    simp [List.getD, hk, e]
  | false =>
    rw [Bool.not_false, List.all_eq_true]
    intro k hk
    have hk := List.mem_range.1 hk
    have hlo := dist_lo (ds := ds) hH hk
    have hkl : k < (dist H.toNat ds 0).length := by rw [dist_len hH]; exact hk
    by_cases h0 : 0 ≤ (dist H.toNat ds 0).getD k 0
    · simpa using h0
    · exfalso
      have e : (dist H.toNat ds 0).getD k 0 = -1 := by omega
      have hm : (-1 : Int) ∈ dist H.toNat ds 0 := by
        rw [← e]; simp [List.getD, hkl]
      rw [← List.contains_iff_mem, hc] at hm
      cases hm
end Go.Proofs.Ytcfoleiooohbhaa.HouMath
