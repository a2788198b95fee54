/-
  The distances of a house are the lengths of its shortest ways. No program stands here.
-/
import Derived.Test.YtcfoleiooohbhaaHouReach
namespace Go.Proofs.Ytcfoleiooohbhaa.HouLevel
open HouMath HouReach

def Mono (s : S) : Prop := ∀ i j, i ≤ j → j < s.2.length → s.1.getD (s.2.getD i 0) 0 ≤ s.1.getD (s.2.getD j 0) 0
/-- While hall h, at distance c, is looked from. -/
structure FI (H h : Nat) (c : Int) (s : S) : Prop where
  inv : Inv H s
  mem : h ∈ s.2
  val : s.1.getD h 0 = c
  mono : Mono s
  top : ∀ x ∈ s.2, s.1.getD x 0 ≤ c + 1
theorem getD_snoc {l : List Nat} {x i : Nat} : (l ++ [x]).getD i 0 = if i < l.length then l.getD i 0 else if i = l.length then x else 0 := by
  rw [List.getD_eq_getElem?_getD, List.getD_eq_getElem?_getD]
  split
  · rename_i h; rw [List.getElem?_append_left h]
  · rename_i h
    rw [List.getElem?_append_right (by omega)]
    split
    · rename_i e; subst e; simp
    · rename_i e
      rw [List.getElem?_eq_none (by simp; omega)]; rfl
theorem FI.step {H h : Nat} {c : Int} {s : S} (f : FI H h c s) {x : Nat} (hx : x < H) : FI H h c (stp h s x) ∧ (∀ y ∈ s.2, (stp h s x).1.getD y 0 = s.1.getD y 0) ∧ (∀ y ∈ (stp h s x).2, y ∈ s.2 ∨ (y = x ∧ (stp h s x).1.getD y 0 = c + 1)) := by
  have hh := f.inv.lt h f.mem
  have hi := f.inv.step hh hx
  by_cases hn : s.1.getD x 0 < 0
  · have hxl : x < s.1.length := by rw [f.inv.len]; exact hx
    have hxs : x ∉ s.2 := (f.inv.neg x hx).1 hn
    rw [stp_new hn] at hi ⊢
    rw [f.val] at hi ⊢
    have hold : ∀ y ∈ s.2, (s.1.set x (c + 1)).getD y 0 = s.1.getD y 0 := fun y hy => by
      rw [getD_set hxl, if_neg (fun e : y = x => hxs (by rw [← e]; exact hy))]
    have hnew : (s.1.set x (c + 1)).getD x 0 = c + 1 := by rw [getD_set hxl, if_pos rfl]
    refine ⟨⟨hi, List.mem_append_left _ f.mem, ?_, ?_, ?_⟩, hold, ?_⟩
    · show (s.1.set x (c + 1)).getD h 0 = c
      rw [hold h f.mem]; exact f.val
    · intro i j hij hj
      show (s.1.set x (c + 1)).getD ((s.2 ++ [x]).getD i 0) 0 ≤ (s.1.set x (c + 1)).getD ((s.2 ++ [x]).getD j 0) 0
      have hj : j < s.2.length + 1 := by simpa using hj
      rw [getD_snoc, getD_snoc]
      by_cases h1 : j < s.2.length
      · rw [if_pos (show i < s.2.length by omega), if_pos h1, hold _ (getD_mem (by omega)), hold _ (getD_mem h1)]
        exact f.mono i j hij h1
      · rw [if_neg h1, if_pos (show j = s.2.length by omega), hnew]
        by_cases h2 : i < s.2.length
        · rw [if_pos h2, hold _ (getD_mem h2)]
          exact f.top _ (getD_mem h2)
        · rw [if_neg h2, if_pos (show i = s.2.length by omega), hnew]
          exact Int.le_refl _
    · intro y hy
      show (s.1.set x (c + 1)).getD y 0 ≤ c + 1
      rcases List.mem_append.1 hy with hy | hy
      · rw [hold y hy]; exact f.top y hy
      · simp at hy; subst hy; rw [hnew]; exact Int.le_refl _
    · intro y hy
      rcases List.mem_append.1 hy with hy | hy
      · exact .inl hy
      · simp at hy; subst hy; exact .inr ⟨rfl, hnew⟩
  · rw [stp_old hn] at hi ⊢
    exact ⟨f, fun _ _ => rfl, fun y hy => .inl hy⟩
theorem FI.fold {H h : Nat} {c : Int} : ∀ (l : List Nat) (s : S), FI H h c s → (∀ x ∈ l, x < H) → FI H h c (l.foldl (stp h) s) ∧ (∀ y ∈ s.2, (l.foldl (stp h) s).1.getD y 0 = s.1.getD y 0) ∧ (∀ y ∈ (l.foldl (stp h) s).2, y ∈ s.2 ∨ (y ∈ l ∧ (l.foldl (stp h) s).1.getD y 0 = c + 1))
  | [], s, f, _ => ⟨f, fun _ _ => rfl, fun y hy => .inl hy⟩
  | x :: l, s, f, hl => by
    obtain ⟨f1, o1, n1⟩ := f.step (hl x (by simp))
    obtain ⟨f2, o2, n2⟩ := FI.fold l _ f1 (fun y hy => hl y (by simp [hy]))
    refine ⟨f2, fun y hy => ?_, fun y hy => ?_⟩
    · show (l.foldl (stp h) (stp h s x)).1.getD y 0 = _
      rw [o2 y ((stp_pre h s x).subset hy), o1 y hy]
    · rcases n2 y hy with hy2 | ⟨hy2, e⟩
      · rcases n1 y hy2 with hy3 | ⟨rfl, e⟩
        · exact .inl hy3
        · refine .inr ⟨by simp, ?_⟩
          show (l.foldl (stp h) (stp h s y)).1.getD y 0 = _
          rw [o2 y hy2]; exact e
      · exact .inr ⟨by simp [hy2], e⟩
/-- What is known when k halls were looked from. -/
structure Lev (H : Nat) (ds : List (Int × Int)) (a k : Nat) (s : S) : Prop where
  mono : Mono s
  near : k < s.2.length → ∀ x ∈ s.2, s.1.getD x 0 ≤ s.1.getD (s.2.getD k 0) 0 + 1
  edge : ∀ j, j < k → j < s.2.length → ∀ y ∈ nb H ds (s.2.getD j 0), s.1.getD y 0 ≤ s.1.getD (s.2.getD j 0) 0 + 1
  par : ∀ x ∈ s.2, x ≠ a → ∃ z ∈ s.2, x ∈ nb H ds z ∧ s.1.getD x 0 = s.1.getD z 0 + 1
  mem : a ∈ s.2
  zero : s.1.getD a 0 = 0
theorem lev {H a : Nat} {ds : List (Int × Int)} (ha : a < H) : ∀ k, Lev H ds a k (st H ds a k)
  | 0 => by
    have hl : a < (List.replicate H (-1 : Int)).length := by simpa using ha
    have e0 : st H ds a 0 = ((List.replicate H (-1)).set a 0, [a]) := rfl
    rw [e0]
    have hz : ((List.replicate H (-1 : Int)).set a 0).getD a 0 = 0 := by rw [getD_set hl, if_pos rfl]
    refine ⟨fun i j hij hj => ?_, fun _ x hx => ?_, fun j hj => absurd hj (by omega), fun x hx hne => ?_, by simp, hz⟩
    · have hj : j < 1 := by simpa using hj
      obtain rfl : j = 0 := by omega
      obtain rfl : i = 0 := by omega
      exact Int.le_refl _
    · simp at hx; subst hx
      show ((List.replicate H (-1 : Int)).set x 0).getD x 0 ≤ ((List.replicate H (-1 : Int)).set x 0).getD x 0 + 1
      omega
    · simp at hx; exact absurd hx hne
  | k + 1 => by
    have ih := lev (ds := ds) ha k
    have hi := inv_st (ds := ds) ha k
    by_cases hk : k < (st H ds a k).2.length
    · have hcl := closed (ds := ds) ha k
      have hs := st_succ (H := H) (ds := ds) (a := a) hk
      rw [hs]
      have hpre := fold_pre ((st H ds a k).2.getD k 0) (nb H ds ((st H ds a k).2.getD k 0)) (st H ds a k)
      generalize st H ds a k = s at *
      have hmem := getD_mem hk
      obtain ⟨h, hh⟩ : ∃ h, s.2.getD k 0 = h := ⟨_, rfl⟩
      have hall := fold_all (hi.lt h (hh ▸ hmem)) (nb H ds h) s hi (fun z hz => nb_lt hz)
      rw [hh] at hmem hpre ⊢
      have f0 : FI H h (s.1.getD h 0) s := ⟨hi, hmem, rfl, ih.mono, fun x hx => by have := ih.near hk x hx; rw [hh] at this; exact this⟩
      obtain ⟨f1, o1, n1⟩ := FI.fold (nb H ds h) s f0 (fun z hz => nb_lt hz)
      clear hs
      generalize hs' : (nb H ds h).foldl (stp h) s = s' at *
      refine ⟨f1.mono, fun hk2 x hx => ?_, fun j hj hjl y hy => ?_, fun x hx hne => ?_, hpre.subset ih.mem, by rw [o1 a ih.mem]; exact ih.zero⟩
      · have h1 := f1.top x hx
        have h2 := f1.mono k (k + 1) (by omega) hk2
        rw [pre_getD hpre hk, hh, f1.val] at h2
        omega
      · by_cases hj2 : j < k
        · have hjl2 : j < s.2.length := by omega
          rw [pre_getD hpre hjl2] at hy ⊢
          rw [o1 y (hcl j hj2 hjl2 y hy), o1 _ (getD_mem hjl2)]
          exact ih.edge j hj2 hjl2 y hy
        · obtain rfl : j = k := by omega
          rw [pre_getD hpre hk, hh] at hy ⊢
          rw [f1.val]
          exact f1.top y (hall y hy)
      · rcases n1 x hx with hx1 | ⟨hx1, e⟩
        · obtain ⟨z, hz, hz2, hz3⟩ := ih.par x hx1 hne
          exact ⟨z, hpre.subset hz, hz2, by rw [o1 x hx1, o1 z hz]; exact hz3⟩
        · exact ⟨h, hpre.subset hmem, hx1, by rw [f1.val]; exact e⟩
    · have e : st H ds a (k + 1) = st H ds a k := st_stays (Nat.le_of_not_lt hk) 1
      rw [e]
      exact ⟨ih.mono, fun h => absurd h (by omega), fun j hj hjl => ih.edge j (by omega) hjl, ih.par, ih.mem, ih.zero⟩

/-- A way of n doors. -/
inductive Wk (H : Nat) (ds : List (Int × Int)) (a : Nat) : Nat → Nat → Prop
  | nil : Wk H ds a 0 a
  | step {n x y : Nat} : Wk H ds a n x → y ∈ nb H ds x → Wk H ds a (n + 1) y
theorem Wk.lt {H a n b : Nat} {ds : List (Int × Int)} (ha : a < H) (h : Wk H ds a n b) : b < H := by
  cases h with
  | nil => exact ha
  | step _ h => exact nb_lt h
theorem Wk.trans {H a b c n m : Nat} {ds : List (Int × Int)} (h : Wk H ds a n b) (k : Wk H ds b m c) : Wk H ds a (n + m) c := by
  induction k with
  | nil => exact h
  | step _ hy ih => exact ih.step hy
theorem Wk.symm {H a b n : Nat} {ds : List (Int × Int)} (ha : a < H) (h : Wk H ds a n b) : Wk H ds b n a := by
  induction h with
  | nil => exact .nil
  | step h hy ih =>
    have h1 := (Wk.nil (H := H) (ds := ds)).step (nb_comm (h.lt ha) hy)
    have := h1.trans ih
    rw [Nat.add_comm] at this
    exact this
theorem way_le {N a n b : Nat} {ds : List (Int × Int)} (hv : houseB N ds = true) (ha : a < N) (h : Wk N ds a n b) : (dist N ds a).getD b 0 ≤ n := by
  have hl := lev (ds := ds) ha N
  have hi := inv_st (ds := ds) ha N
  induction h with
  | nil => show (st N ds a N).1.getD a 0 ≤ _; rw [hl.zero]; exact Int.le_refl _
  | step h hy ih =>
    rename_i m x y
    have hx := h.lt ha
    have hxs : x ∈ (st N ds a N).2 := whole ha (house_conn hv ha hx)
    obtain ⟨j, hj, e⟩ := List.mem_iff_getElem.1 hxs
    have e2 : (st N ds a N).2.getD j 0 = x := by rw [← e]; simp [List.getD, hj]
    have := hl.edge j (Nat.lt_of_lt_of_le hj hi.le) hj y (by rw [e2]; exact hy)
    rw [e2] at this
    have h3 : (st N ds a N).1.getD x 0 ≤ m := ih
    show (st N ds a N).1.getD y 0 ≤ _
    omega
theorem way_of {N a : Nat} {ds : List (Int × Int)} (hv : houseB N ds = true) (ha : a < N) : ∀ (m b : Nat), b < N → (dist N ds a).getD b 0 = (m : Int) → Wk N ds a m b := by
  have hl := lev (ds := ds) ha N
  intro m
  induction m with
  | zero =>
    intro b hb h
    have hbs : b ∈ (st N ds a N).2 := whole ha (house_conn hv ha hb)
    by_cases e : b = a
    · subst e; exact .nil
    · obtain ⟨z, hz, _, h3⟩ := hl.par b hbs e
      have h4 := house_dist hv ha ((inv_st (ds := ds) ha N).lt z hz)
      unfold dist at h h4
      omega
  | succ m ih =>
    intro b hb h
    have hbs : b ∈ (st N ds a N).2 := whole ha (house_conn hv ha hb)
    have e : b ≠ a := fun e => by
      subst e
      have := hl.zero
      unfold dist at h
      omega
    obtain ⟨z, hz, h2, h3⟩ := hl.par b hbs e
    refine (ih z ((inv_st (ds := ds) ha N).lt z hz) ?_).step h2
    unfold dist at h ⊢
    omega
theorem dist_nat {N a b : Nat} {ds : List (Int × Int)} (hv : houseB N ds = true) (ha : a < N) (hb : b < N) : ∃ m : Nat, (dist N ds a).getD b 0 = (m : Int) ∧ Wk N ds a m b := by
  obtain ⟨m, hm⟩ := Int.eq_ofNat_of_zero_le (house_dist hv ha hb)
  exact ⟨m, hm, way_of hv ha m b hb hm⟩
theorem dist_comm {N a b : Nat} {ds : List (Int × Int)} (hv : houseB N ds = true) (ha : a < N) (hb : b < N) : (dist N ds a).getD b 0 = (dist N ds b).getD a 0 := by
  obtain ⟨m, h1, h2⟩ := dist_nat hv ha hb
  obtain ⟨n, h3, h4⟩ := dist_nat hv hb ha
  have h5 := way_le hv hb (h2.symm ha)
  have h6 := way_le hv ha (h4.symm hb)
  omega
theorem dist_tri {N a b c : Nat} {ds : List (Int × Int)} (hv : houseB N ds = true) (ha : a < N) (hb : b < N) (hc : c < N) : (dist N ds a).getD b 0 ≤ (dist N ds a).getD c 0 + (dist N ds c).getD b 0 := by
  obtain ⟨m, h1, h2⟩ := dist_nat hv ha hc
  obtain ⟨n, h3, h4⟩ := dist_nat hv hc hb
  have := way_le hv ha (h2.trans h4)
  omega
theorem dist_zero {N a b : Nat} {ds : List (Int × Int)} (hv : houseB N ds = true) (ha : a < N) (hb : b < N) : (dist N ds a).getD b 0 = 0 ↔ a = b := by
  constructor
  · intro h
    have := way_of hv ha 0 b hb (by simpa using h)
    cases this
    rfl
  · rintro rfl
    have := way_le hv ha (Wk.nil (H := N) (ds := ds) (a := a))
    have := house_dist hv ha ha
    omega
theorem dist_one {N a b : Nat} {ds : List (Int × Int)} (hv : houseB N ds = true) (ha : a < N) (hb : b < N) : (dist N ds a).getD b 0 = 1 ↔ isDoor ds (a : Int) (b : Int) = true := by
  constructor
  · intro h
    have h1 := way_of hv ha 1 b hb (by simpa using h)
    cases h1 with
    | step h2 h3 =>
      cases h2
      have := (List.mem_filter.1 h3).2
      rw [isDoor_comm]; exact this
  · intro h
    have hm : b ∈ nb N ds a := by
      unfold nb
      rw [List.mem_filter, List.mem_range]
      exact ⟨hb, by rw [isDoor_comm]; exact h⟩
    have h1 := way_le hv ha ((Wk.nil (H := N) (ds := ds) (a := a)).step hm)
    have h2 := house_dist hv ha hb
    have h3 : (dist N ds a).getD b 0 ≠ 0 := fun e => by
      have := (dist_zero hv ha hb).1 e
      subst this
      rw [isDoor_self (house_form hv)] at h
      cases h
    have h4 : (dist N ds a).getD b 0 ≤ 1 := by simpa using h1
    omega
end Go.Proofs.Ytcfoleiooohbhaa.HouLevel
