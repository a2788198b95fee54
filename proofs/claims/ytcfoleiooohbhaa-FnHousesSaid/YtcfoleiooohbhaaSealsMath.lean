/-
  What the law on seals asks: plain facts: a sealed record grows, one changed byte or seal breaks it there. No program stands here.
-/
import Derived.Test.YtcfoleiooohbhaaApeMath
namespace Go.Proofs.Ytcfoleiooohbhaa.SealsMath
open Go Go.RowKit TupISI SealMath EntryMath ApeMath

theorem step_inj {n m : Int} {b : UInt8} (hn : 0 ≤ n ∧ n < 1000003) (hm : 0 ≤ m ∧ m < 1000003) (h : digStep n b = digStep m b) : n = m := by
  unfold digStep at h; omega
theorem digs_inj : ∀ (l : List UInt8) {n m : Int}, (0 ≤ n ∧ n < 1000003) → (0 ≤ m ∧ m < 1000003) → digs n l = digs m l → n = m
  | [], _, _, _, _, h => h
  | b :: l, n, m, hn, hm, h => step_inj hn hm (digs_inj l (digStep_in n b) (digStep_in m b) h)
theorem digs_set {l : List UInt8} {i : Nat} (hi : i < l.length) {b : UInt8} (hb : b ≠ l[i]) : digs 7 (l.set i b) ≠ digs 7 l := by
  intro h
  have e1 : l = l.take i ++ l[i] :: l.drop (i + 1) := by rw [← List.drop_eq_getElem_cons hi, List.take_append_drop]
  have e2 : l.set i b = l.take i ++ b :: l.drop (i + 1) := by rw [List.set_eq_take_append_cons_drop, if_pos hi]
  rw [e2] at h
  have h2 : digs 7 (l.take i ++ b :: l.drop (i + 1)) = digs 7 (l.take i ++ l[i] :: l.drop (i + 1)) := by rw [← e1]; exact h
  rw [digs_app, digs_app] at h2
  have hr := digs_in (n := 7) (by omega) (l.take i)
  generalize digs 7 (l.take i) = n at *
  have h3 := digs_inj (l.drop (i + 1)) (digStep_in n b) (digStep_in n l[i]) h2
  have hne : b.toNat ≠ (l[i]).toNat := fun e => hb (UInt8.toNat.inj e)
  have h4 := b.toNat_lt
  have h5 := (l[i]).toNat_lt
  unfold digStep at h3
  omega
theorem seal_ne {p m : Int} {s t : ByteArray} (h : ¬ sealI p m s < 0) (hd : digestI t ≠ digestI s) : sealI p m t ≠ sealI p m s := by
  unfold sealI at h ⊢
  split at h
  · rename_i hc
    rw [if_pos hc]
    have d1 := digest_in s
    have d2 := digest_in t
    split <;> omega
  · omega

theorem tt_app {l : List Tu} {e : Tu} {j : Nat} (h : j < l.length) : tt (l ++ [e]) j = tt l j := by
  unfold tt; rw [List.getD_eq_getElem?_getD, List.getD_eq_getElem?_getD, List.getElem?_append_left h]
theorem tt_last {l : List Tu} {e : Tu} : tt (l ++ [e]) l.length = e := by
  unfold tt; rw [List.getD_eq_getElem?_getD, List.getElem?_append_right (Nat.le_refl _)]; simp
theorem tt_set {l : List Tu} {e : Tu} {k j : Nat} (hk : k < l.length) : tt (l.set k e) j = if j = k then e else tt l j := by
  unfold tt
  rw [List.getD_eq_getElem?_getD, List.getD_eq_getElem?_getD]
  by_cases h : j = k
  · subst h; rw [if_pos rfl, List.getElem?_set_self hk]; rfl
  · rw [if_neg h, List.getElem?_set_ne (fun e => h e.symm)]
theorem broken_same {l l' : List Tu} {k : Nat} (h : ∀ j, j ≤ k → tt l' j = tt l j) : brokenB l' k = brokenB l k := by
  unfold brokenB sealAhead
  rw [h k (Nat.le_refl _), h (k - 1) (by omega)]
theorem sealed_all {l : List Tu} (h : sealedB l = true) : l.length ≤ 30 ∧ ∀ k, k < l.length → brokenB l k = false := by
  unfold sealedB at h
  rw [Bool.and_eq_true, decide_eq_true_eq, decide_eq_true_eq] at h
  refine ⟨h.1, fun k hk => ?_⟩
  have h2 := h.2
  unfold firstI at h2
  split at h2
  · omega
  · rename_i hf
    rw [List.find?_eq_none] at hf
    have := hf k (List.mem_range.2 hk)
    simpa using this
theorem sealed_of {l : List Tu} (h1 : l.length ≤ 30) (h : ∀ k, k < l.length → brokenB l k = false) : sealedB l = true := by
  unfold sealedB
  rw [decide_eq_true h1, first_none rfl h]; rfl
theorem broken_parts {l : List Tu} {k : Nat} (h : brokenB l k = false) : ¬ sealI (sealAhead l k) (tt l k).1 (tt l k).2.1 < 0 ∧ sealI (sealAhead l k) (tt l k).1 (tt l k).2.1 = (tt l k).2.2 ∧ (0 < k → ¬ (tt l k).1 < (tt l (k - 1)).1) := by
  unfold brokenB at h
  simp only [Bool.or_eq_false_iff, Bool.and_eq_false_iff, decide_eq_false_iff_not] at h
  exact ⟨h.1.1, by omega, fun hk => by rcases h.2 with h2 | h2 <;> omega⟩
theorem last_in {l : List Tu} (h : sealedB l = true) : 0 ≤ lastI l ∧ lastI l ≤ 1000002 := by
  obtain ⟨_, h2⟩ := sealed_all h
  unfold lastI
  split
  · omega
  · rename_i h0
    have h3 := broken_parts (h2 (l.length - 1) (by omega))
    have h4 := seal_in (sealAhead l (l.length - 1)) (tt l (l.length - 1)).1 (tt l (l.length - 1)).2.1
    omega
theorem digest_ok {s : ByteArray} (h : s.size ≤ 200) : 0 ≤ digestI s := by
  unfold digestI; rw [if_pos h]; exact (digs_in (n := 7) (by omega) _).1
/-- One more entry is laid behind a sealed record. -/
theorem grows {l : List Tu} {m : Int} {s : ByteArray} (h : sealedB l = true) (hn : l.length < 30) (hm : momentI l ≤ m) (h0 : 0 ≤ m ∧ m ≤ 1000000) (hs : s.size ≤ 200) :
    okE l m s = true ∧ sealedB (l ++ [(m, s, sealI (lastI l) m s)]) = true ∧ lastI (l ++ [(m, s, sealI (lastI l) m s)]) = sealI (lastI l) m s ∧ momentI (l ++ [(m, s, sealI (lastI l) m s)]) = m := by
  have hl := last_in h
  have hd := digest_ok hs
  have hneg : ¬ sealI (lastI l) m s < 0 := by
    unfold sealI
    rw [if_pos ⟨hl, h0, hd⟩]
    omega
  obtain ⟨_, hb⟩ := sealed_all h
  have hlen : (l ++ [(m, s, sealI (lastI l) m s)]).length = l.length + 1 := by simp
  refine ⟨ok_yes h (by omega) hneg (by omega), sealed_of (by omega) (fun k hk => ?_), ?_, ?_⟩
  · rcases Nat.lt_or_ge k l.length with h1 | h1
    · rw [broken_same (l := l) (fun j hj => tt_app (by omega))]
      exact hb k h1
    · obtain rfl : k = l.length := by omega
      have ha : sealAhead (l ++ [(m, s, sealI (lastI l) m s)]) l.length = lastI l := by
        unfold sealAhead lastI
        split
        · rfl
        · rw [tt_app (by omega)]
      unfold brokenB
      rw [ha, tt_last]
      simp only [Bool.or_eq_false_iff, Bool.and_eq_false_iff, decide_eq_false_iff_not]
      refine ⟨⟨hneg, by simp⟩, ?_⟩
      by_cases h2 : 0 < l.length
      · right
        rw [tt_app (by omega)]
        unfold momentI at hm
        rw [if_neg (by omega)] at hm
        show ¬ m < _
        omega
      · left; exact h2
  · generalize sealI (lastI l) m s = z at *
    unfold lastI
    rw [if_neg (by omega), hlen, Nat.add_sub_cancel, tt_last]
  · generalize sealI (lastI l) m s = z at *
    unfold momentI
    rw [if_neg (by omega), hlen, Nat.add_sub_cancel, tt_last]
/-- An entry's text is another one: the record is broken there. -/
theorem breaks_text {l : List Tu} {k : Nat} {t : ByteArray} (h : sealedB l = true) (hk : k < l.length) (hd : digestI t ≠ digestI (tt l k).2.1) :
    firstI (l.set k ((tt l k).1, t, (tt l k).2.2)) = (k : Int) := by
  obtain ⟨_, hb⟩ := sealed_all h
  refine first_at (n := l.length) (by simp) hk ?_ (fun j hj => ?_)
  · obtain ⟨h1, h2, h3⟩ := broken_parts (hb k hk)
    have ha : sealAhead (l.set k ((tt l k).1, t, (tt l k).2.2)) k = sealAhead l k := by
      unfold sealAhead
      split
      · rfl
      · rw [tt_set hk, if_neg (by omega)]
    have hne := seal_ne h1 hd
    unfold brokenB
    rw [ha, tt_set hk, if_pos rfl]
    rw [h2] at hne
    simp [hne]
  · rw [broken_same (l := l) (fun i hi => by rw [tt_set hk, if_neg (by omega)])]
    exact hb j (by omega)
/-- An entry's seal is another one: the record is broken there. -/
theorem breaks_seal {l : List Tu} {k : Nat} {z : Int} (h : sealedB l = true) (hk : k < l.length) (hz : z ≠ (tt l k).2.2) :
    firstI (l.set k ((tt l k).1, (tt l k).2.1, z)) = (k : Int) := by
  obtain ⟨_, hb⟩ := sealed_all h
  refine first_at (n := l.length) (by simp) hk ?_ (fun j hj => ?_)
  · obtain ⟨h1, h2, h3⟩ := broken_parts (hb k hk)
    have ha : sealAhead (l.set k ((tt l k).1, (tt l k).2.1, z)) k = sealAhead l k := by
      unfold sealAhead
      split
      · rfl
      · rw [tt_set hk, if_neg (by omega)]
    unfold brokenB
    rw [ha, tt_set hk, if_pos rfl]
    show (decide (sealI (sealAhead l k) (tt l k).1 (tt l k).2.1 < 0) || decide (sealI (sealAhead l k) (tt l k).1 (tt l k).2.1 ≠ z) || _) = true
    have hd : decide ((tt l k).2.2 ≠ z) = true := decide_eq_true (fun e => hz e.symm)
    rw [h2, hd, Bool.or_true, Bool.true_or]
  · rw [broken_same (l := l) (fun i hi => by rw [tt_set hk, if_neg (by omega)])]
    exact hb j (by omega)
theorem not_sealed {l : List Tu} {k : Nat} (h : firstI l = (k : Int)) : sealedB l = false := by
  have hk : decide ((k : Int) = -1) = false := decide_eq_false (by omega)
  unfold sealedB; rw [h, hk, Bool.and_false]
theorem seal_at {l : List Tu} {k : Nat} (h : sealedB l = true) (hk : k < l.length) : 0 ≤ (tt l k).2.2 ∧ (tt l k).2.2 ≤ 1000002 := by
  obtain ⟨_, hb⟩ := sealed_all h
  obtain ⟨h1, h2, _⟩ := broken_parts (hb k hk)
  have h4 := seal_in (sealAhead l k) (tt l k).1 (tt l k).2.1
  omega
theorem byte_next (b : UInt8) : b + 1 ≠ b := by
  intro h
  have h1 := congrArg UInt8.toNat h
  rw [UInt8.toNat_add] at h1
  have := b.toNat_lt
  simp at h1
  omega
/-- One byte of a text is another one: another digest. -/
theorem digest_set {s : ByteArray} {i : Nat} (hi : i < s.data.toList.length) (hs : s.size ≤ 200) {b : UInt8} (hb : b ≠ s.data.toList[i]) (t : ByteArray) (ht : t.data.toList = s.data.toList.set i b) : digestI t ≠ digestI s := by
  have hsz : t.size = s.size := by
    show t.data.size = s.data.size
    rw [← Array.length_toList, ht, List.length_set, Array.length_toList]
  unfold digestI
  rw [if_pos (by omega), if_pos hs, ht]
  exact digs_set hi hb
theorem digest_a (s : ByteArray) (h : s.size = 0) (t : ByteArray) (ht : t.data.toList = [97]) : digestI t ≠ digestI s := by
  have h1 : s.data.toList = [] := List.length_eq_zero_iff.1 (by rw [Array.length_toList]; exact h)
  have h2 : t.size = 1 := by show t.data.size = 1; rw [← Array.length_toList, ht]; rfl
  unfold digestI
  rw [if_pos (by omega), if_pos (by omega), ht, h1]
  decide
theorem digest_abba : digestI ⟨#[97, 98]⟩ ≠ digestI ⟨#[98, 97]⟩ := by decide
end Go.Proofs.Ytcfoleiooohbhaa.SealsMath
