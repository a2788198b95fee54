/-
  The house that is drawn from a table of pairs: it is valid. No program stands here.
-/
import Derived.Test.YtcfoleiooohbhaaHouReach
namespace Go.Proofs.Ytcfoleiooohbhaa.HouDrawM
open HouMath HouReach

/-- Place p of the table is a door. -/
def fT (N : Nat) (wi : List Bool) (p : Nat) : Bool := wi.getD p false && decide (p / 7 < p % 7) && decide (p % 7 < N)
def posT (N : Nat) (wi : List Bool) (m : Nat) : List Nat := (List.range m).filter (fT N wi)
def pairT (p : Nat) : Int × Int := (((p / 7 : Nat) : Int), ((p % 7 : Nat) : Int))
/-- The doors of the places below m. -/
def doorT (N : Nat) (wi : List Bool) (m : Nat) : List (Int × Int) := (posT N wi m).map pairT
theorem doorT_succ (N : Nat) (wi : List Bool) (m : Nat) : doorT N wi (m + 1) = if fT N wi m then doorT N wi m ++ [pairT m] else doorT N wi m := by
  unfold doorT posT
  rw [List.range_succ, List.filter_append, List.map_append]
  cases h : fT N wi m
  · simp [h]
  · simp [h]
theorem doorT_same {N : Nat} {wi : List Bool} {m d : Nat} (h : ∀ p, m ≤ p → p < m + d → fT N wi p = false) : doorT N wi (m + d) = doorT N wi m := by
  induction d with
  | zero => rfl
  | succ d ih =>
    rw [← Nat.add_assoc, doorT_succ, h (m + d) (by omega) (by omega), if_neg (by simp)]
    exact ih (fun p h1 h2 => h p h1 (by omega))
theorem nodup_le : ∀ (l P : List Nat), l.Nodup → (∀ x ∈ l, x ∈ P) → l.length ≤ P.length
  | [], _, _, _ => Nat.zero_le _
  | x :: l, P, hn, h => by
    rw [List.nodup_cons] at hn
    have hx := h x (by simp)
    have := nodup_le l (P.erase x) hn.2 (fun y hy => by
      rw [List.mem_erase_of_ne (fun e : y = x => hn.1 (by rw [← e]; exact hy))]
      exact h y (by simp [hy]))
    rw [List.length_erase_of_mem hx] at this
    have hp : 0 < P.length := List.length_pos_of_mem hx
    simp
    omega
/-- A table whose true places are among P, with a door from each hall to one before it. -/
structure Tab (N c : Nat) (wi : List Bool) (P : List Nat) : Prop where
  len : wi.length = 49
  few : P.length ≤ c
  sub : ∀ p, p < 49 → wi.getD p false = true → p ∈ P
theorem Tab.set {N c : Nat} {wi : List Bool} {P : List Nat} (h : Tab N c wi P) (p : Nat) : Tab N (c + 1) (wi.set p true) (p :: P) := by
  refine ⟨by rw [List.length_set]; exact h.len, by have := h.few; simp; omega, fun q hq hw => ?_⟩
  by_cases e : q = p
  · subst e; simp
  · rw [List.mem_cons]
    refine .inr (h.sub q hq ?_)
    rw [List.getD_eq_getElem?_getD, List.getElem?_set_ne (fun e2 => e e2.symm), ← List.getD_eq_getElem?_getD] at hw
    exact hw
theorem keep {wi : List Bool} {p q : Nat} (h : wi.getD q false = true) : (wi.set p true).getD q false = true := by
  rw [List.getD_eq_getElem?_getD] at h ⊢
  by_cases e : p = q
  · subst e
    have hl : p < wi.length := by
      rcases Nat.lt_or_ge p wi.length with h1 | h1
      · exact h1
      · rw [List.getElem?_eq_none h1] at h; cases h
    rw [List.getElem?_set_self hl]; rfl
  · rw [List.getElem?_set_ne e]; exact h
theorem new {wi : List Bool} {p : Nat} (h : p < wi.length) : (wi.set p true).getD p false = true := by
  rw [List.getD_eq_getElem?_getD, List.getElem?_set_self h]; rfl
theorem posT_mem {N : Nat} {wi : List Bool} {m p : Nat} : p ∈ posT N wi m ↔ p < m ∧ fT N wi p = true := by
  unfold posT; rw [List.mem_filter, List.mem_range]
theorem fT_parts {N : Nat} {wi : List Bool} {p : Nat} (h : fT N wi p = true) : wi.getD p false = true ∧ p / 7 < p % 7 ∧ p % 7 < N := by
  unfold fT at h
  rw [Bool.and_eq_true, Bool.and_eq_true, decide_eq_true_eq, decide_eq_true_eq] at h
  exact ⟨h.1.1, h.1.2, h.2⟩
theorem doorT_len {N c : Nat} {wi : List Bool} {P : List Nat} (h : Tab N c wi P) : (doorT N wi 49).length ≤ c := by
  unfold doorT
  rw [List.length_map]
  refine Nat.le_trans (nodup_le _ P ?_ (fun p hp => ?_)) h.few
  · unfold posT
    exact (List.nodup_range).filter _
  · rw [posT_mem] at hp
    exact h.sub p hp.1 (fT_parts hp.2).1
theorem doorT_le (N : Nat) (wi : List Bool) (m : Nat) : (doorT N wi m).length ≤ m := by
  unfold doorT posT
  rw [List.length_map]
  exact Nat.le_trans (List.length_filter_le _ _) (by simp)
theorem form_T {N : Nat} {wi : List Bool} (h1 : 1 ≤ N) (h7 : N ≤ 7) (hl : (doorT N wi 49).length ≤ 12) : formB N (doorT N wi 49) = true := by
  rw [form_ok (fun k hk => ?_)]
  · rw [decide_eq_true (by omega), decide_eq_true (by omega), decide_eq_true hl]; rfl
  · have hk1 : k < (posT N wi 49).length := by unfold doorT at hk; rw [List.length_map] at hk; exact hk
    have hd : ∀ j (hj : j < (posT N wi 49).length), dr (doorT N wi 49) j = pairT (posT N wi 49)[j] := fun j hj => by
      rw [dr_get (by unfold doorT; rw [List.length_map]; exact hj)]
      unfold doorT
      rw [List.getElem_map]
    have hm := (posT_mem.1 (List.getElem_mem hk1))
    have hp := fT_parts hm.2
    have hs : (posT N wi 49).Pairwise (· < ·) := by unfold posT; exact List.Pairwise.filter _ List.pairwise_lt_range
    unfold okD
    rw [hd k hk1]
    have q1 : decide (0 ≤ (pairT (posT N wi 49)[k]).1) = true := decide_eq_true (by show (0 : Int) ≤ (((posT N wi 49)[k] / 7 : Nat) : Int); omega)
    have q2 : decide ((pairT (posT N wi 49)[k]).1 < (pairT (posT N wi 49)[k]).2) = true := decide_eq_true (by show (((posT N wi 49)[k] / 7 : Nat) : Int) < (((posT N wi 49)[k] % 7 : Nat) : Int); omega)
    have q3 : decide ((pairT (posT N wi 49)[k]).2 < (N : Int)) = true := decide_eq_true (by show (((posT N wi 49)[k] % 7 : Nat) : Int) < (N : Int); omega)
    rw [q1, q2, q3]
    by_cases h0 : k = 0
    · rw [decide_eq_true h0]; rfl
    · have hk0 : k - 1 < (posT N wi 49).length := by omega
      have hlt := List.pairwise_iff_getElem.1 hs (k - 1) k hk0 hk1 (by omega)
      rw [hd (k - 1) hk0]
      have q4 : bef (pairT (posT N wi 49)[k - 1]) (pairT (posT N wi 49)[k]) = true := by
        generalize (posT N wi 49)[k] = p at *
        generalize (posT N wi 49)[k - 1] = q at *
        unfold bef pairT
        rw [Bool.or_eq_true, Bool.and_eq_true, decide_eq_true_eq, decide_eq_true_eq, decide_eq_true_eq]
        show ((q / 7 : Nat) : Int) < ((p / 7 : Nat) : Int) ∨ ((q / 7 : Nat) : Int) = ((p / 7 : Nat) : Int) ∧ ((q % 7 : Nat) : Int) < ((p % 7 : Nat) : Int)
        omega
      rw [q4, Bool.or_true]; rfl
theorem door_T {N : Nat} {wi : List Bool} {a b : Nat} (hab : a < b) (hb : b < N) (h7 : N ≤ 7) (h : wi.getD (a * 7 + b) false = true) : isDoor (doorT N wi 49) (a : Int) (b : Int) = true := by
  rw [isDoor_iff]
  have e1 : min (a : Int) (b : Int) = (a : Int) := by omega
  have e2 : max (a : Int) (b : Int) = (b : Int) := by omega
  rw [e1, e2]
  unfold doorT
  rw [List.mem_map]
  refine ⟨a * 7 + b, posT_mem.2 ⟨by omega, ?_⟩, ?_⟩
  · unfold fT
    rw [h, decide_eq_true (by omega), decide_eq_true (by omega)]; rfl
  · unfold pairT
    rw [show (a * 7 + b) / 7 = a by omega, show (a * 7 + b) % 7 = b by omega]
theorem conn_T {N : Nat} {wi : List Bool} (_h1 : 1 ≤ N) (h7 : N ≤ 7) (h : ∀ k, 1 ≤ k → k < N → ∃ j, j < k ∧ wi.getD (j * 7 + k) false = true) : ∀ k, k < N → Conn N (doorT N wi 49) 0 k := by
  intro k
  induction k using Nat.strongRecOn with
  | _ k ih =>
    intro hk
    by_cases h0 : k = 0
    · subst h0; exact .refl
    · obtain ⟨j, hj, hw⟩ := h k (by omega) hk
      refine (ih j hj (by omega)).step ?_
      unfold nb
      rw [List.mem_filter, List.mem_range]
      exact ⟨hk, by rw [isDoor_comm]; exact door_T hj hk h7 hw⟩
/-- The drawn house is valid. -/
theorem house_T {N c : Nat} {wi : List Bool} {P : List Nat} (h1 : 1 ≤ N) (h7 : N ≤ 7) (ht : Tab N c wi P) (hc : c ≤ 12) (h : ∀ k, 1 ≤ k → k < N → ∃ j, j < k ∧ wi.getD (j * 7 + k) false = true) : houseB N (doorT N wi 49) = true := by
  have hf := form_T (N := N) (wi := wi) h1 h7 (Nat.le_trans (doorT_len ht) hc)
  rw [house_of hf, List.all_eq_true]
  intro k hk
  rw [List.mem_range] at hk
  have hk : k < N := by simpa using hk
  rw [decide_eq_true_eq]
  have := (reach (ds := doorT N wi 49) (show 0 < N by omega) hk).2 (conn_T h1 h7 h k hk)
  simpa using this
end Go.Proofs.Ytcfoleiooohbhaa.HouDrawM
