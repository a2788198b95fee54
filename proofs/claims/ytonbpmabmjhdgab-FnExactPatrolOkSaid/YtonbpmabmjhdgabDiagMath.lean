/-
  Plain facts on diagonals: a clear way between two corners that passes no third one, and joins no neighbors, has its middle inside. No program stands here.
-/
import Derived.Test.YtonbpmabmjhdgabSightMath
namespace Go.Proofs.Ytonbpmabmjhdgab.DiagMath
open PointMath WallMath RoomMath AreaMath PlaceMath LineMath CutsMath SightMath

/-- The numbers below n that pass the test, in order. -/
def thatTo (f : Nat → Bool) : Nat → List Int
  | 0 => []
  | k + 1 => if f k then thatTo f k ++ [(k : Int)] else thatTo f k
theorem thatTo_len (f : Nat → Bool) : ∀ k, (thatTo f k).length ≤ k
  | 0 => Nat.le_refl _
  | k + 1 => by
    have h := thatTo_len f k
    unfold thatTo
    split
    · rw [List.length_append]; simp only [List.length_cons, List.length_nil]; omega
    · omega
theorem thatTo_congr {f g : Nat → Bool} : ∀ {n : Nat}, (∀ j, j < n → f j = g j) → thatTo f n = thatTo g n
  | 0, _ => rfl
  | n + 1, h => by
    unfold thatTo
    rw [thatTo_congr (fun j hj => h j (by omega)), h n (by omega)]
theorem thatTo_nil {f : Nat → Bool} : ∀ {n : Nat}, (thatTo f n).length = 0 ↔ ∀ j, j < n → f j = false
  | 0 => by simp [thatTo]
  | n + 1 => by
    unfold thatTo
    have h := thatTo_nil (f := f) (n := n)
    cases hf : f n
    · simp only [Bool.false_eq_true, if_false]
      rw [h]
      constructor
      · intro h1 j hj
        rcases Nat.lt_or_ge j n with h2 | h2
        · exact h1 j h2
        · obtain rfl : j = n := by omega
          exact hf
      · intro h1 j hj; exact h1 j (by omega)
    · simp only [if_true, List.length_append, List.length_cons, List.length_nil]
      constructor
      · intro h1; omega
      · intro h1; rw [h1 n (by omega)] at hf; cases hf
theorem thatTo_succ (f : Nat → Bool) (n : Nat) : (thatTo f (n + 1)).length = (thatTo f n).length + (if f n then 1 else 0) := by
  show (if f n then thatTo f n ++ [(n : Int)] else thatTo f n).length = _
  split <;> simp
theorem thatTo_two {f g : Nat → Bool} {i k : Nat} (hik : i ≠ k) (hi : f i = true) (hk : f k = true) (hg : ∀ j, g j = (f j && decide (j ≠ i) && decide (j ≠ k))) : ∀ n,
    (thatTo f n).length = (thatTo g n).length + (if i < n then 1 else 0) + (if k < n then 1 else 0)
  | 0 => by simp [thatTo]
  | n + 1 => by
    have h := thatTo_two hik hi hk hg n
    rw [thatTo_succ, thatTo_succ, h, hg n]
    by_cases e1 : n = i
    · subst e1
      rw [hi, if_neg (show ¬ n < n by omega), if_pos (show n < n + 1 by omega)]
      simp only [ne_eq, not_true_eq_false, decide_false, Bool.and_false, Bool.false_and, Bool.false_eq_true, if_false, if_true]
      split <;> split <;> omega
    · by_cases e2 : n = k
      · subst e2
        rw [hk, if_neg (show ¬ n < n by omega), if_pos (show n < n + 1 by omega)]
        simp only [ne_eq, not_true_eq_false, decide_false, Bool.and_false, Bool.false_eq_true, if_false, if_true]
        split <;> split <;> omega
      · simp only [ne_eq, e1, e2, not_false_eq_true, decide_true, Bool.and_true]
        split <;> split <;> split <;> split <;> split <;> omega

theorem turn_dbl_mid (p q a b : Int × Int) : turnP (dblP p) (dblP q) (addP a b) = 2 * (turnP p q a + turnP p q b) := by
  unfold turnP turnI dblP addP; grind
theorem line_turn (a b p q : Int × Int) : dI a b * turnP p q a = tI a b p * turnP a b q - tI a b q * turnP a b p := by
  unfold dI tI turnP turnI; grind
/-- Two points of a line, and a third of it. -/
theorem line_three {a b p q : Int × Int} (h : a ≠ b) (hp : turnP a b p = 0) (hq : turnP a b q = 0) : turnP p q a = 0 := by
  have e := line_turn a b p q
  rw [hp, hq, Int.mul_zero, Int.mul_zero, Int.sub_zero] at e
  exact (Int.mul_eq_zero.1 e).resolve_left (by have := dI_pos h; omega)
theorem mid_btw {a b p : Int × Int} (h : dblP p = addP a b) : btwP p a b = true := by
  unfold dblP addP at h
  injection h with h1 h2
  unfold btwP btwB midB
  simp only [Bool.and_eq_true, decide_eq_true_eq]
  refine ⟨⟨?_, by omega⟩, by omega⟩
  have e1 : p.1 - a.1 = b.1 - p.1 := by omega
  have e2 : p.2 - a.2 = b.2 - p.2 := by omega
  unfold turnI
  have e3 : b.1 - a.1 = 2 * (p.1 - a.1) := by omega
  have e4 : b.2 - a.2 = 2 * (p.2 - a.2) := by omega
  rw [e3, e4]; grind
theorem mid_ends {a b : Int × Int} (h : dblP a = addP a b) : a = b := by
  unfold dblP addP at h
  injection h with h1 h2
  exact Prod.ext (by omega) (by omega)
theorem addP_comm' {a b : Int × Int} (h : dblP b = addP a b) : a = b := by
  unfold dblP addP at h
  injection h with h1 h2
  exact Prod.ext (by omega) (by omega)
theorem tI_dbl (a b x : Int × Int) : tI (dblP a) (dblP b) (dblP x) = 4 * tI a b x := by unfold tI dblP; grind
theorem tI_mid (a b : Int × Int) : tI (dblP a) (dblP b) (addP a b) = 2 * dI a b := by unfold tI dI dblP addP; grind
theorem turn_mid (a b : Int × Int) : turnP (dblP a) (dblP b) (addP a b) = 0 := by unfold turnP turnI dblP addP; grind
theorem dbl_ne {a b : Int × Int} (h : a ≠ b) : dblP a ≠ dblP b := by
  intro e
  unfold dblP at e
  injection e with h1 h2
  exact h (Prod.ext (by omega) (by omega))

/-- A corner on a wall is one of its ends. -/
theorem corner_end {cs : List (Int × Int)} (h : roomB cs = true) {i j : Nat} (hi : i < cs.length) (hj : j < cs.length) (ho : onK cs (pt cs i) j = true) : i = j ∨ i = (j + 1) % cs.length := by
  obtain ⟨_, _, h3, _⟩ := roomB_yes h
  have hr := h3 j hj
  unfold roundB at hr
  simp only [Bool.and_eq_true, List.all_eq_true] at hr
  have hm := hr.2 i (List.mem_range.2 hi)
  have w1 := corner_wall h hi
  have w2 := corner_wall h hj
  unfold onK at ho
  cases hn : nearB cs.length j i
  · have hm2 : meetAt cs j i = false := by simpa [hn] using hm
    unfold meetAt meetP at hm2
    rw [meetB_meet2 w2 w1] at hm2
    unfold meet2 at hm2
    simp only [Bool.or_eq_false_iff] at hm2
    unfold btwP at ho
    exfalso
    grind
  · unfold nearB at hn
    simp only [Bool.or_eq_true, decide_eq_true_eq] at hn
    rcases hn with (hn | hn) | hn
    · exact .inl hn
    rotate_left
    · exact .inr hn.symm
    · exfalso
      have hb := h3 i hi
      unfold roundB at hb
      simp only [Bool.and_eq_true, decide_eq_true_eq] at hb
      have hb1 := hb.1
      unfold bendAt at hb1
      rw [hn] at hb1
      have e2 : (i + 2) % cs.length = (j + 1) % cs.length := by rw [← hn, Nat.mod_add_mod]
      rw [e2] at hb1
      have ht := btw_line ho
      apply hb1
      have e3 : turnP (pt cs i) (pt cs j) (pt cs ((j + 1) % cs.length)) = turnP (pt cs j) (pt cs ((j + 1) % cs.length)) (pt cs i) := by unfold turnP turnI; grind
      rw [e3]; exact ht

theorem param_ends {D T g1 g2 : Int} (_h0 : 0 < D) (hT0 : 0 ≤ T) (hT1 : T ≤ D) (he : (D - T) * g1 + T * g2 = 0) (hs : sepB g1 g2 = false) : (T = 0) ∨ (T = D) ∨ (g1 = 0 ∧ g2 = 0) := by
  by_cases h1 : T = 0
  · exact .inl h1
  by_cases h2 : T = D
  · exact .inr (.inl h2)
  refine .inr (.inr ?_)
  have a1 : 0 < D - T := by omega
  have a2 : 0 < T := by omega
  unfold sepB at hs
  simp only [Bool.or_eq_false_iff, Bool.and_eq_false_iff, decide_eq_false_iff_not] at hs
  rcases Int.lt_trichotomy g1 0 with h | h | h
  · have := Int.mul_neg_of_pos_of_neg a1 h
    have h3 : 0 < g2 := by
      rcases Int.lt_or_le 0 g2 with h4 | h4
      · exact h4
      · have := Int.mul_nonpos_of_nonneg_of_nonpos (show 0 ≤ T by omega) h4
        omega
    omega
  · refine ⟨h, ?_⟩
    rw [h, Int.mul_zero, Int.zero_add] at he
    exact (Int.mul_eq_zero.1 he).resolve_left (by omega)
  · have := Int.mul_pos a1 h
    have h3 : g2 < 0 := by
      rcases Int.lt_or_le g2 0 with h4 | h4
      · exact h4
      · have := Int.mul_nonneg (show 0 ≤ T by omega) h4
        omega
    omega

theorem seg_param {m u v a b : Int × Int} (huv : u ≠ v) (hm : btwP m u v = true) :
    0 ≤ tI u v m ∧ tI u v m ≤ dI u v ∧ (dI u v - tI u v m) * turnP a b u + tI u v m * turnP a b v = dI u v * turnP a b m := by
  have h0 := btw_line hm
  have h1 := (btw_iff huv h0 (turn_ends u v).1 (turn_ends u v).2).1 hm
  have h2 := tI_ends huv
  have hd := dI_pos huv
  have e3 : tI u v v = dI u v := rfl
  have hp := line_pt h0
  refine ⟨by omega, by omega, ?_⟩
  unfold turnP turnI
  grind

theorem mid_off_core {A B P Q : Int × Int} (AB : A ≠ B) (PQ : P ≠ Q) (hP : btwP P A B = true → P = A ∨ P = B) (hQ : btwP Q A B = true → Q = A ∨ Q = B)
    (hc : cutP P Q A B = false) (hon : btwP (addP A B) (dblP P) (dblP Q) = true) (fin : ¬(btwP A P Q = true ∧ btwP B P Q = true)) : False := by
  have hline := btw_line hon
  rw [turn_dbl_mid] at hline
  have endP : ∀ P : Int × Int, (btwP P A B = true → P = A ∨ P = B) → dblP P = addP A B → False := by
    intro P hP e
    rcases hP (mid_btw e) with x | x
    · rw [x] at e; exact AB (mid_ends e)
    · rw [x] at e; exact AB (addP_comm' e)
  by_cases fz : turnP P Q A = 0
  · have fB : turnP P Q B = 0 := by omega
    have gP := line_three PQ fz fB
    have s1 : ∀ x : Int × Int, turnP Q P x = -turnP P Q x := fun x => by unfold turnP turnI; grind
    have gQ := line_three (a := Q) (b := P) (p := A) (q := B) (fun e => PQ e.symm) (by rw [s1, fz]; rfl) (by rw [s1, fB]; rfl)
    have iA := btw_iff AB (turn_ends A B).1 gP gQ
    have iB := btw_iff AB (turn_ends A B).2 gP gQ
    have iP := btw_iff AB gP (turn_ends A B).1 (turn_ends A B).2
    have iQ := btw_iff AB gQ (turn_ends A B).1 (turn_ends A B).2
    have iM := (btw_iff (dbl_ne AB) (turn_mid A B) (u := dblP P) (v := dblP Q) (by rw [turn_dbl, gP]; rfl) (by rw [turn_dbl, gQ]; rfl)).1 hon
    rw [tI_mid, tI_dbl, tI_dbl] at iM
    have e1 := tI_ends AB
    have hd := dI_pos AB
    have e2 : tI A B B = dI A B := rfl
    rw [e1.1, e2] at iP iQ
    rw [e1.1] at iA
    rw [e2] at iB
    have kP : 0 ≤ tI A B P → tI A B P ≤ dI A B → tI A B P = 0 ∨ tI A B P = dI A B := by
      intro x1 x2
      rcases hP (iP.2 (.inl ⟨x1, x2⟩)) with x | x
      · rw [x]; exact .inl e1.1
      · rw [x]; exact .inr e2
    have kQ : 0 ≤ tI A B Q → tI A B Q ≤ dI A B → tI A B Q = 0 ∨ tI A B Q = dI A B := by
      intro x1 x2
      rcases hQ (iQ.2 (.inl ⟨x1, x2⟩)) with x | x
      · rw [x]; exact .inl e1.1
      · rw [x]; exact .inr e2
    exact fin ⟨iA.2 (by omega), iB.2 (by omega)⟩
  · have pq := seg_param (a := dblP A) (b := dblP B) (dbl_ne PQ) hon
    rw [turn_mid, Int.mul_zero, turn_dbl, turn_dbl] at pq
    have sA : sepB (turnP P Q A) (turnP P Q B) = true := by
      unfold sepB
      simp only [Bool.or_eq_true, Bool.and_eq_true, decide_eq_true_eq]
      omega
    have sB : sepB (turnP A B P) (turnP A B Q) = false := by
      unfold cutP cutW sepW at hc
      have sA' : sepB (turnI P.1 P.2 Q.1 Q.2 A.1 A.2) (turnI P.1 P.2 Q.1 Q.2 B.1 B.2) = true := sA
      rw [sA', Bool.true_and] at hc
      exact hc
    have hd := dI_pos (dbl_ne PQ)
    rcases param_ends hd pq.1 pq.2.1 pq.2.2 (by rw [sep_four]; exact sB) with x | x | ⟨x1, x2⟩
    · exact endP P hP (line_inj (dbl_ne PQ) (turn_ends _ _).1 (btw_line hon) (by rw [x]; exact (tI_ends (dbl_ne PQ)).1))
    · exact endP Q hQ (line_inj (dbl_ne PQ) (turn_ends _ _).2 (btw_line hon) (by rw [x]; rfl))
    · exact fz (line_three AB (by omega) (by omega))

/-- No wall passes the middle. -/
theorem mid_off {cs : List (Int × Int)} (h : roomB cs = true) {i k : Nat} (hi : i < cs.length) (hk : k < cs.length) (hne : i ≠ k)
    (n1 : (i + 1) % cs.length ≠ k) (n2 : (k + 1) % cs.length ≠ i) (hc : ∀ j, j < cs.length → cutK cs (pt cs i) (pt cs k) j = false)
    (ho : ∀ j, j < cs.length → j ≠ i → j ≠ k → btwP (pt cs j) (pt cs i) (pt cs k) = false) {j : Nat} (hj : j < cs.length) : onK (dblL cs) (addP (pt cs i) (pt cs k)) j = false := by
  cases hon : onK (dblL cs) (addP (pt cs i) (pt cs k)) j
  · rfl
  exfalso
  have once := room_once h
  have hj2 : (j + 1) % cs.length < cs.length := Nat.mod_lt _ (by omega)
  have w2 := corner_wall h hj
  have hc1 := hc j hj
  have AB : pt cs i ≠ pt cs k := fun e => hne (once i hi k hk e)
  have PQ : pt cs j ≠ pt cs ((j + 1) % cs.length) := fun e => (okW_parts w2).2.2 ⟨by rw [← e], by rw [← e]⟩
  have only : ∀ t, t < cs.length → btwP (pt cs t) (pt cs i) (pt cs k) = true → t = i ∨ t = k := by
    intro t ht hb
    by_cases e1 : t = i
    · exact .inl e1
    · by_cases e2 : t = k
      · exact .inr e2
      · rw [ho t ht e1 e2] at hb; cases hb
  have eP := corner_end h hi hj
  have eQ := corner_end h hk hj
  have oP := only j hj
  have oQ := only _ hj2
  have fin : ¬(onK cs (pt cs i) j = true ∧ onK cs (pt cs k) j = true) := by
    intro ⟨x1, x2⟩
    rcases eP x1 with y1 | y1 <;> rcases eQ x2 with y2 | y2
    · exact hne (y1.trans y2.symm)
    · exact n1 (by rw [y1, y2])
    · exact n2 (by rw [y1, y2])
    · exact hne (y1.trans y2.symm)
  unfold onK at hon fin
  rw [dblL_len, dblL_pt, dblL_pt] at hon
  unfold cutK at hc1
  have hP : btwP (pt cs j) (pt cs i) (pt cs k) = true → pt cs j = pt cs i ∨ pt cs j = pt cs k := fun e => (oP e).imp (fun x => by rw [x]) (fun x => by rw [x])
  have hQ : btwP (pt cs ((j + 1) % cs.length)) (pt cs i) (pt cs k) = true → pt cs ((j + 1) % cs.length) = pt cs i ∨ pt cs ((j + 1) % cs.length) = pt cs k := fun e => (oQ e).imp (fun x => by rw [x]) (fun x => by rw [x])
  clear oP oQ only eP eQ once ho hc w2
  generalize pt cs i = A at *
  generalize pt cs k = B at *
  generalize pt cs j = P at *
  generalize pt cs ((j + 1) % cs.length) = Q at *
  exact mid_off_core AB PQ hP hQ hc1 hon fin

/-- As the landed code asks, of two corners. -/
def diagI (cs : List (Int × Int)) (i k : Nat) : Bool :=
  !decide (i = k) && !nbrB cs.length i k && decide ((thatTo (fun j => btwP (pt cs j) (pt cs i) (pt cs k)) cs.length).length = 2) && seesM cs (pt cs i) (pt cs k)
/-- As the model asks. -/
def otherB (cs : List (Int × Int)) (i k : Nat) : Bool := (List.range cs.length).any fun j => decide (j ≠ i) && decide (j ≠ k) && btwP (pt cs j) (pt cs i) (pt cs k)
def diagM (cs : List (Int × Int)) (i k : Nat) : Bool :=
  !decide (i = k) && !decide ((i + 1) % cs.length = k) && !decide ((k + 1) % cs.length = i) && seesM cs (pt cs i) (pt cs k) && !otherB cs i k && decide (placeM (dblL cs) (addP (pt cs i) (pt cs k)) = 2)
theorem crossM_neg {cs : List (Int × Int)} {a b : Int × Int} (h : crossM cs a b < 0) : ∀ j, j < cs.length → cutK cs a b j = false := by
  intro j hj
  cases hc : cutK cs a b j
  · rfl
  exfalso
  unfold crossM firstI at h
  split at h
  · omega
  · rename_i he
    have := List.find?_eq_none.1 he j (List.mem_range.2 hj)
    rw [hc] at this
    exact this rfl
theorem other_iff {cs : List (Int × Int)} {i k : Nat} : otherB cs i k = false ↔ ∀ j, j < cs.length → j ≠ i → j ≠ k → btwP (pt cs j) (pt cs i) (pt cs k) = false := by
  unfold otherB
  rw [List.any_eq_false]
  constructor
  · intro h j hj h1 h2
    have := h j (List.mem_range.2 hj)
    simpa [h1, h2] using this
  · intro h j hj
    have := h j (List.mem_range.1 hj)
    by_cases h1 : j = i
    · simp [h1]
    · by_cases h2 : j = k
      · simp [h2]
      · simp [this h1 h2]
theorem btw_right (u v : Int × Int) : btwP v u v = true := by
  unfold btwP btwB midB turnI
  simp only [Bool.and_eq_true, decide_eq_true_eq]
  refine ⟨⟨by grind, by omega⟩, by omega⟩
theorem two_other {cs : List (Int × Int)} {i k : Nat} (hi : i < cs.length) (hk : k < cs.length) (hne : i ≠ k) :
    decide ((thatTo (fun j => btwP (pt cs j) (pt cs i) (pt cs k)) cs.length).length = 2) = !otherB cs i k := by
  rw [thatTo_two (f := fun j => btwP (pt cs j) (pt cs i) (pt cs k)) (g := fun j => btwP (pt cs j) (pt cs i) (pt cs k) && decide (j ≠ i) && decide (j ≠ k)) hne (btw_left _ _) (btw_right _ _) (fun _ => rfl), if_pos hi, if_pos hk, Bool.eq_iff_iff]
  rw [decide_eq_true_eq, Bool.not_eq_true', other_iff]
  have h0 := thatTo_nil (f := fun j => btwP (pt cs j) (pt cs i) (pt cs k) && decide (j ≠ i) && decide (j ≠ k)) (n := cs.length)
  constructor
  · intro h j hj h1 h2
    have := h0.1 (by omega) j hj
    simpa [h1, h2] using this
  · intro h
    have := h0.2 (fun j hj => by
      have := h j hj
      by_cases h1 : j = i
      · simp [h1]
      · by_cases h2 : j = k
        · simp [h2]
        · simp [this h1 h2])
    omega
theorem nbr_parts (n i k : Nat) : (!nbrB n i k) = (!decide ((i + 1) % n = k) && !decide ((k + 1) % n = i)) := by
  unfold nbrB
  rw [Bool.eq_iff_iff]
  simp
  constructor <;> (intro h; constructor <;> intro e <;> simp_all)
/-- The two ways to ask agree. -/
theorem diag_eq {cs : List (Int × Int)} (h : roomB cs = true) {i k : Nat} (hi : i < cs.length) (hk : k < cs.length) : diagI cs i k = diagM cs i k := by
  unfold diagI diagM
  rw [nbr_parts]
  by_cases hne : i = k
  · simp [hne]
  rw [two_other hi hk hne]
  by_cases n1 : (i + 1) % cs.length = k
  · simp [n1]
  by_cases n2 : (k + 1) % cs.length = i
  · simp [n2]
  cases hs : seesM cs (pt cs i) (pt cs k)
  · simp
  cases ho : otherB cs i k
  rotate_left
  · simp
  have hs2 := hs
  unfold seesM at hs2
  simp only [Bool.and_eq_true, decide_eq_true_eq] at hs2
  have hc := crossM_neg hs2.1
  have ho2 := other_iff.1 ho
  have off := fun j hj => mid_off h hi hk hne n1 n2 hc ho2 (j := j) hj
  have hp : placeM (dblL cs) (addP (pt cs i) (pt cs k)) ≠ 0 := by
    have once := room_once h
    have AB : pt cs i ≠ pt cs k := fun e => hne (once i hi k hk e)
    have hb := (pairs_iff _ _).1 hs2.2
    have hm1 := (cutsTo_mem cs (pt cs i) (pt cs k) cs.length (pt cs i)).2 (.inl rfl)
    have hm2 := (cutsTo_mem cs (pt cs i) (pt cs k) cs.length (pt cs k)).2 (.inr (.inl rfl))
    have hall : ∀ s, s ∈ cutsTo cs (pt cs i) (pt cs k) cs.length → s = pt cs i ∨ s = pt cs k := by
      intro s hs
      rcases (cutsTo_mem _ _ _ _ s).1 hs with x | x | ⟨j, hj, x, hbj⟩
      · exact .inl x
      · exact .inr x
      · by_cases e1 : j = i
        · exact .inl (by rw [x, e1])
        · by_cases e2 : j = k
          · exact .inr (by rw [x, e2])
          · rw [x, ho2 j hj e1 e2] at hbj; cases hbj
    obtain ⟨x, hx, ex⟩ := mem_pt hm1
    obtain ⟨y, hy, ey⟩ := mem_pt hm2
    have hxy : x ≠ y := fun e => AB (by rw [← ex, e]; exact ey)
    have onceC := cutsTo_once AB once cs.length (Nat.le_refl _)
    have hf : ∀ u v, u < (cutsTo cs (pt cs i) (pt cs k) cs.length).length → v < (cutsTo cs (pt cs i) (pt cs k) cs.length).length → u ≠ v → freeB (cutsTo cs (pt cs i) (pt cs k) cs.length) u v = true := by
      intro u v hu hv huv
      unfold freeB
      rw [List.all_eq_true]
      intro j hj
      have hj := List.mem_range.1 hj
      have cu := hall _ (pt_mem hu)
      have cv := hall _ (pt_mem hv)
      have cj := hall _ (pt_mem hj)
      have d1 : ∀ a b, a < (cutsTo cs (pt cs i) (pt cs k) cs.length).length → b < (cutsTo cs (pt cs i) (pt cs k) cs.length).length → pt (cutsTo cs (pt cs i) (pt cs k) cs.length) a = pt (cutsTo cs (pt cs i) (pt cs k) cs.length) b → a = b := fun a b ha hb e => onceC a ha b hb e
      have : j = u ∨ j = v := by
        rcases cu with cu | cu <;> rcases cv with cv | cv <;> rcases cj with cj | cj
        · exact .inl (d1 j u hj hu (by rw [cj, cu]))
        · exact absurd (d1 u v hu hv (by rw [cu, cv])) huv
        · exact .inl (d1 j u hj hu (by rw [cj, cu]))
        · exact .inr (d1 j v hj hv (by rw [cj, cv]))
        · exact .inr (d1 j v hj hv (by rw [cj, cv]))
        · exact .inl (d1 j u hj hu (by rw [cj, cu]))
        · exact absurd (d1 u v hu hv (by rw [cu, cv])) huv
        · exact .inl (d1 j u hj hu (by rw [cj, cu]))
      rcases this with e | e <;> simp [e]
    rcases Nat.lt_or_gt_of_ne hxy with g | g
    · have := hb y hy x g (hf y x hy hx (fun e => hxy e.symm))
      rw [ex, ey, addP_comm] at this
      simpa using this
    · have := hb x hx y g (hf x y hx hy hxy)
      rw [ex, ey] at this
      simpa using this
  have h2 : placeM (dblL cs) (addP (pt cs i) (pt cs k)) = 2 := by
    rw [placeM_off (by rw [dblL_len]; exact off)] at hp ⊢
    split at hp
    · rename_i e; rw [if_pos e]
    · exact absurd rfl hp
  simp [hne, n1, n2, h2]
end Go.Proofs.Ytonbpmabmjhdgab.DiagMath
