/-
  Zones and reports, shifts, loans and halls: plain facts. No program stands here.
-/
import Derived.Test.YtcfoleiooohbhaaFacts
import Derived.Test.YtcfoleiooohbhaaTup3
namespace Go.Proofs.Ytcfoleiooohbhaa.DutyMath
open PointMath DiagMath Tup3

def upB (n L : Int) : Bool := decide (0 ≤ n ∧ n ≤ L)
/-- A zone: from, to, kinds. -/
def zoneB (a b k : Int) : Bool := decide (0 ≤ a ∧ a ≤ 10000) && decide (a ≤ b ∧ b ≤ 10000) && decide (0 ≤ k ∧ k ≤ 15)
theorem zone_up (a b k : Int) : zoneB a b k = (decide (0 ≤ a ∧ a ≤ 10000) && decide (0 ≤ b ∧ b ≤ 10000) && decide (a ≤ b) && decide (0 ≤ k ∧ k ≤ 15)) := by
  rw [Bool.eq_iff_iff]
  unfold zoneB
  simp only [Bool.and_eq_true, decide_eq_true_eq]
  omega
theorem zone_parts {a b k : Int} (h : zoneB a b k = true) : (0 ≤ a ∧ a ≤ 10000) ∧ (a ≤ b ∧ b ≤ 10000) ∧ (0 ≤ k ∧ k ≤ 15) := by
  unfold zoneB at h
  simp only [Bool.and_eq_true, decide_eq_true_eq] at h
  exact ⟨h.1.1, h.1.2, h.2⟩
/-- A shift: guard, from, to. -/
def shiftB (g a b : Int) : Bool := decide (0 ≤ g ∧ g ≤ 20) && decide (0 ≤ a ∧ a ≤ 10000) && decide (0 ≤ b ∧ b ≤ 10000) && decide (a < b)
theorem shift_parts {g a b : Int} (h : shiftB g a b = true) : (0 ≤ g ∧ g ≤ 20) ∧ (0 ≤ a ∧ a ≤ 10000) ∧ (0 ≤ b ∧ b ≤ 10000) ∧ a < b := by
  unfold shiftB at h
  simp only [Bool.and_eq_true, decide_eq_true_eq] at h
  exact ⟨h.1.1.1, h.1.1.2, h.1.2, h.2⟩
/-- A loan: light, low, high, guards. -/
def loanB (l a b g : Int) : Bool := decide (0 ≤ l ∧ l ≤ 1000) && decide (0 ≤ g ∧ g ≤ 1000) && decide (0 ≤ a ∧ a ≤ 100) && decide (a ≤ b ∧ b ≤ 100)
theorem loan_up (l a b g : Int) : loanB l a b g = (decide (0 ≤ l ∧ l ≤ 1000) && decide (0 ≤ g ∧ g ≤ 1000) && decide (0 ≤ a ∧ a ≤ 100) && decide (0 ≤ b ∧ b ≤ 100) && decide (a ≤ b)) := by
  rw [Bool.eq_iff_iff]
  unfold loanB
  simp only [Bool.and_eq_true, decide_eq_true_eq]
  omega
def breachI (l a b g x h y : Int) : Int :=
  if loanB l a b g then (if l < x then 1 else 0) + (if a ≤ h ∧ h ≤ b then 0 else 2) + (if y < g then 4 else 0) else 7
def joinV (l a b g l2 a2 b2 g2 : Int) : Go.Value :=
  if loanB l a b g && loanB l2 a2 b2 g2 && loanB (min l l2) (max a a2) (min b b2) (max g g2) then .tuple #[.agg #[.int .i64 (min l l2), .int .i64 (max a a2), .int .i64 (min b b2), .int .i64 (max g g2)], .bool true]
  else .tuple #[.agg #[.int .i64 0, .int .i64 0, .int .i64 0, .int .i64 0], .bool false]
def strictB (l a b g l2 a2 b2 g2 : Int) : Bool :=
  loanB l a b g && loanB l2 a2 b2 g2 && decide (l ≤ l2) && decide (a2 ≤ a) && decide (b ≤ b2) && decide (g2 ≤ g)

def shiftT (p : Tu) : Bool := shiftB p.1 p.2.1 p.2.2
def shiftsV (l : List Tu) : Bool := decide (l.length ≤ 20) && (List.range l.length).all fun k => shiftT (tt l k)
theorem shiftsV_not {l : List Tu} {k : Nat} (hk : k < l.length) (h : shiftT (tt l k) = false) : shiftsV l = false := by
  cases e : shiftsV l
  · rfl
  · unfold shiftsV at e
    rw [Bool.and_eq_true] at e
    have := List.all_eq_true.1 e.2 k (List.mem_range.2 hk)
    rw [h] at this; cases this
theorem shiftsV_of {l : List Tu} (h : ∀ k, k < l.length → shiftT (tt l k) = true) : shiftsV l = decide (l.length ≤ 20) := by
  unfold shiftsV
  rw [List.all_eq_true.2 fun k hk => h k (List.mem_range.1 hk), Bool.and_true]
theorem shiftsV_at {l : List Tu} (h : shiftsV l = true) : l.length ≤ 20 ∧ ∀ k, k < l.length → shiftT (tt l k) = true := by
  unfold shiftsV at h
  rw [Bool.and_eq_true] at h
  exact ⟨of_decide_eq_true h.1, fun k hk => List.all_eq_true.1 h.2 k (List.mem_range.2 hk)⟩
theorem shiftsV_any (l : List Tu) : shiftsV l = (decide (l.length ≤ 20) && !(List.range l.length).any fun k => !shiftT (tt l k)) := by
  unfold shiftsV
  congr 1
  rw [Bool.eq_iff_iff]
  simp only [List.all_eq_true, List.mem_range, Bool.not_eq_true', List.any_eq_false, Bool.not_eq_false]
/-- Two shifts, p behind q in the list, that leave one guard too little rest. -/
def clash (p q : Tu) (rest : Int) : Bool := decide (p.1 = q.1) && decide (p.2.1 < q.2.2 + rest) && decide (q.2.1 < p.2.2 + rest)
def clearAt (l : List Tu) (rest : Int) (k : Nat) : Bool := (List.range k).all fun i => !clash (tt l k) (tt l i) rest
def shiftsB (l : List Tu) (rest : Int) : Bool := shiftsV l && decide (0 ≤ rest ∧ rest ≤ 1000) && (List.range l.length).all (clearAt l rest)
theorem clearAt_not {l : List Tu} {rest : Int} {k i : Nat} (hi : i < k) (h : clash (tt l k) (tt l i) rest = true) : clearAt l rest k = false := by
  cases e : clearAt l rest k
  · rfl
  · have := List.all_eq_true.1 e i (List.mem_range.2 hi)
    rw [h] at this; cases this
theorem clearAt_of {l : List Tu} {rest : Int} {k : Nat} (h : ∀ i, i < k → clash (tt l k) (tt l i) rest = false) : clearAt l rest k = true :=
  List.all_eq_true.2 fun i hi => by rw [h i (List.mem_range.1 hi)]; rfl
theorem shiftsB_not {l : List Tu} {rest : Int} {k : Nat} (hk : k < l.length) (h : clearAt l rest k = false) : shiftsB l rest = false := by
  cases e : shiftsB l rest
  · rfl
  · unfold shiftsB at e
    rw [Bool.and_eq_true] at e
    have := List.all_eq_true.1 e.2 k (List.mem_range.2 hk)
    rw [h] at this; cases this
theorem shiftsB_of {l : List Tu} {rest : Int} (h1 : shiftsV l = true) (h2 : decide (0 ≤ rest ∧ rest ≤ 1000) = true) (h : ∀ k, k < l.length → clearAt l rest k = true) : shiftsB l rest = true := by
  unfold shiftsB
  rw [h1, h2, List.all_eq_true.2 fun k hk => h k (List.mem_range.1 hk)]; rfl

def dutyF (l : List Tu) (m : Int) (k : Nat) : Bool := shiftT (tt l k) && decide ((tt l k).2.1 ≤ m) && decide (m < (tt l k).2.2)
def dutyI (l : List Tu) (m : Int) : Int := ((filtT (dutyF l m) l l.length).length : Int)
theorem filt_next (f : Nat → Bool) (l : List Tu) (k : Nat) : ((filtT f l (k + 1)).length : Int) = if f k then ((filtT f l k).length : Int) + 1 else ((filtT f l k).length : Int) := by
  show (((if f k then filtT f l k ++ [tt l k] else filtT f l k)).length : Int) = _
  split
  · rw [List.length_append]; simp
  · rfl
theorem filt_mono {f g : Nat → Bool} (l : List Tu) : ∀ n, (∀ j, j < n → f j = true → g j = true) → (filtT f l n).length ≤ (filtT g l n).length
  | 0, _ => Nat.le_refl _
  | n + 1, h => by
    have ih := filt_mono l n (fun j hj => h j (by omega))
    have hn := h n (by omega)
    unfold filtT
    cases hf : f n <;> cases hg : g n
    · simpa using ih
    · simp; omega
    · rw [hf] at hn; rw [hg] at hn; simp at hn
    · simp; omega

/-- The kinds' bits: a zone's kinds at a report's kind. -/
def bitB (k d : Int) : Bool := decide (k / (2 ^ d.toNat) % 2 = 1)
def raisesT (z : Tu) (k m : Int) : Bool := zoneB z.1 z.2.1 z.2.2 && decide (z.1 ≤ m) && decide (m < z.2.1) && bitB z.2.2 k
def raisesB (zs : List Tu) (z k m : Int) : Bool := decide (0 ≤ z ∧ z < (zs.length : Int)) && decide (1 ≤ k ∧ k ≤ 3) && raisesT (tt zs z.toNat) k m
def alarmF (zs ls : List Tu) (k : Nat) : Bool := raisesB zs (tt ls k).1 (tt ls k).2.1 (tt ls k).2.2
def alarmsL (zs ls : List Tu) : List Int := thatTo (alarmF zs ls) ls.length
theorem alarmsL_le (zs ls : List Tu) (h : ls.length ≤ 1048576) : (alarmsL zs ls).length ≤ 1048576 := by
  have := thatTo_len (alarmF zs ls) ls.length
  unfold alarmsL; omega
def fitF (l a b g : Int) (hs : List Tu) (k : Nat) : Bool := decide (breachI l a b g (tt hs k).1 (tt hs k).2.1 (tt hs k).2.2 = 0)
def hallsL (l a b g : Int) (hs : List Tu) : List Int := thatTo (fitF l a b g hs) hs.length
theorem hallsL_le (l a b g : Int) (hs : List Tu) (h : hs.length ≤ 1048576) : (hallsL l a b g hs).length ≤ 1048576 := by
  have := thatTo_len (fitF l a b g hs) hs.length
  unfold hallsL; omega
end Go.Proofs.Ytcfoleiooohbhaa.DutyMath
