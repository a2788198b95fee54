/-
  Lists of frames and of sightings: plain facts. No program stands here.
-/
import Derived.Test.YtonbpmabmjhdgaaTrackMath
import Derived.Test.YtonbpmabmjhdgaaFacts
import Derived.Test.YtonbpmabmjhdgaaTup3
namespace Go.Proofs.Ytonbpmabmjhdgaa.ListMath
open PointMath TrackMath DiagMath Tup3

/-- The first k frames: number and moment of each are greater than those of the one before. -/
def ordTo (l : List Tu) : Nat → Bool
  | 0 => true
  | k + 1 => ordTo l k && (decide (k = 0) || (decide ((tt l (k - 1)).1 < (tt l k).1) && decide ((tt l (k - 1)).2.1 < (tt l k).2.1)))
def orderedB (l : List Tu) : Bool := ordTo l l.length
theorem ordTo_not {l : List Tu} {k : Nat} (hk : 0 < k) (h : (tt l k).1 ≤ (tt l (k - 1)).1 ∨ (tt l k).2.1 ≤ (tt l (k - 1)).2.1) : ∀ m, k < m → ordTo l m = false
  | 0, hm => by omega
  | m + 1, hm => by
    unfold ordTo
    by_cases e : k = m
    · subst e
      rw [show decide (k = 0) = false from decide_eq_false (by omega)]
      rcases h with h | h
      · rw [show decide ((tt l (k - 1)).1 < (tt l k).1) = false from decide_eq_false (by omega)]; simp
      · rw [show decide ((tt l (k - 1)).2.1 < (tt l k).2.1) = false from decide_eq_false (by omega)]; simp
    · rw [ordTo_not hk h m (by omega)]; rfl

def sightT (p : Tu) : Bool := sightB p.1 p.2.1 p.2.2
def sameT (p q : Tu) (s : Int) : Bool := sameB p.1 p.2.1 p.2.2 q.1 q.2.1 q.2.2 s
theorem same_parts {p q : Tu} {s : Int} (h : sameT p q s = true) : sightT p = true ∧ sightT q = true ∧ speedB s = true := by
  unfold sameT sameB at h
  simp only [Bool.and_eq_true] at h
  exact ⟨h.1.1.1.1, h.1.1.1.2, h.1.1.2⟩
def trackTo (l : List Tu) (s : Int) : Nat → Bool
  | 0 => true
  | k + 1 => trackTo l s k && sightT (tt l k) && (decide (k = 0) || sameT (tt l (k - 1)) (tt l k) s)
def trackB (l : List Tu) (s : Int) : Bool := trackTo l s l.length && (decide (l.length = 0) || speedB s)
theorem trackTo_not {l : List Tu} {s : Int} {k : Nat} (h : sightT (tt l k) = false ∨ (0 < k ∧ sameT (tt l (k - 1)) (tt l k) s = false)) : ∀ m, k < m → trackTo l s m = false
  | 0, hm => by omega
  | m + 1, hm => by
    unfold trackTo
    by_cases e : k = m
    · subst e
      rcases h with h | ⟨hk, h⟩
      · rw [h]; simp
      · rw [h, show decide (k = 0) = false from decide_eq_false (by omega)]; simp
    · rw [trackTo_not h m (by omega)]; rfl
theorem trackB_not {l : List Tu} {s : Int} {k : Nat} (hk : k < l.length) (h : sightT (tt l k) = false ∨ (0 < k ∧ sameT (tt l (k - 1)) (tt l k) s = false)) : trackB l s = false := by
  unfold trackB
  rw [trackTo_not h _ hk]; rfl
theorem trackTo_yes {l : List Tu} {s : Int} : ∀ m, (∀ k, k < m → sightT (tt l k) = true ∧ (k = 0 ∨ sameT (tt l (k - 1)) (tt l k) s = true)) → trackTo l s m = true
  | 0, _ => rfl
  | m + 1, h => by
    unfold trackTo
    have hm := h m (by omega)
    rw [trackTo_yes m (fun k hk => h k (by omega)), hm.1]
    rcases hm.2 with h2 | h2
    · rw [decide_eq_true h2]; rfl
    · rw [h2]; simp
theorem trackB_of {l : List Tu} {s : Int} (h : ∀ k, k < l.length → sightT (tt l k) = true ∧ (k = 0 ∨ sameT (tt l (k - 1)) (tt l k) s = true)) : trackB l s = (decide (l.length = 0) || speedB s) := by
  unfold trackB
  rw [trackTo_yes _ h]; rfl
theorem trackB_chain {l : List Tu} {s : Int} (h1 : l.length ≠ 1) (h : ∀ k, 0 < k → k < l.length → sameT (tt l (k - 1)) (tt l k) s = true) : trackB l s = true := by
  by_cases h0 : l.length = 0
  · rw [List.length_eq_zero_iff] at h0
    subst h0; rfl
  have hsp := same_parts (h 1 (by omega) (by omega))
  rw [trackB_of, hsp.2.2]
  · simp
  intro k hk
  by_cases e : k = 0
  · subst e
    exact ⟨hsp.1, .inl rfl⟩
  · have hs := h k (by omega) hk
    exact ⟨(same_parts hs).2.1, .inr hs⟩

def frameT (p : Tu) : Bool := frameB p.1 p.2.1 p.2.2
def framesB (l : List Tu) : Bool := decide (l.length ≤ 60) && (List.range l.length).all fun k => frameT (tt l k)
theorem framesB_not {l : List Tu} {k : Nat} (hk : k < l.length) (h : frameT (tt l k) = false) : framesB l = false := by
  cases e : framesB l
  · rfl
  · unfold framesB at e
    rw [Bool.and_eq_true] at e
    have := List.all_eq_true.1 e.2 k (List.mem_range.2 hk)
    rw [h] at this; cases this
theorem framesB_of {l : List Tu} (h : ∀ k, k < l.length → frameT (tt l k) = true) : framesB l = decide (l.length ≤ 60) := by
  unfold framesB
  rw [List.all_eq_true.2 fun k hk => h k (List.mem_range.1 hk), Bool.and_true]
theorem framesB_at {l : List Tu} (h : framesB l = true) : l.length ≤ 60 ∧ ∀ k, k < l.length → frameT (tt l k) = true := by
  unfold framesB at h
  rw [Bool.and_eq_true] at h
  exact ⟨of_decide_eq_true h.1, fun k hk => List.all_eq_true.1 h.2 k (List.mem_range.2 hk)⟩
/-- A frame that came later than it was due. -/
def lateB (l : List Tu) (e g : Int) (k : Nat) : Bool := decide ((tt l 0).2.1 + e * ((tt l k).1 - (tt l 0).1) + g < (tt l k).2.1)
def lateL (l : List Tu) (e g : Int) : List Int := if framesB l && decide (1 ≤ e ∧ e ≤ 1000) && decide (0 ≤ g ∧ g ≤ 1000) then thatTo (lateB l e g) l.length else []
theorem lateL_le (l : List Tu) (e g : Int) (h : l.length ≤ 1048576) : (lateL l e g).length ≤ 1048576 := by
  unfold lateL
  split
  · have := thatTo_len (lateB l e g) l.length
    omega
  · simp
theorem late_small {e d : Int} (he : 1 ≤ e ∧ e ≤ 1000) (hd : -100000 ≤ d ∧ d ≤ 100000) : -100000000 ≤ e * d ∧ e * d ≤ 100000000 := by
  have h1 : 0 ≤ e * (100000 - d) := Int.mul_nonneg (by omega) (by omega)
  have h2 : 0 ≤ e * (100000 + d) := Int.mul_nonneg (by omega) (by omega)
  rw [Int.mul_sub] at h1
  rw [Int.mul_add] at h2
  omega
end Go.Proofs.Ytonbpmabmjhdgaa.ListMath
