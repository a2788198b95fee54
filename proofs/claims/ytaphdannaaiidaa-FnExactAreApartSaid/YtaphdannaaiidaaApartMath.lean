/-
  Plain facts on rooms that lie apart. No program stands here.
-/
import Derived.Test.YtaphdannaaiidaaFacts
namespace Go.Proofs.Ytaphdannaaiidaa.ApartMath
open PointMath WallMath RoomMath AreaMath PlaceMath FloorMath

/-- Does wall i of the first room cross a wall of the second? -/
def hitB (ps qs : List (Int × Int)) (i : Nat) : Bool := (List.range qs.length).any fun k => cutK qs (pt ps i) (pt ps ((i + 1) % ps.length)) k
def hitsB (ps qs : List (Int × Int)) : Bool := (List.range ps.length).any fun i => hitB ps qs i
/-- Is one of these points inside the room? -/
def reachB (qs : List (Int × Int)) (l : List (Int × Int)) : Bool := l.any fun p => decide (placeM qs p = 2)
def apartB (ps qs : List (Int × Int)) : Bool := roomB ps && roomB qs && !hitsB ps qs && !reachB qs (floorL ps) && !reachB ps (floorL qs)

theorem firstI_ge {n : Nat} {f : Nat → Bool} : decide (0 ≤ firstI n f) = (List.range n).any f := by
  unfold firstI
  cases h : (List.range n).find? f
  · rw [List.find?_eq_none] at h
    have : (List.range n).any f = false := by
      rw [List.any_eq_false]
      exact fun k hk => h k hk
    rw [this]
    rfl
  · rename_i k
    have h1 := List.find?_some h
    have h2 := List.mem_of_find?_eq_some h
    have : (List.range n).any f = true := List.any_eq_true.2 ⟨k, h2, h1⟩
    rw [this]
    simp
theorem crossM_hit (ps qs : List (Int × Int)) (i : Nat) : decide (0 ≤ crossM qs (pt ps i) (pt ps ((i + 1) % ps.length))) = hitB ps qs i := firstI_ge
theorem hits_at {ps qs : List (Int × Int)} {i : Nat} (hi : i < ps.length) (h : hitB ps qs i = true) : hitsB ps qs = true := List.any_eq_true.2 ⟨i, List.mem_range.2 hi, h⟩
theorem hits_of {ps qs : List (Int × Int)} (h : ∀ i, i < ps.length → hitB ps qs i = false) : hitsB ps qs = false := by
  unfold hitsB
  rw [List.any_eq_false]
  intro i hi
  simp [h i (List.mem_range.1 hi)]
theorem hit_at {ps qs : List (Int × Int)} {i k : Nat} (hk : k < qs.length) (h : cutK qs (pt ps i) (pt ps ((i + 1) % ps.length)) k = true) : hitB ps qs i = true := List.any_eq_true.2 ⟨k, List.mem_range.2 hk, h⟩
theorem hit_of {ps qs : List (Int × Int)} {i : Nat} (h : ∀ k, k < qs.length → cutK qs (pt ps i) (pt ps ((i + 1) % ps.length)) k = false) : hitB ps qs i = false := by
  unfold hitB
  rw [List.any_eq_false]
  intro k hk
  simp [h k (List.mem_range.1 hk)]
theorem reach_at {qs l : List (Int × Int)} {k : Nat} (hk : k < l.length) (h : placeM qs (pt l k) = 2) : reachB qs l = true :=
  List.any_eq_true.2 ⟨pt l k, List.mem_of_getElem? (pt_at hk), by simp [h]⟩
theorem reach_of {qs l : List (Int × Int)} (h : ∀ k, k < l.length → placeM qs (pt l k) ≠ 2) : reachB qs l = false := by
  unfold reachB
  rw [List.any_eq_false]
  intro p hp
  obtain ⟨k, hk, e⟩ := List.mem_iff_getElem.1 hp
  have h1 := h k hk
  have e2 : pt l k = p := by
    have := pt_at hk
    rw [List.getElem?_eq_getElem hk, e] at this
    injection this with this
    exact this.symm
  rw [e2] at h1
  simp [h1]
theorem reachB_any (qs l : List (Int × Int)) : reachB qs l = (List.range l.length).any fun j => decide (placeM qs (pt l j) = 2) := by
  cases h : (List.range l.length).any fun j => decide (placeM qs (pt l j) = 2)
  · refine reach_of fun k hk => ?_
    rw [List.any_eq_false] at h
    simpa using h k (List.mem_range.2 hk)
  · rw [List.any_eq_true] at h
    obtain ⟨k, hk, h⟩ := h
    exact reach_at (List.mem_range.1 hk) (by simpa using h)
/-- The points of a floor are small. -/
theorem rowTo_small {ps : List (Int × Int)} {lx y : Int} (h1 : -1000 ≤ lx ∧ lx ≤ 1000) (h2 : -1000 ≤ y ∧ y ≤ 1000) : ∀ j, j ≤ 1000 → ∀ p ∈ rowTo ps lx y j, smP p.1 p.2
  | 0, _, p, hp => by simp [rowTo] at hp
  | j + 1, hj, p, hp => by
    simp only [rowTo] at hp
    split at hp
    · exact rowTo_small h1 h2 j (by omega) p hp
    · rcases List.mem_append.1 hp with h | h
      · exact rowTo_small h1 h2 j (by omega) p h
      · simp at h
        subst h
        unfold smP
        simp only
        omega
theorem floorTo_small {ps : List (Int × Int)} {lx ly : Int} {w : Nat} (h1 : -100 ≤ lx ∧ lx ≤ 100) (h2 : -100 ≤ ly ∧ ly ≤ 100) (hw : w ≤ 100) : ∀ i, i ≤ 100 → ∀ p ∈ floorTo ps lx ly w i, smP p.1 p.2
  | 0, _, p, hp => by simp [floorTo] at hp
  | i + 1, hi, p, hp => by
    simp only [floorTo] at hp
    rcases List.mem_append.1 hp with h | h
    · exact floorTo_small h1 h2 hw i (by omega) p h
    · exact rowTo_small (by omega) (by omega) w (by omega) p h
theorem floorL_small (ps : List (Int × Int)) : smAll (floorL ps) := by
  intro k hk
  have hm : pt (floorL ps) k ∈ floorL ps := List.mem_of_getElem? (pt_at hk)
  unfold floorL at hm ⊢
  cases h : roomB ps
  · rw [h] at hm; simp at hm
  · rw [h] at hm
    simp only [if_true] at hm ⊢
    obtain ⟨h3, hok, _, _⟩ := roomB_yes h
    have hb := boxTo_bound hok (by omega) ps.length (Nat.le_refl _)
    exact floorTo_small (by omega) (by omega) (by unfold widthI; omega) (heightI ps) (by unfold heightI; omega) _ hm
end Go.Proofs.Ytaphdannaaiidaa.ApartMath
