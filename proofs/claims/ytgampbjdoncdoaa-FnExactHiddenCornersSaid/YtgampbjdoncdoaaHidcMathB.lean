/-
  The corners that hide from each other: the landed way to ask. No program stands here.
-/
import Derived.Test.YtgampbjdoncdoaaHidcMath
import Derived.Test.YtgampbjdoncdoaaFacts
namespace Go.Proofs.Ytgampbjdoncdoaa.HidcMathB
open PointMath WallMath RoomMath AreaMath PlaceMath FloorMath LineMath CutsMath SightMath KernMath DiagMath HidcMath NearMath

def ptsZ (ps : List (Int × Int)) (l : List Int) : List (Int × Int) := l.map fun z => pt ps z.toNat
theorem ptsZ_len (ps : List (Int × Int)) (l : List Int) : (ptsZ ps l).length = l.length := by unfold ptsZ; rw [List.length_map]
theorem ptsZ_snoc (ps : List (Int × Int)) (l : List Int) (k : Nat) : ptsZ ps (l ++ [(k : Int)]) = ptsZ ps l ++ [pt ps k] := by unfold ptsZ; simp
theorem pt_left (Z : List (Int × Int)) (p : Int × Int) {i : Nat} (h : i < Z.length) : pt (Z ++ [p]) i = pt Z i := by
  unfold pt
  rw [List.getD_eq_getElem?_getD, List.getD_eq_getElem?_getD, List.getElem?_append_left h]
theorem pt_last (Z : List (Int × Int)) (p : Int × Int) : pt (Z ++ [p]) Z.length = p := by
  unfold pt
  rw [List.getD_eq_getElem?_getD, List.getElem?_append_right (Nat.le_refl _), Nat.sub_self]
  rfl
theorem pt_last' {Z : List (Int × Int)} {p : Int × Int} {q : Nat} (h : Z.length = q) : pt (Z ++ [p]) q = p := by subst h; exact pt_last Z p
theorem hidAt_left {ps Z : List (Int × Int)} {p : Int × Int} {i : Nat} (h : i < Z.length) : hidAt ps (Z ++ [p]) i = hidAt ps Z i := by
  unfold hidAt
  rw [pt_left Z p h]
  rw [Bool.eq_iff_iff, List.all_eq_true, List.all_eq_true]
  constructor
  · intro hh k hk
    have := hh k hk
    rw [pt_left Z p (by have := List.mem_range.1 hk; omega)] at this
    exact this
  · intro hh k hk
    rw [pt_left Z p (by have := List.mem_range.1 hk; omega)]
    exact hh k hk
theorem hidM_snoc (ps Z : List (Int × Int)) (p : Int × Int) : hidM ps (Z ++ [p]) = (hidM ps Z && hidAt ps (Z ++ [p]) Z.length) := by
  unfold hidM
  rw [List.length_append, List.length_singleton, List.range_succ, List.all_append]
  congr 1
  · rw [Bool.eq_iff_iff, List.all_eq_true, List.all_eq_true]
    constructor
    · intro hh k hk; have := hh k hk; rw [hidAt_left (List.mem_range.1 hk)] at this; exact this
    · intro hh k hk; rw [hidAt_left (List.mem_range.1 hk)]; exact hh k hk
  · simp
theorem free_at {ps : List (Int × Int)} (hr : roomB ps = true) (l : List Int) (k : Nat) : ∀ u, u ≤ l.length → hfreeTo ps l k u = (List.range u).all fun i => !seesM ps (pt ps k) (pt (ptsZ ps l) i)
  | 0, _ => rfl
  | u + 1, h => by
    have e : pt (ptsZ ps l) u = pt ps (l.getD u 0).toNat := by
      have hu : u < l.length := by omega
      unfold ptsZ pt
      rw [List.getD_eq_getElem?_getD, List.getElem?_map, List.getElem?_eq_getElem hu, List.getD_eq_getElem?_getD (l := l), List.getElem?_eq_getElem hu]
      rfl
    have e2 : hfreeTo ps l k (u + 1) = (hfreeTo ps l k u && !seesM ps (pt ps (l.getD u 0).toNat) (pt ps k)) := rfl
    have e3 : ([u].all fun i => !seesM ps (pt ps k) (pt (ptsZ ps l) i)) = !seesM ps (pt ps (l.getD u 0).toNat) (pt ps k) := by
      rw [List.all_cons, List.all_nil, Bool.and_true, e, sees_swap hr]
    rw [List.range_succ, List.all_append, ← free_at hr l k u (by omega), e2, e3]
theorem allIn_of {ps Z : List (Int × Int)} (hr : roomB ps = true) (h : ∀ i, i < Z.length → inB ps (pt Z i).1 (pt Z i).2 = true) : allIn ps Z = true := by
  unfold allIn
  rw [hr, Bool.true_and, List.all_eq_true]
  intro i hi
  exact h i (List.mem_range.1 hi)
theorem hid_step {ps : List (Int × Int)} {l : List Int} {k : Nat} (hr : roomB ps = true) (hk : k < ps.length) (hn : ps.length ≤ 10) (hat : ∀ x ∈ l, ∃ j : Nat, x = (j : Int) ∧ j < k) (hlk : l.length ≤ k) (hm : hidM ps (ptsZ ps l) = true) :
    hiddenB ps (ptsZ ps l ++ [pt ps k]) = hfreeTo ps l k l.length := by
  have hz := ptsZ_len ps l
  unfold hiddenB
  rw [hidM_snoc, hm, Bool.true_and]
  have h1 : allIn ps (ptsZ ps l ++ [pt ps k]) = true := allIn_of hr (fun i hi => by
    rw [List.length_append, List.length_singleton] at hi
    rcases Nat.lt_or_ge i (ptsZ ps l).length with h | h
    · rw [pt_left _ _ h]
      have hil : i < l.length := by omega
      have e : pt (ptsZ ps l) i = pt ps (l[i]).toNat := by
        unfold ptsZ pt
        rw [List.getD_eq_getElem?_getD, List.getElem?_map, List.getElem?_eq_getElem hil]
        rfl
      obtain ⟨j, ej, hj⟩ := hat _ (List.getElem_mem hil)
      rw [e, ej]
      exact corner_in hr (k := j) (by omega)
    · have : i = (ptsZ ps l).length := by omega
      subst this
      rw [pt_last]
      exact corner_in hr hk)
  have h2 : decide ((ptsZ ps l ++ [pt ps k]).length ≤ 10) = true := decide_eq_true (by rw [List.length_append, List.length_singleton]; omega)
  rw [h1, h2, Bool.true_and, Bool.true_and, free_at hr l k l.length (Nat.le_refl _)]
  unfold hidAt
  rw [hz, pt_last' hz]
  rw [Bool.eq_iff_iff, List.all_eq_true, List.all_eq_true]
  constructor
  · intro hh i hi
    have := hh i hi
    rw [pt_left _ _ (by have := List.mem_range.1 hi; omega)] at this
    exact this
  · intro hh i hi
    rw [pt_left _ _ (by have := List.mem_range.1 hi; omega)]
    exact hh i hi
end Go.Proofs.Ytgampbjdoncdoaa.HidcMathB
