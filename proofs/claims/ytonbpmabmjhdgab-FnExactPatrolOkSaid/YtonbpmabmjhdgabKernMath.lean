/-
  Kernels: what InKernel and KernelPoints answer. A point is in the kernel when it is in the room and no wall has it on its right.
-/
import Derived.Test.YtonbpmabmjhdgabSightMath
namespace Go.Proofs.Ytonbpmabmjhdgab.KernMath
open PointMath WallMath RoomMath AreaMath PlaceMath FloorMath LineMath CutsMath SightMath

/-- The wall of corner k has the point on its left, or on its line. -/
def leftK (ps : List (Int × Int)) (p : Int × Int) (k : Nat) : Bool := decide (0 ≤ turnP (pt ps k) (pt ps ((k + 1) % ps.length)) p)
def kernM (ps : List (Int × Int)) (p : Int × Int) : Bool := (List.range ps.length).all (leftK ps p)
theorem kernM_not {ps : List (Int × Int)} {p : Int × Int} {k : Nat} (hk : k < ps.length) (h : leftK ps p k = false) : kernM ps p = false := by
  cases e : kernM ps p
  · rfl
  · have := List.all_eq_true.1 e k (List.mem_range.2 hk)
    rw [h] at this
    cases this
theorem kernM_of {ps : List (Int × Int)} {p : Int × Int} (h : ∀ k, k < ps.length → leftK ps p k = true) : kernM ps p = true :=
  List.all_eq_true.2 fun k hk => h k (List.mem_range.1 hk)
def kernB (ps : List (Int × Int)) (x y : Int) : Bool := inB ps x y && kernM ps (x, y)
/-- The points of a list that are in the kernel, of the first k. -/
def kernTo (ps l : List (Int × Int)) : Nat → List (Int × Int)
  | 0 => []
  | k + 1 => if kernB ps (pt l k).1 (pt l k).2 then kernTo ps l k ++ [pt l k] else kernTo ps l k
def kernL (ps : List (Int × Int)) : List (Int × Int) := kernTo ps (floorL ps) (floorL ps).length
theorem kernTo_len (ps l : List (Int × Int)) : ∀ k, (kernTo ps l k).length ≤ k
  | 0 => by simp [kernTo]
  | k + 1 => by
    have := kernTo_len ps l k
    unfold kernTo
    split
    · rw [List.length_append]; simp; omega
    · omega
theorem kernL_le (ps : List (Int × Int)) : (kernL ps).length ≤ 1048576 := by
  have := kernTo_len ps (floorL ps) (floorL ps).length
  have := floorL_le ps
  unfold kernL
  omega

/-- Does a point of the floor see all corners? -/
def seesCornB (ps : List (Int × Int)) (x y : Int) : Bool := inB ps x y && decide ((cornTo ps (x, y) ps.length).length = ps.length)
theorem kern_in {ps : List (Int × Int)} {x y : Int} (h : inB ps x y = true) : kernB ps x y = kernM ps (x, y) := by unfold kernB; rw [h]; rfl

/-- Every point of a list is in the room. -/
def allIn (ps qs : List (Int × Int)) : Bool := roomB ps && (List.range qs.length).all fun k => inB ps (pt qs k).1 (pt qs k).2
theorem allIn_not {ps qs : List (Int × Int)} {k : Nat} (hk : k < qs.length) (h : inB ps (pt qs k).1 (pt qs k).2 = false) : allIn ps qs = false := by
  cases e : allIn ps qs
  · rfl
  · unfold allIn at e
    rw [Bool.and_eq_true] at e
    have := List.all_eq_true.1 e.2 k (List.mem_range.2 hk)
    simp only [h] at this
    cases this
theorem allIn_of {ps qs : List (Int × Int)} (hr : roomB ps = true) (h : ∀ k, k < qs.length → inB ps (pt qs k).1 (pt qs k).2 = true) : allIn ps qs = true := by
  unfold allIn
  rw [hr, Bool.true_and]
  exact List.all_eq_true.2 fun k hk => h k (List.mem_range.1 hk)
theorem allIn_no {ps qs : List (Int × Int)} (hr : roomB ps = false) : allIn ps qs = false := by
  unfold allIn
  rw [hr]; rfl
theorem allIn_at {ps qs : List (Int × Int)} (h : allIn ps qs = true) : roomB ps = true ∧ ∀ k, k < qs.length → inB ps (pt qs k).1 (pt qs k).2 = true := by
  unfold allIn at h
  rw [Bool.and_eq_true] at h
  exact ⟨h.1, fun k hk => List.all_eq_true.1 h.2 k (List.mem_range.2 hk)⟩
theorem inB_of {ps : List (Int × Int)} {x y : Int} (hr : roomB ps = true) (ho : okP x y = true) : inB ps x y = decide (placeM ps (x, y) ≠ 0) := by
  unfold inB placeI
  rw [hr, ho]; rfl
theorem inB_notok {ps : List (Int × Int)} {x y : Int} (ho : okP x y = false) : inB ps x y = false := by
  unfold inB placeI
  rw [ho]; simp

/-- Some guard of the first i sees the point. -/
def anySees (ps gs : List (Int × Int)) (p : Int × Int) : Nat → Bool
  | 0 => false
  | i + 1 => anySees ps gs p i || seesM ps (pt gs i) p
/-- The points of a list that no guard sees, of the first k. -/
def unTo (ps gs l : List (Int × Int)) : Nat → List (Int × Int)
  | 0 => []
  | k + 1 => if anySees ps gs (pt l k) gs.length then unTo ps gs l k else unTo ps gs l k ++ [pt l k]
def unL (ps gs : List (Int × Int)) : List (Int × Int) := if allIn ps gs then unTo ps gs (floorL ps) (floorL ps).length else []
theorem unTo_len (ps gs l : List (Int × Int)) : ∀ k, (unTo ps gs l k).length ≤ k
  | 0 => by simp [unTo]
  | k + 1 => by
    have := unTo_len ps gs l k
    unfold unTo
    split
    · omega
    · rw [List.length_append]; simp; omega
theorem unL_le (ps gs : List (Int × Int)) : (unL ps gs).length ≤ 1048576 := by
  have := unTo_len ps gs (floorL ps) (floorL ps).length
  have := floorL_le ps
  unfold unL
  split
  · omega
  · simp
def seesAllB (ps gs : List (Int × Int)) : Bool := allIn ps gs && decide ((unL ps gs).length = 0)

/-- As many of the points are in the room as there are: all of them. -/
theorem count_le (ps qs : List (Int × Int)) : ∀ k, countTo ps qs k ≤ (k : Int) := fun k => (countTo_bound ps qs k).2
theorem count_all (ps qs : List (Int × Int)) : ∀ k, decide (countTo ps qs k = (k : Int)) = (List.range k).all fun j => inB ps (pt qs j).1 (pt qs j).2
  | 0 => by simp [countTo]
  | k + 1 => by
    have h := count_all ps qs k
    have hb := count_le ps qs k
    have e : countTo ps qs (k + 1) = if inB ps (pt qs k).1 (pt qs k).2 then countTo ps qs k + 1 else countTo ps qs k := rfl
    rw [List.range_succ, List.all_append, ← h, e]
    cases hi : inB ps (pt qs k).1 (pt qs k).2
    · rw [if_neg (by simp), Bool.eq_iff_iff]
      simp [hi]
      try omega
    · rw [if_pos rfl, Bool.eq_iff_iff]
      simp [hi]
      try omega
theorem allIn_count {ps qs : List (Int × Int)} {m : Nat} (hl : qs.length = m) : allIn ps qs = (roomB ps && decide (countTo ps qs m = (m : Int))) := by
  unfold allIn
  rw [hl, count_all]

/-- No earlier point of the list is seen. -/
def hidAt (ps qs : List (Int × Int)) (i : Nat) : Bool := (List.range i).all fun k => !seesM ps (pt qs i) (pt qs k)
def hidM (ps qs : List (Int × Int)) : Bool := (List.range qs.length).all (hidAt ps qs)
def hiddenB (ps qs : List (Int × Int)) : Bool := allIn ps qs && decide (qs.length ≤ 10) && hidM ps qs
theorem hidAt_not {ps qs : List (Int × Int)} {i k : Nat} (hk : k < i) (h : seesM ps (pt qs i) (pt qs k) = true) : hidAt ps qs i = false := by
  cases e : hidAt ps qs i
  · rfl
  · have := List.all_eq_true.1 e k (List.mem_range.2 hk)
    simp only [h] at this
    cases this
theorem hidAt_of {ps qs : List (Int × Int)} {i : Nat} (h : ∀ k, k < i → seesM ps (pt qs i) (pt qs k) = false) : hidAt ps qs i = true :=
  List.all_eq_true.2 fun k hk => by rw [h k (List.mem_range.1 hk)]; rfl
theorem hidM_not {ps qs : List (Int × Int)} {i : Nat} (hi : i < qs.length) (h : hidAt ps qs i = false) : hidM ps qs = false := by
  cases e : hidM ps qs
  · rfl
  · have := List.all_eq_true.1 e i (List.mem_range.2 hi)
    rw [h] at this
    cases this
theorem hidM_of {ps qs : List (Int × Int)} (h : ∀ i, i < qs.length → hidAt ps qs i = true) : hidM ps qs = true :=
  List.all_eq_true.2 fun i hi => h i (List.mem_range.1 hi)
end Go.Proofs.Ytonbpmabmjhdgab.KernMath
