/-
  Plain facts: who sees is seen, as the model asks; the nearest of several points that see one. No program stands here.
-/
import Derived.Test.YtonbpmabmjhdgabKernMath
import Derived.Test.YtonbpmabmjhdgabPointFacts
namespace Go.Proofs.Ytonbpmabmjhdgab.NearMath
open PointMath WallMath RoomMath AreaMath PlaceMath FloorMath LineMath CutsMath SightMath KernMath

theorem btw_swap (p a b : Int × Int) : btwP p a b = btwP p b a := by
  unfold btwP btwB
  rw [PointFacts.mid_swap p.1 a.1 b.1, PointFacts.mid_swap p.2 a.2 b.2]
  have e : turnI a.1 a.2 b.1 b.2 p.1 p.2 = 0 ↔ turnI b.1 b.2 a.1 a.2 p.1 p.2 = 0 := by
    have := PointFacts.turn_swap a.1 a.2 b.1 b.2 p.1 p.2
    omega
  rw [decide_eq_decide.2 e]
theorem sep_swap (s t : Int) : sepB s t = sepB t s := by
  unfold sepB
  rw [Bool.eq_iff_iff]; simp; omega
theorem sep_minus (s t : Int) : sepB (-s) (-t) = sepB s t := by
  unfold sepB
  rw [Bool.eq_iff_iff]; simp; omega
theorem cut_swap (ps : List (Int × Int)) (a b : Int × Int) (k : Nat) : cutK ps a b k = cutK ps b a k := by
  unfold cutK cutP cutW sepW
  rw [sep_swap (turnI (pt ps k).1 (pt ps k).2 _ _ a.1 a.2), PointFacts.turn_swap b.1 b.2 a.1 a.2, PointFacts.turn_swap b.1 b.2 a.1 a.2, sep_minus]
theorem cross_iff (ps : List (Int × Int)) (a b : Int × Int) : crossM ps a b < 0 ↔ ∀ k, k < ps.length → cutK ps a b k = false := by
  unfold crossM firstI
  cases h : (List.range ps.length).find? (cutK ps a b) with
  | some j =>
    have h1 := List.find?_some h
    have h2 := List.mem_range.1 (List.mem_of_find?_eq_some h)
    constructor
    · intro h3; simp only at h3; omega
    · intro h3; rw [h3 j h2] at h1; cases h1
  | none =>
    have h1 := List.find?_eq_none.1 h
    refine ⟨fun _ k hk => ?_, fun _ => by decide⟩
    have := h1 k (List.mem_range.2 hk)
    simpa using this
/-- The middles of all pieces, told by the points alone. -/
def allMid (cs C : List (Int × Int)) : Prop := ∀ s, s ∈ C → ∀ t, t ∈ C → s ≠ t → (∀ u, u ∈ C → u ≠ s → u ≠ t → btwP u s t = false) → placeM (dblL cs) (addP s t) ≠ 0
theorem pairs_all {cs C : List (Int × Int)} (ho : Once C) : pairsB cs C = true ↔ allMid cs C := by
  rw [pairs_iff]
  have free : ∀ i k, i < C.length → k < C.length → (freeB C i k = true ↔ ∀ u, u ∈ C → u ≠ pt C i → u ≠ pt C k → btwP u (pt C i) (pt C k) = false) := by
    intro i k hi hk
    unfold freeB
    rw [List.all_eq_true]
    constructor
    · intro h u hu h1 h2
      obtain ⟨j, hj, rfl⟩ := mem_pt hu
      have := h j (List.mem_range.2 hj)
      have e1 : j ≠ i := fun e => h1 (by rw [e])
      have e2 : j ≠ k := fun e => h2 (by rw [e])
      simpa [e1, e2] using this
    · intro h j hj
      have hj := List.mem_range.1 hj
      by_cases e1 : j = i
      · simp [e1]
      · by_cases e2 : j = k
        · simp [e2]
        · have := h (pt C j) (pt_mem hj) (fun e => e1 (ho j hj i hi e)) (fun e => e2 (ho j hj k hk e))
          simp [this]
  constructor
  · intro h s hs t ht hst hf
    obtain ⟨i, hi, rfl⟩ := mem_pt hs
    obtain ⟨k, hk, rfl⟩ := mem_pt ht
    have hik : i ≠ k := fun e => hst (by rw [e])
    rcases Nat.lt_or_gt_of_ne hik with g | g
    · have := h k hk i g ((free k i hk hi).2 (fun u hu h1 h2 => by rw [btw_swap]; exact hf u hu h2 h1))
      rw [addP_comm] at this
      simpa using this
    · have := h i hi k g ((free i k hi hk).2 hf)
      simpa using this
  · intro h i hi k hk hf
    have hk' : k < C.length := by omega
    have := h (pt C i) (pt_mem hi) (pt C k) (pt_mem hk') (fun e => by have := ho i hi k hk' e; omega) ((free i k hi hk').1 hf)
    simpa using this
theorem way_swap {cs : List (Int × Int)} {a b : Int × Int} {k : Nat} {s : Int × Int} : onWay cs a b k s ↔ onWay cs b a k s := by
  unfold onWay
  constructor
  · rintro (h | h | ⟨j, h1, h2, h3⟩)
    · exact .inr (.inl h)
    · exact .inl h
    · exact .inr (.inr ⟨j, h1, h2, by rw [btw_swap]; exact h3⟩)
  · rintro (h | h | ⟨j, h1, h2, h3⟩)
    · exact .inr (.inl h)
    · exact .inl h
    · exact .inr (.inr ⟨j, h1, h2, by rw [btw_swap]; exact h3⟩)
/-- Who sees is seen. -/
theorem sees_swap {cs : List (Int × Int)} (h : roomB cs = true) (a b : Int × Int) : seesM cs a b = seesM cs b a := by
  by_cases e : a = b
  · subst e; rfl
  have once := room_once h
  unfold seesM
  have e1 : decide (crossM cs a b < 0) = decide (crossM cs b a < 0) := decide_eq_decide.2 (by
    rw [cross_iff, cross_iff]
    constructor
    · intro h k hk; rw [cut_swap]; exact h k hk
    · intro h k hk; rw [cut_swap]; exact h k hk)
  have e2 : pairsB cs (cutsTo cs a b cs.length) = pairsB cs (cutsTo cs b a cs.length) := by
    rw [Bool.eq_iff_iff, pairs_all (cutsTo_once e once _ (Nat.le_refl _)), pairs_all (cutsTo_once (fun x => e x.symm) once _ (Nat.le_refl _))]
    have hm : ∀ s, s ∈ cutsTo cs a b cs.length ↔ s ∈ cutsTo cs b a cs.length := fun s => by rw [cutsTo_mem, cutsTo_mem]; exact way_swap
    unfold allMid
    constructor
    · intro h s hs t ht hst hf
      exact h s ((hm s).2 hs) t ((hm t).2 ht) hst (fun u hu => hf u ((hm u).1 hu))
    · intro h s hs t ht hst hf
      exact h s ((hm s).1 hs) t ((hm t).1 ht) hst (fun u hu => hf u ((hm u).2 hu))
  rw [e1, e2]

/-- The nearest of the first k points that see the point. -/
def nearTo (ps gs : List (Int × Int)) (p : Int × Int) : Nat → Int
  | 0 => -1
  | k + 1 => if seesM ps (pt gs k) p && (decide (nearTo ps gs p k < 0) || decide (squareI (pt gs k).1 (pt gs k).2 p.1 p.2 < squareI (pt gs (nearTo ps gs p k).toNat).1 (pt gs (nearTo ps gs p k).toNat).2 p.1 p.2)) then (k : Int) else nearTo ps gs p k
theorem near_bound (ps gs : List (Int × Int)) (p : Int × Int) : ∀ k, -1 ≤ nearTo ps gs p k ∧ nearTo ps gs p k < (k : Int)
  | 0 => by simp [nearTo]
  | k + 1 => by
    have h := near_bound ps gs p k
    unfold nearTo
    split <;> omega
def nearestI (ps gs : List (Int × Int)) (x y : Int) : Int := if allIn ps gs && inB ps x y then nearTo ps gs (x, y) gs.length else -1
theorem square_sym (ax ay bx bY : Int) : squareI ax ay bx bY = squareI bx bY ax ay := by unfold squareI; grind
end Go.Proofs.Ytonbpmabmjhdgab.NearMath
