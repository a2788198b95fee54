/-
  A guard at a corner who is needed: the floor of a room has its corners, so somebody must see them; leaving out a number leaves out its point. No program stands here.
-/
import Derived.Test.YtlnbahaoiilegaaFacts
namespace Go.Proofs.Ytlnbahaoiilegaa.NeedMath
open Go PointMath RoomMath AreaMath PlaceMath FloorMath CutsMath SightMath KernMath PtofMath

theorem row_mem {ps : List (Int × Int)} {lx y : Int} : ∀ (j i : Nat), i < j → placeM ps (lx + (i : Int), y) ≠ 0 → (lx + (i : Int), y) ∈ rowTo ps lx y j
  | 0, i, h, _ => absurd h (by omega)
  | j + 1, i, h, hp => by
    simp only [rowTo]
    split
    · rename_i h0
      rcases Nat.lt_or_ge i j with h1 | h1
      · exact row_mem j i h1 hp
      · obtain rfl : i = j := by omega
        exact absurd h0 hp
    · rcases Nat.lt_or_ge i j with h1 | h1
      · exact List.mem_append_left _ (row_mem j i h1 hp)
      · obtain rfl : i = j := by omega
        simp
theorem floor_mem {ps : List (Int × Int)} {lx ly : Int} {w : Nat} : ∀ (i j k : Nat), j < i → k < w → placeM ps (lx + (k : Int), ly + (j : Int)) ≠ 0 → (lx + (k : Int), ly + (j : Int)) ∈ floorTo ps lx ly w i
  | 0, j, _, h, _, _ => absurd h (by omega)
  | i + 1, j, k, h, hk, hp => by
    simp only [floorTo]
    rcases Nat.lt_or_ge j i with h1 | h1
    · exact List.mem_append_left _ (floor_mem i j k h1 hk hp)
    · obtain rfl : j = i := by omega
      exact List.mem_append_right _ (row_mem w k hk hp)
theorem box_low (ps : List (Int × Int)) : ∀ (k j : Nat), j < k → ((boxTo ps k).1.1 ≤ (pt ps j).1 ∧ (pt ps j).1 ≤ (boxTo ps k).2.1) ∧ ((boxTo ps k).1.2 ≤ (pt ps j).2 ∧ (pt ps j).2 ≤ (boxTo ps k).2.2)
  | 0, j, h => absurd h (by omega)
  | k + 1, j, h => by
    simp only [boxTo]
    rcases Nat.lt_or_ge j k with h1 | h1
    · have := box_low ps k j h1
      omega
    · obtain rfl : j = k := by omega
      omega
/-- The floor of a valid room has its corners. -/
theorem floor_corner {ps : List (Int × Int)} (h : roomB ps = true) {k : Nat} (hk : k < ps.length) : pt ps k ∈ floorL ps := by
  obtain ⟨h3, hok, _, _⟩ := roomB_yes h
  have hb := box_low ps ps.length k hk
  have hin := corner_on hk
  unfold floorL
  rw [h]
  simp only [if_true]
  generalize hx : (boxTo ps ps.length).1.1 = lx at *
  generalize hy : (boxTo ps ps.length).1.2 = ly at *
  have hw : ((pt ps k).1 - lx).toNat < widthI ps := by unfold widthI; omega
  have hh : ((pt ps k).2 - ly).toNat < heightI ps := by unfold heightI; omega
  have e1 : lx + ((((pt ps k).1 - lx).toNat : Nat) : Int) = (pt ps k).1 := by omega
  have e2 : ly + ((((pt ps k).2 - ly).toNat : Nat) : Int) = (pt ps k).2 := by omega
  have := floor_mem (ps := ps) (lx := lx) (ly := ly) (w := widthI ps) (heightI ps) _ _ hh hw (by rw [e1, e2]; exact hin)
  rw [e1, e2] at this
  exact this
theorem un_none (ps l : List (Int × Int)) : ∀ n, n ≤ l.length → (unTo ps [] l n).length = n
  | 0, _ => rfl
  | n + 1, h => by
    show (if anySees ps [] (pt l n) 0 then _ else _ : List (Int × Int)).length = _
    rw [show anySees ps [] (pt l n) 0 = false from rfl]
    simp [un_none ps l n (by omega)]
/-- Nobody sees nothing at all of a floor. -/
theorem sees_nil (ps : List (Int × Int)) : seesAllB ps [] = false := by
  cases h : roomB ps
  · unfold seesAllB
    rw [allIn_no h]; rfl
  · have ha : allIn ps [] = true := allIn_of h (fun k hk => absurd hk (by simp))
    have h0 := (roomB_yes h).1
    have hm := floor_corner h (k := 0) (by omega)
    have hl : 0 < (floorL ps).length := List.length_pos_of_mem hm
    unfold seesAllB unL
    rw [ha]
    simp only [if_true, Bool.true_and]
    rw [un_none ps _ _ (Nat.le_refl _)]
    exact decide_eq_false (by omega)

/-- A list without its k-th element. -/
def cutL {α : Type} (l : List α) (k : Nat) : List α := l.take k ++ l.drop (k + 1)
theorem cut_len {α : Type} {l : List α} {k : Nat} (h : k < l.length) : (cutL l k).length + 1 = l.length := by
  unfold cutL
  rw [List.length_append, List.length_take, List.length_drop]
  omega
theorem cut_map {α β : Type} (f : α → β) (l : List α) (k : Nat) : cutL (l.map f) k = (cutL l k).map f := by
  unfold cutL
  rw [List.map_append, List.map_take, List.map_drop]
theorem cut_mem {α : Type} {l : List α} {k : Nat} {x : α} (h : x ∈ cutL l k) : x ∈ l := by
  unfold cutL at h
  rcases List.mem_append.1 h with h | h
  · exact List.mem_of_mem_take h
  · exact List.mem_of_mem_drop h
theorem ptTo_map (ps : List (Int × Int)) (zs : List Int) : ∀ k, k ≤ zs.length → ptTo ps zs k = (zs.take k).map fun z => pt ps z.toNat
  | 0, _ => by simp [ptTo]
  | k + 1, h => by
    show ptTo ps zs k ++ _ = _
    rw [ptTo_map ps zs k (by omega), List.take_add_one, at0_at (by omega)]
    simp
theorem ptof_yes {ps : List (Int × Int)} {zs : List Int} (h : roomB ps = true) (ha : zs.all (inN ps.length) = true) : ptofL ps zs = zs.map fun z => pt ps z.toNat := by
  unfold ptofL
  rw [h, ha]
  simp only [Bool.and_self, if_true]
  rw [ptTo_map ps zs _ (Nat.le_refl _), List.take_length]
/-- Whether a guard is needed. -/
def needB (ps : List (Int × Int)) (zs : List Int) (k : Int) : Bool := decide (0 ≤ k ∧ k < (zs.length : Int)) && (seesAllB ps (ptofL ps zs) && !seesAllB ps (ptofL ps (cutL zs k.toNat)))
theorem need_len {ps : List (Int × Int)} {zs : List Int} (h : seesAllB ps (ptofL ps zs) = true) : (ptofL ps zs).length = zs.length ∧ ∀ k, ptofL ps (cutL zs k) = cutL (ptofL ps zs) k := by
  cases hr : roomB ps
  · rw [ptof_room hr, sees_nil] at h; cases h
  cases ha : zs.all (inN ps.length)
  · have : ptofL ps zs = [] := by unfold ptofL; rw [ha, Bool.and_false]; rfl
    rw [this, sees_nil] at h; cases h
  · rw [ptof_yes hr ha]
    refine ⟨by simp, fun k => ?_⟩
    rw [cut_map, ptof_yes hr]
    rw [List.all_eq_true] at ha ⊢
    exact fun x hx => ha x (cut_mem hx)
theorem need_spec (ps : List (Int × Int)) (zs : List Int) (k : Int) : needB ps zs k = (decide (0 ≤ k ∧ k ≤ ((ptofL ps zs).length : Int) - 1) && (seesAllB ps (ptofL ps zs) && !seesAllB ps (cutL (ptofL ps zs) k.toNat))) := by
  unfold needB
  cases h : seesAllB ps (ptofL ps zs)
  · simp
  · obtain ⟨h1, h2⟩ := need_len h
    rw [h1, h2]
    congr 1
    rw [Bool.eq_iff_iff]
    simp only [decide_eq_true_eq]
    omega
theorem need_no {ps : List (Int × Int)} {zs : List Int} {k : Int} (h : ¬ (0 ≤ k ∧ k < (zs.length : Int))) : needB ps zs k = false := by
  unfold needB; rw [decide_eq_false h]; rfl
theorem need_not {ps : List (Int × Int)} {zs : List Int} {k : Int} (h : seesAllB ps (ptofL ps zs) = false) : needB ps zs k = false := by
  unfold needB; rw [h]; simp
theorem need_at {ps : List (Int × Int)} {zs : List Int} {k : Nat} (hk : k < zs.length) (h : seesAllB ps (ptofL ps zs) = true) : needB ps zs (k : Int) = !seesAllB ps (ptofL ps (cutL zs k)) := by
  unfold needB
  rw [h, decide_eq_true (by omega)]
  simp
end Go.Proofs.Ytlnbahaoiilegaa.NeedMath
