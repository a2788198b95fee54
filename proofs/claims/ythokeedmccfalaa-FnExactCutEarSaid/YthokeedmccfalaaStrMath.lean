/-
  A way round without its straight corners: one is taken out after the other, the first one first. No program stands here.
-/
import Derived.Test.YthokeedmccfalaaFacts
import Derived.Test.YthokeedmccfalaaEarMath
namespace Go.Proofs.Ythokeedmccfalaa.StrMath
open Go PointMath WallMath RoomMath EarMath

def cut (l : List (Int × Int)) (k : Nat) : List (Int × Int) := l.take k ++ l.drop (k + 1)
theorem cut_len {l : List (Int × Int)} {k : Nat} (h : k < l.length) : (cut l k).length = l.length - 1 := by
  unfold cut; rw [List.length_append, List.length_take, List.length_drop]; omega
theorem cut_ok {l : List (Int × Int)} (k : Nat) (h : okAll l = true) : okAll (cut l k) = true := by
  unfold okAll cut at *
  rw [List.all_eq_true] at *
  intro p hp
  rw [List.mem_append] at hp
  rcases hp with hp | hp
  · exact h p (List.mem_of_mem_take hp)
  · exact h p (List.mem_of_mem_drop hp)
/-- All straight corners are taken out (the landed way; f rounds at most). -/
def strF : Nat → List (Int × Int) → List (Int × Int)
  | 0, l => l
  | f + 1, l => if 0 ≤ straightI l then strF f (cut l (straightI l).toNat) else l
/-- The same, but a way of two corners is left as it is (the model's way). -/
def strM : Nat → List (Int × Int) → List (Int × Int)
  | 0, l => l
  | f + 1, l => if 2 < l.length ∧ 0 ≤ straightI l then strM f (cut l (straightI l).toNat) else l
def landL (l : List (Int × Int)) : List (Int × Int) := strF l.length l
def modL (l : List (Int × Int)) : List (Int × Int) := strM l.length l
/-- The first straight corner, as the model looks for it. -/
def firstM (l : List (Int × Int)) : Int := if 2 < l.length then straightI l else -1
theorem str_lt {l : List (Int × Int)} {k : Nat} (h : straightI l = (k : Int)) : k < l.length := by
  rcases straightI_cases l with ⟨h1, _⟩ | ⟨j, h1, h2, _⟩
  · omega
  · omega
theorem land_step {l : List (Int × Int)} {k : Nat} (h : straightI l = (k : Int)) : landL l = landL (cut l k) := by
  have hk := str_lt h
  obtain ⟨f, hf⟩ : ∃ f, l.length = f + 1 := ⟨l.length - 1, by omega⟩
  unfold landL
  rw [cut_len hk, hf]
  show (if 0 ≤ straightI l then _ else _) = _
  rw [if_pos (by omega), h]
  rfl
theorem land_end {l : List (Int × Int)} (h : straightI l < 0) : landL l = l := by
  unfold landL
  cases hl : l.length with
  | zero => rfl
  | succ f =>
    show (if 0 ≤ straightI l then _ else _) = _
    rw [if_neg (by omega)]
theorem mod_step {l : List (Int × Int)} {k : Nat} (h2 : 2 < l.length) (h : straightI l = (k : Int)) : modL l = modL (cut l k) := by
  have hk := str_lt h
  obtain ⟨f, hf⟩ : ∃ f, l.length = f + 1 := ⟨l.length - 1, by omega⟩
  unfold modL
  rw [cut_len hk, hf]
  show (if 2 < l.length ∧ 0 ≤ straightI l then _ else _) = _
  rw [if_pos ⟨h2, by omega⟩, h]
  rfl
theorem mod_end {l : List (Int × Int)} (h : firstM l < 0) : modL l = l := by
  unfold modL
  cases hl : l.length with
  | zero => rfl
  | succ f =>
    show (if 2 < l.length ∧ 0 ≤ straightI l then _ else _) = _
    rw [if_neg ?_]
    intro ⟨h1, h2⟩
    unfold firstM at h
    rw [if_pos h1] at h
    omega
theorem first_yes {l : List (Int × Int)} {k : Nat} (h : firstM l = (k : Int)) : 2 < l.length ∧ straightI l = (k : Int) := by
  unfold firstM at h
  split at h
  · exact ⟨by assumption, h⟩
  · omega
theorem strF_le : ∀ (f : Nat) (l : List (Int × Int)), (strF f l).length ≤ l.length
  | 0, _ => Nat.le_refl _
  | f + 1, l => by
    show (if 0 ≤ straightI l then _ else _ : List (Int × Int)).length ≤ _
    split
    · rename_i h
      obtain ⟨k, hk⟩ := Int.eq_ofNat_of_zero_le h
      have h1 := strF_le f (cut l (straightI l).toNat)
      rw [hk, Int.toNat_natCast] at h1 ⊢
      rw [cut_len (str_lt hk)] at h1
      omega
    · exact Nat.le_refl _
theorem strM_le : ∀ (f : Nat) (l : List (Int × Int)), (strM f l).length ≤ l.length
  | 0, _ => Nat.le_refl _
  | f + 1, l => by
    show (if 2 < l.length ∧ 0 ≤ straightI l then _ else _ : List (Int × Int)).length ≤ _
    split
    · rename_i h
      obtain ⟨k, hk⟩ := Int.eq_ofNat_of_zero_le h.2
      have h1 := strM_le f (cut l (straightI l).toNat)
      rw [hk, Int.toNat_natCast] at h1 ⊢
      rw [cut_len (str_lt hk)] at h1
      omega
    · exact Nat.le_refl _
/-- The two ways differ only where fewer than three corners are left. -/
theorem two_ways : ∀ (f : Nat) (l : List (Int × Int)), strF f l = strM f l ∨ ((strF f l).length ≤ 2 ∧ (strM f l).length ≤ 2)
  | 0, _ => .inl rfl
  | f + 1, l => by
    by_cases h2 : 2 < l.length
    · by_cases h : 0 ≤ straightI l
      · show (if 0 ≤ straightI l then _ else _) = (if 2 < l.length ∧ 0 ≤ straightI l then _ else _) ∨ ((if 0 ≤ straightI l then _ else _ : List (Int × Int)).length ≤ 2 ∧ (if 2 < l.length ∧ 0 ≤ straightI l then _ else _ : List (Int × Int)).length ≤ 2)
        rw [if_pos h, if_pos ⟨h2, h⟩]
        exact two_ways f _
      · refine .inl ?_
        show (if 0 ≤ straightI l then _ else _) = (if 2 < l.length ∧ 0 ≤ straightI l then _ else _)
        rw [if_neg h, if_neg (fun q => h q.2)]
    · have h1 := strF_le (f + 1) l
      have h3 := strM_le (f + 1) l
      exact .inr ⟨by omega, by omega⟩
theorem mod_le (l : List (Int × Int)) : (modL l).length ≤ l.length := strM_le _ _
theorem land_room {l : List (Int × Int)} : roomB (landL l) = roomB (modL l) ∧ (roomB (modL l) = true → landL l = modL l) := by
  rcases two_ways l.length l with h | ⟨h1, h2⟩
  · unfold landL modL; rw [h]; exact ⟨rfl, fun _ => rfl⟩
  · have e1 : roomB (landL l) = false := roomB_short (by unfold landL; omega)
    have e2 : roomB (modL l) = false := roomB_short (by unfold modL; omega)
    exact ⟨by rw [e1, e2], fun h => by rw [e2] at h; cases h⟩
/-- Where the model's search from the last corner on has come to. -/
def Look (l : List (Int × Int)) (k : Nat) (v : Int) : Prop :=
  (v = -1 ∧ (2 < l.length → ∀ j, k ≤ j → j < l.length → bendBack l j ≠ 0)) ∨ (2 < l.length ∧ ∃ x : Nat, v = (x : Int) ∧ k ≤ x ∧ x < l.length ∧ bendBack l x = 0 ∧ ∀ j, k ≤ j → j < x → bendBack l j ≠ 0)
theorem look_start (l : List (Int × Int)) : Look l l.length (-1) := .inl ⟨rfl, fun _ j h1 h2 => by omega⟩
theorem look_hit {l : List (Int × Int)} {k : Nat} (hk : k < l.length) (h2 : 2 < l.length) (h : bendBack l k = 0) : Look l k (k : Int) := .inr ⟨h2, k, rfl, Nat.le_refl _, hk, h, fun j h1 h2 => by omega⟩
theorem look_miss {l : List (Int × Int)} {k : Nat} {v : Int} (hs : Look l (k + 1) v) (h : bendBack l k ≠ 0) : Look l k v := by
  have hj : ∀ j, k ≤ j → (k + 1 ≤ j → bendBack l j ≠ 0) → bendBack l j ≠ 0 := fun j h1 h2 => by
    rcases Nat.eq_or_lt_of_le h1 with e | e
    · rw [← e]; exact h
    · exact h2 e
  rcases hs with ⟨h1, h2⟩ | ⟨h0, x, h1, h2, h3, h4, h5⟩
  · exact .inl ⟨h1, fun q j ha hb => hj j ha (fun z => h2 q j z hb)⟩
  · exact .inr ⟨h0, x, h1, by omega, h3, h4, fun j ha hb => hj j ha (fun z => h5 j z hb)⟩
theorem look_end {l : List (Int × Int)} {v : Int} (h : Look l 0 v) : v = firstM l := by
  unfold firstM
  rcases h with ⟨h1, h2⟩ | ⟨h0, x, h1, _, h3, h4, h5⟩
  · by_cases h : 2 < l.length
    · rw [if_pos h, h1, straightI_none (fun k hk => h2 h k (by omega) hk)]
    · rw [if_neg h, h1]
  · rw [if_pos h0, h1, straightI_at h3 h4 (fun j hj => h5 j (by omega) hj)]
theorem look_short {l : List (Int × Int)} {k : Nat} {v : Int} (hl : l.length ≤ 2) (h : Look l k v) : v = firstM l := by
  unfold firstM
  rw [if_neg (by omega)]
  rcases h with ⟨h1, h2⟩ | ⟨h0, _⟩
  · exact h1
  · omega
/-- What CutEar answers: whether, and the corners. -/
def earB (ps : List (Int × Int)) (k : Int) : Bool := isEarB ps k && !decide (ps.length = 3) && roomB (modL (cut ps k.toNat))
def earL (ps : List (Int × Int)) (k : Int) : List (Int × Int) := if earB ps k then modL (cut ps k.toNat) else []
theorem ear_no {ps : List (Int × Int)} {k : Int} (h : earB ps k = false) : earL ps k = [] := by unfold earL; rw [if_neg (by simp [h])]
theorem ear_yes {ps : List (Int × Int)} {k : Int} (h : earB ps k = true) : earL ps k = modL (cut ps k.toNat) := by unfold earL; rw [if_pos h]
theorem ear_bound (ps : List (Int × Int)) (k : Int) : (earL ps k).length ≤ 1048576 := by
  cases h : earB ps k with
  | false => rw [ear_no h]; simp
  | true =>
    rw [ear_yes h]
    have hr : roomB (modL (cut ps k.toNat)) = true := by unfold earB at h; simp only [Bool.and_eq_true] at h; exact h.2
    rcases Decidable.em (3 ≤ (modL (cut ps k.toNat)).length ∧ (modL (cut ps k.toNat)).length ≤ 10) with h1 | h1
    · omega
    · rw [roomB_short h1] at hr; cases hr
theorem no_ear {ps : List (Int × Int)} {k : Int} (h : isEarB ps k = false) : earB ps k = false := by unfold earB; rw [h]; rfl
theorem no_three {ps : List (Int × Int)} {k : Int} (h : ps.length = 3) : earB ps k = false := by unfold earB; rw [decide_eq_true h]; simp
theorem the_ear {ps : List (Int × Int)} {k : Int} (h : isEarB ps k = true) (h3 : ps.length ≠ 3) : earB ps k = roomB (modL (cut ps k.toNat)) := by unfold earB; rw [h, decide_eq_false h3]; rfl
end Go.Proofs.Ythokeedmccfalaa.StrMath
