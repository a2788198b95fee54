/-
  Plain facts: the colors of a room's corners as a map from numbers to numbers, triangle by triangle.
-/
import Derived.Test.YtkcodmafakjkfaaGreatTrisPlain
import Derived.Test.YtkcodmafakjkfaaGreatIntMap
namespace Go.Proofs.YtkcodmafakjkfaaGreat.ColRun
open PointMath WallMath RoomMath AreaMath DiagMath TriMath TrisMath ColMath IntMap

/-- The map that holds the colors c. -/
def fOf (c : List Int) : Int → Option Int := fun x => if 0 ≤ x ∧ 0 ≤ cg c x.toNat then some (cg c x.toNat) else none
theorem fOf_get (c : List Int) (k : Nat) : (fOf c (k : Int)).getD 0 = if 0 ≤ cg c k then cg c k else 0 := by
  unfold fOf
  rw [Int.toNat_natCast]
  by_cases h : 0 ≤ cg c k
  · rw [if_pos ⟨by omega, h⟩, if_pos h]; rfl
  · rw [if_neg (fun x => h x.2), if_neg h]; rfl
theorem fOf_some (c : List Int) (k : Nat) : (fOf c (k : Int)).isSome = decide (0 ≤ cg c k) := by
  unfold fOf
  rw [Int.toNat_natCast]
  by_cases h : 0 ≤ cg c k
  · rw [if_pos ⟨by omega, h⟩, decide_eq_true h]; rfl
  · rw [if_neg (fun x => h x.2), decide_eq_false h]; rfl
theorem cg_base {n x y z : Nat} (hxy : x < y) (hyz : y < z) (hz : z < n) (k : Nat) : cg (colBase n ((x : Int), (y : Int), (z : Int))) k = if k = z then 2 else if k = y then 1 else if k = x then 0 else -1 := by
  unfold colBase
  simp only [Int.toNat_natCast]
  rw [cg_set (by simp; omega), cg_set (by simp; omega), cg_set (by simp; omega), cg_rep]
theorem fOf_base {n x y z : Nat} (hxy : x < y) (hyz : y < z) (hz : z < n) (p : Int) :
    upd (upd (upd (fun _ => none) x 0) y 1) z 2 p = fOf (colBase n ((x : Int), (y : Int), (z : Int))) p := by
  unfold upd fOf
  by_cases h0 : 0 ≤ p
  · obtain ⟨k, rfl⟩ := Int.eq_ofNat_of_zero_le h0
    rw [Int.toNat_natCast, cg_base hxy hyz hz]
    by_cases e1 : k = z
    · subst e1; simp
    · by_cases e2 : k = y
      · subst e2; simp [show k ≠ z by omega, show (k : Int) ≠ (z : Int) by omega]
      · by_cases e3 : k = x
        · subst e3; simp [show k ≠ z by omega, show (k : Int) ≠ (z : Int) by omega, show k ≠ y by omega, show (k : Int) ≠ (y : Int) by omega]
        · simp [e1, e2, e3, show (k : Int) ≠ (z : Int) by omega, show (k : Int) ≠ (y : Int) by omega, show (k : Int) ≠ (x : Int) by omega]
  · rw [if_neg (by omega), if_neg (by omega), if_neg (by omega), if_neg (by omega)]
/-- The triangle's corner that has no color, and the color that is left, as the landed code comes by them. -/
def thirdL (_ox oy oz : Bool) (x y z : Int) : Nat → Int
  | 0 => x
  | 1 => x
  | 2 => if oy then x else y
  | _ => if oz then (if oy then x else y) else z
def restL (cx cy cz : Int) : Nat → Int
  | 0 => 3
  | 1 => 3 - cx
  | 2 => 3 - cx - cy
  | _ => 3 - cx - cy - cz
theorem fOf_step {n : Nat} {c : List Int} {x y z : Nat} (hm : Miss n c ((x : Int), (y : Int), (z : Int))) (hl : c.length = n) (p : Int) :
    upd (fOf c) (thirdL (fOf c (x : Int)).isSome (fOf c (y : Int)).isSome (fOf c (z : Int)).isSome x y z 3) (restL ((fOf c (x : Int)).getD 0) ((fOf c (y : Int)).getD 0) ((fOf c (z : Int)).getD 0) 3) p = fOf (colStep c ((x : Int), (y : Int), (z : Int))) p := by
  obtain ⟨x', y', z', e, hxy, hyz, hz, h⟩ := hm
  obtain ⟨rfl, rfl, rfl⟩ : x' = x ∧ y' = y ∧ z' = z := by
    injection e with e1 e2; injection e2 with e2 e3
    exact ⟨by omega, by omega, by omega⟩
  clear e
  have key : ∀ (b i j : Nat), b < n → cg c b = -1 → Has c i → Has c j → cg c i ≠ cg c j → colAt c ((x' : Int), (y' : Int), (z' : Int)) = ((b : Int), 3 - cg c i - cg c j) →
      upd (fOf c) b (3 - cg c i - cg c j) p = fOf (colStep c ((x' : Int), (y' : Int), (z' : Int))) p := by
    intro b i j hb hcb hi hj hij hat
    unfold colStep
    rw [hat, if_pos (by simp)]
    dsimp only
    rw [Int.toNat_natCast]
    unfold upd fOf
    have hv : 0 ≤ 3 - cg c i - cg c j := by have := hi.1; have := hi.2; have := hj.1; have := hj.2; omega
    by_cases h0 : 0 ≤ p
    · obtain ⟨k, rfl⟩ := Int.eq_ofNat_of_zero_le h0
      rw [Int.toNat_natCast, cg_set (by omega)]
      by_cases e : k = b
      · subst e
        rw [if_pos rfl, if_pos rfl, if_pos ⟨by omega, hv⟩]
      · rw [if_neg (by omega), if_neg e]
    · rw [if_neg (by omega), if_neg (by omega), if_neg (by omega)]
  rcases h with ⟨h1, h2, h3, h4⟩ | ⟨h1, h2, h3, h4⟩ | ⟨h1, h2, h3, h4⟩
  · have hat := miss_at (t := ((x' : Int), (y' : Int), (z' : Int))) h1 h3 h2 (.inr (.inl rfl))
    have := key x' z' y' (by omega) h1 h3 h2 (fun e => h4 e.symm) hat
    rw [← this, fOf_get, fOf_get, fOf_get, fOf_some, fOf_some, fOf_some, decide_eq_true h2.1, decide_eq_true h3.1, if_neg (by omega), if_pos h2.1, if_pos h3.1]
    unfold thirdL restL
    rw [show (3 : Int) - 0 - cg c y' - cg c z' = 3 - cg c z' - cg c y' by omega]
    rfl
  · have hat := miss_at (t := ((x' : Int), (y' : Int), (z' : Int))) h1 h2 h3 (.inl rfl)
    have := key y' x' z' (by omega) h1 h2 h3 h4 hat
    rw [← this, fOf_get, fOf_get, fOf_get, fOf_some, fOf_some, fOf_some, decide_eq_true h2.1, decide_eq_true h3.1, decide_eq_false (by omega), if_pos h2.1, if_pos h3.1, if_neg (by omega)]
    unfold thirdL restL
    rw [show (3 : Int) - cg c x' - 0 - cg c z' = 3 - cg c x' - cg c z' by omega]
    rfl
  · have hat := miss_at (t := ((x' : Int), (y' : Int), (z' : Int))) h1 h3 h2 (.inr (.inr rfl))
    have := key z' y' x' (by omega) h1 h3 h2 (fun e => h4 e.symm) hat
    rw [← this, fOf_get, fOf_get, fOf_get, fOf_some, fOf_some, fOf_some, decide_eq_true h2.1, decide_eq_true h3.1, decide_eq_false (show ¬ 0 ≤ cg c z' by omega), if_pos h2.1, if_pos h3.1, if_neg (by omega)]
    unfold thirdL restL
    rw [show (3 : Int) - cg c x' - cg c y' - 0 = 3 - cg c y' - cg c x' by omega]
    rfl
theorem fOf_small {n : Nat} {c : List Int} {x y z : Nat} (hm : Miss n c ((x : Int), (y : Int), (z : Int))) : (∀ k : Nat, k = x ∨ k = y ∨ k = z → 0 ≤ (fOf c (k : Int)).getD 0 ∧ (fOf c (k : Int)).getD 0 ≤ 2) := by
  obtain ⟨x', y', z', e, hxy, hyz, hz, h⟩ := hm
  obtain ⟨rfl, rfl, rfl⟩ : x' = x ∧ y' = y ∧ z' = z := by
    injection e with e1 e2; injection e2 with e2 e3
    exact ⟨by omega, by omega, by omega⟩
  intro k hk
  rw [fOf_get]
  unfold Has at h
  rcases hk with rfl | rfl | rfl <;> split <;> omega

/-- The colors of the triangles from number k on. -/
theorem colF_drop {n k : Nat} {L : List Tup3.Tu} (hk : k + 1 < L.length) : colF n (L.drop k) = colStep (colF n (L.drop (k + 1))) (Tup3.tt L k) := by
  have e1 : L.drop k = L[k] :: L.drop (k + 1) := List.drop_eq_getElem_cons (by omega)
  have e2 : L.drop (k + 1) = L[k + 1] :: L.drop (k + 2) := List.drop_eq_getElem_cons hk
  have e3 : Tup3.tt L k = L[k] := by
    have := Tup3.tt_at (ps := L) (k := k) (by omega)
    rw [List.getElem?_eq_getElem (by omega)] at this
    exact (Option.some.inj this).symm
  rw [e1, e2, e3]
  rfl
theorem colF_last {n : Nat} {L : List Tup3.Tu} (h : L ≠ []) : colF n (L.drop (L.length - 1)) = colBase n (Tup3.tt L (L.length - 1)) := by
  have hp : 0 < L.length := List.length_pos_iff.2 h
  have e1 : L.drop (L.length - 1) = L[L.length - 1]'(by omega) :: L.drop (L.length - 1 + 1) := List.drop_eq_getElem_cons (by omega)
  have e3 : Tup3.tt L (L.length - 1) = L[L.length - 1]'(by omega) := by
    have := Tup3.tt_at (ps := L) (k := L.length - 1) (by omega)
    rw [List.getElem?_eq_getElem (by omega)] at this
    exact (Option.some.inj this).symm
  rw [e1, e3, List.drop_of_length_le (by omega)]
  rfl
theorem steps_drop {n : Nat} : ∀ {L : List Tup3.Tu} {k : Nat}, ColMath.Steps n L → k + 1 < L.length → Miss n (colF n (L.drop (k + 1))) (Tup3.tt L k)
  | t :: s :: L, 0, h, _ => h.1
  | t :: s :: L, k + 1, h, hk => by
    have := steps_drop (L := s :: L) (k := k) h.2 (by simpa using hk)
    exact this
  | [], k, _, hk => by simp at hk
  | [t], k, _, hk => by simp at hk
theorem steps_last {n : Nat} : ∀ {L : List Tup3.Tu}, L ≠ [] → ColMath.Steps n L → ∃ x y z : Nat, Tup3.tt L (L.length - 1) = ((x : Int), (y : Int), (z : Int)) ∧ x < y ∧ y < z ∧ z < n
  | [], h, _ => absurd rfl h
  | [t], _, h => h
  | t :: s :: L, _, h => by
    have := steps_last (L := s :: L) (by simp) h.2
    exact this
theorem colF_dlen {n k : Nat} {L : List Tup3.Tu} (hk : k < L.length) : (colF n (L.drop k)).length = n :=
  colF_len _ _ (by intro e; have := congrArg List.length e; simp at this; omega)
theorem colL_le (ps : List (Int × Int)) : (colL ps).length ≤ ps.length := by
  by_cases h : trisL ps = []
  · rw [colL_nil h]; exact Nat.zero_le _
  · exact Nat.le_of_eq (colF_len _ _ h)
end Go.Proofs.YtkcodmafakjkfaaGreat.ColRun
