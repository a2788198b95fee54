/-
  Plain facts on cuts that are taken one by one. No program stands here.
-/
import Derived.Test.YtmmmnnncbpdinaaDgsMath
namespace Go.Proofs.Ytmmmnnncbpdinaa.GrdMath
open PointMath WallMath RoomMath AreaMath DiagMath EdgeMath DgsMath

theorem edgeRow_mem (f : Nat → Bool) (i : Nat) : ∀ k, ∀ x, x ∈ edgeRow f i k → x.1 = (i : Int) ∧ x.2 < (k : Int)
  | 0, x, h => by cases h
  | k + 1, x, h => by
    unfold edgeRow at h
    split at h
    · rcases List.mem_append.1 h with h | h
      · have := edgeRow_mem f i k x h; omega
      · simp at h; subst h; exact ⟨rfl, by simp; omega⟩
    · have := edgeRow_mem f i k x h; omega
theorem edgeRow_nodup (f : Nat → Bool) (i : Nat) : ∀ k, (edgeRow f i k).Nodup
  | 0 => List.nodup_nil
  | k + 1 => by
    unfold edgeRow
    split
    · rw [List.nodup_append]
      refine ⟨edgeRow_nodup f i k, by simp, fun a ha b hb e => ?_⟩
      subst e
      have := (edgeRow_mem f i k a ha).2
      simp at hb
      subst hb
      simp at this
    · exact edgeRow_nodup f i k
theorem edgesTo_mem (F : Nat → Nat → Bool) (m : Nat) : ∀ i, ∀ x, x ∈ edgesTo F m i → x.1 < (i : Int)
  | 0, x, h => by cases h
  | i + 1, x, h => by
    unfold edgesTo at h
    rcases List.mem_append.1 h with h | h
    · have := edgesTo_mem F m i x h; omega
    · have := (edgeRow_mem (F i) i m x h).1; omega
theorem edgesTo_nodup (F : Nat → Nat → Bool) (m : Nat) : ∀ i, (edgesTo F m i).Nodup
  | 0 => List.nodup_nil
  | i + 1 => by
    unfold edgesTo
    rw [List.nodup_append]
    refine ⟨edgesTo_nodup F m i, edgeRow_nodup (F i) i m, fun a ha b hb e => ?_⟩
    subst e
    have h1 := edgesTo_mem F m i a ha
    have h2 := (edgeRow_mem (F i) i m a hb).1
    omega
theorem dgs_nodup (ps : List (Int × Int)) : (dgsL ps).Nodup := by
  unfold dgsL
  split
  · exact edgesTo_nodup _ _ _
  · exact List.nodup_nil

/-- The first k of a list, taken one by one unless one taken before is in the way. -/
def gTo (c : Int × Int → Int × Int → Bool) (l : List (Int × Int)) : Nat → List (Int × Int)
  | 0 => []
  | k + 1 => if (gTo c l k).any (c (l.getD k (0, 0))) then gTo c l k else gTo c l k ++ [l.getD k (0, 0)]
theorem gTo_len (c : Int × Int → Int × Int → Bool) (l : List (Int × Int)) : ∀ k, (gTo c l k).length ≤ k
  | 0 => Nat.le_refl _
  | k + 1 => by
    have := gTo_len c l k
    unfold gTo
    split
    · omega
    · rw [List.length_append]; simp; omega
theorem gTo_mem (c : Int × Int → Int × Int → Bool) (l : List (Int × Int)) : ∀ k, k ≤ l.length → ∀ x, x ∈ gTo c l k → x ∈ l.take k
  | 0, _, x, h => by cases h
  | k + 1, hk, x, h => by
    have ih := gTo_mem c l k (by omega)
    have e : l.getD k (0, 0) = l[k]'(by omega) := by simp [List.getD, List.getElem?_eq_getElem (show k < l.length by omega)]
    rw [List.take_succ_eq_append_getElem (by omega)]
    unfold gTo at h
    split at h
    · exact List.mem_append_left _ (ih x h)
    · rcases List.mem_append.1 h with h | h
      · exact List.mem_append_left _ (ih x h)
      · rw [e] at h; exact List.mem_append_right _ h
/-- In a list without repeats the next one was not taken before: to ask for it too changes nothing. -/
theorem gTo_fresh (c : Int × Int → Int × Int → Bool) {l : List (Int × Int)} (hn : l.Nodup) {k : Nat} (hk : k < l.length) : l.getD k (0, 0) ∉ gTo c l k := by
  intro h
  have h1 := gTo_mem c l k (by omega) _ h
  have e : l.getD k (0, 0) = l[k] := by simp [List.getD, List.getElem?_eq_getElem hk]
  rw [e] at h1
  have h2 : (l.take k ++ l.drop k).Nodup := by rw [List.take_append_drop]; exact hn
  rw [List.nodup_append] at h2
  refine h2.2.2 _ h1 l[k] ?_ rfl
  rw [List.drop_eq_getElem_cons hk]
  exact List.mem_cons_self
theorem gTo_own (c : Int × Int → Int × Int → Bool) {l : List (Int × Int)} (hn : l.Nodup) {k : Nat} (hk : k < l.length) :
    (gTo c l k).any (fun e => decide (e = l.getD k (0, 0)) || c (l.getD k (0, 0)) e) = (gTo c l k).any (c (l.getD k (0, 0))) := by
  have hf := gTo_fresh c hn hk
  rw [Bool.eq_iff_iff, List.any_eq_true, List.any_eq_true]
  constructor
  · rintro ⟨x, hx, h⟩
    rw [Bool.or_eq_true, decide_eq_true_eq] at h
    rcases h with h | h
    · subst h; exact absurd hx hf
    · exact ⟨x, hx, h⟩
  · rintro ⟨x, hx, h⟩
    exact ⟨x, hx, by rw [h, Bool.or_true]⟩
/-- Do two diagonals, by the numbers of their corners, cross? -/
def crossD (ps : List (Int × Int)) (d e : Int × Int) : Bool :=
  cutW (pt ps d.1.toNat).1 (pt ps d.1.toNat).2 (pt ps d.2.toNat).1 (pt ps d.2.toNat).2 (pt ps e.1.toNat).1 (pt ps e.1.toNat).2 (pt ps e.2.toNat).1 (pt ps e.2.toNat).2
def grdL (ps : List (Int × Int)) : List (Int × Int) := gTo (crossD ps) (dgsL ps) (dgsL ps).length
theorem grd_le (ps : List (Int × Int)) : (grdL ps).length ≤ 20000 := Nat.le_trans (gTo_len _ _ _) (dgs_le ps)
end Go.Proofs.Ytmmmnnncbpdinaa.GrdMath
