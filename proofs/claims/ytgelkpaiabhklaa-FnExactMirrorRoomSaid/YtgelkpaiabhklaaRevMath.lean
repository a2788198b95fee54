/-
  Points that are laid from the last to the first by exchanges: plain facts. No program stands here.
-/
import Derived.Test.YtgelkpaiabhklaaFacts
namespace Go.Proofs.Ytgelkpaiabhklaa.RevMath

/-- i exchanges from both ends are done. -/
def RevTo (i : Nat) (ps qs : List (Int × Int)) : Prop :=
  qs.length = ps.length ∧ ∀ p, p < ps.length → qs[p]? = if p < i ∨ ps.length ≤ p + i then ps[ps.length - 1 - p]? else ps[p]?
theorem revTo_zero (ps : List (Int × Int)) : RevTo 0 ps ps := by
  refine ⟨rfl, fun p hp => ?_⟩
  rw [if_neg (by omega)]
theorem revTo_end {i : Nat} {ps qs : List (Int × Int)} (h : RevTo i ps qs) (he : ps.length ≤ 2 * i + 1) : qs = ps.reverse := by
  apply List.ext_getElem?
  intro p
  rcases Nat.lt_or_ge p ps.length with hp | hp
  · rw [h.2 p hp, List.getElem?_reverse hp]
    by_cases c : p < i ∨ ps.length ≤ p + i
    · rw [if_pos c]
    · rw [if_neg c, show ps.length - 1 - p = p by omega]
  · rw [List.getElem?_eq_none (by rw [h.1]; exact hp), List.getElem?_eq_none (by rw [List.length_reverse]; exact hp)]
theorem revTo_step {i m : Nat} {ps qs : List (Int × Int)} {a b : Int × Int} (h : RevTo i ps qs) (hm : ps.length - 1 - i = m) (hi : i < m) (hmp : m < ps.length) (ha : qs[i]? = some a) (hb : qs[m]? = some b) : RevTo (i + 1) ps ((qs.set i b).set m a) := by
  obtain ⟨hl, hq⟩ := h
  refine ⟨by simpa using hl, fun p hp => ?_⟩
  rw [List.getElem?_set]
  by_cases e : m = p
  · subst e
    rw [if_pos rfl, if_pos (by simp; omega), if_pos (by omega), show ps.length - 1 - m = i by omega, ← ha, hq i (by omega), if_neg (by omega)]
  · rw [if_neg e, List.getElem?_set]
    by_cases e2 : i = p
    · subst e2
      rw [if_pos rfl, if_pos (by omega), if_pos (by omega), hm, ← hb, hq m (by omega), if_neg (by omega)]
    · rw [if_neg e2, hq p hp]
      by_cases c : p < i ∨ ps.length ≤ p + i
      · rw [if_pos c, if_pos (by omega)]
      · rw [if_neg c, if_neg (by omega)]
end Go.Proofs.Ytgelkpaiabhklaa.RevMath
