/-
  The points that no guard sees, reckoned guard by guard, a guard who is listed again left out: plain facts. No program stands here.
-/
import Derived.Test.YtlnbahaoiilegaaFacts
namespace Go.Proofs.Ytlnbahaoiilegaa.UnMath
open Go PointMath RoomMath CutsMath SightMath FloorMath PlaceMath KernMath FiltMath

/-- What the first k guards leave unseen. -/
def restTo (ps gs l : List (Int × Int)) (k : Nat) : List (Int × Int) := l.filter fun p => !anySees ps gs p k
/-- The first k guards, as a set. -/
def askedTo (gs : List (Int × Int)) : Nat → Int × Int → Bool
  | 0 => fun _ => false
  | k + 1 => fun p => decide (p = pt gs k) || askedTo gs k p
theorem filt_filter (g : Int × Int → Bool) (l : List (Int × Int)) : ∀ n, n ≤ l.length → filtTo (fun j => g (pt l j)) l n = (l.take n).filter g
  | 0, _ => by simp [filtTo]
  | n + 1, h => by
    rw [pt_take (by omega), List.filter_append, ← filt_filter g l n (by omega)]
    show (if g (pt l n) then _ else _) = _
    cases hg : g (pt l n) <;> simp [hg]
theorem filt_all (g : Int × Int → Bool) (l : List (Int × Int)) : filtTo (fun j => g (pt l j)) l l.length = l.filter g := by
  rw [filt_filter g l _ (Nat.le_refl _), List.take_length]
theorem un_filter (ps gs l : List (Int × Int)) : ∀ n, n ≤ l.length → unTo ps gs l n = (l.take n).filter fun p => !anySees ps gs p gs.length
  | 0, _ => by simp [unTo]
  | n + 1, h => by
    rw [pt_take (by omega), List.filter_append, ← un_filter ps gs l n (by omega)]
    show (if anySees ps gs (pt l n) gs.length then _ else _) = _
    cases hg : anySees ps gs (pt l n) gs.length <;> simp [hg]
theorem un_rest (ps gs l : List (Int × Int)) : unTo ps gs l l.length = restTo ps gs l gs.length := by
  rw [un_filter ps gs l _ (Nat.le_refl _), List.take_length]; rfl
theorem rest_zero (ps gs l : List (Int × Int)) : restTo ps gs l 0 = l := by
  unfold restTo
  rw [List.filter_eq_self]
  intro p _
  rfl
theorem rest_succ (ps gs l : List (Int × Int)) (k : Nat) : restTo ps gs l (k + 1) = (restTo ps gs l k).filter fun p => !seesM ps (pt gs k) p := by
  unfold restTo
  rw [List.filter_filter]
  congr 1
  funext p
  show (!(anySees ps gs p k || seesM ps (pt gs k) p)) = _
  cases anySees ps gs p k <;> cases seesM ps (pt gs k) p <;> rfl
theorem asked_sees {ps gs : List (Int × Int)} {q p : Int × Int} : ∀ {k : Nat}, askedTo gs k q = true → seesM ps q p = true → anySees ps gs p k = true
  | 0, h, _ => by cases h
  | k + 1, h, hs => by
    show (anySees ps gs p k || seesM ps (pt gs k) p) = true
    have h' : (decide (q = pt gs k) || askedTo gs k q) = true := h
    rw [Bool.or_eq_true] at h'
    rcases h' with h1 | h1
    · have := of_decide_eq_true h1
      subst this
      rw [hs, Bool.or_true]
    · rw [asked_sees h1 hs]; rfl
theorem rest_same {ps gs l : List (Int × Int)} {k : Nat} (h : askedTo gs k (pt gs k) = true) : restTo ps gs l (k + 1) = restTo ps gs l k := by
  unfold restTo
  congr 1
  funext p
  show (!(anySees ps gs p k || seesM ps (pt gs k) p)) = _
  cases hs : seesM ps (pt gs k) p
  · rw [Bool.or_false]
  · rw [asked_sees h hs]; rfl
theorem asked_same {gs : List (Int × Int)} {k : Nat} (h : askedTo gs k (pt gs k) = true) : askedTo gs (k + 1) = askedTo gs k := by
  funext p
  show (decide (p = pt gs k) || askedTo gs k p) = _
  by_cases e : p = pt gs k
  · subst e; rw [h]; simp
  · simp [e]
theorem rest_le (ps gs l : List (Int × Int)) (k : Nat) : (restTo ps gs l k).length ≤ l.length := List.length_filter_le _ _
theorem rest_mem {ps gs l : List (Int × Int)} {k : Nat} {p : Int × Int} (h : p ∈ restTo ps gs l k) : p ∈ l := (List.mem_filter.1 h).1
end Go.Proofs.Ytlnbahaoiilegaa.UnMath
