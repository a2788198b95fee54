/-
  The least number of guards on duty: at every moment of a span, or at its start and at the ends of shifts. No program stands here.
-/
import Derived.Test.YtcpepljgnkmajaaDutyMath
namespace Go.Proofs.Ytcpepljgnkmajaa.LeastMath
open DutyMath Tup3

/-- The least of the list's length and of those on duty at the first k moments from f on. -/
def minOn (l : List Tu) (f : Int) : Nat → Int
  | 0 => (l.length : Int)
  | k + 1 => min (minOn l f k) (dutyI l (f + (k : Int)))
def leastI (l : List Tu) (f t : Int) : Int :=
  if shiftsV l && decide (0 ≤ f ∧ f ≤ 10000) && decide (0 ≤ t ∧ t ≤ 10000) && decide (f < t) then minOn l f (t - f).toNat else -1
/-- The least of those on duty at f and at the ends of the first k shifts that lie in the span. -/
def endsTo (l : List Tu) (f t : Int) : Nat → Int
  | 0 => dutyI l f
  | k + 1 => if f ≤ (tt l k).2.2 ∧ (tt l k).2.2 ≤ t - 1 then min (endsTo l f t k) (dutyI l (tt l k).2.2) else endsTo l f t k

theorem duty_le (l : List Tu) (m : Int) : dutyI l m ≤ (l.length : Int) := by
  have := filtT_len (dutyF l m) l l.length
  unfold dutyI; omega
theorem duty_ge (l : List Tu) (m : Int) : 0 ≤ dutyI l m := by unfold dutyI; omega
theorem minOn_le {l : List Tu} {f : Int} {j : Nat} : ∀ {n}, j < n → minOn l f n ≤ dutyI l (f + (j : Int))
  | 0, h => by omega
  | n + 1, h => by
    unfold minOn
    by_cases e : j = n
    · subst e; omega
    · have := minOn_le (l := l) (f := f) (j := j) (n := n) (by omega)
      omega
theorem le_minOn {l : List Tu} {f x : Int} (h0 : x ≤ (l.length : Int)) : ∀ {n : Nat}, (∀ j : Nat, j < n → x ≤ dutyI l (f + (j : Int))) → x ≤ minOn l f n
  | 0, _ => h0
  | n + 1, h => by
    unfold minOn
    have h1 := le_minOn (l := l) (f := f) h0 (n := n) (fun j hj => h j (by omega))
    have h2 := h n (by omega)
    omega
theorem minOn_in (l : List Tu) (f : Int) : ∀ n, 0 ≤ minOn l f n ∧ minOn l f n ≤ (l.length : Int)
  | 0 => by unfold minOn; omega
  | n + 1 => by
    have h1 := minOn_in l f n
    have h2 := duty_ge l (f + (n : Int))
    unfold minOn; omega
theorem ends_start (l : List Tu) (f t : Int) : ∀ n, endsTo l f t n ≤ dutyI l f
  | 0 => Int.le_refl _
  | n + 1 => by
    have := ends_start l f t n
    unfold endsTo
    split <;> omega
theorem ends_end {l : List Tu} {f t : Int} {k : Nat} (h : f ≤ (tt l k).2.2 ∧ (tt l k).2.2 ≤ t - 1) : ∀ {n}, k < n → endsTo l f t n ≤ dutyI l (tt l k).2.2
  | 0, hk => by omega
  | n + 1, hk => by
    unfold endsTo
    by_cases e : k = n
    · subst e
      rw [if_pos h]; omega
    · have := ends_end h (n := n) (by omega)
      split <;> omega
theorem le_ends {l : List Tu} {f t x : Int} (h0 : x ≤ dutyI l f) : ∀ {n}, (∀ k, k < n → f ≤ (tt l k).2.2 ∧ (tt l k).2.2 ≤ t - 1 → x ≤ dutyI l (tt l k).2.2) → x ≤ endsTo l f t n
  | 0, _ => h0
  | n + 1, h => by
    have h1 := le_ends (l := l) (f := f) (t := t) h0 (n := n) (fun k hk => h k (by omega))
    have h2 := h n (by omega)
    unfold endsTo
    split
    · rename_i h3
      have := h2 h3
      omega
    · omega
theorem ends_in (l : List Tu) (f t : Int) : ∀ n, 0 ≤ endsTo l f t n ∧ endsTo l f t n ≤ (l.length : Int)
  | 0 => ⟨duty_ge _ _, duty_le _ _⟩
  | n + 1 => by
    have h1 := ends_in l f t n
    have h2 := duty_ge l (tt l n).2.2
    unfold endsTo
    split <;> omega
/-- Nobody leaves between two moments at whose later no shift ends. -/
theorem duty_step {l : List Tu} {m : Int} (h : ∀ k, k < l.length → (tt l k).2.2 ≠ m) : dutyI l (m - 1) ≤ dutyI l m := by
  have := filt_mono (f := dutyF l (m - 1)) (g := dutyF l m) l l.length (fun j hj hf => by
    have hne := h j hj
    unfold dutyF at hf ⊢
    simp only [Bool.and_eq_true, decide_eq_true_eq] at hf ⊢
    exact ⟨⟨hf.1.1, by omega⟩, by omega⟩)
  unfold dutyI; omega
theorem ends_all {l : List Tu} {f t : Int} : ∀ (n : Nat), f + (n : Int) < t → endsTo l f t l.length ≤ dutyI l (f + (n : Int))
  | 0, _ => by simpa using ends_start l f t l.length
  | n + 1, h => by
    by_cases e : ∃ k, k < l.length ∧ (tt l k).2.2 = f + ((n + 1 : Nat) : Int)
    · obtain ⟨k, hk, he⟩ := e
      have := ends_end (l := l) (f := f) (t := t) (k := k) (by omega) hk
      rw [he] at this
      exact this
    · have h1 := ends_all (l := l) (f := f) (t := t) n (by omega)
      have h2 := duty_step (l := l) (m := f + ((n + 1 : Nat) : Int)) (fun k hk hc => e ⟨k, hk, hc⟩)
      rw [show f + ((n + 1 : Nat) : Int) - 1 = f + (n : Int) by omega] at h2
      omega
theorem min_ends {l : List Tu} {f t : Int} (h : f < t) : minOn l f (t - f).toNat = endsTo l f t l.length := by
  have h1 : minOn l f (t - f).toNat ≤ endsTo l f t l.length := le_ends (by
      have := minOn_le (l := l) (f := f) (j := 0) (n := (t - f).toNat) (by omega)
      simpa using this) (fun k hk hr => by
      have := minOn_le (l := l) (f := f) (j := ((tt l k).2.2 - f).toNat) (n := (t - f).toNat) (by omega)
      rw [show f + (((tt l k).2.2 - f).toNat : Int) = (tt l k).2.2 by omega] at this
      exact this)
  have h2 : endsTo l f t l.length ≤ minOn l f (t - f).toNat := le_minOn (ends_in l f t _).2 (fun j hj => ends_all j (by omega))
  omega
end Go.Proofs.Ytcpepljgnkmajaa.LeastMath
