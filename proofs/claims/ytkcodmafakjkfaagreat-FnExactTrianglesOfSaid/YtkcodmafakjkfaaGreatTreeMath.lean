/-
  Plain facts: which triangles share a side; three numbers sorted. No program stands here.
-/
import Derived.Test.YtkcodmafakjkfaaGreatTrisMath
namespace Go.Proofs.YtkcodmafakjkfaaGreat.TreeMath
open PointMath WallMath RoomMath AreaMath DiagMath TriMath SuspMath TrisMath Tup3

def hasT (t : Tu) (x : Int) : Bool := decide (x = t.1) || decide (x = t.2.1) || decide (x = t.2.2)
def one (b : Bool) : Int := if b then 1 else 0
/-- How many corners of s are in t. -/
def common (s t : Tu) : Int := one (hasT t s.1) + one (hasT t s.2.1) + one (hasT t s.2.2)
def besideB (L : List Tu) (k i : Nat) : Bool := decide (common (tt L i) (tt L k) = 2)
theorem common_self (t : Tu) : common t t = 3 := by unfold common hasT one; simp
theorem beside_self (L : List Tu) (k : Nat) : besideB L k k = false := by unfold besideB; rw [common_self]; rfl
def nbrsL (L : List Tu) (k : Nat) : List Int := thatTo (besideB L k) L.length
def neighborsL (ps : List (Int × Int)) (k : Int) : List Int := if 0 ≤ k ∧ k < ((trisL ps).length : Int) then nbrsL (trisL ps) k.toNat else []
def leafB (L : List Tu) (k : Nat) : Bool := decide ((nbrsL L k).length = 1)
def leafL (ps : List (Int × Int)) : List Int := thatTo (leafB (trisL ps)) (trisL ps).length
theorem neighborsL_le (ps : List (Int × Int)) (k : Int) (h : ps.length ≤ 1048575) : (neighborsL ps k).length ≤ 1048576 := by
  unfold neighborsL nbrsL
  split
  · have h1 := thatTo_len (besideB (trisL ps) k.toNat) (trisL ps).length
    have h2 := trisL_len ps
    omega
  · simp
/-- Three different numbers, sorted. -/
theorem sorted3 {x y z a b c : Int} (hab : a < b) (hbc : b < c) (h1 : x = a ∨ x = b ∨ x = c) (h2 : y = a ∨ y = b ∨ y = c) (h3 : z = a ∨ z = b ∨ z = c) (n1 : x ≠ y) (n2 : y ≠ z) (n3 : x ≠ z) : sorted [x, y, z] = [a, b, c] := by
  have hl := sorted_length [x, y, z]
  have hp := sorted_pw [x, y, z]
  have hm := sorted_mem [x, y, z]
  generalize sorted [x, y, z] = l at *
  match l, hl with
  | [p, q, r], _ =>
    simp only [List.mem_cons, List.not_mem_nil, or_false] at hm
    simp only [List.pairwise_cons, List.mem_cons, List.not_mem_nil, or_false, forall_eq_or_imp, forall_eq] at hp
    have m1 := (hm x).2 (.inl rfl)
    have m2 := (hm y).2 (.inr (.inl rfl))
    have m3 := (hm z).2 (.inr (.inr rfl))
    have k1 := (hm p).1 (.inl rfl)
    have k2 := (hm q).1 (.inr (.inl rfl))
    have k3 := (hm r).1 (.inr (.inr rfl))
    obtain ⟨⟨h4, h5⟩, h6, _⟩ := hp
    have e1 : p = a := by omega
    have e2 : r = c := by omega
    have e3 : q = b := by omega
    rw [e1, e2, e3]
end Go.Proofs.YtkcodmafakjkfaaGreat.TreeMath
