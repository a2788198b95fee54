/-
  Plain facts: which lists are colors of a room's corners. No program stands here.
-/
import Derived.Test.YtkcodmafakjkfaaGreatTrisPlain
import Derived.Test.YtkcodmafakjkfaaGreatTup3
namespace Go.Proofs.YtkcodmafakjkfaaGreat.AreColMath
open PointMath WallMath RoomMath AreaMath DiagMath TriMath TrisMath ColMath Tup3

def wrongC (z : Int) : Bool := decide (z < 0) || decide (3 ≤ z)
def okC (qs : List Int) : Bool := !(List.range qs.length).any fun k => wrongC (qs.getD k 0)
def badT (qs : List Int) (a b c : Int) : Bool := decide (qs.getD a.toNat 0 = qs.getD b.toNat 0) || decide (qs.getD b.toNat 0 = qs.getD c.toNat 0) || decide (qs.getD a.toNat 0 = qs.getD c.toNat 0)
def badF (ps : List (Int × Int)) (qs : List Int) (k : Nat) : Bool := badT qs (tt (trisL ps) k).1 (tt (trisL ps) k).2.1 (tt (trisL ps) k).2.2
def areColB (ps : List (Int × Int)) (qs : List Int) : Bool :=
  !decide ((trisL ps).length = 0) && decide (qs.length = ps.length) && okC qs && !(List.range (trisL ps).length).any (badF ps qs)
theorem miss_in {n : Nat} {c : List Int} {t : Tu} (h : Miss n c t) : ∃ x y z : Nat, t = ((x : Int), (y : Int), (z : Int)) ∧ x < y ∧ y < z ∧ z < n := by
  obtain ⟨x, y, z, h1, h2, h3, h4, _⟩ := h
  exact ⟨x, y, z, h1, h2, h3, h4⟩
theorem steps_at {n : Nat} : ∀ (L : List Tu), ColMath.Steps n L → ∀ k, k < L.length → ∃ x y z : Nat, tt L k = ((x : Int), (y : Int), (z : Int)) ∧ x < y ∧ y < z ∧ z < n
  | [], _, k, hk => by simp at hk
  | [t], h, k, hk => by
    have : k = 0 := by simp at hk; omega
    subst this
    exact h
  | t :: s :: L, h, 0, _ => miss_in h.1
  | t :: s :: L, h, k + 1, hk => by
    have := steps_at (s :: L) h.2 k (by simpa using hk)
    exact this
theorem tris_in {ps : List (Int × Int)} {k : Nat} (hk : k < (trisL ps).length) : ∃ x y z : Nat, tt (trisL ps) k = ((x : Int), (y : Int), (z : Int)) ∧ x < y ∧ y < z ∧ z < ps.length := by
  have hne : trisL ps ≠ [] := fun e => by rw [e] at hk; simp at hk
  have hr := (trisL_some hne).1
  exact steps_at _ (col_all hne (roomB_yes hr).1.1).2.2 k hk
end Go.Proofs.YtkcodmafakjkfaaGreat.AreColMath
