/-
  Rings that are joined. No program stands here.
-/
import Derived.Test.YtcfoleiooohbhaaFacts
namespace Go.Proofs.Ytcfoleiooohbhaa.JoinMath
/-- The keys of the first k rings. -/
def orTo (l : List Int) : Nat → Int
  | 0 => 0
  | k + 1 => bits .or .i64 (orTo l k) (l.getD k 0)
def joinI (l : List Int) : Int := if ((List.range l.length).all fun k => decide (0 ≤ l.getD k 0)) then orTo l l.length else 0
theorem at_d {zs : List Int} {k : Nat} (h : k < zs.length) : zs[k]? = some (zs.getD k 0) := by
  rw [List.getD_eq_getElem?_getD, List.getElem?_eq_getElem h]; rfl
theorem join_all {zs : List Int} {n : Nat} (hl : zs.length = n) (h : ∀ j, j < n → 0 ≤ zs.getD j 0) : joinI zs = orTo zs n := by
  unfold joinI
  rw [if_pos (List.all_eq_true.2 fun k hk => decide_eq_true (h k (by have := List.mem_range.1 hk; omega))), hl]
theorem join_no {zs : List Int} {k : Nat} (hk : k < zs.length) (h : zs.getD k 0 < 0) : joinI zs = 0 := by
  unfold joinI
  rw [if_neg]
  intro e
  have := of_decide_eq_true (List.all_eq_true.1 e k (List.mem_range.2 hk))
  omega
end Go.Proofs.Ytcfoleiooohbhaa.JoinMath
