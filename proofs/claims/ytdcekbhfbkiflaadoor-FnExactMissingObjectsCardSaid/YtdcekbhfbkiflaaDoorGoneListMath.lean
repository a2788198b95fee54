/-
  The missing objects, as a list. No program stands here.
-/
import Derived.Test.YtdcekbhfbkiflaaDoorGoneMath
import Derived.Test.YtdcekbhfbkiflaaDoorFacts
namespace Go.Proofs.YtdcekbhfbkiflaaDoor.GoneListMath
open TupIIB DiagMath StockMath

def goneL (l : List Tu) (c : Int) : List Int := if 0 ≤ c ∧ c ≤ 50 then thatTo (fun k => missingB l (k : Int)) c.toNat else []
theorem gone_at (l : List Tu) (m : Nat) (h : m ≤ 50) : goneL l (m : Int) = thatTo (fun k => missingB l (k : Int)) m := by
  unfold goneL
  rw [if_pos ⟨by omega, by omega⟩]
  rfl
theorem gone_no (l : List Tu) (c : Int) (h : ¬ (0 ≤ c ∧ c ≤ 50)) : goneL l c = [] := if_neg h
theorem goneL_le (l : List Tu) (c : Int) : (goneL l c).length ≤ 1048576 := by
  unfold goneL
  split
  · next h =>
    have := thatTo_len (fun k => missingB l (k : Int)) c.toNat
    omega
  · simp
end Go.Proofs.YtdcekbhfbkiflaaDoor.GoneListMath
