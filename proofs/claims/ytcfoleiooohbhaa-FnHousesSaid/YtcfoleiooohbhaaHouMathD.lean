/-
  The halls behind a hall's doors, as a list of numbers. No program stands here.
-/
import Derived.Test.YtcfoleiooohbhaaHouMathB
import Derived.Test.YtcfoleiooohbhaaHouSeq
namespace Go.Proofs.Ytcfoleiooohbhaa.HouMathD
open HouMath HouMathB HouSeq

def nbTo (ds : List (Int × Int)) (x k : Nat) : List Nat := (List.range k).filter fun i => isDoor ds (i : Int) (x : Int)
theorem nbTo_succ (ds : List (Int × Int)) (x k : Nat) : nbTo ds x (k + 1) = if isDoor ds (k : Int) (x : Int) = true then nbTo ds x k ++ [k] else nbTo ds x k := by
  unfold nbTo
  rw [List.range_succ, List.filter_append]
  by_cases h : isDoor ds (k : Int) (x : Int) = true
  · rw [if_pos h]; simp [h]
  · rw [if_neg h]; simp [h]
theorem nbTo_all (ds : List (Int × Int)) (x H : Nat) : nbTo ds x H = nb H ds x := rfl
theorem nbTo_len (ds : List (Int × Int)) (x k : Nat) : (nbTo ds x k).length ≤ k := by
  have := List.length_filter_le (fun i : Nat => isDoor ds (i : Int) (x : Int)) (List.range k)
  rw [List.length_range] at this
  exact this
def doorsL (H : Int) (ds : List (Int × Int)) (x : Int) : List Int := if hallOf H ds x = true then ci (nb H.toNat ds x.toNat) else []
theorem doors_no {H : Int} {ds : List (Int × Int)} {x : Int} (h : hallOf H ds x = false) : doorsL H ds x = [] := by unfold doorsL; rw [h]; rfl
theorem doors_yes {N a : Nat} {ds : List (Int × Int)} (h : hallOf N ds a = true) : doorsL N ds a = ci (nb N ds a) := by unfold doorsL; rw [if_pos h]; rfl
theorem doors_len (H : Int) (ds : List (Int × Int)) (x : Int) : (doorsL H ds x).length ≤ 1048576 := by
  cases h : hallOf H ds x
  · rw [doors_no h]; simp
  · have h' := h
    obtain ⟨N, a, rfl, rfl, ha, hf⟩ := hall_nat h
    rw [doors_yes h', ci_len]
    have := nbTo_len ds a N
    rw [nbTo_all] at this
    have := hf.h7
    omega
end Go.Proofs.Ytcfoleiooohbhaa.HouMathD
