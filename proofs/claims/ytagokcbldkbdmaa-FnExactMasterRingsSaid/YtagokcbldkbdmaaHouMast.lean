/-
  Rings that open every hall. No program stands here.
-/
import Derived.Test.YtagokcbldkbdmaaHouKeys
namespace Go.Proofs.Ytagokcbldkbdmaa.HouMast
open Go Go.RowKit HouMath HouMathB HouMathC HouReach HouKeys

/-- Does the ring open every hall? -/
def allB (H : Int) (ds : List (Int × Int)) (x : Int) : Bool := decide (((withN H.toNat ds 0 x).length : Int) = H)
def ringsA (H : Int) (ds : List (Int × Int)) (zs : List Int) : Bool := zs.all (ringB H ds)
def mastTo (H : Int) (ds : List (Int × Int)) (zs : List Int) : Nat → List Int
  | 0 => []
  | k + 1 => if allB H ds (zs.getD k 0) then mastTo H ds zs k ++ [(k : Int)] else mastTo H ds zs k
def mastL (H : Int) (ds : List (Int × Int)) (zs : List Int) : List Int := if ringsA H ds zs then mastTo H ds zs zs.length else []
theorem mastTo_len (H : Int) (ds : List (Int × Int)) (zs : List Int) : ∀ k, (mastTo H ds zs k).length ≤ k
  | 0 => Nat.le_refl _
  | k + 1 => by
    have := mastTo_len H ds zs k
    unfold mastTo
    split
    · simp; omega
    · omega
theorem mast_len (H : Int) (ds : List (Int × Int)) (zs : List Int) (h : zs.length ≤ 1048576) : (mastL H ds zs).length ≤ 1048576 := by
  have := mastTo_len H ds zs zs.length
  unfold mastL
  split
  · omega
  · simp
theorem rings_any (H : Int) (ds : List (Int × Int)) (zs : List Int) : ringsA H ds zs = !((List.range zs.length).any fun k => !ringB H ds (zs.getD k 0)) := by
  unfold ringsA
  rw [Bool.eq_iff_iff]
  simp only [List.all_eq_true, Bool.not_eq_true', List.any_eq_false, List.mem_range]
  constructor
  · intro h k hk
    have : zs.getD k 0 ∈ zs := by rw [List.getD_eq_getElem?_getD, List.getElem?_eq_getElem hk]; exact List.getElem_mem hk
    rw [h _ this]; simp
  · intro h z hz
    obtain ⟨k, hk, rfl⟩ := List.mem_iff_getElem.1 hz
    have := h k hk
    rw [List.getD_eq_getElem?_getD, List.getElem?_eq_getElem hk] at this
    simpa using this
theorem rings_bad {H : Int} {ds : List (Int × Int)} {zs : List Int} {k : Nat} (hk : k < zs.length) (h : ringB H ds (zs.getD k 0) = false) : ringsA H ds zs = false := by
  rw [rings_any, Bool.not_eq_false', List.any_eq_true]
  exact ⟨k, List.mem_range.2 hk, by rw [h]; rfl⟩
theorem rings_ok {H : Int} {ds : List (Int × Int)} {zs : List Int} (h : ∀ k, k < zs.length → ringB H ds (zs.getD k 0) = true) : ringsA H ds zs = true := by
  rw [rings_any, Bool.not_eq_true', List.any_eq_false]
  intro k hk
  rw [h k (List.mem_range.1 hk)]; simp
theorem rings_at {H : Int} {ds : List (Int × Int)} {zs : List Int} (h : ringsA H ds zs = true) {k : Nat} (hk : k < zs.length) : ringB H ds (zs.getD k 0) = true := by
  cases e : ringB H ds (zs.getD k 0)
  · rw [rings_bad hk e] at h; cases h
  · rfl
theorem ring_house {H : Int} {ds : List (Int × Int)} {x : Int} (h : ringB H ds x = true) : houseB H ds = true := by unfold ringB at h; rw [Bool.and_eq_true] at h; exact h.1
/-- As many halls as there are bits: every bit. -/
theorem full_iff {N M : Nat} (hN : N ≤ 7) (hM : M < 2 ^ N) : (bitTo M N).length = N ↔ (M : Int) = 2 ^ N - 1 := by
  have key : ∀ N : Fin 8, ∀ M : Fin 128, M.val < 2 ^ N.val → decide ((bitTo M.val N.val).length = N.val) = decide ((M.val : Int) = 2 ^ N.val - 1) := by decide +kernel
  have h128 : M < 128 := Nat.lt_of_lt_of_le hM (Nat.pow_le_pow_right (n := 2) (by decide) hN)
  have := key ⟨N, by omega⟩ ⟨M, h128⟩ hM
  exact decide_eq_decide.1 this
theorem all_set {N : Nat} {ds : List (Int × Int)} (hf : HForm N ds) (h0 : 0 < N) (x : Int) : allB N ds x = decide ((setM x ds 0 N : Int) = 2 ^ N - 1) := by
  have h7 : N ≤ 7 := by have := hf.h7; omega
  have e : withN N ds 0 x = bitTo (setM x ds 0 N) N := (bit_open hf h0 N (Nat.le_refl _)).symm
  unfold allB
  rw [Int.toNat_natCast, e, Bool.eq_iff_iff, decide_eq_true_iff, decide_eq_true_iff, ← full_iff h7 (set_lt hf h0 N)]
  omega
theorem pow_one {N : Nat} (h : N ≤ 7) : wrap64 (wrap64 (2 ^ N) - 1) = 2 ^ N - 1 := pow_wrap (by omega)
theorem pow_oneI {N : Nat} (h : N ≤ 7) : IntKind.i64.wrap (IntKind.i64.wrap (2 ^ N) - 1) = 2 ^ N - 1 := by
  have : ∀ a : Fin 8, IntKind.i64.wrap (IntKind.i64.wrap (2 ^ a.val) - 1) = 2 ^ a.val - 1 := by decide +kernel
  exact this ⟨N, by omega⟩
end Go.Proofs.Ytagokcbldkbdmaa.HouMast
