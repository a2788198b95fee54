/-
  Halls of a set that lead out of it. No program stands here.
-/
import Derived.Test.YtagokcbldkbdmaaHouKeys
namespace Go.Proofs.Ytagokcbldkbdmaa.HouGmath
open Go Go.RowKit HouMath HouMathB HouMathC HouKeys

/-- Up to b: a door from a to a hall outside the set. -/
def outTo (ds : List (Int × Int)) (f : Nat → Bool) (a : Nat) : Nat → Bool
  | 0 => false
  | b + 1 => outTo ds f a b || (!f b && isDoor ds (a : Int) (b : Int))
def bordB (N : Nat) (ds : List (Int × Int)) (f : Nat → Bool) (a : Nat) : Bool := f a && outTo ds f a N
def guardTo (N : Nat) (ds : List (Int × Int)) (f : Nat → Bool) : Nat → List Int
  | 0 => []
  | k + 1 => if bordB N ds f k then guardTo N ds f k ++ [(k : Int)] else guardTo N ds f k
theorem guardTo_len (N : Nat) (ds : List (Int × Int)) (f : Nat → Bool) : ∀ k, (guardTo N ds f k).length ≤ k
  | 0 => Nat.le_refl _
  | k + 1 => by
    have := guardTo_len N ds f k
    unfold guardTo
    split
    · simp; omega
    · omega
theorem outTo_congr {ds : List (Int × Int)} {f g : Nat → Bool} {a : Nat} : ∀ {n : Nat}, (∀ y, y < n → f y = g y) → outTo ds f a n = outTo ds g a n
  | 0, _ => rfl
  | n + 1, h => by unfold outTo; rw [outTo_congr (fun y hy => h y (by omega)), h n (by omega)]
theorem guard_congr {N : Nat} {ds : List (Int × Int)} {f g : Nat → Bool} (h : ∀ y, y < N → f y = g y) : ∀ k, k ≤ N → guardTo N ds f k = guardTo N ds g k
  | 0, _ => rfl
  | k + 1, hk => by
    unfold guardTo bordB
    rw [guard_congr h k (by omega), h k (by omega), outTo_congr h]
theorem outTo_any (ds : List (Int × Int)) (f : Nat → Bool) (a : Nat) : ∀ n, outTo ds f a n = ((List.range n).filter fun (i : Nat) => isDoor ds (i : Int) (a : Int)).any fun y => !f y
  | 0 => rfl
  | n + 1 => by
    unfold outTo
    rw [outTo_any ds f a n, List.range_succ, List.filter_append, List.any_append, isDoor_comm ds (a : Int) (n : Int)]
    congr 1
    cases hd : isDoor ds (n : Int) (a : Int) <;> simp [hd]
/-- Is a hall in a list? -/
def inZ (zs : List Int) (y : Nat) : Bool := zs.contains (y : Int)
def guardL (H : Int) (ds : List (Int × Int)) (zs : List Int) : List Int := if houseB H ds && hallsB H zs then guardTo H.toNat ds (inZ zs) H.toNat else []
theorem guard_no {H : Int} {ds : List (Int × Int)} {zs : List Int} (h : (houseB H ds && hallsB H zs) = false) : guardL H ds zs = [] := by unfold guardL; rw [h]; rfl
theorem guard_yes {N : Nat} {ds : List (Int × Int)} {zs : List Int} (h : (houseB N ds && hallsB N zs) = true) : guardL N ds zs = guardTo N ds (inZ zs) N := by unfold guardL; rw [h]; rfl
theorem guard_len (H : Int) (ds : List (Int × Int)) (zs : List Int) : (guardL H ds zs).length ≤ 1048576 := by
  unfold guardL
  split
  · rename_i h
    rw [Bool.and_eq_true] at h
    have := (house_form h.1).h7
    have := guardTo_len H.toNat ds (inZ zs) H.toNat
    omega
  · simp
/-- The model's set. -/
def maskTo (zs : List Int) : Nat → Nat
  | 0 => 0
  | k + 1 => maskTo zs k ||| 2 ^ (zs.getD k 0).toNat
theorem take_succ_getD {zs : List Int} {k : Nat} (h : k < zs.length) : zs.take (k + 1) = zs.take k ++ [zs.getD k 0] := by
  rw [List.take_add_one, List.getD_eq_getElem?_getD, List.getElem?_eq_getElem h]; rfl
theorem mask_bit {zs : List Int} (y : Nat) : ∀ {k : Nat}, k ≤ zs.length → (∀ j, j < k → 0 ≤ zs.getD j 0) → (maskTo zs k).testBit y = inZ (zs.take k) y
  | 0, _, _ => by simp [maskTo, inZ]
  | k + 1, h, h0 => by
    have ih := mask_bit y (k := k) (by omega) (fun j hj => h0 j (by omega))
    have hk := h0 k (by omega)
    unfold maskTo
    rw [Nat.testBit_or, ih, Nat.testBit_two_pow]
    unfold inZ
    rw [take_succ_getD (by omega), Bool.eq_iff_iff]
    simp only [Bool.or_eq_true, List.contains_eq_mem, decide_eq_true_eq, List.mem_append, List.mem_singleton]
    constructor
    · rintro (h1 | h1)
      · exact .inl h1
      · exact .inr (by omega)
    · rintro (h1 | h1)
      · exact .inl h1
      · exact .inr (by omega)
theorem mask_lt {zs : List Int} : ∀ {k : Nat}, (∀ j, j < k → 0 ≤ zs.getD j 0 ∧ zs.getD j 0 < 7) → maskTo zs k < 128
  | 0, _ => by unfold maskTo; decide
  | k + 1, h => by
    have ih := mask_lt (k := k) (fun j hj => h j (by omega))
    have hk := h k (by omega)
    exact Nat.or_lt_two_pow (n := 7) ih (Nat.pow_lt_pow_right (by decide) (by omega))
/-- How many guards an order needs. -/
def needTo (N : Nat) (ds : List (Int × Int)) (zs : List Int) : Nat → Int
  | 0 => 0
  | k + 1 => max (needTo N ds zs k) (((guardTo N ds (inZ (zs.take k)) N).length : Int) + 1)
def needI (H : Int) (ds : List (Int × Int)) (zs : List Int) : Int := if orderB H ds zs then needTo H.toNat ds zs zs.length else -1
theorem needTo_range (N : Nat) (ds : List (Int × Int)) (zs : List Int) : ∀ k, 0 ≤ needTo N ds zs k ∧ needTo N ds zs k ≤ N + 1
  | 0 => by unfold needTo; omega
  | k + 1 => by
    have ih := needTo_range N ds zs k
    have := guardTo_len N ds (inZ (zs.take k)) N
    unfold needTo
    omega
/-- A list of truth values: the halls that were searched. -/
theorem set_in {M : List Bool} {zs : List Int} {k N : Nat} (hM : M.length = N) (h : ∀ y, y < N → M.getD y false = inZ (zs.take k) y) (hk : k < zs.length) {z : Nat} (hz : zs.getD k 0 = (z : Int)) :
    ∀ y, y < N → (M.set z true).getD y false = inZ (zs.take (k + 1)) y := by
  intro y hy
  have h1 := h y hy
  rw [List.getD_eq_getElem?_getD] at h1 ⊢
  rw [List.getElem?_set]
  unfold inZ at h1 ⊢
  rw [take_succ_getD hk, hz]
  by_cases e : z = y
  · subst e
    rw [if_pos rfl, if_pos (by omega)]
    simp
  · rw [if_neg e, h1, Bool.eq_iff_iff]
    simp only [List.contains_eq_mem, decide_eq_true_eq, List.mem_append, List.mem_singleton]
    constructor
    · exact fun h => .inl h
    · rintro (h | h)
      · exact h
      · exact absurd (by omega) e
end Go.Proofs.Ytagokcbldkbdmaa.HouGmath
