/-
  Plain facts: the pairs of triangles that share a side. No program stands here.
-/
import Derived.Test.YtmmmnnncbpdinaaTrisPlain
import Derived.Test.YtmmmnnncbpdinaaAreColMath
namespace Go.Proofs.Ytmmmnnncbpdinaa.EdgeMath
open PointMath WallMath RoomMath AreaMath DiagMath TriMath TrisMath TreeMath Tup3 AreColMath

/-- Number i with the greater ones below k that pass. -/
def edgeRow (f : Nat → Bool) (i : Nat) : Nat → List (Int × Int)
  | 0 => []
  | k + 1 => if decide (i < k) && f k then edgeRow f i k ++ [((i : Int), (k : Int))] else edgeRow f i k
def edgesTo (F : Nat → Nat → Bool) (m : Nat) : Nat → List (Int × Int)
  | 0 => []
  | i + 1 => edgesTo F m i ++ edgeRow (F i) i m
def edgesL (ps : List (Int × Int)) : List (Int × Int) := edgesTo (besideB (trisL ps)) (trisL ps).length (trisL ps).length
theorem edgeRow_len (f : Nat → Bool) (i : Nat) : ∀ k, (edgeRow f i k).length ≤ k
  | 0 => Nat.le_refl _
  | k + 1 => by
    have := edgeRow_len f i k
    unfold edgeRow
    split
    · rw [List.length_append]; simp; omega
    · omega
theorem edgesTo_len (F : Nat → Nat → Bool) (m : Nat) : ∀ i, (edgesTo F m i).length ≤ i * m
  | 0 => Nat.zero_le _
  | i + 1 => by
    have h1 := edgesTo_len F m i
    have h2 := edgeRow_len (F i) i m
    unfold edgesTo
    rw [List.length_append, Nat.succ_mul]
    omega
theorem edgeRow_low (f : Nat → Bool) (i : Nat) : ∀ k, k ≤ i + 1 → edgeRow f i k = []
  | 0, _ => rfl
  | k + 1, h => by
    unfold edgeRow
    rw [decide_eq_false (show ¬ i < k by omega), Bool.false_and, if_neg (by simp)]
    exact edgeRow_low f i k (by omega)
def pairsOf (i : Nat) (l : List Int) : List (Int × Int) := (l.filter fun x => decide ((i : Int) < x)).map fun x => ((i : Int), x)
theorem pairsOf_snoc (i : Nat) (l : List Int) (x : Int) : pairsOf i (l ++ [x]) = if (i : Int) < x then pairsOf i l ++ [((i : Int), x)] else pairsOf i l := by
  unfold pairsOf
  rw [List.filter_append, List.map_append]
  by_cases h : (i : Int) < x
  · rw [if_pos h]; simp [h]
  · rw [if_neg h]; simp [h]
theorem pairs_row (f : Nat → Bool) (i : Nat) : ∀ m, pairsOf i (thatTo f m) = edgeRow f i m
  | 0 => rfl
  | m + 1 => by
    unfold thatTo edgeRow
    cases hf : f m
    · rw [if_neg (by simp), if_neg (by simp)]
      exact pairs_row f i m
    · rw [if_pos rfl, pairsOf_snoc, pairs_row f i m]
      by_cases h : i < m
      · rw [if_pos (by omega), if_pos (by simp [h])]
      · rw [if_neg (by omega), if_neg (by simp [h])]
theorem pairsOf_len (i : Nat) (l : List Int) : (pairsOf i l).length ≤ l.length := by
  unfold pairsOf
  rw [List.length_map]
  exact List.length_filter_le _ _
theorem edgeRow_congr {f g : Nat → Bool} (i : Nat) : ∀ m, (∀ k, k < m → f k = g k) → edgeRow f i m = edgeRow g i m
  | 0, _ => rfl
  | m + 1, h => by
    unfold edgeRow
    rw [edgeRow_congr i m (fun k hk => h k (by omega)), h m (by omega)]
set_option maxHeartbeats 3200000 in
theorem common_symm {a b c x y z : Int} (h1 : a < b) (h2 : b < c) (h3 : x < y) (h4 : y < z) : common (a, b, c) (x, y, z) = common (x, y, z) (a, b, c) := by
  unfold common hasT TreeMath.one
  simp only [Bool.or_eq_true, decide_eq_true_eq]
  split <;> split <;> split <;> split <;> split <;> split <;> omega
theorem beside_symm {ps : List (Int × Int)} {i k : Nat} (hi : i < (trisL ps).length) (hk : k < (trisL ps).length) : decide (common (tt (trisL ps) i) (tt (trisL ps) k) = 2) = besideB (trisL ps) i k := by
  obtain ⟨a, b, c, e1, a1, a2, _⟩ := tris_in hi
  obtain ⟨x, y, z, e2, b1, b2, _⟩ := tris_in hk
  unfold besideB
  rw [e1, e2, common_symm (by omega) (by omega) (by omega) (by omega)]
end Go.Proofs.Ytmmmnnncbpdinaa.EdgeMath
