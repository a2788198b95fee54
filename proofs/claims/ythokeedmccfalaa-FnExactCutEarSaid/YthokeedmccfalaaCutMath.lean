/-
  Plain facts on a room that is cut along a diagonal: the two parts. No program stands here.
-/
import Derived.Test.YthokeedmccfalaaFacts
import Derived.Test.YthokeedmccfalaaEarMath
import Derived.Test.YthokeedmccfalaaRoomRes
namespace Go.Proofs.Ythokeedmccfalaa.CutMath
open Go Go.RowKit Own Pts Blk RoomRes
open PointMath WallMath RoomMath AreaMath DiagMath StartMath EarMath

/-- The steps from corner i on to corner k, going round. -/
def dIK (n i k : Nat) : Nat := (k + n - i) % n
theorem dIK_lt {n i k : Nat} (h : 0 < n) : dIK n i k < n := Nat.mod_lt _ h
theorem turn_end {n i k t : Nat} (hi : i < n) (hk : k < n) (ht : t < n) : (i + t) % n = k ↔ t = dIK n i k := by
  unfold dIK
  have h1 : (i + t) % n = if i + t < n then i + t else i + t - n := by
    split
    · exact Nat.mod_eq_of_lt (by omega)
    · rw [Nat.mod_eq_sub_mod (by omega), Nat.mod_eq_of_lt (by omega)]
  have h2 : (k + n - i) % n = if i ≤ k then k - i else k + n - i := by
    split
    · rw [Nat.mod_eq_sub_mod (by omega), Nat.mod_eq_of_lt (by omega)]; omega
    · exact Nat.mod_eq_of_lt (by omega)
  rw [h1, h2]
  split <;> split <;> omega
theorem turn_rest {n i k t : Nat} (hi : i < n) (hk : k < n) (ht : t ≤ dIK n i k) : dIK n ((i + t) % n) k = dIK n i k - t := by
  have hd := dIK_lt (n := n) (i := i) (k := k) (by omega)
  unfold dIK at *
  have h1 : (i + t) % n = if i + t < n then i + t else i + t - n := by
    split
    · exact Nat.mod_eq_of_lt (by omega)
    · rw [Nat.mod_eq_sub_mod (by omega), Nat.mod_eq_of_lt (by omega)]
  have h2 : ∀ j, j < n → (k + n - j) % n = if j ≤ k then k - j else k + n - j := fun j hj => by
    split
    · rw [Nat.mod_eq_sub_mod (by omega), Nat.mod_eq_of_lt (by omega)]; omega
    · exact Nat.mod_eq_of_lt (by omega)
  have h3 := Nat.mod_lt (i + t) (show 0 < n by omega)
  rw [h2 _ h3, h2 i hi] at *
  rw [h1]
  split at ht <;> split <;> split <;> omega
theorem turn_step {n i t : Nat} : ((i + t) % n + 1) % n = (i + (t + 1)) % n := by
  rw [Nat.mod_add_mod]; rfl
/-- The corners i to k. -/
def partI (ps : List (Int × Int)) (i k : Nat) : List (Int × Int) := startTo ps i (dIK ps.length i k + 1)
theorem part_len (ps : List (Int × Int)) (i k : Nat) : (partI ps i k).length = dIK ps.length i k + 1 := startTo_len _ _ _
def cutB (ps : List (Int × Int)) (i k : Int) : Bool := isDiagB ps i k && roomB (partI ps i.toNat k.toNat) && roomB (partI ps k.toNat i.toNat)
def cutL (ps : List (Int × Int)) (i k : Int) : List (Int × Int) := if cutB ps i k then partI ps i.toNat k.toNat else []
def cutR (ps : List (Int × Int)) (i k : Int) : List (Int × Int) := if cutB ps i k then partI ps k.toNat i.toNat else []
theorem cutL_le (ps : List (Int × Int)) (i k : Int) : (cutL ps i k).length ≤ 10 := by
  unfold cutL
  split
  · rename_i h
    unfold cutB at h
    simp only [Bool.and_eq_true] at h
    exact (roomB_yes h.1.2).1.2
  · simp
theorem cutR_le (ps : List (Int × Int)) (i k : Int) : (cutR ps i k).length ≤ 10 := by
  unfold cutR
  split
  · rename_i h
    unfold cutB at h
    simp only [Bool.and_eq_true] at h
    exact (roomB_yes h.2).1.2
  · simp

/-- Two rooms came back in new memory, the second one behind the first one, and a word. -/
def GivesRR (T : TypeId) (w : World) (l1 l2 : List (Int × Int)) (b : Bool) (en : Ending) (w' : World) : Prop :=
  ∃ A1 c1 A2 c2 mid, en = .returned (.tuple #[.agg #[.slice A1 l1.length c1], .agg #[.slice A2 l2.length c2], .bool b]) ∧ w.heap.size ≤ mid ∧ mid ≤ w'.heap.size ∧
    w'.ownsRow w.heap.size T 2 (.slice A1 l1.length c1) l1.length (cellsP l1) ∧ (∀ k, (Value.slice A1 l1.length c1).ownBlock = some k → k < mid) ∧
    w'.ownsRow mid T 2 (.slice A2 l2.length c2) l2.length (cellsP l2) ∧ Below w.heap.size w w'
theorem own_ptsC {w : World} {b T n c : Nat} {A : Option Addr} {ps : List (Int × Int)} (h : w.ownsRow b T 2 (.slice A n c) n (cellsP ps)) (hl : ps.length = n) : PtsAt w w.heap.size A ps := by
  intro j hj
  obtain ⟨g, c', hv, hb, hlt⟩ := h.form (by omega)
  obtain ⟨rfl, rfl⟩ : A = some ⟨g, 0, none⟩ ∧ c = c' := by injection hv with h1 _ h3; exact ⟨h1, h3⟩
  obtain ⟨e0, e1⟩ := cellsP_at ps j hj
  exact ⟨_, rfl, hlt, by rw [add_head]; exact (h.cellAt (j * 2) (by omega)).trans e0, by rw [add_head]; exact (h.cellAt (j * 2 + 1) (by omega)).trans e1⟩
/-- Two blocks of one cell are set, one behind the other. -/
theorem two_set {w : World} {a b : Nat} {T : TypeId} {u1 u2 : Value} (h1 : Holds w a #[u1] T) (h2 : Holds w b #[u2] T) (hab : a ≠ b) (v1 v2 : Value) :
    Holds (w.setCell ⟨a, 0, none⟩ v1) b #[u2] T ∧ Holds ((w.setCell ⟨a, 0, none⟩ v1).setCell ⟨b, 0, none⟩ v2) a #[v1] T ∧ Holds ((w.setCell ⟨a, 0, none⟩ v1).setCell ⟨b, 0, none⟩ v2) b #[v2] T := by
  have e1 : Holds (w.setCell ⟨a, 0, none⟩ v1) a #[v1] T := set_own h1 0 v1
  have e2 : Holds (w.setCell ⟨a, 0, none⟩ v1) b #[u2] T := h2.far _ _ (fun e => hab e.symm)
  exact ⟨e2, e1.far _ _ hab, set_own e2 0 v2⟩
theorem cut_no {ps : List (Int × Int)} {i k : Int} (h : cutB ps i k = false) : cutL ps i k = [] ∧ cutR ps i k = [] := by
  unfold cutL cutR; rw [h]; exact ⟨rfl, rfl⟩
theorem cut_yes {ps : List (Int × Int)} {i k : Int} (h : cutB ps i k = true) : cutL ps i k = partI ps i.toNat k.toNat ∧ cutR ps i k = partI ps k.toNat i.toNat := by
  unfold cutL cutR; rw [h]; exact ⟨rfl, rfl⟩
end Go.Proofs.Ythokeedmccfalaa.CutMath
