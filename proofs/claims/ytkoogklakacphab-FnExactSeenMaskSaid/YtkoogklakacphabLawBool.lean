/-
  The law's own helpers on slices of bools: they compare, they mark, they look whether the marks are held: as contracts over rows that the call itself made.
-/
import Derived.Test.YtkoogklakacphabLawInt
namespace Go.Proofs.Ytkoogklakacphab.LawBool
open Go.RowKit Go.Lib Own Pts LawInt
open PointOk (ret_i64)

def bcells (l : List Bool) : List Value := l.map .bool
theorem bcells_length (l : List Bool) : (bcells l).length = l.length := by simp [bcells]
theorem bcells_at {l : List Bool} {j : Nat} (h : j < l.length) : (bcells l)[j]? = some (.bool l[j]) := by simp [bcells, h]
/-- Each third bool is true. -/
def third (m : Nat) : Bool := (m : Int).tmod 3 == 0
/-- n marks from k on. -/
def marksB (k n : Nat) : List Value := (List.range n).map fun j => .bool (third (k + j))
theorem marksB_length (k n : Nat) : (marksB k n).length = n := by simp [marksB]
theorem marksB_at {k n j : Nat} (h : j < n) : (marksB k n)[j]? = some (.bool (third (k + j))) := by simp [marksB, h]
theorem marksB_snoc (k n : Nat) : marksB k (n + 1) = marksB k n ++ [.bool (third (k + n))] := by simp [marksB, List.range_succ]
theorem marksB_set {k i n : Nat} {xs : List Value} (hx : xs.length = n) (hi : i < n) : (marksB k i ++ xs.drop i).set i (.bool (third (k + i))) = marksB k (i + 1) ++ xs.drop (i + 1) := by
  rw [List.set_append_right _ _ (by rw [marksB_length]; omega), marksB_length, Nat.sub_self, List.drop_eq_getElem_cons (by omega), List.set_cons_zero, marksB_snoc, List.append_assoc]; rfl
theorem markB_cell {k i n : Nat} {xs : List Value} (hx : xs.length = n) (hi : i < n) : (marksB k i ++ xs.drop i)[i]? = some xs[i] := by
  rw [List.getElem?_append_right (by rw [marksB_length]; exact Nat.le_refl _), marksB_length, Nat.sub_self, List.drop_eq_getElem_cons (by omega)]
  rfl
/-- The row is marked; nothing else is written. -/
def MarkBP (w : World) (b : Nat) (v : Value) (k n : Nat) (en : Ending) (w' : World) : Prop :=
  en = .returned (.int .i64 ((k + n * 1 : Nat) : Int)) ∧ w'.ownsRow b 4 1 v n (marksB k (n * 1)) ∧ w.grownBy w' v.ownBlock

set_option maxRecDepth 100000 in
set_option maxHeartbeats 800000 in
theorem eqBB (w : World) (b1 b2 n : Nat) (hn : n ≤ 1048576) (v1 v2 : Value) (l : List Bool) (h1 : w.ownsRow b1 4 1 v1 n (bcells l)) (h2 : w.ownsRow b2 4 1 v2 n (bcells l)) :
    Calls Try.prog 31 #[v1, v2] w fun e w' => e = .returned (.bool true) ∧ ∃ k, w' = w.drewN k := by
  have hlen : l.length = n := by have := h1.1; rw [bcells_length] at this; omega
  have HLen := Lib.hid hlen
  clear hlen
  obtain ⟨A1, c1, rfl⟩ := own_shape h1
  obtain ⟨A2, c2, rfl⟩ := own_shape h2
  have H1 := Lib.hid h1
  have H2 := Lib.hid h2
  clear h1 h2
  go_enter Try.func31, Try.ntmps31
  go_wp2_with fail
  go_loopw [5] (fun i wr => ∃ k q : Nat, k ≤ n ∧ i = .int .i64 k ∧ wr = w.drewN q) (fun i _ => n - (intOf i).toNat)
  case atStart => exact ⟨0, 0, Nat.zero_le _, rfl, rfl⟩
  case round =>
    obtain ⟨k, q, hk, rfl, rfl⟩ := hrel
    by_cases hlt : k < n
    · obtain ⟨g1, rfl, _, _, hc1, _⟩ := own_cell H1.out hlt (bcells_at (by rw [HLen.out]; exact hlt))
      obtain ⟨g2, rfl, _, _, hc2, _⟩ := own_cell H2.out hlt (bcells_at (by rw [HLen.out]; exact hlt))
      generalize (l[k]'(by rw [HLen.out]; exact hlt)) = S at hc1 hc2
      have hk0 : (0 : Int) ≤ (k : Int) := by omega
      have hk1 : (k : Int) < (n : Int) := by omega
      go_wp2_with fail
      go_quiet (fail)
      go_wp2_with fail
      go_roundw
      case rel => exact ⟨k + 1, _, by omega, by go_num, rfl⟩
      case measure => simp [intOf]; omega
    · go_wp2_with fail
      go_ret
      exact ⟨rfl, q, rfl⟩

set_option maxRecDepth 100000 in
set_option maxHeartbeats 800000 in
theorem markB (w : World) (b n k : Nat) (hn : n ≤ 1048576) (hk : 0 < k) (hk2 : k ≤ 100000) (v : Value) (xs : List Value) (h1 : w.ownsRow b 4 1 v n xs) :
    Calls Try.prog 32 #[v, .int .i64 (k : Int)] w (MarkBP w b v k n) := by
  have hlen : xs.length = n := by have := h1.1; omega
  have HLen := Lib.hid hlen
  obtain ⟨A1, c1, rfl⟩ := own_shape h1
  have H1 := Lib.hid h1
  clear hlen h1
  go_enter Try.func32, Try.ntmps32
  go_wp2_with fail
  go_loopw [1, 5] (fun kk i wr => ∃ j m : Nat, j ≤ n ∧ i = .int .i64 j ∧ kk = .int .i64 (m : Int) ∧ Hid (m = k + j) ∧ Hid (wr.ownsRow b 4 1 (.slice A1 n c1) n (marksB k j ++ xs.drop j)) ∧ Hid (w.grownBy wr (Value.slice A1 n c1).ownBlock)) (fun _ i _ => n - (intOf i).toNat)
  case atStart => exact ⟨0, k, Nat.zero_le _, rfl, rfl, Lib.hid rfl, Lib.hid H1.out, Lib.hid (World.grownBy.refl w _)⟩
  case round =>
    obtain ⟨j, m, hj, rfl, rfl, hm, hown, hgr⟩ := hrel
    by_cases hlt : j < n
    · have hm0 : 0 < m := by have := hm.out; omega
      have hm1 : m ≤ 2000000 := by have := hm.out; omega
      have ho2 := hown.out
      obtain ⟨g, hA, _, _, hc1, hf1⟩ := own_cell ho2 hlt (markB_cell HLen.out hlt)
      obtain rfl := hA
      have hst := ho2.stored j (.bool (third m))
      rw [hm.out, marksB_set HLen.out hlt, ← hm.out] at hst
      have hgr2 := grown_trans hgr.out hst.2
      have HS := Lib.hid hst.1
      have HG := Lib.hid hgr2
      clear ho2 hst hgr2
      generalize (xs[j]'(by rw [HLen.out]; exact hlt)) = x0 at hc1
      have u3 : IntKind.i64.wrap ((m : Int).tmod 3) = (m : Int).tmod 3 := by have h0 : (m : Int).tmod 3 = (m : Int) % 3 := Int.tmod_eq_emod_of_nonneg (by omega); rw [h0]; exact IntWalk.i64_in _ (by omega)
      have hk0 : (0 : Int) ≤ (j : Int) := by omega
      have hk1 : (j : Int) < (n : Int) := by omega
      unfold third at HS HG
      go_wp2_with fail
      go_roundw
      case rel => exact ⟨j + 1, m + 1, by omega, by go_num, by go_num, Lib.hid (by rw [hm.out]; omega), HS, HG⟩
      case measure => simp [intOf]; omega
    · have hjn : j = n := by omega
      have HF : Hid (wr.ownsRow b 4 1 (.slice A1 n c1) n (marksB k (n * 1))) := Lib.hid (by have := hown.out; rw [hjn, List.drop_of_length_le (by rw [HLen.out]; exact Nat.le_refl _), List.append_nil] at this; rw [Nat.mul_one]; exact this)
      have HM : Hid ((k + n * 1 : Nat) = m) := Lib.hid (by rw [hm.out]; omega)
      clear hjn
      go_wp2_with fail
      go_ret
      exact ⟨ret_i64 (by rw [HM.out]), HF.out, hgr.out⟩

set_option maxRecDepth 100000 in
set_option maxHeartbeats 1600000 in
theorem heldB (w : World) (b n k : Nat) (hn : n ≤ 1048576) (hk : 0 < k) (hk2 : k ≤ 100000) (v : Value) (h1 : w.ownsRow b 4 1 v n (marksB k (n * 1))) :
    Calls Try.prog 33 #[v, .int .i64 (k : Int)] w (HeldP w k (n * 1)) := by
  rw [Nat.mul_one] at h1 ⊢
  obtain ⟨A1, c1, rfl⟩ := own_shape h1
  have H1 := Lib.hid h1
  clear h1
  go_enter Try.func33, Try.ntmps33
  go_wp2_with fail
  go_loopw [1, 5] (fun kk i wr => ∃ j m : Nat, j ≤ n ∧ i = .int .i64 j ∧ kk = .int .i64 (m : Int) ∧ Hid (m = k + j) ∧ Hid (Below w.heap.size w wr)) (fun _ i _ => n - (intOf i).toNat)
  case atStart => exact ⟨0, k, Nat.zero_le _, rfl, rfl, Lib.hid rfl, Lib.hid (Below.refl _ _)⟩
  case round =>
    obtain ⟨j, m, hj, rfl, rfl, hm, hbel⟩ := hrel
    by_cases hlt : j < n
    · have hm0 : 0 < m := by have := hm.out; omega
      have hm1 : m ≤ 2000000 := by have := hm.out; omega
      obtain ⟨g, hA, _, hgl, hc1, _⟩ := own_cell (own_below H1.out hbel.out) hlt (marksB_at hlt)
      rw [← hm.out] at hc1
      obtain rfl := hA
      have u3 : IntKind.i64.wrap ((m : Int).tmod 3) = (m : Int).tmod 3 := by have h0 : (m : Int).tmod 3 = (m : Int) % 3 := Int.tmod_eq_emod_of_nonneg (by omega); rw [h0]; exact IntWalk.i64_in _ (by omega)
      unfold third at hc1
      have hk0 : (0 : Int) ≤ (j : Int) := by omega
      have hk1 : (j : Int) < (n : Int) := by omega
      go_wp2_with fail
      go_roundw
      case rel => exact ⟨j + 1, m + 1, by omega, by go_num, by go_num, Lib.hid (by rw [hm.out]; omega), hbel⟩
      case measure => simp [intOf]; omega
    · have HM : Hid ((k + n : Nat) = m) := Lib.hid (by rw [hm.out]; omega)
      go_wp2_with fail
      go_ret
      exact ⟨ret_i64 (by rw [HM.out]), hbel.out⟩


theorem eqBB2 (w : World) (b1 b2 n : Nat) (hn : n ≤ 1048576) (v1 v2 : Value) (l : List Bool) (h1 : w.ownsRow b1 4 1 v1 n (bcells l)) (h2 : w.ownsRow b2 4 1 v2 n (bcells l)) :
    Calls Try.prog 31 #[v1, v2] w fun e w' => e = .returned (.bool true) ∧ Below w.heap.size w w' := by
  refine (eqBB w b1 b2 n hn v1 v2 l h1 h2).mono ?_
  rintro e w' ⟨rfl, k, rfl⟩
  exact ⟨rfl, drewN_below k⟩

end Go.Proofs.Ytkoogklakacphab.LawBool
