/-
  The law's helper that compares two slices of texts, as a contract over rows that the call itself made.
-/
import Derived.Test.YtipaagcnkflebaaDoorOwn
import Derived.Test.YtipaagcnkflebaaDoorSplitMath
import Derived.Test.YtipaagcnkflebaaDoorHexBase
import Derived.WalkSpells
import Derived.Deep.QuietTactic
import Derived.BigQuiet
import Derived.Lib.Hide
namespace Go.Proofs.YtipaagcnkflebaaDoor.SameTexts
open Go.RowKit SplitMath HexBase Own

theorem strCells_at {fs : List (List UInt8)} {j : Nat} (h : j < fs.length) : (strCells fs)[j]? = some (.string ⟨fs[j].toArray⟩) := by
  simp [strCells, List.getElem?_eq_getElem h]

set_option maxRecDepth 100000 in
set_option maxHeartbeats 800000 in
theorem same (w : World) (b1 b2 n : Nat) (hn : n ≤ 100000) (v1 v2 : Value) (fs : List (List UInt8)) (h1 : w.ownsRow b1 9 1 v1 n (strCells fs)) (h2 : w.ownsRow b2 9 1 v2 n (strCells fs)) :
    Calls Tryd.prog 18 #[v1, v2] w fun e w' => e = .returned (.bool true) ∧ ∃ k, w' = w.drewN k := by
  have hlen : fs.length = n := by have := h1.1; rw [strCells_length] at this; omega
  have HLen := Lib.hid hlen
  clear hlen
  obtain ⟨A1, c1, rfl⟩ := own_shape h1
  obtain ⟨A2, c2, rfl⟩ := own_shape h2
  have H1 := Lib.hid h1
  have H2 := Lib.hid h2
  clear h1 h2
  go_enter Tryd.func18, Tryd.ntmps18
  go_wp2_with fail
  go_loopw [5] (fun i wr => ∃ k q : Nat, k ≤ n ∧ i = .int .i64 k ∧ wr = w.drewN q) (fun i _ => n - (intOf i).toNat)
  case atStart => exact ⟨0, 0, Nat.zero_le _, rfl, rfl⟩
  case round =>
    obtain ⟨k, q, hk, rfl, rfl⟩ := hrel
    by_cases hlt : k < n
    · obtain ⟨g1, rfl, _, _, hc1, _⟩ := own_cell H1.out hlt (strCells_at (by rw [HLen.out]; exact hlt))
      obtain ⟨g2, rfl, _, _, hc2, _⟩ := own_cell H2.out hlt (strCells_at (by rw [HLen.out]; exact hlt))
      generalize (⟨(fs[k]'(by rw [HLen.out]; exact hlt)).toArray⟩ : ByteArray) = S at hc1 hc2
      have hk0 : (0 : Int) ≤ (k : Int) := by omega
      have hk1 : (k : Int) < (n : Int) := by omega
      go_wp2_with fail
      go_quiet (fail)
      go_wp2_with fail
      go_roundw
      case rel => exact ⟨k + 1, _, by omega, by go_num, rfl⟩
      case measure => simp [intOf]; omega
    · go_wp2_with fail
      go_ret
      exact ⟨rfl, q, rfl⟩

end Go.Proofs.YtipaagcnkflebaaDoor.SameTexts
