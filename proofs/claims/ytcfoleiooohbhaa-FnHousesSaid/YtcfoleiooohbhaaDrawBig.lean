/-
  The drawn bytes as they came in; the test on their size.
-/
import Derived.Test.YtcfoleiooohbhaaDraw
import Derived.OpenShut
namespace Go.Proofs.Ytcfoleiooohbhaa.DrawNum
open Go.RowKit Draw

theorem code_of_row {w : World} {a : Option Addr} {len cap : Nat} {zs : List Int} (h : (a = none ∧ len = 0 ∧ cap = 0 ∧ zs = []) ∨
    ∃ x, a = some x ∧ len ≤ cap ∧ cap ≤ maxLen ∧ zs.length = cap ∧ (∀ i, i < zs.length → w.cell? (x.add i) = some (.int .u8 (zs.getD i 0))) ∧ ∀ n ∈ zs, (Lit.int .u8 n).wf = true) : Draw.Code w w.heap.size a len := by
  intro j hj
  rcases h with ⟨_, rfl, _, _⟩ | ⟨x, rfl, hl, hc, hz, hcell, hwf⟩
  · omega
  · have hj' : j < zs.length := by omega
    have hx := hwf (zs.getD j 0) (by rw [List.getD_eq_getElem?_getD, List.getElem?_eq_getElem hj']; simp)
    have hb := bounds_u8 hx
    have hcj := hcell j hj'
    have := World.block_lt_of_cell? w _ hcj
    rw [block_add] at this
    exact ⟨x, _, rfl, this, hb.1, hb.2, hcj⟩

theorem big (w : World) (A : Option Addr) (n cap : Nat) :
    Calls Try.prog 6 #[.slice A n cap] w fun e w' => e = .returned (.bool (decide ((1048576 : Int) < (n : Int)))) ∧ w = w' := by
  go_enter Try.func6, Try.ntmps6
  go_wp2_with fail
  go_ret
  exact ⟨rfl, rfl⟩

end Go.Proofs.Ytcfoleiooohbhaa.DrawNum
