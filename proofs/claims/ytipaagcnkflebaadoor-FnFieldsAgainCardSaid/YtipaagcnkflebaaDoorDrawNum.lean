/-
  Numbers that the model draws for Clamp, as contracts, and the test on the size of the drawn bytes.
-/
import Derived.Test.YtipaagcnkflebaaDoorDraw
import Derived.OpenShut
namespace Go.Proofs.YtipaagcnkflebaaDoor.DrawNum
open Go.RowKit Draw

theorem code_of_row {w : World} {a : Option Addr} {len cap : Nat} {zs : List Int} (h : (a = none ∧ len = 0 ∧ cap = 0 ∧ zs = []) ∨
    ∃ x, a = some x ∧ len ≤ cap ∧ cap ≤ maxLen ∧ zs.length = cap ∧ (∀ i, i < zs.length → w.cell? (x.add i) = some (.int .u8 (zs.getD i 0))) ∧ ∀ n ∈ zs, (Lit.int .u8 n).wf = true) : Draw.Code w w.heap.size a len := by
  intro j hj
  rcases h with ⟨_, rfl, _, _⟩ | ⟨x, rfl, hl, hc, hz, hcell, hwf⟩
  · omega
  · have hj' : j < zs.length := by omega
    have hx := hwf (zs.getD j 0) (by rw [List.getD_eq_getElem?_getD, List.getElem?_eq_getElem hj']; simp)
    have hb := bounds_u8 hx
    have hcj := hcell j hj'
    have := World.block_lt_of_cell? w _ hcj
    rw [block_add] at this
    exact ⟨x, _, rfl, this, hb.1, hb.2, hcj⟩

theorem big (w : World) (A : Option Addr) (n cap : Nat) :
    Calls Tryd.prog 8 #[.slice A n cap] w fun e w' => e = .returned (.bool (decide ((1048576 : Int) < (n : Int)))) ∧ w = w' := by
  go_enter Tryd.func8, Tryd.ntmps8
  go_wp2_with fail
  go_ret
  exact ⟨rfl, rfl⟩

/-- The numbers that the model picks one of. -/
def picks : List Int := [-1, 0, 127, 128, 16383, 16384, 1000000000, 1000000001, 9223372036854775807, -9223372036854775808]
theorem picks_wf (j : Nat) (h : j < 10) : (Lit.int .i64 (picks.getD j 0)).wf = true := by
  have : ∀ k : Fin 10, (Lit.int .i64 (picks.getD k.val 0)).wf = true := by decide +kernel
  exact this ⟨j, h⟩
def Fits (x : Int) : Prop := (Lit.int .i64 x).wf = true

set_option maxRecDepth 100000 in
set_option maxHeartbeats 800000 in
theorem number (w : World) (cb : Nat) (A : Option Addr) (n cap : Nat) (hs : St w cb A n cap) :
    Calls Tryd.prog 28 #[.pointer (some ⟨cb, 0, none⟩)] w (IntP w cb A n cap Fits) := by
  go_enter Tryd.func28, Tryd.ntmps28
  go_wp2_with fail
  refine (below _ cb A n cap hs 4 (by omega)).mono ?_
  rintro e w1 ⟨x, ⟨hx0, hx1⟩, rfl, hs1, hg1⟩
  by_cases h0 : x = 0
  · subst h0
    go_wp2_with fail
    have hlt := hs1.lt
    refine (pickInt _ cb A n cap (hs1.alloc _) ⟨w1.heap.size, 0, none⟩ 10 10 (by omega) (by omega) (fun j => picks.getD j 0) (by simp) (by simp; omega) ?_).mono ?_
    · intro j hj
      have hn := heap_alloc_new w1 (.cells (picks.map (Value.int .i64)).toArray 3)
      have := World.news_of_block hn j (.int .i64 (picks.getD j 0)) (by
        have hj2 : j < picks.length := hj
        rw [List.getElem?_map, List.getElem?_eq_getElem hj2, List.getD_eq_getElem?_getD, List.getElem?_eq_getElem hj2]; rfl)
      exact this
    · rintro e w2 ⟨y, ⟨j, hj, rfl⟩, rfl, hs2, hg2⟩
      go_wp2_with fail
      go_ret
      exact ⟨_, picks_wf j hj, rfl, hs2, grown_trans (grown_alloc hg1 _) hg2⟩
  · have e0 : (x == 0) = false := by simpa using h0
    by_cases h1 : x = 1
    · subst h1
      go_wp2_with fail
      refine (below _ cb A n cap hs1 1000000000 (by omega)).mono ?_
      rintro e w2 ⟨y, ⟨hy0, hy1⟩, rfl, hs2, hg2⟩
      go_wp2_with fail
      go_ret
      exact ⟨_, WalkArith.wf_i64 (by omega), rfl, hs2, grown_trans hg1 hg2⟩
    · have e1 : (x == 1) = false := by simpa using h1
      clear h0 h1
      go_wp2_with fail
      refine (below _ cb A n cap hs1 400 (by omega)).mono ?_
      rintro e w2 ⟨y, ⟨hy0, hy1⟩, rfl, hs2, hg2⟩
      go_wp2_with fail
      go_ret
      exact ⟨_, WalkArith.wf_i64 (by omega), rfl, hs2, grown_trans hg1 hg2⟩
end Go.Proofs.YtipaagcnkflebaaDoor.DrawNum
