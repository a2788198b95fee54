/-
  What the landed text says of the next hall on a way, as a contract.
-/
import Derived.Test.YtknnekidfhooeaaHouStep
import Derived.Test.YtknnekidfhooeaaHouReach
namespace Go.Proofs.Ytknnekidfhooeaa.HouTimpl
open Go.RowKit Pts Blk HouMath HouMathB HouReach HouBox HouMem Ints FirstMath
open Go.Proofs.Ytknnekidfhooeaa.Own (icells icells_length icells_at icells_snoc own_shape own_cell own_below own_base own_empty GivesI)
open PointOk (ret_bool ret_i64 below1 below2 below3)

/-- The boxes of the call: the house, where it stands, what it answers. -/
def SS (w : World) (H a : Int) (A : Option Addr) (n cap : Nat) (ds : List (Int × Int)) (W : World) : Prop :=
  Holds W w.heap.size #[.int .i64 H, .slice A n cap] 29 ∧ Holds W (w.heap.size + 1) #[.int .i64 a] 3 ∧ Holds W (w.heap.size + 1 + 1) #[.int .i64 0] 3 ∧ PtsAt W w.heap.size A ds ∧ Below w.heap.size w W
theorem SS.later {w : World} {H a : Int} {A : Option Addr} {n cap : Nat} {ds : List (Int × Int)} {W W' : World} (h : SS w H a A n cap ds W) (hb : Below W.heap.size W W') : SS w H a A n cap ds W' :=
  ⟨h.1.later hb, h.2.1.later hb, h.2.2.1.later hb, h.2.2.2.1.later (hb.mono h.2.2.2.2.size), h.2.2.2.2.trans (hb.mono h.2.2.2.2.size)⟩
theorem SS.start (w : World) (H a : Int) (A : Option Addr) (n cap : Nat) (ds : List (Int × Int)) (hp : PtsAt w w.heap.size A ds) :
    SS w H a A n cap ds (((w.alloc (.cells #[.int .i64 H, .slice A n cap] 29)).alloc (.cells #[.int .i64 a] 3)).alloc (.cells #[.int .i64 0] 3)) := by
  have hb := below3 w (.cells #[.int .i64 H, .slice A n cap] 29) (.cells #[.int .i64 a] 3) (.cells #[.int .i64 0] 3)
  exact ⟨((Holds.new _ _ _).alloc _).alloc _, (Holds.box _ _ _ (by simp)).alloc _, Holds.box _ _ _ (by simp), hp.later hb, hb⟩
theorem SS.cells {w : World} {H a : Int} {A : Option Addr} {n cap : Nat} {ds : List (Int × Int)} {W : World} (h : SS w H a A n cap ds W) :
    W.cell? ⟨w.heap.size, 0, none⟩ = some (.int .i64 H) ∧ W.cell? ⟨w.heap.size, 1, none⟩ = some (.slice A n cap) ∧ W.cell? ⟨w.heap.size + 1, 0, none⟩ = some (.int .i64 a) ∧ W.cell? ⟨w.heap.size + 1 + 1, 0, none⟩ = some (.int .i64 0) ∧ W.frozen? ⟨w.heap.size + 1 + 1, 0, none⟩ = false :=
  ⟨h.1.two.1.1, h.1.two.1.2, h.2.1.one.1, h.2.2.1.one.1, h.2.2.1.one.2⟩


set_option maxRecDepth 100000 in
set_option maxHeartbeats 3200000 in
theorem stepTowards (H : Int) (A : Option Addr) (n cap : Nat) (a b : Int) (w : World) (ds : List (Int × Int)) (hl : ds.length = n) (hn : n ≤ 1048576) (hp : PtsAt w w.heap.size A ds) :
    Calls Try.prog 38 #[.agg #[.int .i64 H, .slice A n cap], .int .i64 a, .int .i64 b] w fun e w' => e = .returned (.int .i64 (stepI H ds a b)) ∧ Below w.heap.size w w' := by
  cases ca : hallOf H ds a && hallOf H ds b
  · rw [step_no ca]
    have Q1 : Hid (∀ w hp, _) := Lib.hid fun w hp => HouWimpl.hallDistance H A n cap a b w ds hl hn hp
    rw [hallDist_no ca] at Q1
    have S0 := SS.start w H a A n cap ds hp
    obtain ⟨w0, hw0⟩ : ∃ w0, ((w.alloc (.cells #[.int .i64 H, .slice A n cap] 29)).alloc (.cells #[.int .i64 a] 3)).alloc (.cells #[.int .i64 0] 3) = w0 := ⟨_, rfl⟩
    rw [hw0] at S0
    obtain ⟨c0, c1, c2, c3, c4⟩ := S0.cells
    clear ca
    go_enter Try.func38, Try.ntmps38
    go_wp2_with fail
    refine (Q1.out _ (S0.2.2.2.1.wide S0.2.2.2.2.size)).mono ?_
    rintro e w1 ⟨rfl, hb_⟩
    have S1 := S0.later hb_
    obtain ⟨c0, c1, c2, c3, c4⟩ := S1.cells
    have h4 : Holds (w1.setCell ⟨w.heap.size + 1 + 1, 0, none⟩ (.int .i64 (-1))) (w.heap.size + 1 + 1) #[.int .i64 (-1)] 3 := set_own S1.2.2.1 0 _
    have h5 : Below w.heap.size w (w1.setCell ⟨w.heap.size + 1 + 1, 0, none⟩ (.int .i64 (-1))) := S1.2.2.2.2.setCell (p := ⟨w.heap.size + 1 + 1, 0, none⟩) (by show w.heap.size ≤ w.heap.size + 1 + 1; omega) _
    go_wp2_with fail
    exact bodyPost_ret (HouStep.res_cell rfl _ _ (w.heap.size + 1 + 1) _ rfl h4.one.1) rfl ⟨rfl, h5⟩
  have ca' := ca
  rw [Bool.and_eq_true] at ca
  obtain ⟨N, a, rfl, rfl, ha, hf⟩ := hall_nat ca.1
  obtain ⟨N', b, hN, rfl, hb, _⟩ := hall_nat ca.2
  obtain rfl : N = N' := by omega
  rw [step_yes ca']
  refine (callsIn_wide (n := 8)).1 (HouStep.stepHall N n cap a b A ds ?_ hl ha hb w hp)
  have := ca.1
  unfold hallOf at this
  rw [Bool.and_eq_true] at this
  exact this.1

end Go.Proofs.Ytknnekidfhooeaa.HouTimpl

