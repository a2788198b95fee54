/-
  What PartArea does, as a contract: what it answers; new memory alone is written.
-/
import Derived.Test.YtonbpmabmjhdgabPtofImpl
import Derived.Test.YtonbpmabmjhdgabFiltImpl
import Derived.Test.YtonbpmabmjhdgabPartMath
namespace Go.Proofs.Ytonbpmabmjhdgab.PartImpl
open Go.RowKit Own PointMath WallMath RoomMath Pts Blk AreaMath PtofMath Ints PartMath
open PointOk (ret_bool ret_i64 below1 below2 below3)

set_option maxRecDepth 100000 in
set_option maxHeartbeats 1600000 in
theorem partArea (A : Option Addr) (n cap : Nat) (B : Option Addr) (m cb : Nat) (w : World) (ps : List (Int × Int)) (hl : ps.length = n) (hn : n ≤ 1048576) (hp : PtsAt w w.heap.size A ps) (zs : List Int) (hl2 : zs.length = m) (hn2 : m ≤ 1048576) (hq : IntsAt w w.heap.size B zs) :
    Calls Try.prog 41 #[.agg #[.slice A n cap], .slice B m cb] w fun e w' => e = .returned (.int .i64 (partI ps zs)) ∧ Below w.heap.size w w' := by
  obtain ⟨r, hr⟩ : ∃ r, partI ps zs = r := ⟨_, rfl⟩
  have HR := Lib.hid hr
  rw [hr]
  clear hr
  have hok := ptof_ok ps zs
  have hle := ptofL_le ps zs (by omega)
  have QP : Hid (∀ w hp hq, _) := Lib.hid fun w hp hq => PtofImpl.pointsOf A n cap B m cb w ps hl hn hp zs hl2 hn2 hq
  unfold GivesC at QP
  have E : Hid (dblTo (ptofL ps zs) (ptofL ps zs).length = r) := Lib.hid HR.out
  generalize ptofL ps zs = l at *
  obtain ⟨q, hq_⟩ : ∃ q, l.length = q := ⟨_, rfl⟩
  rw [hq_] at QP E hle
  clear HR hl hl2
  go_enter Try.func41, Try.ntmps41
  go_wp2_with fail
  have X0 := Pts.boxR w (.slice A n cap) 34 (k := w.heap.size) (by simp)
  have b0 := PointOk.below1 w (Obj.cells #[.slice A n cap] 34)
  have HO : ∀ W W' : World, (Pts.BoxR W (w.heap.size) (.slice A n cap) ∧ PtsAt W w.heap.size A ps ∧ IntsAt W w.heap.size B zs ∧ Below w.heap.size w W) → Below W.heap.size W W' → (Pts.BoxR W' (w.heap.size) (.slice A n cap) ∧ PtsAt W' w.heap.size A ps ∧ IntsAt W' w.heap.size B zs ∧ Below w.heap.size w W') := fun W W' ⟨h0, x0, x1, hb⟩ h => ⟨h0.later h, x0.later (h.mono hb.size), x1.later (h.mono hb.size), hb.trans (h.mono hb.size)⟩
  have hz0_ : Hid (((w.alloc (Obj.cells #[.slice A n cap] 34))).heap.size = w.heap.size + 1) := Lib.hid (by simp)
  have Y0 : PtsAt ((w.alloc (Obj.cells #[.slice A n cap] 34))) w.heap.size A ps := hp.later b0
  have Y1 : IntsAt ((w.alloc (Obj.cells #[.slice A n cap] 34))) w.heap.size B zs := hq.later b0
  generalize (w.alloc (Obj.cells #[.slice A n cap] 34)) = w0 at X0 Y0 Y1 b0 hz0_ ⊢
  have S0 := (⟨X0, Y0, Y1, b0⟩ : Pts.BoxR w0 (w.heap.size) (.slice A n cap) ∧ PtsAt w0 w.heap.size A ps ∧ IntsAt w0 w.heap.size B zs ∧ Below w.heap.size w w0)
  clear X0 Y0 Y1 b0
  obtain ⟨⟨_, _⟩, _, _, _⟩ := id S0
  refine (QP.out _ (S0.2.1.wide S0.2.2.2.size) (S0.2.2.1.wide S0.2.2.2.size)).mono ?_
  rintro e w1 ⟨Al, cl, rfl, HL, hb_⟩
  replace S0 := HO _ _ S0 hb_
  have PL := FiltImpl.pts_own HL
  clear hb_ QP HL
  obtain ⟨⟨_, _⟩, _, _, _⟩ := id S0
  go_wp2_with fail
  refine (RoomOkImpl.crossSumL Al q cl _ l hq_ hle hok PL).mono ?_
  rintro e w1 ⟨rfl, hb_⟩
  replace S0 := HO _ _ S0 hb_
  clear hb_
  obtain ⟨⟨_, _⟩, _, _, _⟩ := id S0
  go_wp2_with fail
  go_ret
  exact ⟨ret_i64 E.out, S0.2.2.2⟩

end Go.Proofs.Ytonbpmabmjhdgab.PartImpl

