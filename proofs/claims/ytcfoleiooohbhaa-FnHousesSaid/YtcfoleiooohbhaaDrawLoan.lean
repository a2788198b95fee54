/-
  Loans and halls that the model draws, as contracts: a valid loan; a hall; one to four halls; two loans and halls.
-/
import Derived.Test.YtcfoleiooohbhaaDrawBig
import Derived.Test.YtcfoleiooohbhaaDrawPoint
import Derived.Test.YtcfoleiooohbhaaLoanMath
import Derived.Test.YtcfoleiooohbhaaTup4
import Derived.Test.YtcfoleiooohbhaaGround
import Derived.Test.YtcfoleiooohbhaaRoomRes
import Derived.Deep.RegionHeld3
import Derived.OwnWalk
namespace Go.Proofs.Ytcfoleiooohbhaa.DrawLoan
open Go.RowKit Draw PointOk DutyMath LoanMath Blk Tup3
open DrawPoint (grown_own grown_from st_own own_row code_more far_cell)
open Go.Proofs.Ytcfoleiooohbhaa.Own (own_shape own_base own_empty own_below kept_ne)

set_option maxRecDepth 100000 in
set_option maxHeartbeats 1600000 in
theorem loan (w : World) (cb : Nat) (A : Option Addr) (n cap : Nat) (hs : St w cb A n cap) :
    Calls Try.prog 29 #[.pointer (some ⟨cb, 0, none⟩)] w fun e w' => ∃ l a b g, loanB l a b g = true ∧ e = .returned (.agg #[.int .i64 l, .int .i64 a, .int .i64 b, .int .i64 g]) ∧ St w' cb A n cap ∧ w.grownBy w' (some cb) := by
  have hcb := hs.lt
  go_enter Try.func29, Try.ntmps29
  go_wp2_with fail
  have hl0 := heap_alloc_new w (Obj.cells #[.int .i64 0, .int .i64 0, .int .i64 0, .int .i64 0] 25)
  refine (below _ cb A n cap (hs.alloc _) 30 (by omega)).mono ?_
  rintro e w1 ⟨x, ⟨hx0, hx1⟩, rfl, hs1, hg1⟩
  have hl1 := (hg1.block _ (by simp) (by intro e; injection e with e; omega)).trans hl0
  have u1 : IntKind.i64.wrap (30 + x) = 30 + x := IntWalk.i64_in _ (by omega)
  have hz1 : w.heap.size < w1.heap.size := by have := hg1.size; simp at this; omega
  have G1 := grown_from _ hg1 (World.grownBy.refl w1 _)
  clear hl0 hg1
  go_wp2_with fail
  refine (below _ cb A n cap hs1 200 (by omega)).mono ?_
  rintro e w2 ⟨y, ⟨hy0, hy1⟩, rfl, hs2, hg2⟩
  have hl2 := (hg2.block _ hz1 (by intro e; injection e with e; omega)).trans hl1
  have u2 : IntKind.i64.wrap (50 + y) = 50 + y := IntWalk.i64_in _ (by omega)
  have hz2 := Nat.lt_of_lt_of_le hz1 hg2.size
  have G2 := grown_trans G1 hg2
  clear hl1 hg2 G1 hz1
  go_wp2_with fail
  refine (below _ cb A n cap hs2 30 (by omega)).mono ?_
  rintro e w3 ⟨z, ⟨hz0, hz1⟩, rfl, hs3, hg3⟩
  have hl3 := (hg3.block _ hz2 (by intro e; injection e with e; omega)).trans hl2
  have u3 : IntKind.i64.wrap (30 + x + z) = 30 + x + z := IntWalk.i64_in _ (by omega)
  have hz3 := Nat.lt_of_lt_of_le hz2 hg3.size
  have G3 := grown_trans G2 hg3
  clear hl2 hg3 G2 hz2
  go_wp2_with fail
  refine (below _ cb A n cap hs3 3 (by omega)).mono ?_
  rintro e w4 ⟨g, ⟨hv0, hv1⟩, rfl, hs4, hg4⟩
  have hl4 := (hg4.block _ hz3 (by intro e; injection e with e; omega)).trans hl3
  have G4 := Lib.hid (grown_trans G3 hg4)
  have c0 := cell_of_row w4 w.heap.size 0 _ _ _ hl4
  have c1 := cell_of_row w4 w.heap.size 1 _ _ _ hl4
  have c2 := cell_of_row w4 w.heap.size 2 _ _ _ hl4
  have c3 := cell_of_row w4 w.heap.size 3 _ _ _ hl4
  have f0 : w4.frozen? ⟨w.heap.size, 0, none⟩ = false := by simp [World.frozen?, hl4]
  have f1 : w4.frozen? ⟨w.heap.size, 1, none⟩ = false := by simp [World.frozen?, hl4]
  have f2 : w4.frozen? ⟨w.heap.size, 2, none⟩ = false := by simp [World.frozen?, hl4]
  have f3 : w4.frozen? ⟨w.heap.size, 3, none⟩ = false := by simp [World.frozen?, hl4]
  simp at c0 c1 c2 c3
  have hl5 := heap_set_own (heap_set_own (heap_set_own (heap_set_own hl4 0 (.int .i64 (50 + y))) 1 (.int .i64 (30 + x))) 2 (.int .i64 (30 + x + z))) 3 (.int .i64 g)
  have d0 := cell_of_row _ w.heap.size 0 _ _ _ hl5
  have d1 := cell_of_row _ w.heap.size 1 _ _ _ hl5
  have d2 := cell_of_row _ w.heap.size 2 _ _ _ hl5
  have d3 := cell_of_row _ w.heap.size 3 _ _ _ hl5
  simp at d0 d1 d2 d3
  have HS := Lib.hid (st_own (st_own (st_own (st_own hs4 ⟨w.heap.size, 0, none⟩ (.int .i64 (50 + y)) hcb) ⟨w.heap.size, 1, none⟩ (.int .i64 (30 + x)) hcb) ⟨w.heap.size, 2, none⟩ (.int .i64 (30 + x + z)) hcb) ⟨w.heap.size, 3, none⟩ (.int .i64 g) hcb)
  have HG := Lib.hid (grown_own (grown_own (grown_own (grown_own G4.out ⟨w.heap.size, 0, none⟩ (Nat.le_refl _) (.int .i64 (50 + y))) ⟨w.heap.size, 1, none⟩ (Nat.le_refl _) (.int .i64 (30 + x))) ⟨w.heap.size, 2, none⟩ (Nat.le_refl _) (.int .i64 (30 + x + z))) ⟨w.heap.size, 3, none⟩ (Nat.le_refl _) (.int .i64 g))
  have HL : Hid (loanB (50 + y) (30 + x) (30 + x + z) g = true) := Lib.hid (loan_of (by omega) (by omega) (by omega) (by omega))
  clear hl3 hl4 hl5 hg4 G3 hs1 hs2 hs3 hs4 hz3
  go_wp2_with fail
  refine bodyPost_ret (v := .agg #[.int .i64 (50 + y), .int .i64 (30 + x), .int .i64 (30 + x + z), .int .i64 g]) (by simp [results, Try.results29, go_sem, d0, d1, d2, d3]) rfl ⟨_, _, _, _, HL.out, rfl, HS.out, HG.out⟩

set_option maxRecDepth 100000 in
set_option maxHeartbeats 1600000 in
theorem climate (w : World) (cb : Nat) (A : Option Addr) (n cap : Nat) (hs : St w cb A n cap) :
    Calls Try.prog 55 #[.pointer (some ⟨cb, 0, none⟩)] w fun e w' => ∃ x h y, e = .returned (.agg #[.int .i64 x, .int .i64 h, .int .i64 y]) ∧ St w' cb A n cap ∧ w.grownBy w' (some cb) := by
  have hcb := hs.lt
  go_enter Try.func55, Try.ntmps55
  go_wp2_with fail
  have hl0 := heap_alloc_new w (Obj.cells #[.int .i64 0, .int .i64 0, .int .i64 0] 36)
  refine (below _ cb A n cap (hs.alloc _) 200 (by omega)).mono ?_
  rintro e w1 ⟨x, ⟨hx0, hx1⟩, rfl, hs1, hg1⟩
  have hl1 := (hg1.block _ (by simp) (by intro e; injection e with e; omega)).trans hl0
  have u1 : IntKind.i64.wrap (30 + x) = 30 + x := IntWalk.i64_in _ (by omega)
  have hz1 : w.heap.size < w1.heap.size := by have := hg1.size; simp at this; omega
  have G1 := grown_from _ hg1 (World.grownBy.refl w1 _)
  clear hl0 hg1
  go_wp2_with fail
  refine (below _ cb A n cap hs1 50 (by omega)).mono ?_
  rintro e w2 ⟨y, ⟨hy0, hy1⟩, rfl, hs2, hg2⟩
  have hl2 := (hg2.block _ hz1 (by intro e; injection e with e; omega)).trans hl1
  have u2 : IntKind.i64.wrap (30 + y) = 30 + y := IntWalk.i64_in _ (by omega)
  have hz2 := Nat.lt_of_lt_of_le hz1 hg2.size
  have G2 := grown_trans G1 hg2
  clear hl1 hg2 G1 hz1
  go_wp2_with fail
  refine (below _ cb A n cap hs2 4 (by omega)).mono ?_
  rintro e w4 ⟨g, ⟨hv0, hv1⟩, rfl, hs4, hg4⟩
  have hl4 := (hg4.block _ hz2 (by intro e; injection e with e; omega)).trans hl2
  have G4 := Lib.hid (grown_trans G2 hg4)
  have c0 := cell_of_row w4 w.heap.size 0 _ _ _ hl4
  have c1 := cell_of_row w4 w.heap.size 1 _ _ _ hl4
  have c2 := cell_of_row w4 w.heap.size 2 _ _ _ hl4
  have f0 : w4.frozen? ⟨w.heap.size, 0, none⟩ = false := by simp [World.frozen?, hl4]
  have f1 : w4.frozen? ⟨w.heap.size, 1, none⟩ = false := by simp [World.frozen?, hl4]
  have f2 : w4.frozen? ⟨w.heap.size, 2, none⟩ = false := by simp [World.frozen?, hl4]
  simp at c0 c1 c2
  have hl5 := heap_set_own (heap_set_own (heap_set_own hl4 0 (.int .i64 (30 + x))) 1 (.int .i64 (30 + y))) 2 (.int .i64 g)
  have d0 := cell_of_row _ w.heap.size 0 _ _ _ hl5
  have d1 := cell_of_row _ w.heap.size 1 _ _ _ hl5
  have d2 := cell_of_row _ w.heap.size 2 _ _ _ hl5
  simp at d0 d1 d2
  have HS := Lib.hid (st_own (st_own (st_own hs4 ⟨w.heap.size, 0, none⟩ (.int .i64 (30 + x)) hcb) ⟨w.heap.size, 1, none⟩ (.int .i64 (30 + y)) hcb) ⟨w.heap.size, 2, none⟩ (.int .i64 g) hcb)
  have HG := Lib.hid (grown_own (grown_own (grown_own G4.out ⟨w.heap.size, 0, none⟩ (Nat.le_refl _) (.int .i64 (30 + x))) ⟨w.heap.size, 1, none⟩ (Nat.le_refl _) (.int .i64 (30 + y))) ⟨w.heap.size, 2, none⟩ (Nat.le_refl _) (.int .i64 g))
  clear hl2 hl4 hl5 hg4 G2 hs1 hs2 hs4 hz2
  go_wp2_with fail
  refine bodyPost_ret (v := .agg #[.int .i64 (30 + x), .int .i64 (30 + y), .int .i64 g]) (by simp [results, Try.results55, go_sem, d0, d1, d2]) rfl ⟨_, _, _, rfl, HS.out, HG.out⟩

theorem infoC : (Try.prog.info? 36).map (fun i => (i.zero, i.size, i.bytes)) = some (some (.agg #[.int .i64 0, .int .i64 0, .int .i64 0]), 3, 24) := by kernel_rfl

set_option maxRecDepth 100000 in
set_option maxHeartbeats 3200000 in
theorem halls (w : World) (cb : Nat) (A : Option Addr) (n cap : Nat) (hs : St w cb A n cap) :
    Calls Try.prog 30 #[.pointer (some ⟨cb, 0, none⟩)] w fun e w' => ∃ (l : List Tu) (A1 : Option Addr) (c1 : Nat), l.length ≤ 4 ∧ e = .returned (.slice A1 l.length c1) ∧ w'.ownsRow w.heap.size 36 3 (.slice A1 l.length c1) l.length (cellsT l) ∧ St w' cb A n cap ∧ w.grownBy w' (some cb) := by
  obtain ⟨i0, hi, iz0, iz1, iz2⟩ := info_parts infoC
  have hcb := hs.lt
  have HE := own_empty w 36 3
  go_enter Try.func30, Try.ntmps30
  go_wp2_with fail
  refine (below _ cb A n cap (hs.alloc _) 4 (by omega)).mono ?_
  rintro e w1 ⟨x, ⟨hx0, hx1⟩, rfl, hs1, hg1⟩
  obtain ⟨m, hm⟩ : ∃ m : Nat, 1 + x = (m : Int) := ⟨(1 + x).toNat, by omega⟩
  have u1 : IntKind.i64.wrap (1 + x) = (m : Int) := by rw [hm]; exact IntWalk.i64_in _ (by omega)
  have hm4 : m ≤ 4 := by omega
  have HO := kept_ne HE hg1 (fun g hg => by injection hg with hg; subst hg; show w.heap.size ≠ cb; omega)
  have G1 := grown_from _ hg1 (World.grownBy.refl w1 _)
  have hsz := G1.size
  clear HE hg1 hs hm
  go_wp2_with fail
  go_loopw [3, 5] (fun v q wr => ∃ (k : Nat) (l : List Tu), k ≤ m ∧ q = .int .i64 k ∧ Hid (l.length = k) ∧ Hid (wr.ownsRow w.heap.size 36 3 v k (cellsT l)) ∧ St wr cb A n cap ∧ w.grownBy wr (some cb)) (fun _ q _ => m - (intOf q).toNat)
  case atStart => exact ⟨0, [], Nat.zero_le _, rfl, Lib.hid rfl, Lib.hid HO, hs1, G1⟩
  case round =>
    clear HO hs1 G1 hsz
    obtain ⟨k, l, hkm, rfl, hll, hown, hst, hgr⟩ := hrel
    by_cases hlt : k < m
    · have hk1 : (k : Int) < (m : Int) := by omega
      go_wp2_with fail
      refine (climate _ cb A n cap hst).mono ?_
      rintro e w2 ⟨x1, x2, x3, rfl, hs2, hg2⟩
      have hO2 := kept_ne hown.out hg2 (fun g hg => by have := (hown.out.lt g hg).1; omega)
      have hG2 := grown_trans hgr hg2
      have hz2 := hG2.size
      obtain ⟨A1, c1, rfl⟩ := own_shape hO2
      have b3 := below1 w2 (Obj.cells #[.int .i64 x1, .int .i64 x2, .int .i64 x3] 36)
      have hO3 := own_below hO2 b3
      have hs3 := hs2.alloc (Obj.cells #[.int .i64 x1, .int .i64 x2, .int .i64 x3] 36)
      have hG3 := grown_alloc hG2 (Obj.cells #[.int .i64 x1, .int .i64 x2, .int .i64 x3] 36)
      have hz3 := hG3.size
      clear hown hst hgr hO2 hs2 hg2 hG2
      simp at hz3
      go_wp2_with (at_builtin; go_must (refine wpList_append_lies _ rfl _ _ 26 rfl w.heap.size 36 i0 _ 3 24 Try.underlying26 hi iz0 iz1 iz2 rfl (by decide) _ _ _ rfl (hO3.alloc _) ⟨_, 0, none⟩ 1 1 [.int .i64 x1, .int .i64 x2, .int .i64 x3] rfl rfl ?c1 ?c2 (by decide) ?c3 ?c4 ?c5 _ rfl ?_))
      case c1 => (intro a u ha; match a, ha with | 0, ha => (simp at ha; subst ha; simp [Addr.add]) | 1, ha => (simp at ha; subst ha; simp [Addr.add]) | 2, ha => (simp at ha; subst ha; simp [Addr.add]))
      case c2 => (intro u hu; simp at hu; rcases hu with rfl | rfl | rfl <;> rfl)
      case c3 => (unfold maxLen; omega)
      case c4 => omega
      case c5 => (simp; omega)
      intro g_ cap_ wa_ ho_ hg_ hgo_ hlt_
      have HL2 : Hid ((l ++ [(x1, x2, x3)]).length = k + 1) := Lib.hid (by rw [List.length_append, hll.out]; rfl)
      have HW : Hid (wa_.ownsRow w.heap.size 36 3 (.slice (some ⟨g_, 0, none⟩) (k + 1) cap_) (k + 1) (cellsT (l ++ [(x1, x2, x3)]))) := Lib.hid (by rw [cellsT_app]; exact ho_)
      have b4 := below1 (w2.alloc (Obj.cells #[.int .i64 x1, .int .i64 x2, .int .i64 x3] 36)) (Obj.cells #[.int .i64 x1, .int .i64 x2, .int .i64 x3] 36)
      have HS4 := Lib.hid (St.kept (hs3.alloc (Obj.cells #[.int .i64 x1, .int .i64 x2, .int .i64 x3] 36)) hg_ (fun g hg => by have := (hO3.lt g hg).1; omega))
      have HG4 : Hid (w.grownBy wa_ (some cb)) := Lib.hid (by
        have h0 := grown_alloc hG3 (Obj.cells #[.int .i64 x1, .int .i64 x2, .int .i64 x3] 36)
        exact ⟨hg_.os.trans h0.os, hg_.tape.trans h0.tape, hg_.output.trans h0.output, Nat.le_trans h0.size hg_.size, fun i hi2 hne => (hg_.block i (Nat.lt_of_lt_of_le hi2 h0.size) (fun e => by have := (hO3.lt i e.symm).1; omega)).trans (h0.block i hi2 hne)⟩)
      clear ho_ hg_ hgo_ hlt_ hO3 hs3 hG3 b3 b4 hll
      go_wp2_with fail
      first
        | exact ⟨⟨k + 1, l ++ [(x1, x2, x3)], by omega, by go_num, HL2, HW, HS4.out, HG4.out⟩, by simp [intOf] <;> omega⟩
        | (go_roundw <;> first | exact ⟨k + 1, l ++ [(x1, x2, x3)], by omega, by go_num, HL2, HW, HS4.out, HG4.out⟩ | (simp [intOf] <;> omega))
    · obtain rfl : k = m := by omega
      obtain ⟨A1, c1, rfl⟩ := own_shape hown.out
      go_wp2_with fail
      go_ret
      exact ⟨l, A1, c1, by rw [hll.out]; exact hm4, by rw [hll.out]; rfl, by rw [hll.out]; exact hown.out, hst, hgr⟩
theorem hgrown {w w' : World} {k cb : Nat} {cs : Array Value} {T : TypeId} (h : Holds w k cs T) (hg : w.grownBy w' (some cb)) (hne : k ≠ cb) : Holds w' k cs T :=
  (hg.block k h.lt (fun e => by injection e with e; exact hne e)).trans h
theorem hbelow {w w' : World} {k b : Nat} {cs : Array Value} {T : TypeId} (h : Holds w k cs T) (hb : Below b w w') (hk : k < b) : Holds w' k cs T := (hb.block k hk).trans h
theorem four {w : World} {k : Nat} {x0 x1 x2 x3 : Value} {T : TypeId} (h : Holds w k #[x0, x1, x2, x3] T) :
    (w.cell? ⟨k, 0, none⟩ = some x0 ∧ w.cell? ⟨k, 1, none⟩ = some x1 ∧ w.cell? ⟨k, 2, none⟩ = some x2 ∧ w.cell? ⟨k, 3, none⟩ = some x3) ∧ w.frozen? ⟨k, 0, none⟩ = false ∧ w.frozen? ⟨k, 1, none⟩ = false ∧ w.frozen? ⟨k, 2, none⟩ = false ∧ w.frozen? ⟨k, 3, none⟩ = false := by
  have c0 := cell_of_row w k 0 _ _ _ h
  have c1 := cell_of_row w k 1 _ _ _ h
  have c2 := cell_of_row w k 2 _ _ _ h
  have c3 := cell_of_row w k 3 _ _ _ h
  unfold Holds at h
  simp at c0 c1 c2 c3
  exact ⟨⟨c0, c1, c2, c3⟩, by simp [World.frozen?, h], by simp [World.frozen?, h], by simp [World.frozen?, h], by simp [World.frozen?, h]⟩
theorem set4 {w : World} {k : Nat} {y0 y1 y2 y3 : Value} {T : TypeId} (h : Holds w k #[y0, y1, y2, y3] T) (x0 x1 x2 x3 : Value) : Holds ((((w.setCell ⟨k, 0, none⟩ x0).setCell ⟨k, 1, none⟩ x1).setCell ⟨k, 2, none⟩ x2).setCell ⟨k, 3, none⟩ x3) k #[x0, x1, x2, x3] T :=
  heap_set_own (heap_set_own (heap_set_own (heap_set_own h 0 x0) 1 x1) 2 x2) 3 x3

set_option maxRecDepth 100000 in
set_option maxHeartbeats 3200000 in
theorem drawLoans (w : World) (A : Option Addr) (n cap : Nat) (hn : n ≤ 1048576) (hcode : Draw.Code w w.heap.size A n) :
    Calls Try.prog 7 #[.slice A n cap] w fun e w' => ∃ (l1 a1 b1 g1 l2 a2 b2 g2 : Int) (hs : List Tu) (A1 : Option Addr) (c1 : Nat), loanB l1 a1 b1 g1 = true ∧ loanB l2 a2 b2 g2 = true ∧ hs.length ≤ 4 ∧
      e = .returned (.tuple #[.agg #[.int .i64 l1, .int .i64 a1, .int .i64 b1, .int .i64 g1], .agg #[.int .i64 l2, .int .i64 a2, .int .i64 b2, .int .i64 g2], .slice A1 hs.length c1]) ∧ w'.ownsRow w.heap.size 36 3 (.slice A1 hs.length c1) hs.length (cellsT hs) ∧ Below w.heap.size w w' := by
  have hb0 := below2 w (Obj.cells #[.int .i64 0, .int .i64 0, .int .i64 0, .int .i64 0] 25) (Obj.cells #[.int .i64 0, .int .i64 0, .int .i64 0, .int .i64 0] 25)
  have HC := Lib.hid (code_more hcode hb0)
  have U2 : Holds ((w.alloc (Obj.cells #[.int .i64 0, .int .i64 0, .int .i64 0, .int .i64 0] 25)).alloc (Obj.cells #[.int .i64 0, .int .i64 0, .int .i64 0, .int .i64 0] 25)) (w.heap.size) #[.int .i64 0, .int .i64 0, .int .i64 0, .int .i64 0] 25 := hbelow (heap_alloc_new w _ : Holds (w.alloc (Obj.cells #[.int .i64 0, .int .i64 0, .int .i64 0, .int .i64 0] 25)) w.heap.size #[.int .i64 0, .int .i64 0, .int .i64 0, .int .i64 0] 25) (below1 _ _) (by simp)
  have U3 : Holds ((w.alloc (Obj.cells #[.int .i64 0, .int .i64 0, .int .i64 0, .int .i64 0] 25)).alloc (Obj.cells #[.int .i64 0, .int .i64 0, .int .i64 0, .int .i64 0] 25)) (w.heap.size + 1) #[.int .i64 0, .int .i64 0, .int .i64 0, .int .i64 0] 25 := by
    have : Holds ((w.alloc (Obj.cells #[.int .i64 0, .int .i64 0, .int .i64 0, .int .i64 0] 25)).alloc (Obj.cells #[.int .i64 0, .int .i64 0, .int .i64 0, .int .i64 0] 25)) (w.alloc (Obj.cells #[.int .i64 0, .int .i64 0, .int .i64 0, .int .i64 0] 25)).heap.size #[.int .i64 0, .int .i64 0, .int .i64 0, .int .i64 0] 25 := heap_alloc_new _ _
    simpa using this
  have hsz0 : ((w.alloc (Obj.cells #[.int .i64 0, .int .i64 0, .int .i64 0, .int .i64 0] 25)).alloc (Obj.cells #[.int .i64 0, .int .i64 0, .int .i64 0, .int .i64 0] 25)).heap.size = w.heap.size + 2 := by simp
  clear hcode
  go_enter Try.func7, Try.ntmps7
  go_wp2_with fail
  generalize ((w.alloc (Obj.cells #[.int .i64 0, .int .i64 0, .int .i64 0, .int .i64 0] 25)).alloc (Obj.cells #[.int .i64 0, .int .i64 0, .int .i64 0, .int .i64 0] 25)) = W0 at *
  refine (newCur _ A n cap hn HC.out).mono ?_
  rintro e w1 ⟨rfl, hs1, hb1⟩
  replace U2 := hbelow U2 hb1 (by omega)
  replace U3 := hbelow U3 hb1 (by omega)
  have hb01 := hb0.trans (hb1.mono hb0.size)
  have hz1 := hs1.lt
  rw [hsz0] at hs1 hz1 ⊢
  clear HC hb1 hb0 hsz0
  go_wp2_with fail
  refine (loan _ _ A n cap hs1).mono ?_
  rintro e w2 ⟨l1, a1, b1, g1, hl1, rfl, hs2, hg2⟩
  replace U2 := hgrown U2 hg2 (by omega)
  replace U3 := hgrown U3 hg2 (by omega)
  have hb02 := hb01.grown hg2 (by omega) (fun k e => by injection e with e; omega)
  have hz2 := hs2.lt
  clear hs1 hg2 hb01 hz1
  go_wp2_with fail
  have T6 : Holds (w2.alloc (Obj.cells #[.int .i64 l1, .int .i64 a1, .int .i64 b1, .int .i64 g1] 25)) w2.heap.size #[.int .i64 l1, .int .i64 a1, .int .i64 b1, .int .i64 g1] 25 := heap_alloc_new _ _
  have hal := below1 w2 (Obj.cells #[.int .i64 l1, .int .i64 a1, .int .i64 b1, .int .i64 g1] 25)
  have hza : (w2.alloc (Obj.cells #[.int .i64 l1, .int .i64 a1, .int .i64 b1, .int .i64 g1] 25)).heap.size = w2.heap.size + 1 := by simp
  replace hs2 := hs2.alloc (Obj.cells #[.int .i64 l1, .int .i64 a1, .int .i64 b1, .int .i64 g1] 25)
  replace U2 := hbelow U2 hal (by omega)
  replace U3 := hbelow U3 hal (by omega)
  have hbx2 := hb02.trans (hal.mono hb02.size)
  generalize (w2.alloc (Obj.cells #[.int .i64 l1, .int .i64 a1, .int .i64 b1, .int .i64 g1] 25)) = V2 at *
  obtain ⟨ga, hgz2⟩ : ∃ g, w2.heap.size = g := ⟨_, rfl⟩
  rw [hgz2] at T6 hza hz2 ⊢
  clear hal hb02 hgz2
  refine (loan _ _ A n cap hs2).mono ?_
  rintro e w3 ⟨l2, a2, b2, g2, hl2, rfl, hs3, hg3⟩
  replace U2 := hgrown U2 hg3 (by omega)
  replace U3 := hgrown U3 hg3 (by omega)
  replace T6 := hgrown T6 hg3 (by omega)
  have hb03 := hbx2.grown hg3 (by omega) (fun k e => by injection e with e; omega)
  have hz3 := hs3.lt
  have hz30 := hg3.size
  clear hs2 hg3 hbx2
  go_wp2_with fail
  have T7 : Holds (w3.alloc (Obj.cells #[.int .i64 l2, .int .i64 a2, .int .i64 b2, .int .i64 g2] 25)) w3.heap.size #[.int .i64 l2, .int .i64 a2, .int .i64 b2, .int .i64 g2] 25 := heap_alloc_new _ _
  have hal := below1 w3 (Obj.cells #[.int .i64 l2, .int .i64 a2, .int .i64 b2, .int .i64 g2] 25)
  have hza : (w3.alloc (Obj.cells #[.int .i64 l2, .int .i64 a2, .int .i64 b2, .int .i64 g2] 25)).heap.size = w3.heap.size + 1 := by simp
  replace hs3 := hs3.alloc (Obj.cells #[.int .i64 l2, .int .i64 a2, .int .i64 b2, .int .i64 g2] 25)
  replace U2 := hbelow U2 hal (by omega)
  replace U3 := hbelow U3 hal (by omega)
  replace T6 := hbelow T6 hal (by omega)
  have hbx3 := hb03.trans (hal.mono hb03.size)
  generalize (w3.alloc (Obj.cells #[.int .i64 l2, .int .i64 a2, .int .i64 b2, .int .i64 g2] 25)) = V3 at *
  obtain ⟨gb, hgz3⟩ : ∃ g, w3.heap.size = g := ⟨_, rfl⟩
  rw [hgz3] at T7 hza hz3 hz30 ⊢
  clear hal hb03 hgz3
  have n20 : ¬ ga = w.heap.size := by omega
  have n21 : ¬ ga = w.heap.size + 1 := by omega
  have n30 : ¬ gb = w.heap.size := by omega
  have n31 : ¬ gb = w.heap.size + 1 := by omega
  have HS : V3.drew.cell? ⟨ga, 0, none⟩ = some (.int .i64 l1) ∧ V3.drew.cell? ⟨ga, 1, none⟩ = some (.int .i64 a1) ∧ V3.drew.cell? ⟨ga, 2, none⟩ = some (.int .i64 b1) ∧ V3.drew.cell? ⟨ga, 3, none⟩ = some (.int .i64 g1) ∧ V3.drew.cell? ⟨gb, 0, none⟩ = some (.int .i64 l2) ∧ V3.drew.cell? ⟨gb, 1, none⟩ = some (.int .i64 a2) ∧ V3.drew.cell? ⟨gb, 2, none⟩ = some (.int .i64 b2) ∧ V3.drew.cell? ⟨gb, 3, none⟩ = some (.int .i64 g2) := by
    obtain ⟨⟨x0, x1, x2, x3⟩, _⟩ := four T6
    obtain ⟨⟨y0, y1, y2, y3⟩, _⟩ := four T7
    exact ⟨x0, x1, x2, x3, y0, y1, y2, y3⟩
  have QP : Hid (Calls Try.prog 30 #[.pointer (some ⟨w.heap.size + 2, 0, none⟩)] V3.drew fun e w4 => ∃ (hs : List Tu) (A1 : Option Addr) (c1 : Nat), hs.length ≤ 4 ∧ e = .returned (.slice A1 hs.length c1) ∧ w4.ownsRow (w.heap.size + 2) 36 3 (.slice A1 hs.length c1) hs.length (cellsT hs) ∧ Holds w4 (w.heap.size) #[.int .i64 0, .int .i64 0, .int .i64 0, .int .i64 0] 25 ∧ Holds w4 (w.heap.size + 1) #[.int .i64 0, .int .i64 0, .int .i64 0, .int .i64 0] 25 ∧ Holds w4 ga #[.int .i64 l1, .int .i64 a1, .int .i64 b1, .int .i64 g1] 25 ∧ Holds w4 gb #[.int .i64 l2, .int .i64 a2, .int .i64 b2, .int .i64 g2] 25 ∧ Below w.heap.size w w4) := by
    have hd : V3.drew.heap.size = V3.heap.size := rfl
    refine Lib.hid ((halls V3.drew _ A n cap (hs3.kept (row := none) ⟨rfl, rfl, rfl, Nat.le_refl _, fun _ _ _ => rfl⟩ (fun g e => by cases e))).mono ?_)
    rintro e w4 ⟨hs, A1, c1, h4, he, ho, hs4, hg4⟩
    exact ⟨hs, A1, c1, h4, he, own_base ho (by rw [hd]; omega), hgrown (w := V3.drew) U2 hg4 (by omega), hgrown (w := V3.drew) U3 hg4 (by omega), hgrown (w := V3.drew) T6 hg4 (by omega), hgrown (w := V3.drew) T7 hg4 (by omega), (hbx3.drew).grown hg4 (by rw [hd]; omega) (fun k e => by injection e with e; omega)⟩
  have HF : ∀ (W : World) (k : Nat), ¬ ga = k → ¬ gb = k → (W.cell? ⟨ga, 0, none⟩ = some (.int .i64 l1) ∧ W.cell? ⟨ga, 1, none⟩ = some (.int .i64 a1) ∧ W.cell? ⟨ga, 2, none⟩ = some (.int .i64 b1) ∧ W.cell? ⟨ga, 3, none⟩ = some (.int .i64 g1) ∧ W.cell? ⟨gb, 0, none⟩ = some (.int .i64 l2) ∧ W.cell? ⟨gb, 1, none⟩ = some (.int .i64 a2) ∧ W.cell? ⟨gb, 2, none⟩ = some (.int .i64 b2) ∧ W.cell? ⟨gb, 3, none⟩ = some (.int .i64 g2)) → ∀ x0 x1 x2 x3, (((((W.setCell ⟨k, 0, none⟩ x0).setCell ⟨k, 1, none⟩ x1).setCell ⟨k, 2, none⟩ x2).setCell ⟨k, 3, none⟩ x3).cell? ⟨ga, 0, none⟩ = some (.int .i64 l1) ∧ ((((W.setCell ⟨k, 0, none⟩ x0).setCell ⟨k, 1, none⟩ x1).setCell ⟨k, 2, none⟩ x2).setCell ⟨k, 3, none⟩ x3).cell? ⟨ga, 1, none⟩ = some (.int .i64 a1) ∧ ((((W.setCell ⟨k, 0, none⟩ x0).setCell ⟨k, 1, none⟩ x1).setCell ⟨k, 2, none⟩ x2).setCell ⟨k, 3, none⟩ x3).cell? ⟨ga, 2, none⟩ = some (.int .i64 b1) ∧ ((((W.setCell ⟨k, 0, none⟩ x0).setCell ⟨k, 1, none⟩ x1).setCell ⟨k, 2, none⟩ x2).setCell ⟨k, 3, none⟩ x3).cell? ⟨ga, 3, none⟩ = some (.int .i64 g1) ∧ ((((W.setCell ⟨k, 0, none⟩ x0).setCell ⟨k, 1, none⟩ x1).setCell ⟨k, 2, none⟩ x2).setCell ⟨k, 3, none⟩ x3).cell? ⟨gb, 0, none⟩ = some (.int .i64 l2) ∧ ((((W.setCell ⟨k, 0, none⟩ x0).setCell ⟨k, 1, none⟩ x1).setCell ⟨k, 2, none⟩ x2).setCell ⟨k, 3, none⟩ x3).cell? ⟨gb, 1, none⟩ = some (.int .i64 a2) ∧ ((((W.setCell ⟨k, 0, none⟩ x0).setCell ⟨k, 1, none⟩ x1).setCell ⟨k, 2, none⟩ x2).setCell ⟨k, 3, none⟩ x3).cell? ⟨gb, 2, none⟩ = some (.int .i64 b2) ∧ ((((W.setCell ⟨k, 0, none⟩ x0).setCell ⟨k, 1, none⟩ x1).setCell ⟨k, 2, none⟩ x2).setCell ⟨k, 3, none⟩ x3).cell? ⟨gb, 3, none⟩ = some (.int .i64 g2)) := by
    rintro W k h2 h3 ⟨s1, s2, s3, s4, s5, s6, s7, s8⟩ x0 x1 x2 x3
    exact ⟨far_cell (far_cell (far_cell (far_cell s1 h2) h2) h2) h2, far_cell (far_cell (far_cell (far_cell s2 h2) h2) h2) h2, far_cell (far_cell (far_cell (far_cell s3 h2) h2) h2) h2, far_cell (far_cell (far_cell (far_cell s4 h2) h2) h2) h2, far_cell (far_cell (far_cell (far_cell s5 h3) h3) h3) h3, far_cell (far_cell (far_cell (far_cell s6 h3) h3) h3) h3, far_cell (far_cell (far_cell (far_cell s7 h3) h3) h3) h3, far_cell (far_cell (far_cell (far_cell s8 h3) h3) h3) h3⟩
  clear U2 U3 T6 T7 hbx3 hs3
  go_region_held3 (fun w' => w'.cell? ⟨ga, 0, none⟩ = some (.int .i64 l1) ∧ w'.cell? ⟨ga, 1, none⟩ = some (.int .i64 a1) ∧ w'.cell? ⟨ga, 2, none⟩ = some (.int .i64 b1) ∧ w'.cell? ⟨ga, 3, none⟩ = some (.int .i64 g1) ∧ w'.cell? ⟨gb, 0, none⟩ = some (.int .i64 l2) ∧ w'.cell? ⟨gb, 1, none⟩ = some (.int .i64 a2) ∧ w'.cell? ⟨gb, 2, none⟩ = some (.int .i64 b2) ∧ w'.cell? ⟨gb, 3, none⟩ = some (.int .i64 g2)) (first | (with_reducible exact HF _ _ (by assumption) (by assumption) (by assumption) _ _ _ _) | (with_reducible assumption) | (with_reducible exact HS)) (first | (go_at_call 30; refine (QP.out).mono ?_; rintro e w4 ⟨hs, A1, c1, h4, rfl, ho, U2, U3, T6, T7, hb4⟩; have F2 := four U2; have F3 := four U3; have F6 := four T6; have F7 := four T7; have HS5 : w4.cell? ⟨ga, 0, none⟩ = some (.int .i64 l1) ∧ w4.cell? ⟨ga, 1, none⟩ = some (.int .i64 a1) ∧ w4.cell? ⟨ga, 2, none⟩ = some (.int .i64 b1) ∧ w4.cell? ⟨ga, 3, none⟩ = some (.int .i64 g1) ∧ w4.cell? ⟨gb, 0, none⟩ = some (.int .i64 l2) ∧ w4.cell? ⟨gb, 1, none⟩ = some (.int .i64 a2) ∧ w4.cell? ⟨gb, 2, none⟩ = some (.int .i64 b2) ∧ w4.cell? ⟨gb, 3, none⟩ = some (.int .i64 g2) := ⟨F6.1.1, F6.1.2.1, F6.1.2.2.1, F6.1.2.2.2, F7.1.1, F7.1.2.1, F7.1.2.2.1, F7.1.2.2.2⟩))
  clear F2 F3 F6 F7 HS5 HS QP HF n20 n21 n30 n31
  have X2 := (Blk.Holds.far (Blk.Holds.far (Blk.Holds.far (Blk.Holds.far (set4 U2 (.int .i64 l1) (.int .i64 a1) (.int .i64 b1) (.int .i64 g1)) ⟨w.heap.size + 1, 0, none⟩ (.int .i64 l2) (show ¬ w.heap.size = w.heap.size + 1 by omega)) ⟨w.heap.size + 1, 1, none⟩ (.int .i64 a2) (show ¬ w.heap.size = w.heap.size + 1 by omega)) ⟨w.heap.size + 1, 2, none⟩ (.int .i64 b2) (show ¬ w.heap.size = w.heap.size + 1 by omega)) ⟨w.heap.size + 1, 3, none⟩ (.int .i64 g2) (show ¬ w.heap.size = w.heap.size + 1 by omega))
  have X3 := set4 (Blk.Holds.far (Blk.Holds.far (Blk.Holds.far (Blk.Holds.far U3 ⟨w.heap.size, 0, none⟩ (.int .i64 l1) (show ¬ w.heap.size + 1 = w.heap.size by omega)) ⟨w.heap.size, 1, none⟩ (.int .i64 a1) (show ¬ w.heap.size + 1 = w.heap.size by omega)) ⟨w.heap.size, 2, none⟩ (.int .i64 b1) (show ¬ w.heap.size + 1 = w.heap.size by omega)) ⟨w.heap.size, 3, none⟩ (.int .i64 g1) (show ¬ w.heap.size + 1 = w.heap.size by omega)) (.int .i64 l2) (.int .i64 a2) (.int .i64 b2) (.int .i64 g2)
  have XB := ((((((((hb4.setCell (p := ⟨w.heap.size, 0, none⟩) (show w.heap.size ≤ w.heap.size by omega) (.int .i64 l1)).setCell (p := ⟨w.heap.size, 1, none⟩) (show w.heap.size ≤ w.heap.size by omega) (.int .i64 a1)).setCell (p := ⟨w.heap.size, 2, none⟩) (show w.heap.size ≤ w.heap.size by omega) (.int .i64 b1)).setCell (p := ⟨w.heap.size, 3, none⟩) (show w.heap.size ≤ w.heap.size by omega) (.int .i64 g1)).setCell (p := ⟨w.heap.size + 1, 0, none⟩) (show w.heap.size ≤ w.heap.size + 1 by omega) (.int .i64 l2)).setCell (p := ⟨w.heap.size + 1, 1, none⟩) (show w.heap.size ≤ w.heap.size + 1 by omega) (.int .i64 a2)).setCell (p := ⟨w.heap.size + 1, 2, none⟩) (show w.heap.size ≤ w.heap.size + 1 by omega) (.int .i64 b2)).setCell (p := ⟨w.heap.size + 1, 3, none⟩) (show w.heap.size ≤ w.heap.size + 1 by omega) (.int .i64 g2))
  have XO := Lib.hid (own_base (RoomRes.own_set (RoomRes.own_set (RoomRes.own_set (RoomRes.own_set (RoomRes.own_set (RoomRes.own_set (RoomRes.own_set (RoomRes.own_set (ho) (w.heap.size) 0 (.int .i64 l1) (by omega)) (w.heap.size) 1 (.int .i64 a1) (by omega)) (w.heap.size) 2 (.int .i64 b1) (by omega)) (w.heap.size) 3 (.int .i64 g1) (by omega)) (w.heap.size + 1) 0 (.int .i64 l2) (by omega)) (w.heap.size + 1) 1 (.int .i64 a2) (by omega)) (w.heap.size + 1) 2 (.int .i64 b2) (by omega)) (w.heap.size + 1) 3 (.int .i64 g2) (by omega)) (show w.heap.size ≤ w.heap.size + 2 by omega))
  obtain ⟨⟨p0, p1, p2, p3⟩, _⟩ := four X2
  obtain ⟨⟨q0, q1, q2, q3⟩, _⟩ := four X3
  clear X2 X3 U2 U3 T6 T7 ho
  go_wp2_with fail
  refine bodyPost_ret (v := .tuple #[.agg #[.int .i64 l1, .int .i64 a1, .int .i64 b1, .int .i64 g1], .agg #[.int .i64 l2, .int .i64 a2, .int .i64 b2, .int .i64 g2], .slice A1 hs.length c1]) (by simp [results, Try.results7, go_sem, p0, p1, p2, p3, q0, q1, q2, q3]) rfl ⟨l1, a1, b1, g1, l2, a2, b2, g2, hs, A1, c1, hl1, hl2, h4, rfl, XO.out, XB⟩
end Go.Proofs.Ytcfoleiooohbhaa.DrawLoan
