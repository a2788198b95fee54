/-
  What the model's TreeEdges does, as a contract: the pairs of triangles that share a side, in new memory.
-/
import Derived.Test.YtkcodmafakjkfaaGreatTreeModel
import Derived.Test.YtkcodmafakjkfaaGreatEdgeMath
import Derived.Test.YtkcodmafakjkfaaGreatNest
namespace Go.Proofs.YtkcodmafakjkfaaGreat.EdgeSpec
open Go.RowKit Own PointMath WallMath RoomMath Pts Blk AreaMath PlaceMath FloorMath LineMath CutsMath SightMath DiagMath TriMath TrisMath TreeMath Ints Tup3 TriRow TrisModel TreeSpec EdgeMath
open PointOk (ret_bool ret_i64 below1 below2 below3)
open Nest (GivesN)

set_option maxRecDepth 100000 in
set_option maxHeartbeats 6400000 in
theorem treeEdges (A : Option Addr) (n cap : Nat) (w : World) (ps : List (Int × Int)) (hl : ps.length = n) (hn : n ≤ 1048576) (hp : PtsAt w w.heap.size A ps) :
    Calls Tryz.prog 43 #[.agg #[.slice A n cap]] w (GivesN w (edgesL ps)) := by
  obtain ⟨r, hr⟩ : ∃ r, edgesL ps = r := ⟨_, rfl⟩
  have HR := Lib.hid hr
  rw [hr]
  clear hr
  have HE : Hid (edgesTo (besideB (trisL ps)) (trisL ps).length (trisL ps).length = r) := Lib.hid (by rw [← HR.out]; rfl)
  have HB : Hid (∀ i k, i < (trisL ps).length → k < (trisL ps).length → decide (common (tt (trisL ps) i) (tt (trisL ps) k) = 2) = besideB (trisL ps) i k) := Lib.hid (fun i k hi hk => beside_symm hi hk)
  have QT : Hid (∀ W h, _) := Lib.hid fun W h => trianglesOf A n cap W ps hl hn h
  have hle := TrisLand.trisL_le ps
  unfold GivesC at QT
  generalize trisL ps = L at *
  obtain ⟨m, hm⟩ : ∃ m, L.length = m := ⟨_, rfl⟩
  rw [hm] at QT HE HB hle
  obtain ⟨F, hF⟩ : ∃ F, besideB L = F := ⟨_, rfl⟩
  rw [hF] at HE HB
  clear HR hF
  go_enter Tryz.func43, Tryz.ntmps43
  go_wp2_with fail
  have X0 := Pts.boxR w (.slice A n cap) 30 (k := w.heap.size) (by simp)
  have b0 := PointOk.below1 w (Obj.cells #[.slice A n cap] 30)
  have HO : ∀ W W' : World, (Pts.BoxR W (w.heap.size) (.slice A n cap) ∧ PtsAt W w.heap.size A ps ∧ Below w.heap.size w W) → Below W.heap.size W W' → (Pts.BoxR W' (w.heap.size) (.slice A n cap) ∧ PtsAt W' w.heap.size A ps ∧ Below w.heap.size w W') := fun W W' ⟨h0, x0, hb⟩ h => ⟨h0.later h, x0.later (h.mono hb.size), hb.trans (h.mono hb.size)⟩
  have hz0_ : Hid (((w.alloc (Obj.cells #[.slice A n cap] 30))).heap.size = w.heap.size + 1) := Lib.hid (by simp)
  have Y0 : PtsAt ((w.alloc (Obj.cells #[.slice A n cap] 30))) w.heap.size A ps := hp.later b0
  generalize (w.alloc (Obj.cells #[.slice A n cap] 30)) = w0 at X0 Y0 b0 hz0_ ⊢
  have S0 := (⟨X0, Y0, b0⟩ : Pts.BoxR w0 (w.heap.size) (.slice A n cap) ∧ PtsAt w0 w.heap.size A ps ∧ Below w.heap.size w w0)
  clear X0 Y0 b0
  obtain ⟨⟨_, _⟩, _, _⟩ := id S0
  have hz1 : w.heap.size ≤ w0.heap.size := S0.2.2.size
  have hb0 := below1 w0 (Obj.cells #[] 43)
  have N0 := (Nest.Nest.empty w0).low hz1
  rw [hz0_.out] at N0
  replace S0 := HO _ _ S0 hb0
  have N0 : Nest.Nest (w0.alloc (Obj.cells #[] 43)) w.heap.size (w0.alloc (Obj.cells #[] 43)).heap.size (.slice (some ⟨w.heap.size + 1, 0, none⟩) 0 0) [] := N0
  generalize w0.alloc (Obj.cells #[] 43) = w1 at *
  refine (QT.out _ (S0.2.1.wide S0.2.2.size)).mono ?_
  rintro e w2 ⟨A2, c2, rfl, h4, hb_⟩
  have hz4 := S0.2.2.size
  have N2 := Lib.hid ((N0.below (Nat.le_refl _) hb_).high hb_.size)
  replace S0 := HO _ _ S0 hb_
  have h4 := Lib.hid (own_base h4 hz4)
  have B2 := S0.2.2
  clear hb_ QT S0 HO N0 hb0 hz1 hz4
  go_wp2_with fail
  go_loopw [3, 5] (fun v q wr => ∃ i : Nat, i ≤ m ∧ q = .int .i64 i ∧ Hid (Nest.Nest wr w.heap.size wr.heap.size v (edgesTo F m i)) ∧ Hid (wr.ownsRow w.heap.size 65 3 (.slice A2 m c2) m (cellsT L)) ∧ Below w.heap.size w wr)
    (fun _ q _ => m - (intOf q).toNat)
  case atStart => exact ⟨0, Nat.zero_le _, rfl, N2, h4, B2⟩
  case round =>
    clear N2 h4 B2
    obtain ⟨i, him, rfl, HN, h4, B2⟩ := hrel
    by_cases hlt : i < m
    rotate_left
    · obtain rfl : m = i := by omega
      rw [HE.out] at HN
      obtain ⟨A1, c1, rfl⟩ := HN.out.shape
      go_wp2_with fail
      go_ret
      exact ⟨A1, c1, rfl, HN.out, B2⟩
    have i0 : (0 : Int) ≤ (i : Int) := by omega
    have i1 : (i : Int) < (m : Int) := by omega
    have u1 : IntKind.i64.wrap ((i : Int) + 1) = (i : Int) + 1 := IntWalk.i64_in _ (by omega)
    have qi := tt_at (ps := L) (k := i) (by omega)
    have hlen := edgesTo_len F m i
    have him2 : i * m ≤ 121 := Nat.le_trans (Nat.mul_le_mul (show i ≤ 11 by omega) hle) (by omega)
    have HS : Hid (edgesTo F m (i + 1) = edgesTo F m i ++ edgeRow (F i) i m) := Lib.hid rfl
    have HS0 : Hid (edgesTo F m i = edgesTo F m i ++ edgeRow (F i) i (i + 1)) := Lib.hid (by rw [edgeRow_low _ _ _ (Nat.le_refl _), List.append_nil])
    have HBi := Lib.hid (fun k hk => HB.out i k hlt hk)
    obtain ⟨a, b, c, ha⟩ : ∃ a b c, tt L i = (a, b, c) := ⟨_, _, _, rfl⟩
    rw [ha] at qi HBi
    rw [HS0.out] at HN
    generalize F i = f at *
    generalize edgesTo F m i = pre at *
    clear HE HB ha HS0
    go_wp2_with fail
    go_loopw [3, 6] (fun v q wr => ∃ k : Nat, i + 1 ≤ k ∧ k ≤ m ∧ q = .int .i64 k ∧ Hid (Nest.Nest wr w.heap.size wr.heap.size v (pre ++ edgeRow f i k)) ∧ Hid (wr.ownsRow w.heap.size 65 3 (.slice A2 m c2) m (cellsT L)) ∧ Below w.heap.size w wr)
      (fun _ q _ => m - (intOf q).toNat)
    case atStart => exact ⟨i + 1, Nat.le_refl _, by omega, by go_num, HN, h4, B2⟩
    case round =>
      clear HN h4 B2
      obtain ⟨k, hik, hkm, rfl, HN, h4, B2⟩ := hrel
      rename World => wi
      by_cases hst : k < m
      rotate_left
      · obtain rfl : m = k := by omega
        rw [← HS.out] at HN
        clear HS
        go_wp2_with fail
        first
          | exact ⟨⟨i + 1, by omega, by go_num, HN, h4, B2⟩, by simp [intOf]; omega⟩
          | (go_roundw <;> first | exact ⟨i + 1, by omega, by go_num, HN, h4, B2⟩ | (simp [intOf]; omega))
      have k0 : (0 : Int) ≤ (k : Int) := by omega
      have k1 : (k : Int) < (m : Int) := by omega
      have qk := tt_at (ps := L) (k := k) (by omega)
      have hrl := edgeRow_len f i k
      have HR : Hid (edgeRow f i (k + 1) = if f k then edgeRow f i k ++ [((i : Int), (k : Int))] else edgeRow f i k) := Lib.hid (by
        conv => lhs; unfold edgeRow
        rw [decide_eq_true (show i < k by omega), Bool.true_and])
      have HFk := HBi.out k hst
      obtain ⟨x, y, z, hz⟩ : ∃ x y z, tt L k = (x, y, z) := ⟨_, _, _, rfl⟩
      rw [hz] at qk HFk
      have QS : Hid (∀ w, _) := Lib.hid fun w => l20Common a b c x y z w
      generalize common (a, b, c) (x, y, z) = cm at *
      have T3 := ts_own h4.out
      obtain ⟨ad, eA, bA, pI⟩ := T3.get qi
      subst eA
      obtain ⟨ad3, e3, _, pK⟩ := T3.get qk
      injection e3 with e3
      subst e3
      have hll : (pre ++ edgeRow f i k).length ≤ 1048575 := by rw [List.length_append]; omega
      have hzB : w.heap.size ≤ wi.heap.size := B2.size
      clear T3 qk hz HBi HS
      have HO : ∀ W W' : World, (TAt W ad i a b c ∧ TAt W ad k x y z ∧ Below wi.heap.size wi W) → Below W.heap.size W W' → (TAt W' ad i a b c ∧ TAt W' ad k x y z ∧ Below wi.heap.size wi W') := fun W W' ⟨x0, x1, hb⟩ h => ⟨x0.later bA (h.mono hb.size), x1.later bA (h.mono hb.size), hb.trans (h.mono hb.size)⟩
      have S0 : TAt wi ad i a b c ∧ TAt wi ad k x y z ∧ Below wi.heap.size wi wi := ⟨pI, pK, Below.refl _ _⟩
      clear pI pK
      obtain ⟨⟨_, _, _⟩, ⟨_, _, _⟩, _⟩ := id S0
      go_wp2_with fail
      refine Settle.region (fun W => TAt W ad i a b c ∧ TAt W ad k x y z ∧ Below wi.heap.size wi W) (by kernel_rfl) (by kernel_rfl) (by kernel_rfl) (by kernel_rfl) (HO _ _ S0 ((Below.refl _ _).drew)) ?_
      clear S0
      repeat (first
        | (refine Settle.Settles.off (by rfl) ?_; simp only [Act.put, List.setIfInBounds_toArray, List.set_cons_zero, List.set_cons_succ])
        | (refine Settle.Settles.quiet (v := ?_) (by rfl) ?_ ?_
           rotate_left
           · (intro W hS; obtain ⟨⟨_, _, _⟩, ⟨_, _, _⟩, _⟩ := hS; go_simp; with_reducible rfl)
           simp only [Act.put, List.setIfInBounds_toArray, List.set_cons_zero, List.set_cons_succ])
        | (refine Settle.Settles.call (v := ?_) (f := ?_) (args := ?_) (by rfl) ?_ ?_ ?_
           rotate_left 3
           · (intro W; go_simp; refine ⟨?_, ?_⟩ <;> with_reducible rfl)
           · (intro W hS; first | (go_at_call 81; (with_reducible refine (QS.out _).mono ?_); rintro e W1 ⟨rfl, hb⟩; refine ⟨?_, HO _ _ hS hb⟩; with_reducible rfl))
           simp only [Act.put, List.setIfInBounds_toArray, List.set_cons_zero, List.set_cons_succ]))
      refine Settle.Settles.nil ?_
      intro wr S0
      obtain ⟨⟨_, _, _⟩, ⟨_, _, _⟩, _⟩ := id S0
      have HN3 := Lib.hid ((HN.out.below (Nat.le_refl _) S0.2.2).high S0.2.2.size)
      have h43 := Lib.hid (own_below h4.out S0.2.2)
      have B3 := B2.trans (S0.2.2.mono hzB)
      have hz3 := Nat.le_trans hzB S0.2.2.size
      clear HN h4 B2 S0
      by_cases e2 : cm = 2
      · have g2 : (cm == 2) = true := by simpa using e2
        rw [← HFk, decide_eq_true e2, if_pos rfl] at HR
        have HP : Hid ((pre ++ edgeRow f i k) ++ [((i : Int), (k : Int))] = pre ++ edgeRow f i (k + 1)) := Lib.hid (by rw [HR.out, List.append_assoc])
        generalize pre ++ edgeRow f i k = cur at *
        clear HR HFk e2
        obtain ⟨Av, cv, rfl⟩ := HN3.out.shape
        go_wp2_with (at_builtin; refine Nest.append_pair _ (by rfl) _ _ (by rfl) w.heap.size _ cur (by rfl) HN3.out (i : Int) (k : Int) (by rfl) hll hz3 ?_)
        intro v5 w5 h5 hg5
        obtain ⟨gs, _, ho5, _⟩ := HN3.out
        have hb5 : Below w.heap.size wr w5 := (Below.refl _ _).grown hg5 hz3 (fun g hg => (ho5.lt g hg).1)
        have h4q := Lib.hid (kept_apart h43.out hg5 (rows_ne h43.out ho5 (by decide)))
        rw [HP.out] at h5
        have h5 := Lib.hid h5
        have B5 := B3.trans hb5
        clear hg5 hb5 ho5 HN3 h43 B3 HP
        go_wp2_with fail
        first
          | exact ⟨⟨k + 1, by omega, by omega, by go_num, h5, h4q, B5⟩, by simp [intOf]; omega⟩
          | (go_roundw <;> first | exact ⟨k + 1, by omega, by omega, by go_num, h5, h4q, B5⟩ | (simp [intOf]; omega))
      · have g2 : (cm == 2) = false := by simpa using e2
        rw [← HFk, decide_eq_false e2, if_neg (by simp)] at HR
        rw [← HR.out] at HN3
        clear HR HFk e2
        go_wp2_with fail
        first
          | exact ⟨⟨k + 1, by omega, by omega, by go_num, HN3, h43, B3⟩, by simp [intOf]; omega⟩
          | (go_roundw <;> first | exact ⟨k + 1, by omega, by omega, by go_num, HN3, h43, B3⟩ | (simp [intOf]; omega))
end Go.Proofs.YtkcodmafakjkfaaGreat.EdgeSpec

