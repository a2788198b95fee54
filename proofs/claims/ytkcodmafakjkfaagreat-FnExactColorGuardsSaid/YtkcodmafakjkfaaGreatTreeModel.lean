/-
  What the model's NeighborsOf and LeafTriangles do, as contracts: what each answers; new memory alone is written.
-/
import Derived.Test.YtkcodmafakjkfaaGreatTreeSpec
import Derived.Test.YtkcodmafakjkfaaGreatEars
import Derived.Test.YtkcodmafakjkfaaGreatConcatI
namespace Go.Proofs.YtkcodmafakjkfaaGreat.TreeModel
open Go.RowKit Own PointMath WallMath RoomMath Pts Blk AreaMath PlaceMath FloorMath LineMath CutsMath SightMath DiagMath TriMath TrisMath TreeMath Ints Tup3 TriRow TrisModel TreeSpec
open PointOk (ret_bool ret_i64 below1 below2 below3)

theorem append_int (w : World) {ops : Array Oper} {rest : List Oper} {o : Oper} {a : Act} {Q : Exit → Act → World → Prop} (hgd : o.guard = none) (s x : Operand)
    (ho : o.op = .call { callee := .builtin .append, args := #[s, x], argTypes := #[43, 43] })
    (B : Nat) (v : Value) (n : Nat) (xs : List Int) (hs : a.eval s = v) (hown : w.ownsRow B 3 1 v n (icells xs))
    (z : Int) (hx : a.eval x = .slice (some ⟨w.heap.size, 0, none⟩) 1 1) (hN : n ≤ 1048575) (hB : B ≤ w.heap.size)
    (h : ∀ v' w', w'.ownsRow B 3 1 v' (n + 1) (icells (xs ++ [z])) → w.grownBy w' v.ownBlock → wpList Tryz.prog ops Q rest (a.put o.dst v') w') :
    wpList Tryz.prog ops Q (o :: rest) a (w.alloc (Obj.cells #[.int .i64 z] 3)) := by
  have hb : Below w.heap.size w (w.alloc (Obj.cells #[.int .i64 z] 3)) := below1 w _
  have hown1 := own_below hown hb
  have hq : IntsAt (w.alloc (Obj.cells #[.int .i64 z] 3)) (w.alloc (Obj.cells #[.int .i64 z] 3)).heap.size (some ⟨w.heap.size, 0, none⟩) [z] := by
    intro j hj
    simp at hj
    subst hj
    exact ⟨_, rfl, by simp, by simp [Addr.add]⟩
  refine ConcatI.append_ints _ hgd s x ho B v n (icells xs) hs hown1 (some ⟨w.heap.size, 0, none⟩) 1 1 [z] rfl hx hq (by omega) (by simp; omega) ?_
  intro v' w' h1 hg
  exact h v' w' (by rw [ConcatI.icells_app]; exact h1) (grown_trans (grown_of_below hb _) hg)

set_option maxRecDepth 100000 in
set_option maxHeartbeats 3200000 in
theorem neighborsOf (A : Option Addr) (n cap : Nat) (k : Int) (w : World) (ps : List (Int × Int)) (hl : ps.length = n) (hn : n ≤ 1048576) (hp : PtsAt w w.heap.size A ps) :
    Calls Tryz.prog 41 #[.agg #[.slice A n cap], .int .i64 k] w (GivesI 3 w (neighborsL ps k)) := by
  obtain ⟨r, hr⟩ : ∃ r, neighborsL ps k = r := ⟨_, rfl⟩
  have HR := Lib.hid hr
  rw [hr]
  clear hr
  have HE0 : Hid (¬ (0 ≤ k ∧ k < ((trisL ps).length : Int)) → r = []) := Lib.hid (fun h => by rw [← HR.out]; unfold neighborsL; rw [if_neg h])
  have HE1 : Hid (0 ≤ k ∧ k < ((trisL ps).length : Int) → thatTo (besideB (trisL ps) k.toNat) (trisL ps).length = r) := Lib.hid (fun h => by rw [← HR.out]; unfold neighborsL nbrsL; rw [if_pos h])
  have QT : Hid (∀ W h, _) := Lib.hid fun W h => trianglesOf A n cap W ps hl hn h
  have hle := TrisLand.trisL_le ps
  unfold GivesC at QT
  generalize trisL ps = L at *
  obtain ⟨m, hm⟩ : ∃ m, L.length = m := ⟨_, rfl⟩
  rw [hm] at QT HE0 HE1 hle
  clear HR
  go_enter Tryz.func41, Tryz.ntmps41
  go_wp2_with fail
  have X0 := Pts.boxR w (.slice A n cap) 30 (k := w.heap.size) (by simp)
  have b0 := PointOk.below1 w (Obj.cells #[.slice A n cap] 30)
  have HO : ∀ W W' : World, (Pts.BoxR W (w.heap.size) (.slice A n cap) ∧ PtsAt W w.heap.size A ps ∧ Below w.heap.size w W) → Below W.heap.size W W' → (Pts.BoxR W' (w.heap.size) (.slice A n cap) ∧ PtsAt W' w.heap.size A ps ∧ Below w.heap.size w W') := fun W W' ⟨h0, x0, hb⟩ h => ⟨h0.later h, x0.later (h.mono hb.size), hb.trans (h.mono hb.size)⟩
  have hz0_ : Hid (((w.alloc (Obj.cells #[.slice A n cap] 30))).heap.size = w.heap.size + 1) := Lib.hid (by simp)
  have Y0 : PtsAt ((w.alloc (Obj.cells #[.slice A n cap] 30))) w.heap.size A ps := hp.later b0
  generalize (w.alloc (Obj.cells #[.slice A n cap] 30)) = w0 at X0 Y0 b0 hz0_ ⊢
  have S0 := (⟨X0, Y0, b0⟩ : Pts.BoxR w0 (w.heap.size) (.slice A n cap) ∧ PtsAt w0 w.heap.size A ps ∧ Below w.heap.size w w0)
  clear X0 Y0 b0
  obtain ⟨⟨_, _⟩, _, _⟩ := id S0
  have hz1 : w.heap.size ≤ w0.heap.size := S0.2.2.size
  have h3 := own_base (own_empty w0 3 1) hz1
  rw [hz0_.out] at h3
  have hb0 := below1 w0 (Obj.cells #[] 3)
  replace S0 := HO _ _ S0 hb0
  generalize w0.alloc (Obj.cells #[] 3) = w1 at *
  refine (QT.out _ (S0.2.1.wide S0.2.2.size)).mono ?_
  rintro e w2 ⟨A2, c2, rfl, h4, hb_⟩
  have hz4 := S0.2.2.size
  replace S0 := HO _ _ S0 hb_
  replace h3 := own_below h3 hb_
  have T2 := ts_own h4
  have h4 := own_base h4 hz4
  clear hb_ QT hz1 hb0
  by_cases hin : 0 ≤ k ∧ k < (m : Int)
  rotate_left
  · have E := Lib.hid (HE0.out hin)
    have hd : decide (0 ≤ k ∧ k ≤ (m : Int) - 1) = false := decide_eq_false (by omega)
    have u1 : IntKind.i64.wrap ((m : Int) - 1) = (m : Int) - 1 := IntWalk.i64_in _ (by omega)
    have h3 := Lib.hid h3
    have Q1 : Hid (∀ w, _) := Lib.hid fun w => PointOk.l01In k 0 ((m : Int) - 1) w
    rw [hd] at Q1
    clear HE0 HE1 hl hm hd hin T2 h4 hz4
    go_wp2_with fail
    go_loopw [5, 7] (fun v q wr => v = .slice (some ⟨w.heap.size + 1, 0, none⟩) 0 0 ∧ q = .int .i64 0 ∧ wr = w2) (fun _ _ _ => 0)
    case atStart => exact ⟨rfl, rfl, rfl⟩
    case round =>
      obtain ⟨rfl, rfl, rfl⟩ := hrel
      by_cases h0 : 0 < m
      · have h0i : (0 : Int) < (m : Int) := by omega
        go_wp2_with fail
        refine (Q1.out _).mono ?_
        rintro e w_ ⟨rfl, rfl⟩
        go_wp2_with fail
        go_ret
        exact ⟨some ⟨w.heap.size + 1, 0, none⟩, 0, by rw [E.out]; rfl, by rw [E.out]; exact h3.out, S0.2.2⟩
      · have h0i : ¬ (0 : Int) < (m : Int) := by omega
        go_wp2_with fail
        go_ret
        exact ⟨some ⟨w.heap.size + 1, 0, none⟩, 0, by rw [E.out]; rfl, by rw [E.out]; exact h3.out, S0.2.2⟩
  obtain ⟨k, rfl⟩ := Int.eq_ofNat_of_zero_le hin.1
  have hkm : k < m := by omega
  have HE := Lib.hid (HE1.out hin)
  rw [Int.toNat_natCast] at HE
  have u1 : IntKind.i64.wrap ((m : Int) - 1) = (m : Int) - 1 := IntWalk.i64_in _ (by omega)
  have Q1 : Hid (∀ w, _) := Lib.hid fun w => PointOk.l01In (k : Int) 0 ((m : Int) - 1) w
  rw [decide_eq_true (show 0 ≤ (k : Int) ∧ (k : Int) ≤ (m : Int) - 1 by omega)] at Q1
  have qk := tt_at (ps := L) (k := k) (by omega)
  have HB : Hid (∀ i, besideB L k i = decide (common (tt L i) (tt L k) = 2)) := Lib.hid (fun _ => rfl)
  have HS : Hid (besideB L k k = false) := Lib.hid (beside_self L k)
  obtain ⟨x, y, z, hz⟩ : ∃ x y z, tt L k = (x, y, z) := ⟨_, _, _, rfl⟩
  rw [hz] at qk HB
  replace hz := Lib.hid hz
  obtain ⟨F, hF⟩ : ∃ F, besideB L k = F := ⟨_, rfl⟩
  rw [hF] at HE HB HS
  obtain ⟨ad, eA, bA, pA⟩ := T2.get qk
  subst eA
  have k0 : (0 : Int) ≤ (k : Int) := by omega
  have k1 : (k : Int) < (m : Int) := by omega
  have hz2 := S0.2.2.size
  have B2 := S0.2.2
  clear qk hF HE0 HE1 hin pA bA
  have HO : ∀ W W' : World, (Hid (W.ownsRow (w.heap.size) 65 3 (.slice (some ad) m c2) m (cellsT L)) ∧ w.heap.size ≤ W.heap.size ∧ Below w.heap.size w W) → Below W.heap.size W W' → (Hid (W'.ownsRow (w.heap.size) 65 3 (.slice (some ad) m c2) m (cellsT L)) ∧ w.heap.size ≤ W'.heap.size ∧ Below w.heap.size w W') := fun W W' ⟨x0, x1, hb⟩ h => ⟨Lib.hid (own_below (x0).out h), Nat.le_trans x1 h.size, hb.trans (h.mono hb.size)⟩
  have S1 : Hid (w2.ownsRow (w.heap.size) 65 3 (.slice (some ad) m c2) m (cellsT L)) ∧ w.heap.size ≤ w2.heap.size ∧ Below w.heap.size w w2 := ⟨Lib.hid h4, hz2, B2⟩
  clear T2 S0 h4 hz2 B2 hz4
  have S0 := S1
  clear S1
  go_wp2_with fail
  go_loopw [5, 7] (fun v q wr => ∃ i : Nat, i ≤ m ∧ q = .int .i64 i ∧ wr.ownsRow (w.heap.size) 3 1 v (thatTo F i).length (icells (thatTo F i)) ∧ (Hid (wr.ownsRow (w.heap.size) 65 3 (.slice (some ad) m c2) m (cellsT L)) ∧ w.heap.size ≤ wr.heap.size ∧ Below w.heap.size w wr))
    (fun _ q _ => m - (intOf q).toNat)
  case atStart => exact ⟨0, Nat.zero_le _, rfl, h3, S0⟩
  case round =>
    clear S0 h3
    obtain ⟨i, him, rfl, hown, S0⟩ := hrel
    by_cases hlt : i < m
    rotate_left
    · obtain rfl : m = i := by omega
      rw [HE.out] at hown
      obtain ⟨A1, c1, rfl⟩ := own_shape hown
      have h2 := Lib.hid hown
      clear hown
      go_wp2_with fail
      go_ret
      exact ⟨A1, c1, rfl, h2.out, S0.2.2⟩
    have i0 : (0 : Int) ≤ (i : Int) := by omega
    have i1 : (i : Int) < (m : Int) := by omega
    have qi := tt_at (ps := L) (k := i) (by omega)
    have qk := tt_at (ps := L) (k := k) (by omega)
    rw [show tt L k = (x, y, z) from hz.out] at qk
    have hlen := thatTo_len F i
    have HL : Hid (thatTo F (i + 1) = if F i then thatTo F i ++ [(i : Int)] else thatTo F i) := Lib.hid rfl
    have HFi := Lib.hid (HB.out i)
    obtain ⟨a, b, c, ha⟩ : ∃ a b c, tt L i = (a, b, c) := ⟨_, _, _, rfl⟩
    rw [ha] at qi HFi
    have QS : Hid (∀ w, _) := Lib.hid fun w => l20Common a b c x y z w
    have HSi : Hid (i = k → F i = false) := Lib.hid (fun h => by rw [h]; exact HS.out)
    generalize common (a, b, c) (x, y, z) = cm at *
    generalize F i = bb at *
    generalize thatTo F i = l at *
    obtain ⟨q, hq⟩ : ∃ q, l.length = q := ⟨_, rfl⟩
    rw [hq] at hown hlen
    obtain ⟨Ao, co, rfl⟩ := own_shape hown
    have T3 := ts_own S0.1.out
    obtain ⟨ad2, e2, bI, pI⟩ := T3.get qi
    injection e2 with e2
    subst e2
    obtain ⟨ad3, e3, _, pK⟩ := T3.get qk
    injection e3 with e3
    subst e3
    clear T3 qi qk ha HB HE
    have HO : ∀ W W' : World, (TAt W ad i a b c ∧ TAt W ad k x y z ∧ Hid (W.ownsRow (w.heap.size) 65 3 (.slice (some ad) m c2) m (cellsT L)) ∧ w.heap.size ≤ W.heap.size ∧ Hid (W.ownsRow (w.heap.size) 3 1 (.slice Ao q co) q (icells l)) ∧ Below wr.heap.size wr W) → Below W.heap.size W W' → (TAt W' ad i a b c ∧ TAt W' ad k x y z ∧ Hid (W'.ownsRow (w.heap.size) 65 3 (.slice (some ad) m c2) m (cellsT L)) ∧ w.heap.size ≤ W'.heap.size ∧ Hid (W'.ownsRow (w.heap.size) 3 1 (.slice Ao q co) q (icells l)) ∧ Below wr.heap.size wr W') := fun W W' ⟨x0, x1, x2, x3, x4, hb⟩ h => ⟨x0.later bI (h.mono hb.size), x1.later bI (h.mono hb.size), Lib.hid (own_below (x2).out h), Nat.le_trans x3 h.size, Lib.hid (own_below (x4).out h), hb.trans (h.mono hb.size)⟩
    have S1 : TAt wr ad i a b c ∧ TAt wr ad k x y z ∧ Hid (wr.ownsRow (w.heap.size) 65 3 (.slice (some ad) m c2) m (cellsT L)) ∧ w.heap.size ≤ wr.heap.size ∧ Hid (wr.ownsRow (w.heap.size) 3 1 (.slice Ao q co) q (icells l)) ∧ Below wr.heap.size wr wr := ⟨pI, pK, S0.1, S0.2.1, Lib.hid hown, Below.refl _ _⟩
    have B1 := S0.2.2
    clear S0 hown pI pK
    have S0 := S1
    clear S1
    obtain ⟨⟨_, _, _⟩, ⟨_, _, _⟩, _, _, _, _⟩ := id S0
    by_cases e1 : i = k
    · have g1 : ((i : Int) != (k : Int)) = false := by rw [bne_eq_false_iff_eq]; omega
      have g1n : (i != k) = false := by rw [bne_eq_false_iff_eq]; exact e1
      have HL2 : Hid (thatTo F (i + 1) = l) := Lib.hid (by rw [HL.out, HSi.out e1]; rfl)
      clear HL HFi HSi QS e1 hl hm
      go_wp2_with fail
      refine (Q1.out _).mono ?_
      rintro e w_ ⟨rfl, rfl⟩
      go_wp2_with fail
      refine Settle.region (fun W => TAt W ad i a b c ∧ TAt W ad k x y z ∧ Hid (W.ownsRow (w.heap.size) 65 3 (.slice (some ad) m c2) m (cellsT L)) ∧ w.heap.size ≤ W.heap.size ∧ Hid (W.ownsRow (w.heap.size) 3 1 (.slice Ao q co) q (icells l)) ∧ Below wr.heap.size wr W) (by kernel_rfl) (by kernel_rfl) (by kernel_rfl) (by kernel_rfl) (HO _ _ S0 ((Below.refl _ _).drew)) ?_
      clear S0
      repeat (first
        | (refine Settle.Settles.off (by rfl) ?_; simp only [Act.put, List.setIfInBounds_toArray, List.set_cons_zero, List.set_cons_succ])
        | (refine Settle.Settles.quiet (v := ?_) (by rfl) ?_ ?_
           rotate_left
           · (intro W hS; obtain ⟨⟨_, _, _⟩, ⟨_, _, _⟩, _, _, _, _⟩ := hS; go_simp; with_reducible rfl)
           simp only [Act.put, List.setIfInBounds_toArray, List.set_cons_zero, List.set_cons_succ])
        | (refine Settle.Settles.call (v := ?_) (f := ?_) (args := ?_) (by rfl) ?_ ?_ ?_
           rotate_left 3
           · (intro W; go_simp; refine ⟨?_, ?_⟩ <;> with_reducible rfl)
           · (intro W hS; fail)
           simp only [Act.put, List.setIfInBounds_toArray, List.set_cons_zero, List.set_cons_succ]))
      refine Settle.Settles.nil ?_
      intro wr S0
      obtain ⟨⟨_, _, _⟩, ⟨_, _, _⟩, _, _, _, _⟩ := id S0
      go_wp2_with fail
      first
        | exact ⟨⟨i + 1, by omega, by go_num, by rw [HL2.out, hq]; exact S0.2.2.2.2.1.out, S0.2.2.1, S0.2.2.2.1, B1.trans (S0.2.2.2.2.2.mono B1.size)⟩, by simp [intOf]; omega⟩
        | (go_roundw <;> first | exact ⟨i + 1, by omega, by go_num, by rw [HL2.out, hq]; exact S0.2.2.2.2.1.out, S0.2.2.1, S0.2.2.2.1, B1.trans (S0.2.2.2.2.2.mono B1.size)⟩ | (simp [intOf]; omega))
    have g1 : ((i : Int) != (k : Int)) = true := by rw [bne_iff_ne]; omega
    have g1n : (i != k) = true := by rw [bne_iff_ne]; exact e1
    by_cases e2 : cm = 2
    · have g2 : (cm == 2) = true := by simpa using e2
      have HL2 : Hid (thatTo F (i + 1) = l ++ [(i : Int)]) := Lib.hid (by rw [HL.out, HFi.out, decide_eq_true e2]; rfl)
      clear HL HFi HSi hl hm e2 e1
      go_wp2_with fail
      refine (Q1.out _).mono ?_
      rintro e w_ ⟨rfl, rfl⟩
      go_wp2_with fail
      refine Settle.region (fun W => TAt W ad i a b c ∧ TAt W ad k x y z ∧ Hid (W.ownsRow (w.heap.size) 65 3 (.slice (some ad) m c2) m (cellsT L)) ∧ w.heap.size ≤ W.heap.size ∧ Hid (W.ownsRow (w.heap.size) 3 1 (.slice Ao q co) q (icells l)) ∧ Below wr.heap.size wr W) (by kernel_rfl) (by kernel_rfl) (by kernel_rfl) (by kernel_rfl) (HO _ _ S0 ((Below.refl _ _).drew)) ?_
      clear S0
      repeat (first
        | (refine Settle.Settles.off (by rfl) ?_; simp only [Act.put, List.setIfInBounds_toArray, List.set_cons_zero, List.set_cons_succ])
        | (refine Settle.Settles.quiet (v := ?_) (by rfl) ?_ ?_
           rotate_left
           · (intro W hS; obtain ⟨⟨_, _, _⟩, ⟨_, _, _⟩, _, _, _, _⟩ := hS; go_simp; with_reducible rfl)
           simp only [Act.put, List.setIfInBounds_toArray, List.set_cons_zero, List.set_cons_succ])
        | (refine Settle.Settles.call (v := ?_) (f := ?_) (args := ?_) (by rfl) ?_ ?_ ?_
           rotate_left 3
           · (intro W; go_simp; refine ⟨?_, ?_⟩ <;> with_reducible rfl)
           · (intro W hS; first | (go_at_call 81; (with_reducible refine (QS.out _).mono ?_); rintro e W1 ⟨rfl, hb⟩; refine ⟨?_, HO _ _ hS hb⟩; with_reducible rfl))
           simp only [Act.put, List.setIfInBounds_toArray, List.set_cons_zero, List.set_cons_succ]))
      refine Settle.Settles.nil ?_
      intro w4 S0
      obtain ⟨⟨_, _, _⟩, ⟨_, _, _⟩, _, _, _, _⟩ := id S0
      go_wp2_with (at_builtin; refine append_int _ (by rfl) _ _ (by rfl) (w.heap.size) _ q l (by rfl) S0.2.2.2.2.1.out (i : Int) (by rfl) (by omega) S0.2.2.2.1 ?_)
      intro v5 w5 h5 hg5
      have hb5 : Below (w.heap.size) w4 w5 := (Below.refl _ _).grown hg5 S0.2.2.2.1 (fun g hg => (S0.2.2.2.2.1.out.lt g hg).1)
      have h4q := Lib.hid (kept_apart S0.2.2.1.out hg5 (rows_ne S0.2.2.1.out S0.2.2.2.2.1.out (by decide)))
      have h5q : Hid (w5.ownsRow (w.heap.size) 3 1 v5 (thatTo F (i + 1)).length (icells (thatTo F (i + 1)))) := Lib.hid (by rw [HL2.out, List.length_append, hq]; exact h5)
      have B5 := (B1.trans (S0.2.2.2.2.2.mono B1.size)).trans hb5
      have hz5 := Nat.le_trans S0.2.2.2.1 hb5.size
      clear h5 hb5 hg5 HL2 S0
      go_wp2_with fail
      first
        | exact ⟨⟨i + 1, by omega, by go_num, h5q.out, h4q, hz5, B5⟩, by simp [intOf]; omega⟩
        | (go_roundw <;> first | exact ⟨i + 1, by omega, by go_num, h5q.out, h4q, hz5, B5⟩ | (simp [intOf]; omega))
    have g2 : (cm == 2) = false := by simpa using e2
    have HL2 : Hid (thatTo F (i + 1) = l) := Lib.hid (by rw [HL.out, HFi.out, decide_eq_false e2]; rfl)
    clear HL HFi HSi hl hm e2 e1
    go_wp2_with fail
    refine (Q1.out _).mono ?_
    rintro e w_ ⟨rfl, rfl⟩
    go_wp2_with fail
    refine Settle.region (fun W => TAt W ad i a b c ∧ TAt W ad k x y z ∧ Hid (W.ownsRow (w.heap.size) 65 3 (.slice (some ad) m c2) m (cellsT L)) ∧ w.heap.size ≤ W.heap.size ∧ Hid (W.ownsRow (w.heap.size) 3 1 (.slice Ao q co) q (icells l)) ∧ Below wr.heap.size wr W) (by kernel_rfl) (by kernel_rfl) (by kernel_rfl) (by kernel_rfl) (HO _ _ S0 ((Below.refl _ _).drew)) ?_
    clear S0
    repeat (first
      | (refine Settle.Settles.off (by rfl) ?_; simp only [Act.put, List.setIfInBounds_toArray, List.set_cons_zero, List.set_cons_succ])
      | (refine Settle.Settles.quiet (v := ?_) (by rfl) ?_ ?_
         rotate_left
         · (intro W hS; obtain ⟨⟨_, _, _⟩, ⟨_, _, _⟩, _, _, _, _⟩ := hS; go_simp; with_reducible rfl)
         simp only [Act.put, List.setIfInBounds_toArray, List.set_cons_zero, List.set_cons_succ])
      | (refine Settle.Settles.call (v := ?_) (f := ?_) (args := ?_) (by rfl) ?_ ?_ ?_
         rotate_left 3
         · (intro W; go_simp; refine ⟨?_, ?_⟩ <;> with_reducible rfl)
         · (intro W hS; first | (go_at_call 81; (with_reducible refine (QS.out _).mono ?_); rintro e W1 ⟨rfl, hb⟩; refine ⟨?_, HO _ _ hS hb⟩; with_reducible rfl))
         simp only [Act.put, List.setIfInBounds_toArray, List.set_cons_zero, List.set_cons_succ]))
    refine Settle.Settles.nil ?_
    intro wr S0
    obtain ⟨⟨_, _, _⟩, ⟨_, _, _⟩, _, _, _, _⟩ := id S0
    go_wp2_with fail
    first
      | exact ⟨⟨i + 1, by omega, by go_num, by rw [HL2.out, hq]; exact S0.2.2.2.2.1.out, S0.2.2.1, S0.2.2.2.1, B1.trans (S0.2.2.2.2.2.mono B1.size)⟩, by simp [intOf]; omega⟩
      | (go_roundw <;> first | exact ⟨i + 1, by omega, by go_num, by rw [HL2.out, hq]; exact S0.2.2.2.2.1.out, S0.2.2.1, S0.2.2.2.1, B1.trans (S0.2.2.2.2.2.mono B1.size)⟩ | (simp [intOf]; omega))

set_option maxRecDepth 100000 in
set_option maxHeartbeats 3200000 in
theorem leafTriangles (A : Option Addr) (n cap : Nat) (w : World) (ps : List (Int × Int)) (hl : ps.length = n) (hn : n ≤ 1048576) (hp : PtsAt w w.heap.size A ps) :
    Calls Tryz.prog 48 #[.agg #[.slice A n cap]] w (GivesI 3 w (leafL ps)) := by
  obtain ⟨r, hr⟩ : ∃ r, leafL ps = r := ⟨_, rfl⟩
  have HR := Lib.hid hr
  rw [hr]
  clear hr
  have HE : Hid (thatTo (leafB (trisL ps)) (trisL ps).length = r) := Lib.hid (by rw [← HR.out]; rfl)
  have QT : Hid (∀ W h, _) := Lib.hid fun W h => trianglesOf A n cap W ps hl hn h
  have hle := TrisLand.trisL_le ps
  unfold GivesC at QT
  have HF : Hid (∀ i : Nat, i < (trisL ps).length → leafB (trisL ps) i = decide ((neighborsL ps (i : Int)).length = 1)) := Lib.hid (fun i hi => by
    unfold neighborsL leafB
    rw [if_pos (by omega), Int.toNat_natCast])
  have HN : Hid (∀ i : Nat, (neighborsL ps (i : Int)).length ≤ 11) := Lib.hid (fun i => by
    unfold neighborsL nbrsL
    split
    · have := thatTo_len (besideB (trisL ps) (i : Int).toNat) (trisL ps).length
      omega
    · simp)
  generalize trisL ps = L at *
  obtain ⟨m, hm⟩ : ∃ m, L.length = m := ⟨_, rfl⟩
  rw [hm] at QT HE hle HF
  obtain ⟨F, hF⟩ : ∃ F, leafB L = F := ⟨_, rfl⟩
  rw [hF] at HE HF
  clear HR hF
  go_enter Tryz.func48, Tryz.ntmps48
  go_wp2_with fail
  have X0 := Pts.boxR w (.slice A n cap) 30 (k := w.heap.size) (by simp)
  have b0 := PointOk.below1 w (Obj.cells #[.slice A n cap] 30)
  have HO : ∀ W W' : World, (Pts.BoxR W (w.heap.size) (.slice A n cap) ∧ PtsAt W w.heap.size A ps ∧ Below w.heap.size w W) → Below W.heap.size W W' → (Pts.BoxR W' (w.heap.size) (.slice A n cap) ∧ PtsAt W' w.heap.size A ps ∧ Below w.heap.size w W') := fun W W' ⟨h0, x0, hb⟩ h => ⟨h0.later h, x0.later (h.mono hb.size), hb.trans (h.mono hb.size)⟩
  have hz0_ : Hid (((w.alloc (Obj.cells #[.slice A n cap] 30))).heap.size = w.heap.size + 1) := Lib.hid (by simp)
  have Y0 : PtsAt ((w.alloc (Obj.cells #[.slice A n cap] 30))) w.heap.size A ps := hp.later b0
  generalize (w.alloc (Obj.cells #[.slice A n cap] 30)) = w0 at X0 Y0 b0 hz0_ ⊢
  have S0 := (⟨X0, Y0, b0⟩ : Pts.BoxR w0 (w.heap.size) (.slice A n cap) ∧ PtsAt w0 w.heap.size A ps ∧ Below w.heap.size w w0)
  clear X0 Y0 b0
  obtain ⟨⟨_, _⟩, _, _⟩ := id S0
  have hz1 : w.heap.size + 1 ≤ w0.heap.size := World.block_lt_of_cell? _ _ S0.1.1
  have h3 := own_base (own_empty w0 3 1) hz1
  rw [hz0_.out] at h3
  have hb0 := below1 w0 (Obj.cells #[] 3)
  replace S0 := HO _ _ S0 hb0
  have hz4 := Nat.le_trans hz1 hb0.size
  generalize w0.alloc (Obj.cells #[] 3) = w1 at *
  refine (QT.out _ (S0.2.1.wide S0.2.2.size)).mono ?_
  rintro e w2 ⟨A2, c2, rfl, h4, hb_⟩
  replace S0 := HO _ _ S0 hb_
  replace h3 := own_below h3 hb_
  have h4 := own_base h4 hz4
  have hz2 := Nat.le_trans hz4 hb_.size
  clear hb_ QT hz1 hb0 hz4 HO
  have HO : ∀ W W' : World, (Pts.BoxR W w.heap.size (.slice A n cap) ∧ PtsAt W w.heap.size A ps ∧ Hid (W.ownsRow (w.heap.size + 1) 65 3 (.slice A2 m c2) m (cellsT L)) ∧ w.heap.size + 1 ≤ W.heap.size ∧ Below w.heap.size w W) → Below W.heap.size W W' → (Pts.BoxR W' w.heap.size (.slice A n cap) ∧ PtsAt W' w.heap.size A ps ∧ Hid (W'.ownsRow (w.heap.size + 1) 65 3 (.slice A2 m c2) m (cellsT L)) ∧ w.heap.size + 1 ≤ W'.heap.size ∧ Below w.heap.size w W') := fun W W' ⟨x0, x1, x2, x3, hb⟩ h => ⟨x0.later h, x1.later (h.mono hb.size), Lib.hid (own_below (x2).out h), Nat.le_trans x3 h.size, hb.trans (h.mono hb.size)⟩
  have S1 : Pts.BoxR w2 w.heap.size (.slice A n cap) ∧ PtsAt w2 w.heap.size A ps ∧ Hid (w2.ownsRow (w.heap.size + 1) 65 3 (.slice A2 m c2) m (cellsT L)) ∧ w.heap.size + 1 ≤ w2.heap.size ∧ Below w.heap.size w w2 := ⟨S0.1, S0.2.1, Lib.hid h4, hz2, S0.2.2⟩
  clear S0 h4 hz2
  have S0 := S1
  clear S1
  obtain ⟨⟨_, _⟩, _, _, _, _⟩ := id S0
  go_wp2_with fail
  go_loopw [3, 5] (fun v q wr => ∃ i : Nat, i ≤ m ∧ q = .int .i64 i ∧ wr.ownsRow (w.heap.size + 1) 3 1 v (thatTo F i).length (icells (thatTo F i)) ∧ (Pts.BoxR wr w.heap.size (.slice A n cap) ∧ PtsAt wr w.heap.size A ps ∧ Hid (wr.ownsRow (w.heap.size + 1) 65 3 (.slice A2 m c2) m (cellsT L)) ∧ w.heap.size + 1 ≤ wr.heap.size ∧ Below w.heap.size w wr))
    (fun _ q _ => m - (intOf q).toNat)
  case atStart => exact ⟨0, Nat.zero_le _, rfl, h3, S0⟩
  case round =>
    clear S0 h3
    obtain ⟨i, him, rfl, hown, S0⟩ := hrel
    obtain ⟨⟨_, _⟩, _, _, _, _⟩ := id S0
    by_cases hlt : i < m
    rotate_left
    · obtain rfl : m = i := by omega
      rw [HE.out] at hown
      obtain ⟨A1, c1, rfl⟩ := own_shape hown
      have h2 := Lib.hid (own_base hown (Nat.le_succ w.heap.size))
      clear hown
      go_wp2_with fail
      go_ret
      exact ⟨A1, c1, rfl, h2.out, S0.2.2.2.2⟩
    have i0 : (0 : Int) ≤ (i : Int) := by omega
    have i1 : (i : Int) < (m : Int) := by omega
    have hlen := thatTo_len F i
    have HL : Hid (thatTo F (i + 1) = if F i then thatTo F i ++ [(i : Int)] else thatTo F i) := Lib.hid rfl
    have HFi := Lib.hid (HF.out i hlt)
    have QN : Hid (∀ W h, _) := Lib.hid fun W h => neighborsOf A n cap (i : Int) W ps hl hn h
    unfold GivesI at QN
    have hnl := HN.out i
    obtain ⟨nl, hnn⟩ : ∃ nl, (neighborsL ps (i : Int)).length = nl := ⟨_, rfl⟩
    rw [hnn] at QN HFi hnl
    generalize F i = bb at *
    generalize thatTo F i = l at *
    obtain ⟨q, hq⟩ : ∃ q, l.length = q := ⟨_, rfl⟩
    rw [hq] at hown hlen
    obtain ⟨Ao, co, rfl⟩ := own_shape hown
    replace hown := Lib.hid hown
    have hbx : w.heap.size ≤ wr.heap.size := S0.2.2.2.2.size
    have S1 := S0
    clear HE HF hnn HN
    go_wp2_with fail
    refine (QN.out _ (S0.2.1.wide hbx)).mono ?_
    rintro e w3 ⟨A3, c3, rfl, _, hb_⟩
    replace S0 := HO _ _ S0 hb_
    replace hown := Lib.hid (own_below hown.out hb_)
    clear hb_ QN S1
    obtain ⟨⟨_, _⟩, _, _, _, _⟩ := id S0
    cases bb
    · have g1e : ¬ nl = 1 := of_decide_eq_false HFi.out.symm
      have g1 : ((nl : Int) == 1) = false := by simp; omega
      have g1n : (nl == 1) = false := by simp; omega
      have HL2 : Hid (thatTo F (i + 1) = l) := Lib.hid (by rw [HL.out]; rfl)
      clear HL HFi
      go_wp2_with fail
      first
        | exact ⟨⟨i + 1, by omega, by go_num, by rw [HL2.out, hq]; exact hown.out, S0⟩, by simp [intOf]; omega⟩
        | (go_roundw <;> first | exact ⟨i + 1, by omega, by go_num, by rw [HL2.out, hq]; exact hown.out, S0⟩ | (simp [intOf]; omega))
    · obtain rfl : nl = 1 := of_decide_eq_true HFi.out.symm
      have HL2 : Hid (thatTo F (i + 1) = l ++ [(i : Int)]) := Lib.hid (by rw [HL.out]; rfl)
      clear HL HFi
      go_wp2_with (at_builtin; refine append_int _ (by rfl) _ _ (by rfl) (w.heap.size + 1) _ q l (by rfl) hown.out (i : Int) (by rfl) (by omega) S0.2.2.2.1 ?_)
      intro v5 w5 h5 hg5
      have hb5 : Below (w.heap.size + 1) w3 w5 := (Below.refl _ _).grown hg5 S0.2.2.2.1 (fun g hg => (hown.out.lt g hg).1)
      have h4q := Lib.hid (kept_apart S0.2.2.1.out hg5 (rows_ne S0.2.2.1.out hown.out (by decide)))
      have h5q : Hid (w5.ownsRow (w.heap.size + 1) 3 1 v5 (thatTo F (i + 1)).length (icells (thatTo F (i + 1)))) := Lib.hid (by rw [HL2.out, List.length_append, hq]; exact h5)
      have S5 : Pts.BoxR w5 w.heap.size (.slice A n cap) ∧ PtsAt w5 w.heap.size A ps ∧ Hid (w5.ownsRow (w.heap.size + 1) 65 3 (.slice A2 m c2) m (cellsT L)) ∧ w.heap.size + 1 ≤ w5.heap.size ∧ Below w.heap.size w w5 := ⟨⟨(hb5.cell (by simp)).trans S0.1.1, trivial⟩, S0.2.1.later (hb5.mono (Nat.le_succ _)), h4q, Nat.le_trans S0.2.2.2.1 hb5.size, S0.2.2.2.2.trans (hb5.mono (Nat.le_succ _))⟩
      clear h5 hb5 hg5 HL2 S0 hown h4q
      obtain ⟨⟨_, _⟩, _, _, _, _⟩ := id S5
      go_wp2_with fail
      first
        | exact ⟨⟨i + 1, by omega, by go_num, h5q.out, S5⟩, by simp [intOf]; omega⟩
        | (go_roundw <;> first | exact ⟨i + 1, by omega, by go_num, h5q.out, S5⟩ | (simp [intOf]; omega))
end Go.Proofs.YtkcodmafakjkfaaGreat.TreeModel

