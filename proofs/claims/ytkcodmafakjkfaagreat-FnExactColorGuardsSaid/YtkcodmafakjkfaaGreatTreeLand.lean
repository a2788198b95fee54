/-
  What the landed NeighborsOf and LeafTriangles do, as contracts: what each answers; new memory alone is written.
-/
import Derived.Test.YtkcodmafakjkfaaGreatTreeImpl
namespace Go.Proofs.YtkcodmafakjkfaaGreat.TreeLand
open Go.RowKit Own PointMath WallMath RoomMath Pts Blk AreaMath PlaceMath FloorMath LineMath CutsMath SightMath DiagMath TriMath TrisMath TreeMath Ints Tup3 TriRow TrisLand TreeImpl
open PointOk (ret_bool ret_i64 below1 below2 below3)

theorem ts_own {w : World} {b e n cap : Nat} {A : Option Addr} {ps : List Tu} (h : w.ownsRow b e 3 (.slice A n cap) n (cellsT ps)) : TsAt w w.heap.size A ps := by
  have hl := h.1
  rw [cellsT_length] at hl
  intro j hj
  obtain ⟨e0, e1, e2⟩ := cellsT_at ps j hj
  obtain ⟨g, rfl, _, hg, c0, _⟩ := LawInt.own_cellN h (by omega) (by rw [cellsT_length]; omega) e0
  obtain ⟨g1, x1, _, _, c1, _⟩ := LawInt.own_cellN h (by omega) (by rw [cellsT_length]; omega) e1
  injection x1 with x1
  injection x1 with x1
  subst x1
  obtain ⟨g2, x2, _, _, c2, _⟩ := LawInt.own_cellN h (by omega) (by rw [cellsT_length]; omega) e2
  injection x2 with x2
  injection x2 with x2
  subst x2
  exact ⟨_, rfl, hg, by rw [Pts.add_head]; exact c0, by rw [Pts.add_head]; exact c1, by rw [Pts.add_head]; exact c2⟩

set_option maxRecDepth 100000 in
set_option maxHeartbeats 3200000 in
theorem neighborsOf (A : Option Addr) (n cap : Nat) (k : Int) (w : World) (ps : List (Int × Int)) (hl : ps.length = n) (hn : n ≤ 1048576) (hp : PtsAt w w.heap.size A ps) :
    Calls Tryz.prog 42 #[.agg #[.slice A n cap], .int .i64 k] w (GivesI 3 w (neighborsL ps k)) := by
  obtain ⟨r, hr⟩ : ∃ r, neighborsL ps k = r := ⟨_, rfl⟩
  have HR := Lib.hid hr
  rw [hr]
  clear hr
  have HE0 : Hid (¬ (0 ≤ k ∧ k < ((trisL ps).length : Int)) → r = []) := Lib.hid (fun h => by rw [← HR.out]; unfold neighborsL; rw [if_neg h])
  have HE1 : Hid (0 ≤ k ∧ k < ((trisL ps).length : Int) → nbrsL (trisL ps) k.toNat = r) := Lib.hid (fun h => by rw [← HR.out]; unfold neighborsL; rw [if_pos h])
  have QT : Hid (∀ W h, _) := Lib.hid fun W h => trianglesOf A n cap W ps hl hn h
  have hle := trisL_le ps
  unfold GivesT at QT
  generalize trisL ps = L at *
  obtain ⟨m, hm⟩ : ∃ m, L.length = m := ⟨_, rfl⟩
  rw [hm] at QT HE0 HE1 hle
  clear HR
  go_enter Tryz.func42, Tryz.ntmps42
  go_wp2_with fail
  have X0 := Pts.boxR w (.slice A n cap) 30 (k := w.heap.size) (by simp)
  have b0 := PointOk.below1 w (Obj.cells #[.slice A n cap] 30)
  have HO : ∀ W W' : World, (Pts.BoxR W (w.heap.size) (.slice A n cap) ∧ PtsAt W w.heap.size A ps ∧ Below w.heap.size w W) → Below W.heap.size W W' → (Pts.BoxR W' (w.heap.size) (.slice A n cap) ∧ PtsAt W' w.heap.size A ps ∧ Below w.heap.size w W') := fun W W' ⟨h0, x0, hb⟩ h => ⟨h0.later h, x0.later (h.mono hb.size), hb.trans (h.mono hb.size)⟩
  have hz0_ : Hid (((w.alloc (Obj.cells #[.slice A n cap] 30))).heap.size = w.heap.size + 1) := Lib.hid (by simp)
  have Y0 : PtsAt ((w.alloc (Obj.cells #[.slice A n cap] 30))) w.heap.size A ps := hp.later b0
  generalize (w.alloc (Obj.cells #[.slice A n cap] 30)) = w0 at X0 Y0 b0 hz0_ ⊢
  have S0 := (⟨X0, Y0, b0⟩ : Pts.BoxR w0 (w.heap.size) (.slice A n cap) ∧ PtsAt w0 w.heap.size A ps ∧ Below w.heap.size w w0)
  clear X0 Y0 b0
  obtain ⟨⟨_, _⟩, _, _⟩ := id S0
  refine (QT.out _ (S0.2.1.wide S0.2.2.size)).mono ?_
  rintro e w2 ⟨A2, c2, rfl, h4, _, hb_⟩
  replace S0 := HO _ _ S0 hb_
  have T2 := ts_own h4
  clear h4 hb_ QT
  by_cases h0 : k < 0
  · have E := Lib.hid (HE0.out (by omega))
    clear HE0 HE1 hl hm
    go_wp2_with fail
    go_ret
    exact ⟨none, 0, by rw [E.out]; rfl, by rw [E.out]; exact World.ownsRow_nil _ _ _ _, S0.2.2⟩
  by_cases h1 : (m : Int) ≤ k
  · have E := Lib.hid (HE0.out (by omega))
    clear HE0 HE1 hl hm
    go_wp2_with fail
    go_ret
    exact ⟨none, 0, by rw [E.out]; rfl, by rw [E.out]; exact World.ownsRow_nil _ _ _ _, S0.2.2⟩
  obtain ⟨k, rfl⟩ := Int.eq_ofNat_of_zero_le (show 0 ≤ k by omega)
  have E := Lib.hid (HE1.out (by omega))
  have QB := Lib.hid (beside A2 m c2 k w2 L hm (by omega) (by omega) T2)
  rw [Int.toNat_natCast] at E
  rw [E.out] at QB
  clear HE0 HE1 hl hm T2 E
  go_wp2_with fail
  refine QB.out.mono ?_
  rintro e w3 ⟨A3, c3, rfl, h3, hb_⟩
  have h3 := Lib.hid (own_base h3 S0.2.2.size)
  replace S0 := HO _ _ S0 hb_
  clear hb_ QB
  go_wp2_with fail
  go_ret
  exact ⟨A3, c3, rfl, h3.out, S0.2.2⟩

set_option maxRecDepth 100000 in
set_option maxHeartbeats 3200000 in
theorem leafTriangles (A : Option Addr) (n cap : Nat) (w : World) (ps : List (Int × Int)) (hl : ps.length = n) (hn : n ≤ 1048576) (hp : PtsAt w w.heap.size A ps) :
    Calls Tryz.prog 49 #[.agg #[.slice A n cap]] w (GivesI 3 w (leafL ps)) := by
  obtain ⟨r, hr⟩ : ∃ r, leafL ps = r := ⟨_, rfl⟩
  have HR := Lib.hid hr
  rw [hr]
  clear hr
  have HE : Hid (thatTo (leafB (trisL ps)) (trisL ps).length = r) := Lib.hid (by rw [← HR.out]; rfl)
  have QT : Hid (∀ W h, _) := Lib.hid fun W h => trianglesOf A n cap W ps hl hn h
  have hle := trisL_le ps
  unfold GivesT at QT
  generalize trisL ps = L at *
  obtain ⟨m, hm⟩ : ∃ m, L.length = m := ⟨_, rfl⟩
  rw [hm] at QT HE hle
  have HF : Hid (∀ i, leafB L i = decide ((nbrsL L i).length = 1)) := Lib.hid (fun _ => rfl)
  obtain ⟨F, hF⟩ : ∃ F, leafB L = F := ⟨_, rfl⟩
  rw [hF] at HE HF
  clear HR hF
  go_enter Tryz.func49, Tryz.ntmps49
  go_wp2_with fail
  have X0 := Pts.boxR w (.slice A n cap) 30 (k := w.heap.size) (by simp)
  have b0 := PointOk.below1 w (Obj.cells #[.slice A n cap] 30)
  have HO : ∀ W W' : World, (Pts.BoxR W (w.heap.size) (.slice A n cap) ∧ PtsAt W w.heap.size A ps ∧ Below w.heap.size w W) → Below W.heap.size W W' → (Pts.BoxR W' (w.heap.size) (.slice A n cap) ∧ PtsAt W' w.heap.size A ps ∧ Below w.heap.size w W') := fun W W' ⟨h0, x0, hb⟩ h => ⟨h0.later h, x0.later (h.mono hb.size), hb.trans (h.mono hb.size)⟩
  have hz0_ : Hid (((w.alloc (Obj.cells #[.slice A n cap] 30))).heap.size = w.heap.size + 1) := Lib.hid (by simp)
  have Y0 : PtsAt ((w.alloc (Obj.cells #[.slice A n cap] 30))) w.heap.size A ps := hp.later b0
  generalize (w.alloc (Obj.cells #[.slice A n cap] 30)) = w0 at X0 Y0 b0 hz0_ ⊢
  have S0 := (⟨X0, Y0, b0⟩ : Pts.BoxR w0 (w.heap.size) (.slice A n cap) ∧ PtsAt w0 w.heap.size A ps ∧ Below w.heap.size w w0)
  clear X0 Y0 b0
  obtain ⟨⟨_, _⟩, _, _⟩ := id S0
  refine (QT.out _ (S0.2.1.wide S0.2.2.size)).mono ?_
  rintro e w2 ⟨A2, c2, rfl, h4, _, hb_⟩
  replace S0 := HO _ _ S0 hb_
  have T2 := ts_own h4
  have hz2 := S0.2.2.size
  have B2 := S0.2.2
  clear h4 hb_ QT S0 HO
  go_wp2_with fail
  have HO : ∀ W W' : World, (TsAt W w2.heap.size A2 L ∧ Below w2.heap.size w2 W) → Below W.heap.size W W' → (TsAt W' w2.heap.size A2 L ∧ Below w2.heap.size w2 W') := fun W W' ⟨x0, hb⟩ h => ⟨x0.later (h.mono hb.size), hb.trans (h.mono hb.size)⟩
  go_loopw [4, 10] (fun v q wr => ∃ i : Nat, i ≤ m ∧ q = .int .i64 i ∧ wr.ownsRow (w2.heap.size) 3 1 v (thatTo F i).length (icells (thatTo F i)) ∧ w2.heap.size ≤ wr.heap.size ∧ (TsAt wr w2.heap.size A2 L ∧ Below w2.heap.size w2 wr))
    (fun _ q _ => m - (intOf q).toNat)
  case atStart => exact ⟨0, Nat.zero_le _, rfl, World.ownsRow_nil _ _ _ _, Nat.le_refl _, T2, Below.refl _ _⟩
  case round =>
    clear T2
    obtain ⟨i, him, rfl, hown, hsz, S0⟩ := hrel
    by_cases hlt : i < m
    rotate_left
    · obtain rfl : m = i := by omega
      rw [HE.out] at hown
      obtain ⟨A1, c1, rfl⟩ := own_shape hown
      have h2 := Lib.hid (own_base hown hz2)
      have hb2 := B2.trans (S0.2.mono hz2)
      clear hown
      go_wp2_with fail
      go_ret
      exact ⟨A1, c1, rfl, h2.out, hb2⟩
    have i0 : (0 : Int) ≤ (i : Int) := by omega
    have i1 : (i : Int) < (m : Int) := by omega
    have hlen := thatTo_len F i
    have HL : Hid (thatTo F (i + 1) = if F i then thatTo F i ++ [(i : Int)] else thatTo F i) := Lib.hid rfl
    have HFi := Lib.hid (HF.out i)
    have QB : Hid (∀ W h, _) := Lib.hid fun W h => beside A2 m c2 i W L hm (by omega) hlt h
    unfold GivesI at QB
    generalize F i = bb at *
    generalize thatTo F i = l at *
    obtain ⟨q, hq⟩ : ∃ q, l.length = q := ⟨_, rfl⟩
    rw [hq] at hown hlen
    obtain ⟨Ao, co, rfl⟩ := own_shape hown
    have hnl : (nbrsL L i).length ≤ m := by unfold nbrsL; rw [← hm]; exact thatTo_len _ _
    obtain ⟨nl, hnn⟩ : ∃ nl, (nbrsL L i).length = nl := ⟨_, rfl⟩
    rw [hnn] at QB HFi hnl
    replace hown := Lib.hid hown
    clear HE HF hnn
    go_wp2_with fail
    refine (QB.out _ (S0.1.wide S0.2.size)).mono ?_
    rintro e w3 ⟨A3, c3, rfl, _, hb_⟩
    replace S0 := HO _ _ S0 hb_
    replace hown := Lib.hid (own_below hown.out hb_)
    replace hsz := Nat.le_trans hsz hb_.size
    clear hb_ QB
    cases bb
    · have g1 : ((nl : Int) == 1) = false := by have := of_decide_eq_false HFi.out.symm; simp; omega
      have g1n : (nl == 1) = false := by have := of_decide_eq_false HFi.out.symm; simp; omega
      have g1e : ¬ nl = 1 := of_decide_eq_false HFi.out.symm
      have HL2 : Hid (thatTo F (i + 1) = l) := Lib.hid (by rw [HL.out]; rfl)
      clear HL HFi
      go_wp2_with fail
      first
        | exact ⟨⟨i + 1, by omega, by go_num, by rw [HL2.out, hq]; exact hown.out, hsz, S0⟩, by simp [intOf]; omega⟩
        | (go_roundw <;> first | exact ⟨i + 1, by omega, by go_num, by rw [HL2.out, hq]; exact hown.out, hsz, S0⟩ | (simp [intOf]; omega))
    · obtain rfl : nl = 1 := of_decide_eq_true HFi.out.symm
      have HL2 : Hid (thatTo F (i + 1) = l ++ [(i : Int)]) := Lib.hid (by rw [HL.out]; rfl)
      clear HL HFi
      go_wp2_with (at_builtin; refine AppOne.append_one _ (by rfl) _ _ (by rfl) (w2.heap.size) _ q (icells l) (by rfl) hown.out (i : Int) (by rfl) (by omega) hsz ?_)
      intro v5 w5 h5 hb5
      have h5q : Hid (w5.ownsRow (w2.heap.size) 3 1 v5 (thatTo F (i + 1)).length (icells (thatTo F (i + 1)))) := Lib.hid (by rw [HL2.out, icells_snoc, List.length_append, hq]; exact h5)
      have S5 : TsAt w5 w2.heap.size A2 L ∧ Below w2.heap.size w2 w5 := ⟨S0.1.later hb5, S0.2.trans hb5⟩
      have hz5 := Nat.le_trans hsz hb5.size
      clear h5 hb5 HL2 S0
      go_wp2_with fail
      first
        | exact ⟨⟨i + 1, by omega, by go_num, h5q.out, hz5, S5⟩, by simp [intOf]; omega⟩
        | (go_roundw <;> first | exact ⟨i + 1, by omega, by go_num, h5q.out, hz5, S5⟩ | (simp [intOf]; omega))
theorem neighbors_le (ps : List (Int × Int)) (k : Int) : (neighborsL ps k).length ≤ 1048576 := by
  have h1 := trisL_le ps
  unfold neighborsL nbrsL
  split
  · have h2 := thatTo_len (besideB (trisL ps) k.toNat) (trisL ps).length
    omega
  · simp
theorem leaf_le (ps : List (Int × Int)) : (leafL ps).length ≤ 1048576 := by
  have h1 := trisL_le ps
  have h2 := thatTo_len (leafB (trisL ps)) (trisL ps).length
  unfold leafL
  omega
end Go.Proofs.YtkcodmafakjkfaaGreat.TreeLand

