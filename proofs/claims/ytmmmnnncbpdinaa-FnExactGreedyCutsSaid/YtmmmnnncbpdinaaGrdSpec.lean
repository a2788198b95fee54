/-
  What the model's GreedyCuts does, as a contract: the diagonals that it takes, in new memory.
-/
import Derived.Test.YtmmmnnncbpdinaaDgsSpec
import Derived.Test.YtmmmnnncbpdinaaWallSpec
import Derived.Test.YtmmmnnncbpdinaaGrdRow
namespace Go.Proofs.Ytmmmnnncbpdinaa.GrdSpec
open Go.RowKit Own PointMath WallMath RoomMath Pts Blk AreaMath PlaceMath FloorMath LineMath CutsMath SightMath DiagMath EdgeMath DgsMath GrdMath GrdRow
open PointOk (ret_bool ret_i64 below1 below2 below3)
open Nest (GivesN sv)

set_option maxRecDepth 100000 in
set_option maxHeartbeats 12800000 in
theorem greedyCuts (A : Option Addr) (n cap : Nat) (w : World) (ps : List (Int × Int)) (hl : ps.length = n) (hn : n ≤ 1048576) (hp : PtsAt w w.heap.size A ps) :
    Calls Try.prog 16 #[.agg #[.slice A n cap]] w (GivesN w (grdL ps)) := by
  obtain ⟨r, hr⟩ : ∃ r, grdL ps = r := ⟨_, rfl⟩
  have HR := Lib.hid hr
  rw [hr]
  clear hr
  obtain ⟨l, hdl⟩ : ∃ l, dgsL ps = l := ⟨_, rfl⟩
  obtain ⟨m, hm⟩ : ∃ m, l.length = m := ⟨_, rfl⟩
  have HE : Hid (gTo (crossD ps) l m = r) := Lib.hid (by rw [← HR.out, ← hm, ← hdl]; rfl)
  have hmb : m ≤ 20000 := by rw [← hm, ← hdl]; exact dgs_le ps
  have HI : Hid (∀ x, x ∈ l → ∃ a b : Nat, x = ((a : Int), (b : Int)) ∧ a < b ∧ b < n ∧ roomB ps = true) := Lib.hid (fun x hx => by rw [← hl]; exact dgs_in (by rw [hdl]; exact hx))
  have QD : Hid (∀ W h, _) := Lib.hid fun W h => DgsSpec.diagonalsOf A n cap W ps hl hn h
  rw [hdl] at QD
  unfold GivesN at QD
  rw [hm] at QD
  have hcl : ∀ k, (gTo (crossD ps) l k).length ≤ k := gTo_len _ _
  clear HR hdl
  go_enter Try.func16, Try.ntmps16
  go_wp2_with fail
  have X0 := Pts.boxR w (.slice A n cap) 28 (k := w.heap.size) (by simp)
  have b0 := PointOk.below1 w (Obj.cells #[.slice A n cap] 28)
  have HO : ∀ W W' : World, (Pts.BoxR W (w.heap.size) (.slice A n cap) ∧ PtsAt W w.heap.size A ps ∧ Below w.heap.size w W) → Below W.heap.size W W' → (Pts.BoxR W' (w.heap.size) (.slice A n cap) ∧ PtsAt W' w.heap.size A ps ∧ Below w.heap.size w W') := fun W W' ⟨h0, x0, hb⟩ h => ⟨h0.later h, x0.later (h.mono hb.size), hb.trans (h.mono hb.size)⟩
  have hz0_ : Hid (((w.alloc (Obj.cells #[.slice A n cap] 28))).heap.size = w.heap.size + 1) := Lib.hid (by simp)
  have Y0 : PtsAt ((w.alloc (Obj.cells #[.slice A n cap] 28))) w.heap.size A ps := hp.later b0
  generalize (w.alloc (Obj.cells #[.slice A n cap] 28)) = w0 at X0 Y0 b0 hz0_ ⊢
  have S0 := (⟨X0, Y0, b0⟩ : Pts.BoxR w0 (w.heap.size) (.slice A n cap) ∧ PtsAt w0 w.heap.size A ps ∧ Below w.heap.size w w0)
  clear X0 Y0 b0
  obtain ⟨⟨_, _⟩, _, _⟩ := id S0
  have HO2 : ∀ W W' : World, (Pts.BoxR W (w.heap.size) (.slice A n cap) ∧ PtsAt W w.heap.size A ps ∧ Below w.heap.size w W) → Below (w.heap.size + 1) W W' → (Pts.BoxR W' (w.heap.size) (.slice A n cap) ∧ PtsAt W' w.heap.size A ps ∧ Below w.heap.size w W') := fun W W' ⟨h0, x0, hb⟩ h => ⟨⟨(h.cell (by simp)).trans h0.1, trivial⟩, x0.later (h.mono (by omega)), hb.trans (h.mono (by omega))⟩
  have hz0 : w.heap.size + 1 ≤ w0.heap.size := World.block_lt_of_cell? _ _ S0.1.1
  have hb0 := below1 w0 (Obj.cells #[] 61)
  have R0 : (w0.alloc (Obj.cells #[] 61)).ownsRow (w.heap.size + 1) 61 1 (.slice (some ⟨w.heap.size + 1, 0, none⟩) 0 0) 0 [] := by
    have := own_base (own_empty w0 61 1) hz0
    rw [hz0_.out] at this
    exact this
  have hlt0 : w.heap.size + 1 < (w0.alloc (Obj.cells #[] 61)).heap.size := by simp; omega
  replace S0 := HO _ _ S0 hb0
  generalize w0.alloc (Obj.cells #[] 61) = w1 at *
  clear hb0 hz0
  obtain ⟨⟨_, _⟩, _, _⟩ := id S0
  refine (QD.out _ (S0.2.1.wide S0.2.2.size)).mono ?_
  rintro e w2 ⟨Ad, cd, rfl, hN, hb_⟩
  have hT : Two w2 (w.heap.size + 1) w2.heap.size Ad m cd l 0 (.slice (some ⟨w.heap.size + 1, 0, none⟩) 0 0) [] := by
    refine Two.start (hN.low (by omega)) hm (Nat.le_refl _) (own_below R0 hb_) ?_
    intro a ha e
    have e : w.heap.size + 1 = a := by simpa [Value.ownBlock] using e
    obtain ⟨gs, _, h4, _⟩ := hN
    have := (h4.lt a ha).1
    omega
  have hT := Lib.hid hT
  replace S0 := HO _ _ S0 hb_
  have hz : w.heap.size + 1 ≤ w2.heap.size := by have := hb_.size; omega
  generalize w2.heap.size = hi at hT
  clear hb_ hN QD R0 hlt0
  obtain ⟨⟨_, _⟩, _, _⟩ := id S0
  go_wp2_with fail
  go_loopw [3, 5] (fun v q wr => ∃ k : Nat, k ≤ m ∧ q = .int .i64 k ∧ Hid (Two wr (w.heap.size + 1) hi Ad m cd l k v (gTo (crossD ps) l k)) ∧ w.heap.size + 1 ≤ wr.heap.size ∧ (Pts.BoxR wr (w.heap.size) (.slice A n cap) ∧ PtsAt wr w.heap.size A ps ∧ Below w.heap.size w wr))
    (fun _ q _ => m - (intOf q).toNat)
  case atStart => exact ⟨0, Nat.zero_le _, rfl, hT, hz, S0⟩
  case round =>
    clear S0 hz hT
    obtain ⟨k, hkm, rfl, HN, hz, S0⟩ := hrel
    obtain ⟨⟨_, _⟩, _, _⟩ := id S0
    have HC := Lib.hid (hcl k)
    by_cases hlt : k < m
    rotate_left
    · obtain rfl : m = k := by omega
      rw [HE.out] at HN
      obtain ⟨A1, c1, rfl⟩ := HN.out.shape
      have h2 := Lib.hid (HN.out.nest.low (Nat.le_succ w.heap.size))
      clear HE hcl HC
      go_wp2_with fail
      go_ret
      exact ⟨A1, c1, rfl, h2.out, S0.2.2⟩
    have k0 : (0 : Int) ≤ (k : Int) := by omega
    have k1 : (k : Int) < (m : Int) := by omega
    have HG : Hid (gTo (crossD ps) l (k + 1) = if (gTo (crossD ps) l k).any (crossD ps (l.getD k (0, 0))) then gTo (crossD ps) l k else gTo (crossD ps) l k ++ [l.getD k (0, 0)]) := Lib.hid rfl
    have hmem : l.getD k (0, 0) ∈ l := by
      have e : l.getD k (0, 0) = l[k]'(by omega) := by simp [List.getD, List.getElem?_eq_getElem (show k < l.length by omega)]
      rw [e]; exact List.getElem_mem _
    obtain ⟨di, dk, hd, hik, hkn, hr⟩ := HI.out _ hmem
    have hsub : ∀ x, x ∈ gTo (crossD ps) l k → x ∈ l := fun x hx => gTo_in _ (by omega) hx
    have HI2 : Hid (∀ x, x ∈ gTo (crossD ps) l k → ∃ a b : Nat, x = ((a : Int), (b : Int)) ∧ a < b ∧ b < n ∧ roomB ps = true) := Lib.hid (fun x hx => HI.out x (hsub x hx))
    obtain ⟨g0, g, rfl, hg0, cD, hg, hH⟩ := HN.out.get hlt
    rw [hd] at hH HG
    have HHD : Hid (l.getD k (0, 0) = ((di : Int), (dk : Int))) := Lib.hid hd
    generalize gTo (crossD ps) l k = L at *
    obtain ⟨Ao, co, rfl⟩ := HN.out.shape
    obtain ⟨q, hq⟩ : ∃ q, L.length = q := ⟨_, rfl⟩
    rw [hq] at HN HC ⊢
    have hqk := HC.out
    have hok := (roomB_yes hr).2.1
    have p0 := Pts.PtsAt.get (x := (pt ps di).1) (y := (pt ps di).2) S0.2.1 (pt_at (ps := ps) (k := di) (by omega))
    have p1 := Pts.PtsAt.get (x := (pt ps dk).1) (y := (pt ps dk).2) S0.2.1 (pt_at (ps := ps) (k := dk) (by omega))
    have o0 := okP_sm (okAll_at hok (k := di) (by omega))
    have o1 := okP_sm (okAll_at hok (k := dk) (by omega))
    obtain ⟨ed, rfl, bA, pA⟩ := p0
    obtain ⟨ed2, eA2, _, pB⟩ := p1
    injection eA2 with eA2
    subst eA2
    obtain ⟨FX, hFX⟩ : ∃ FX : Nat → Bool, (fun j => crossD ps ((di : Int), (dk : Int)) (L.getD j (0, 0))) = FX := ⟨_, rfl⟩
    have HFX : Hid (∀ j, crossD ps ((di : Int), (dk : Int)) (L.getD j (0, 0)) = FX j) := Lib.hid (fun j => by rw [← hFX])
    have HA0 : Hid (∀ j, j < q → FX j = true → L.any (crossD ps ((di : Int), (dk : Int))) = true) := Lib.hid (fun j hj h => by
      rw [List.any_eq_true]
      refine ⟨L.getD j (0, 0), ?_, by rw [HFX.out]; exact h⟩
      have e : L.getD j (0, 0) = L[j]'(by omega) := by simp [List.getD, List.getElem?_eq_getElem (show j < L.length by omega)]
      rw [e]; exact List.getElem_mem _)
    have HA1 : Hid ((∀ j, j < q → FX j = false) → L.any (crossD ps ((di : Int), (dk : Int))) = false) := Lib.hid (fun h => by
      rw [List.any_eq_false]
      intro x hx
      obtain ⟨j, hj, rfl⟩ := List.mem_iff_getElem.1 hx
      have e : L.getD j (0, 0) = L[j] := by simp [List.getD, List.getElem?_eq_getElem hj]
      have := HFX.out j
      rw [e, h j (by omega)] at this
      rw [this]; simp)
    have QX : Hid (∀ (s t : Nat), s < n → t < n → ∀ w, _) := Lib.hid fun (s t : Nat) (hs : s < n) (ht : t < n) w => WallSpec.l03Cross (pt ps di).1 (pt ps di).2 (pt ps dk).1 (pt ps dk).2 (pt ps s).1 (pt ps s).2 (pt ps t).1 (pt ps t).2 o0 o1 (okP_sm (okAll_at hok (k := s) (by omega))) (okP_sm (okAll_at hok (k := t) (by omega))) w
    have HX2 : Hid (∀ (j s t : Nat), L.getD j (0, 0) = ((s : Int), (t : Int)) → (sepW (pt ps di).1 (pt ps di).2 (pt ps dk).1 (pt ps dk).2 (pt ps s).1 (pt ps s).2 (pt ps t).1 (pt ps t).2 && sepW (pt ps s).1 (pt ps s).2 (pt ps t).1 (pt ps t).2 (pt ps di).1 (pt ps di).2 (pt ps dk).1 (pt ps dk).2) = FX j) := Lib.hid (fun j s t h => by
      rw [← HFX.out, h]; rfl)
    have PD : Hid (∀ W, PtsAt W w.heap.size (some ed) ps → ∀ s, s < n → PtAt W ed s (pt ps s).1 (pt ps s).2) := Lib.hid (fun W h s hs => by
      obtain ⟨ed3, e3, _, p3⟩ := Pts.PtsAt.get (x := (pt ps s).1) (y := (pt ps s).2) h (pt_at (ps := ps) (k := s) (by omega))
      injection e3 with e3
      subst e3
      exact p3)
    have hdi1 : (di : Int) < (n : Int) := by omega
    have hdk1 : (dk : Int) < (n : Int) := by omega
    have hdi0 : (0 : Int) ≤ (di : Int) := by omega
    have hdk0 : (0 : Int) ≤ (dk : Int) := by omega
    generalize L.any (crossD ps ((di : Int), (dk : Int))) = any at *
    generalize pt ps di = pa at *
    generalize pt ps dk = pb at *
    clear hFX HFX HE hcl HI hmem hd hsub HC o0 o1 hok
    have HO : ∀ W W' : World, (BoxR W w.heap.size (.slice (some ed) n cap) ∧ PtsAt W w.heap.size (some ed) ps ∧ PtAt W ed di pa.1 pa.2 ∧ PtAt W ed dk pb.1 pb.2 ∧ Cell W g0 k g ∧ Pair W g (di : Int) (dk : Int) ∧ Two W (w.heap.size + 1) hi (some ⟨g0, 0, none⟩) m cd l k (.slice Ao q co) L ∧ w.heap.size + 1 ≤ W.heap.size ∧ Below w.heap.size w W) → Below W.heap.size W W' → (BoxR W' w.heap.size (.slice (some ed) n cap) ∧ PtsAt W' w.heap.size (some ed) ps ∧ PtAt W' ed di pa.1 pa.2 ∧ PtAt W' ed dk pb.1 pb.2 ∧ Cell W' g0 k g ∧ Pair W' g (di : Int) (dk : Int) ∧ Two W' (w.heap.size + 1) hi (some ⟨g0, 0, none⟩) m cd l k (.slice Ao q co) L ∧ w.heap.size + 1 ≤ W'.heap.size ∧ Below w.heap.size w W') := fun W W' ⟨x0, x1, x2, x3, x4, x5, x6, x7, hb⟩ h => ⟨x0.later h, x1.later (h.mono hb.size), x2.later bA (h.mono hb.size), x3.later bA (h.mono hb.size), x4.later h, x5.later h, x6.later h, Nat.le_trans x7 h.size, hb.trans (h.mono hb.size)⟩
    replace S0 : BoxR wr w.heap.size (.slice (some ed) n cap) ∧ PtsAt wr w.heap.size (some ed) ps ∧ PtAt wr ed di pa.1 pa.2 ∧ PtAt wr ed dk pb.1 pb.2 ∧ Cell wr g0 k g ∧ Pair wr g (di : Int) (dk : Int) ∧ Two wr (w.heap.size + 1) hi (some ⟨g0, 0, none⟩) m cd l k (.slice Ao q co) L ∧ w.heap.size + 1 ≤ wr.heap.size ∧ Below w.heap.size w wr := ⟨S0.1, S0.2.1, pA, pB, ⟨cD, hg0⟩, pair_of hH, HN.out, hz, S0.2.2⟩
    clear pA pB cD hg0 hH hg HN hz
    obtain ⟨⟨_, _⟩, _, ⟨_, _⟩, ⟨_, _⟩, ⟨_, _⟩, ⟨_, _, _⟩, _, _, _⟩ := id S0
    go_wp2_with fail
    go_loopw [6, 7] (fun v qv wr => ∃ (j : Nat) (b : Bool), j ≤ q ∧ qv = .int .i64 j ∧ v = .bool b ∧ Hid (b = true → ∀ t, t < j → FX t = false) ∧ Hid (b = false → any = true) ∧ (BoxR wr w.heap.size (.slice (some ed) n cap) ∧ PtsAt wr w.heap.size (some ed) ps ∧ PtAt wr ed di pa.1 pa.2 ∧ PtAt wr ed dk pb.1 pb.2 ∧ Cell wr g0 k g ∧ Pair wr g (di : Int) (dk : Int) ∧ Two wr (w.heap.size + 1) hi (some ⟨g0, 0, none⟩) m cd l k (.slice Ao q co) L ∧ w.heap.size + 1 ≤ wr.heap.size ∧ Below w.heap.size w wr))
      (fun _ qv _ => q - (intOf qv).toNat)
    case atStart => exact ⟨0, true, Nat.zero_le _, rfl, rfl, Lib.hid (fun _ t ht => absurd ht (by omega)), Lib.hid (fun h => by cases h), S0⟩
    case round =>
      clear S0
      obtain ⟨j, b, hjq, rfl, rfl, H1, H0, S0⟩ := hrel
      obtain ⟨⟨_, _⟩, _, ⟨_, _⟩, ⟨_, _⟩, ⟨_, _⟩, ⟨_, _, _⟩, _, _, _⟩ := id S0
      by_cases hjt : j < q
      · have j0 : (0 : Int) ≤ (j : Int) := by omega
        have j1 : (j : Int) < (q : Int) := by omega
        clear HG HA1 HHD
        cases b
        · have HF0 := Lib.hid (H0.out rfl)
          clear H1 H0 HA0 HX2 QX PD HI2
          go_wp2_with fail
          refine Settle.region (fun W => BoxR W w.heap.size (.slice (some ed) n cap) ∧ PtsAt W w.heap.size (some ed) ps ∧ PtAt W ed di pa.1 pa.2 ∧ PtAt W ed dk pb.1 pb.2 ∧ Cell W g0 k g ∧ Pair W g (di : Int) (dk : Int) ∧ Two W (w.heap.size + 1) hi (some ⟨g0, 0, none⟩) m cd l k (.slice Ao q co) L ∧ w.heap.size + 1 ≤ W.heap.size ∧ Below w.heap.size w W) (by kernel_rfl) (by kernel_rfl) (by kernel_rfl) (by kernel_rfl) (HO _ _ S0 ((Below.refl _ _).drew)) ?_
          clear S0
          repeat (first
            | (refine Settle.Settles.off (by rfl) ?_; simp only [Act.put, List.setIfInBounds_toArray, List.set_cons_zero, List.set_cons_succ])
            | (refine Settle.Settles.quiet (v := ?_) (by rfl) ?_ ?_
               rotate_left
               · (intro W hS; obtain ⟨⟨_, _⟩, _, ⟨_, _⟩, ⟨_, _⟩, ⟨_, _⟩, ⟨_, _, _⟩, _, _, _⟩ := hS; go_simp; with_reducible rfl)
               simp only [Act.put, List.setIfInBounds_toArray, List.set_cons_zero, List.set_cons_succ])
            | (refine Settle.Settles.call (v := ?_) (f := ?_) (args := ?_) (by rfl) ?_ ?_ ?_
               rotate_left 3
               · (intro W; go_simp; refine ⟨?_, ?_⟩ <;> with_reducible rfl)
               · (intro W hS; fail)
               simp only [Act.put, List.setIfInBounds_toArray, List.set_cons_zero, List.set_cons_succ]))
          refine Settle.Settles.nil ?_
          intro wr S0
          obtain ⟨⟨_, _⟩, _, ⟨_, _⟩, ⟨_, _⟩, ⟨_, _⟩, ⟨_, _, _⟩, _, _, _⟩ := id S0
          go_wp2_with fail
          go_roundw
          case rel => exact ⟨j + 1, false, by omega, by go_num, rfl, Lib.hid (fun h => by cases h), Lib.hid (fun _ => HF0.out), S0⟩
          case measure => simp [intOf]; omega
        · have hmem : L.getD j (0, 0) ∈ L := by
            have e : L.getD j (0, 0) = L[j]'(by omega) := by simp [List.getD, List.getElem?_eq_getElem (show j < L.length by omega)]
            rw [e]; exact List.getElem_mem _
          obtain ⟨s, t, hst, hs_t, htn, _⟩ := HI2.out _ hmem
          obtain ⟨go0, go, hAo, hgo0, cO, hgo, hHO⟩ := S0.2.2.2.2.2.2.1.getO hq hjt
          rw [hst] at hHO
          subst hAo
          have hx2 := HX2.out j s t hst
          have QX2 := Lib.hid (QX.out s t (by omega) htn)
          rw [hx2] at QX2
          have pC := PD.out _ S0.2.1 s (by omega)
          have pD := PD.out _ S0.2.1 t htn
          have HAj := Lib.hid (HA0.out j hjt)
          have HS : Hid (FX j = false → ∀ t, t < j + 1 → FX t = false) := Lib.hid (fun h t ht => by
            rcases Nat.lt_or_ge t j with h1 | h1
            · exact H1.out rfl t h1
            · obtain rfl : t = j := by omega
              exact h)
          generalize FX j = fj at *
          generalize pt ps s = pc at *
          generalize pt ps t = pd at *
          have hs1 : (s : Int) < (n : Int) := by omega
          have ht1 : (t : Int) < (n : Int) := by omega
          have hs0 : (0 : Int) ≤ (s : Int) := by omega
          have ht0 : (0 : Int) ≤ (t : Int) := by omega
          clear H1 H0 HA0 HX2 QX PD HI2 hmem hst hx2 hs_t
          have HO : ∀ W W' : World, (BoxR W w.heap.size (.slice (some ed) n cap) ∧ PtsAt W w.heap.size (some ed) ps ∧ PtAt W ed di pa.1 pa.2 ∧ PtAt W ed dk pb.1 pb.2 ∧ Cell W g0 k g ∧ Pair W g (di : Int) (dk : Int) ∧ Two W (w.heap.size + 1) hi (some ⟨g0, 0, none⟩) m cd l k (.slice (some ⟨go0, 0, none⟩) q co) L ∧ w.heap.size + 1 ≤ W.heap.size ∧ PtAt W ed s pc.1 pc.2 ∧ PtAt W ed t pd.1 pd.2 ∧ Cell W go0 j go ∧ Pair W go (s : Int) (t : Int) ∧ Below w.heap.size w W) → Below W.heap.size W W' → (BoxR W' w.heap.size (.slice (some ed) n cap) ∧ PtsAt W' w.heap.size (some ed) ps ∧ PtAt W' ed di pa.1 pa.2 ∧ PtAt W' ed dk pb.1 pb.2 ∧ Cell W' g0 k g ∧ Pair W' g (di : Int) (dk : Int) ∧ Two W' (w.heap.size + 1) hi (some ⟨g0, 0, none⟩) m cd l k (.slice (some ⟨go0, 0, none⟩) q co) L ∧ w.heap.size + 1 ≤ W'.heap.size ∧ PtAt W' ed s pc.1 pc.2 ∧ PtAt W' ed t pd.1 pd.2 ∧ Cell W' go0 j go ∧ Pair W' go (s : Int) (t : Int) ∧ Below w.heap.size w W') := fun W W' ⟨x0, x1, x2, x3, x4, x5, x6, x7, x8, x9, x10, x11, hb⟩ h => ⟨x0.later h, x1.later (h.mono hb.size), x2.later bA (h.mono hb.size), x3.later bA (h.mono hb.size), x4.later h, x5.later h, x6.later h, Nat.le_trans x7 h.size, x8.later bA (h.mono hb.size), x9.later bA (h.mono hb.size), x10.later h, x11.later h, hb.trans (h.mono hb.size)⟩
          replace S0 : BoxR wr w.heap.size (.slice (some ed) n cap) ∧ PtsAt wr w.heap.size (some ed) ps ∧ PtAt wr ed di pa.1 pa.2 ∧ PtAt wr ed dk pb.1 pb.2 ∧ Cell wr g0 k g ∧ Pair wr g (di : Int) (dk : Int) ∧ Two wr (w.heap.size + 1) hi (some ⟨g0, 0, none⟩) m cd l k (.slice (some ⟨go0, 0, none⟩) q co) L ∧ w.heap.size + 1 ≤ wr.heap.size ∧ PtAt wr ed s pc.1 pc.2 ∧ PtAt wr ed t pd.1 pd.2 ∧ Cell wr go0 j go ∧ Pair wr go (s : Int) (t : Int) ∧ Below w.heap.size w wr := ⟨S0.1, S0.2.1, S0.2.2.1, S0.2.2.2.1, S0.2.2.2.2.1, S0.2.2.2.2.2.1, S0.2.2.2.2.2.2.1, S0.2.2.2.2.2.2.2.1, pC, pD, ⟨cO, hgo0⟩, pair_of hHO, S0.2.2.2.2.2.2.2.2⟩
          clear pC pD cO hgo0 hHO hgo
          obtain ⟨⟨_, _⟩, _, ⟨_, _⟩, ⟨_, _⟩, ⟨_, _⟩, ⟨_, _, _⟩, _, _, ⟨_, _⟩, ⟨_, _⟩, ⟨_, _⟩, ⟨_, _, _⟩, _⟩ := id S0
          cases fj
          · have HS2 := Lib.hid (HS.out rfl)
            clear HS HAj
            go_wp2_with fail
            refine Settle.region (fun W => BoxR W w.heap.size (.slice (some ed) n cap) ∧ PtsAt W w.heap.size (some ed) ps ∧ PtAt W ed di pa.1 pa.2 ∧ PtAt W ed dk pb.1 pb.2 ∧ Cell W g0 k g ∧ Pair W g (di : Int) (dk : Int) ∧ Two W (w.heap.size + 1) hi (some ⟨g0, 0, none⟩) m cd l k (.slice (some ⟨go0, 0, none⟩) q co) L ∧ w.heap.size + 1 ≤ W.heap.size ∧ PtAt W ed s pc.1 pc.2 ∧ PtAt W ed t pd.1 pd.2 ∧ Cell W go0 j go ∧ Pair W go (s : Int) (t : Int) ∧ Below w.heap.size w W) (by kernel_rfl) (by kernel_rfl) (by kernel_rfl) (by kernel_rfl) (HO _ _ S0 ((Below.refl _ _).drew)) ?_
            clear S0
            repeat (first
              | (refine Settle.Settles.off (by rfl) ?_; simp only [Act.put, List.setIfInBounds_toArray, List.set_cons_zero, List.set_cons_succ])
              | (refine Settle.Settles.quiet (v := ?_) (by rfl) ?_ ?_
                 rotate_left
                 · (intro W hS; obtain ⟨⟨_, _⟩, _, ⟨_, _⟩, ⟨_, _⟩, ⟨_, _⟩, ⟨_, _, _⟩, _, _, ⟨_, _⟩, ⟨_, _⟩, ⟨_, _⟩, ⟨_, _, _⟩, _⟩ := hS; go_simp; with_reducible rfl)
                 simp only [Act.put, List.setIfInBounds_toArray, List.set_cons_zero, List.set_cons_succ])
              | (refine Settle.Settles.call (v := ?_) (f := ?_) (args := ?_) (by rfl) ?_ ?_ ?_
                 rotate_left 3
                 · (intro W; go_simp; refine ⟨?_, ?_⟩ <;> with_reducible rfl)
                 · (intro W hS; first | (go_at_call 43; (with_reducible refine (QX2.out _).mono ?_); rintro e W1 ⟨rfl, hb⟩; refine ⟨?_, HO _ _ hS hb⟩; with_reducible rfl))
                 simp only [Act.put, List.setIfInBounds_toArray, List.set_cons_zero, List.set_cons_succ]))
            refine Settle.Settles.nil ?_
            intro wr S0
            obtain ⟨⟨_, _⟩, _, ⟨_, _⟩, ⟨_, _⟩, ⟨_, _⟩, ⟨_, _, _⟩, _, _, ⟨_, _⟩, ⟨_, _⟩, ⟨_, _⟩, ⟨_, _, _⟩, _⟩ := id S0
            go_wp2_with fail
            first
              | exact ⟨⟨j + 1, true, by omega, by go_num, rfl, Lib.hid (fun _ => HS2.out), Lib.hid (fun h => by cases h), S0.1, S0.2.1, S0.2.2.1, S0.2.2.2.1, S0.2.2.2.2.1, S0.2.2.2.2.2.1, S0.2.2.2.2.2.2.1, S0.2.2.2.2.2.2.2.1, S0.2.2.2.2.2.2.2.2.2.2.2.2⟩, by simp [intOf]; omega⟩
              | (go_roundw <;> first | exact ⟨j + 1, true, by omega, by go_num, rfl, Lib.hid (fun _ => HS2.out), Lib.hid (fun h => by cases h), S0.1, S0.2.1, S0.2.2.1, S0.2.2.2.1, S0.2.2.2.2.1, S0.2.2.2.2.2.1, S0.2.2.2.2.2.2.1, S0.2.2.2.2.2.2.2.1, S0.2.2.2.2.2.2.2.2.2.2.2.2⟩ | (simp [intOf]; omega))
          · have HA2 := Lib.hid (HAj.out rfl)
            clear HS HAj
            go_wp2_with fail
            refine Settle.region (fun W => BoxR W w.heap.size (.slice (some ed) n cap) ∧ PtsAt W w.heap.size (some ed) ps ∧ PtAt W ed di pa.1 pa.2 ∧ PtAt W ed dk pb.1 pb.2 ∧ Cell W g0 k g ∧ Pair W g (di : Int) (dk : Int) ∧ Two W (w.heap.size + 1) hi (some ⟨g0, 0, none⟩) m cd l k (.slice (some ⟨go0, 0, none⟩) q co) L ∧ w.heap.size + 1 ≤ W.heap.size ∧ PtAt W ed s pc.1 pc.2 ∧ PtAt W ed t pd.1 pd.2 ∧ Cell W go0 j go ∧ Pair W go (s : Int) (t : Int) ∧ Below w.heap.size w W) (by kernel_rfl) (by kernel_rfl) (by kernel_rfl) (by kernel_rfl) (HO _ _ S0 ((Below.refl _ _).drew)) ?_
            clear S0
            repeat (first
              | (refine Settle.Settles.off (by rfl) ?_; simp only [Act.put, List.setIfInBounds_toArray, List.set_cons_zero, List.set_cons_succ])
              | (refine Settle.Settles.quiet (v := ?_) (by rfl) ?_ ?_
                 rotate_left
                 · (intro W hS; obtain ⟨⟨_, _⟩, _, ⟨_, _⟩, ⟨_, _⟩, ⟨_, _⟩, ⟨_, _, _⟩, _, _, ⟨_, _⟩, ⟨_, _⟩, ⟨_, _⟩, ⟨_, _, _⟩, _⟩ := hS; go_simp; with_reducible rfl)
                 simp only [Act.put, List.setIfInBounds_toArray, List.set_cons_zero, List.set_cons_succ])
              | (refine Settle.Settles.call (v := ?_) (f := ?_) (args := ?_) (by rfl) ?_ ?_ ?_
                 rotate_left 3
                 · (intro W; go_simp; refine ⟨?_, ?_⟩ <;> with_reducible rfl)
                 · (intro W hS; first | (go_at_call 43; (with_reducible refine (QX2.out _).mono ?_); rintro e W1 ⟨rfl, hb⟩; refine ⟨?_, HO _ _ hS hb⟩; with_reducible rfl))
                 simp only [Act.put, List.setIfInBounds_toArray, List.set_cons_zero, List.set_cons_succ]))
            refine Settle.Settles.nil ?_
            intro wr S0
            obtain ⟨⟨_, _⟩, _, ⟨_, _⟩, ⟨_, _⟩, ⟨_, _⟩, ⟨_, _, _⟩, _, _, ⟨_, _⟩, ⟨_, _⟩, ⟨_, _⟩, ⟨_, _, _⟩, _⟩ := id S0
            go_wp2_with fail
            first
              | exact ⟨⟨j + 1, false, by omega, by go_num, rfl, Lib.hid (fun h => by cases h), Lib.hid (fun _ => HA2.out), S0.1, S0.2.1, S0.2.2.1, S0.2.2.2.1, S0.2.2.2.2.1, S0.2.2.2.2.2.1, S0.2.2.2.2.2.2.1, S0.2.2.2.2.2.2.2.1, S0.2.2.2.2.2.2.2.2.2.2.2.2⟩, by simp [intOf]; omega⟩
              | (go_roundw <;> first | exact ⟨j + 1, false, by omega, by go_num, rfl, Lib.hid (fun h => by cases h), Lib.hid (fun _ => HA2.out), S0.1, S0.2.1, S0.2.2.1, S0.2.2.2.1, S0.2.2.2.2.1, S0.2.2.2.2.2.1, S0.2.2.2.2.2.2.1, S0.2.2.2.2.2.2.2.1, S0.2.2.2.2.2.2.2.2.2.2.2.2⟩ | (simp [intOf]; omega))
      have HO : ∀ W W' : World, (BoxR W w.heap.size (.slice (some ed) n cap) ∧ PtsAt W w.heap.size (some ed) ps ∧ PtAt W ed di pa.1 pa.2 ∧ PtAt W ed dk pb.1 pb.2 ∧ Cell W g0 k g ∧ Pair W g (di : Int) (dk : Int) ∧ Two W (w.heap.size + 1) hi (some ⟨g0, 0, none⟩) m cd l k (.slice Ao q co) L ∧ w.heap.size + 1 ≤ W.heap.size ∧ Below w.heap.size w W) → Below W.heap.size W W' → (BoxR W' w.heap.size (.slice (some ed) n cap) ∧ PtsAt W' w.heap.size (some ed) ps ∧ PtAt W' ed di pa.1 pa.2 ∧ PtAt W' ed dk pb.1 pb.2 ∧ Cell W' g0 k g ∧ Pair W' g (di : Int) (dk : Int) ∧ Two W' (w.heap.size + 1) hi (some ⟨g0, 0, none⟩) m cd l k (.slice Ao q co) L ∧ w.heap.size + 1 ≤ W'.heap.size ∧ Below w.heap.size w W') := fun W W' ⟨x0, x1, x2, x3, x4, x5, x6, x7, hb⟩ h => ⟨x0.later h, x1.later (h.mono hb.size), x2.later bA (h.mono hb.size), x3.later bA (h.mono hb.size), x4.later h, x5.later h, x6.later h, Nat.le_trans x7 h.size, hb.trans (h.mono hb.size)⟩
      obtain rfl : q = j := by omega
      have HT := Lib.hid S0.2.2.2.2.2.2.1
      cases b
      · have hany := H0.out rfl
        rw [hany, if_pos rfl] at HG
        have HT2 := Lib.hid HT.out.next
        clear H1 H0 HA0 HA1 HX2 QX PD HI2 HT
        go_wp2_with fail
        first
          | exact ⟨⟨k + 1, by omega, by go_num, by rw [HG.out]; exact HT2, S0.2.2.2.2.2.2.2.1, S0.1, S0.2.1, S0.2.2.2.2.2.2.2.2⟩, by simp [intOf]; omega⟩
          | (go_roundw <;> first | exact ⟨k + 1, by omega, by go_num, by rw [HG.out]; exact HT2, S0.2.2.2.2.2.2.2.1, S0.1, S0.2.1, S0.2.2.2.2.2.2.2.2⟩ | (simp [intOf]; omega))
      · have hany := HA1.out (H1.out rfl)
        rw [hany, if_neg (by simp)] at HG
        have hz5 := S0.2.2.2.2.2.2.2.1
        have hlen : L.length ≤ 1048575 := by omega
        have H9 : Hid (l[k]'(by omega) = ((di : Int), (dk : Int))) := Lib.hid (by rw [← HHD.out]; simp [List.getD, List.getElem?_eq_getElem (show k < l.length by omega)])
        clear H1 H0 HA0 HA1 HX2 QX PD HI2 HHD
        go_wp2_with (at_builtin; refine append_sv _ (by rfl) _ _ (by rfl) (w.heap.size + 1) hi m cd k _ l L _ (by rfl) HT.out hlt g0 g rfl S0.2.2.2.2.1.1 (by rfl) hlen hz5 ?_)
        intro v5 w5 h5 hg5
        have hb5 : Below (w.heap.size + 1) wr w5 := (Below.refl _ _).grown hg5 hz5 (fun g hg => HT.out.low hg)
        first
          | rw [H9.out, ← HG.out] at h5
          | (rw [show l.getD k (0, 0) = l[k]'(by omega) by simp [List.getD, List.getElem?_eq_getElem (show k < l.length by omega)], H9.out, ← HG.out] at h5)
        have h5 := Lib.hid h5
        have S5 := HO2 _ _ ⟨S0.1, S0.2.1, S0.2.2.2.2.2.2.2.2⟩ hb5
        have hz6 := Nat.le_trans hz5 hb5.size
        clear hg5 hb5 HT S0
        go_wp2_with fail
        first
          | exact ⟨⟨k + 1, by omega, by go_num, h5, hz6, S5⟩, by simp [intOf]; omega⟩
          | (go_roundw <;> first | exact ⟨k + 1, by omega, by go_num, h5, hz6, S5⟩ | (simp [intOf]; omega))
end Go.Proofs.Ytmmmnnncbpdinaa.GrdSpec

