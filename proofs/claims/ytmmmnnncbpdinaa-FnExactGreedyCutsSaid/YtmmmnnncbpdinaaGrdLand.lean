/-
  What the landed GreedyCuts does, as a contract: the diagonals that it takes, in new memory.
-/
import Derived.Test.YtmmmnnncbpdinaaGrdImpl
namespace Go.Proofs.Ytmmmnnncbpdinaa.GrdLand
open Go.RowKit Own PointMath WallMath RoomMath Pts Blk AreaMath PlaceMath FloorMath LineMath CutsMath SightMath DiagMath EdgeMath DgsMath GrdMath GrdRow
open PointOk (ret_bool ret_i64 below1 below2 below3)
open Nest (GivesN sv svs)

/-- The blocks of the second row's pairs. -/
theorem blocks {W : World} {lo hi : Nat} {Ad : Option Addr} {m cd : Nat} {l : List (Int × Int)} {k q c : Nat} {A : Option Addr} {L : List (Int × Int)} (h : Two W lo hi Ad m cd l k (.slice A q c) L) (hq : L.length = q) :
    ∃ bs : Nat → Nat, (∀ j, j < q → ∃ g0, A = some ⟨g0, 0, none⟩ ∧ Cell W g0 j (bs j)) ∧ ∀ j, j < q → Pair W (bs j) (L.getD j (0, 0)).1 (L.getD j (0, 0)).2 := by
  obtain ⟨gs, gs', h0, h1, h2, h3, h4, h5, h6, h7⟩ := h
  rw [hq] at h5
  have key : ∀ j, j < q → gs'[j]? = some (gs'.getD j 0) := fun j hj => by
    rw [List.getD_eq_getElem?_getD, List.getElem?_eq_getElem (show j < gs'.length by rw [h4.1]; omega)]; rfl
  refine ⟨fun j => gs'.getD j 0, fun j hj => ?_, fun j hj => ?_⟩
  · obtain ⟨g0, hA, _, hlt, hc, _⟩ := own_cell h5 hj (x := sv (gs'.getD j 0)) (by unfold svs; rw [List.getElem?_map, key j hj]; rfl)
    exact ⟨g0, hA, hc, hlt⟩
  · obtain ⟨g, e, x, y, z⟩ := h4.at_ (j := j) (by omega)
    rw [key j hj] at e
    injection e with e
    have e2 : L.getD j (0, 0) = L[j]'(by omega) := by simp [List.getD, List.getElem?_eq_getElem (show j < L.length by omega)]
    show Pair W (gs'.getD j 0) _ _
    rw [e2, e]
    exact pair_of z

set_option maxRecDepth 100000 in
set_option maxHeartbeats 12800000 in
theorem greedyCuts (A : Option Addr) (n cap : Nat) (w : World) (ps : List (Int × Int)) (hl : ps.length = n) (hn : n ≤ 1048576) (hp : PtsAt w w.heap.size A ps) :
    Calls Try.prog 17 #[.agg #[.slice A n cap]] w (GivesN w (grdL ps)) := by
  obtain ⟨r, hr⟩ : ∃ r, grdL ps = r := ⟨_, rfl⟩
  have HR := Lib.hid hr
  rw [hr]
  clear hr
  obtain ⟨l, hdl⟩ : ∃ l, dgsL ps = l := ⟨_, rfl⟩
  obtain ⟨m, hm⟩ : ∃ m, l.length = m := ⟨_, rfl⟩
  have HE : Hid (gTo (crossD ps) l m = r) := Lib.hid (by rw [← HR.out, ← hm, ← hdl]; rfl)
  have hmb : m ≤ 20000 := by rw [← hm, ← hdl]; exact dgs_le ps
  have HI : Hid (∀ x, x ∈ l → ∃ a b : Nat, x = ((a : Int), (b : Int)) ∧ a < b ∧ b < n ∧ roomB ps = true) := Lib.hid (fun x hx => by rw [← hl]; exact dgs_in (by rw [hdl]; exact hx))
  have HW : Hid (∀ k, k < m → (gTo (crossD ps) l k).any (fun e => decide (e = l.getD k (0, 0)) || crossD ps (l.getD k (0, 0)) e) = (gTo (crossD ps) l k).any (crossD ps (l.getD k (0, 0)))) := Lib.hid (fun k hk => gTo_own _ (by rw [← hdl]; exact dgs_nodup ps) (by omega))
  have QD : Hid (∀ W h, _) := Lib.hid fun W h => DgsImpl.diagonalsOf A n cap W ps hl hn h
  rw [hdl] at QD
  unfold GivesN at QD
  rw [hm] at QD
  have hcl : ∀ k, (gTo (crossD ps) l k).length ≤ k := gTo_len _ _
  clear HR hdl
  go_enter Try.func17, Try.ntmps17
  go_wp2_with fail
  have X0 := Pts.boxR w (.slice A n cap) 28 (k := w.heap.size) (by simp)
  have b0 := PointOk.below1 w (Obj.cells #[.slice A n cap] 28)
  have HO : ∀ W W' : World, (Pts.BoxR W (w.heap.size) (.slice A n cap) ∧ PtsAt W w.heap.size A ps ∧ Below w.heap.size w W) → Below W.heap.size W W' → (Pts.BoxR W' (w.heap.size) (.slice A n cap) ∧ PtsAt W' w.heap.size A ps ∧ Below w.heap.size w W') := fun W W' ⟨h0, x0, hb⟩ h => ⟨h0.later h, x0.later (h.mono hb.size), hb.trans (h.mono hb.size)⟩
  have hz0_ : Hid (((w.alloc (Obj.cells #[.slice A n cap] 28))).heap.size = w.heap.size + 1) := Lib.hid (by simp)
  have Y0 : PtsAt ((w.alloc (Obj.cells #[.slice A n cap] 28))) w.heap.size A ps := hp.later b0
  generalize (w.alloc (Obj.cells #[.slice A n cap] 28)) = w0 at X0 Y0 b0 hz0_ ⊢
  have S0 := (⟨X0, Y0, b0⟩ : Pts.BoxR w0 (w.heap.size) (.slice A n cap) ∧ PtsAt w0 w.heap.size A ps ∧ Below w.heap.size w w0)
  clear X0 Y0 b0
  obtain ⟨⟨_, _⟩, _, _⟩ := id S0
  have HO2 : ∀ W W' : World, (Pts.BoxR W (w.heap.size) (.slice A n cap) ∧ PtsAt W w.heap.size A ps ∧ Below w.heap.size w W) → Below (w.heap.size + 1) W W' → (Pts.BoxR W' (w.heap.size) (.slice A n cap) ∧ PtsAt W' w.heap.size A ps ∧ Below w.heap.size w W') := fun W W' ⟨h0, x0, hb⟩ h => ⟨⟨(h.cell (by simp)).trans h0.1, trivial⟩, x0.later (h.mono (by omega)), hb.trans (h.mono (by omega))⟩
  have hz0 : w.heap.size + 1 ≤ w0.heap.size := World.block_lt_of_cell? _ _ S0.1.1
  obtain ⟨⟨_, _⟩, _, _⟩ := id S0
  refine (QD.out _ (S0.2.1.wide S0.2.2.size)).mono ?_
  rintro e w2 ⟨Ad, cd, rfl, hN, hb_⟩
  have hT : Two w2 (w.heap.size + 1) w2.heap.size Ad m cd l 0 (.slice none 0 0) [] := Two.start (hN.low hz0) hm (Nat.le_refl _) (World.ownsRow_nil _ _ _ _) (fun a _ e => by cases e)
  have hT := Lib.hid hT
  replace S0 := HO _ _ S0 hb_
  have hz : w.heap.size + 1 ≤ w2.heap.size := by have := hb_.size; omega
  generalize w2.heap.size = hi at hT
  clear hb_ hN QD hz0
  obtain ⟨⟨_, _⟩, _, _⟩ := id S0
  go_wp2_with fail
  go_loopw [3, 9] (fun v q wr => ∃ k : Nat, k ≤ m ∧ q = .int .i64 k ∧ Hid (Two wr (w.heap.size + 1) hi Ad m cd l k v (gTo (crossD ps) l k)) ∧ w.heap.size + 1 ≤ wr.heap.size ∧ (Pts.BoxR wr (w.heap.size) (.slice A n cap) ∧ PtsAt wr w.heap.size A ps ∧ Below w.heap.size w wr))
    (fun _ q _ => m - (intOf q).toNat)
  case atStart => exact ⟨0, Nat.zero_le _, rfl, hT, hz, S0⟩
  case round =>
    clear S0 hz hT
    obtain ⟨k, hkm, rfl, HN, hz, S0⟩ := hrel
    obtain ⟨⟨_, _⟩, _, _⟩ := id S0
    have HC := Lib.hid (hcl k)
    by_cases hlt : k < m
    rotate_left
    · obtain rfl : m = k := by omega
      rw [HE.out] at HN
      obtain ⟨A1, c1, rfl⟩ := HN.out.shape
      have h2 := Lib.hid (HN.out.nest.low (Nat.le_succ w.heap.size))
      clear HE hcl HC HW
      go_wp2_with fail
      go_ret
      exact ⟨A1, c1, rfl, h2.out, S0.2.2⟩
    have k0 : (0 : Int) ≤ (k : Int) := by omega
    have k1 : (k : Int) < (m : Int) := by omega
    have HG : Hid (gTo (crossD ps) l (k + 1) = if (gTo (crossD ps) l k).any (crossD ps (l.getD k (0, 0))) then gTo (crossD ps) l k else gTo (crossD ps) l k ++ [l.getD k (0, 0)]) := Lib.hid rfl
    have hw := HW.out k hlt
    have hmem : l.getD k (0, 0) ∈ l := by
      have e : l.getD k (0, 0) = l[k]'(by omega) := by simp [List.getD, List.getElem?_eq_getElem (show k < l.length by omega)]
      rw [e]; exact List.getElem_mem _
    obtain ⟨di, dk, hd, hik, hkn, hr⟩ := HI.out _ hmem
    have hsub : ∀ x, x ∈ gTo (crossD ps) l k → x ∈ l := fun x hx => gTo_in _ (by omega) hx
    have HI2 : Hid (∀ x, x ∈ gTo (crossD ps) l k → ∃ a b : Nat, x = ((a : Int), (b : Int)) ∧ a < b ∧ b < n ∧ roomB ps = true) := Lib.hid (fun x hx => HI.out x (hsub x hx))
    obtain ⟨g0, g, rfl, hg0, cD, hg, hH⟩ := HN.out.get hlt
    rw [hd] at hH HG hw
    have HHD : Hid (l.getD k (0, 0) = ((di : Int), (dk : Int))) := Lib.hid hd
    generalize gTo (crossD ps) l k = L at *
    obtain ⟨Ao, co, rfl⟩ := HN.out.shape
    obtain ⟨q, hq⟩ : ∃ q, L.length = q := ⟨_, rfl⟩
    rw [hq] at HN HC ⊢
    have hqk := HC.out
    obtain ⟨bs, hc, hpr⟩ := blocks HN.out hq
    have hL : ∀ j, j < q → ∃ s t : Nat, L.getD j (0, 0) = ((s : Int), (t : Int)) ∧ s < n ∧ t < n ∧ Pair wr (bs j) s t := fun j hj => by
      have hm2 : L.getD j (0, 0) ∈ L := by
        have e : L.getD j (0, 0) = L[j]'(by omega) := by simp [List.getD, List.getElem?_eq_getElem (show j < L.length by omega)]
        rw [e]; exact List.getElem_mem _
      obtain ⟨s, t, e, h1, h2, _⟩ := HI2.out _ hm2
      have := hpr j hj
      rw [e] at this
      exact ⟨s, t, e, by omega, h2, this⟩
    have QW := Lib.hid (GrdImpl.inTheWay A n cap Ao q co g di dk wr ps hl hr (by omega) hkn (S0.2.1.wide S0.2.2.size) (pair_of hH) L hq (by omega) bs hc hL)
    rw [hw] at QW
    have cD2 : wr.cell? ⟨g0, k, none⟩ = some (.slice (some ⟨g, 0, none⟩) 2 2) := cD
    have hg0' := hg0
    generalize L.any (crossD ps ((di : Int), (dk : Int))) = any at *
    clear HE hcl HI hmem hd hsub HC HW hw HI2 hL hc hpr hH hg cD
    go_wp2_with fail
    refine QW.out.mono ?_
    rintro e w3 ⟨rfl, hb_⟩
    replace S0 := HO _ _ S0 hb_
    replace HN := Lib.hid (HN.out.later hb_)
    have hz3 := Nat.le_trans hz hb_.size
    have cD3 : w3.cell? ⟨g0, k, none⟩ = some (.slice (some ⟨g, 0, none⟩) 2 2) := (hb_.cell hg0').trans cD2
    clear hb_ QW cD2
    obtain ⟨⟨_, _⟩, _, _⟩ := id S0
    cases any
    · rw [if_neg (by simp)] at HG
      have H9 : Hid (l[k]'(by omega) = ((di : Int), (dk : Int))) := Lib.hid (by rw [← HHD.out]; simp [List.getD, List.getElem?_eq_getElem (show k < l.length by omega)])
      have hlen : L.length ≤ 1048575 := by omega
      clear HHD
      go_wp2_with (at_builtin; refine append_sv _ (by rfl) _ _ (by rfl) (w.heap.size + 1) hi m cd k _ l L _ (by rfl) HN.out hlt g0 g rfl cD3 (by rfl) hlen hz3 ?_)
      intro v5 w5 h5 hg5
      have hb5 : Below (w.heap.size + 1) w3 w5 := (Below.refl _ _).grown hg5 hz3 (fun g hg => HN.out.low hg)
      first
        | rw [H9.out, ← HG.out] at h5
        | (rw [show l.getD k (0, 0) = l[k]'(by omega) by simp [List.getD, List.getElem?_eq_getElem (show k < l.length by omega)], H9.out, ← HG.out] at h5)
      have h5 := Lib.hid h5
      have S5 := HO2 _ _ S0 hb5
      have hz6 := Nat.le_trans hz3 hb5.size
      clear hg5 hb5 HN S0
      go_wp2_with fail
      first
        | exact ⟨⟨k + 1, by omega, by go_num, h5, hz6, S5⟩, by simp [intOf]; omega⟩
        | (go_roundw <;> first | exact ⟨k + 1, by omega, by go_num, h5, hz6, S5⟩ | (simp [intOf]; omega))
    · rw [if_pos rfl] at HG
      have HT2 := Lib.hid HN.out.next
      clear HN HHD cD3
      go_wp2_with fail
      first
        | exact ⟨⟨k + 1, by omega, by go_num, by rw [HG.out]; exact HT2, hz3, S0⟩, by simp [intOf]; omega⟩
        | (go_roundw <;> first | exact ⟨k + 1, by omega, by go_num, by rw [HG.out]; exact HT2, hz3, S0⟩ | (simp [intOf]; omega))
end Go.Proofs.Ytmmmnnncbpdinaa.GrdLand

