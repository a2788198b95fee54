/-
  What the model says of the nearest of some halls, as a contract.
-/
import Derived.Test.YtknnekidfhooeaaHouWspec
import Derived.Test.YtknnekidfhooeaaHouMathN

namespace Go.Proofs.Ytknnekidfhooeaa.HouNspec
open Go.RowKit Pts Blk HouMath HouMathB HouMathC HouMathN HouBox HouMem Ints JoinMath RoomMath
open Go.Proofs.Ytknnekidfhooeaa.Own (icells icells_length icells_at icells_snoc own_shape own_cell own_below own_base GivesI)
open PointOk (ret_bool ret_i64 below1 below2 below3)

theorem own_ints {w : World} {b e cap : Nat} {A : Option Addr} {l : List Int} (h : w.ownsRow b e 1 (.slice A l.length cap) l.length (icells l)) : IntsAt w w.heap.size A l := by
  intro j hj
  obtain ⟨g, rfl, _, hlt, hc, _⟩ := own_cell h hj (icells_at hj)
  exact ⟨_, rfl, hlt, by rw [Pts.add_head]; exact hc⟩

set_option maxRecDepth 100000 in
set_option maxHeartbeats 1600000 in
theorem nearestTo (H : Int) (A : Option Addr) (n cap : Nat) (B : Option Addr) (m cb : Nat) (x : Int) (w : World) (ds : List (Int × Int)) (hl : ds.length = n) (hn : n ≤ 1048576) (hp : PtsAt w w.heap.size A ds) (zs : List Int) (hz : zs.length = m) (hm : m ≤ 1048576) (hq : IntsAt w w.heap.size B zs) :
    Calls Try.prog 33 #[.agg #[.int .i64 H, .slice A n cap], .slice B m cb, .int .i64 x] w fun e w' => e = .returned (.int .i64 (nearI H ds zs x)) ∧ Below w.heap.size w w' := by
  obtain ⟨r, hr⟩ : ∃ r, nearI H ds zs x = r := ⟨_, rfl⟩
  have HR := Lib.hid hr
  rw [hr]
  clear hr
  have Q1 : Hid (∀ w hp hq, _) := Lib.hid fun w hp hq => HouWspec.halls H A n cap B m cb w ds hl hn hp zs hz hm hq
  have Q2 : Hid (∀ w hp, _) := Lib.hid fun w hp => HouWspec.has H A n cap x w ds hl hn hp
  have HNo : Hid ((hallsB H zs && hallOf H ds x) = false → r = -1) := Lib.hid (fun h => by rw [← HR.out]; exact near_no h)
  cases c1 : hallsB H zs && houseB H ds
  · have E : Hid (r = -1) := Lib.hid (HNo.out (by
      revert c1
      unfold hallOf
      cases hallsB H zs <;> cases houseB H ds <;> simp))
    rw [c1] at Q1
    clear HR HNo Q2 c1 hl hz
    go_enter Try.func33, Try.ntmps33
    go_wp2_with fail
    have X0 := HouBox.boxH w H A n cap 29 (k := w.heap.size) (by simp)
    have b0 := PointOk.below1 w (Obj.cells #[.int .i64 H, .slice A n cap] 29)
    have HO : ∀ W W' : World, (HouBox.BoxH W (w.heap.size) H A n cap ∧ PtsAt W w.heap.size A ds ∧ IntsAt W w.heap.size B zs ∧ Below w.heap.size w W) → Below W.heap.size W W' → (HouBox.BoxH W' (w.heap.size) H A n cap ∧ PtsAt W' w.heap.size A ds ∧ IntsAt W' w.heap.size B zs ∧ Below w.heap.size w W') := fun W W' ⟨h0, x0, x1, hb⟩ h => ⟨h0.later h, x0.later (h.mono hb.size), x1.later (h.mono hb.size), hb.trans (h.mono hb.size)⟩
    have hz0_ : Hid (((w.alloc (Obj.cells #[.int .i64 H, .slice A n cap] 29))).heap.size = w.heap.size + 1) := Lib.hid (by simp)
    have Y0 : PtsAt ((w.alloc (Obj.cells #[.int .i64 H, .slice A n cap] 29))) w.heap.size A ds := hp.later b0
    have Y1 : IntsAt ((w.alloc (Obj.cells #[.int .i64 H, .slice A n cap] 29))) w.heap.size B zs := hq.later b0
    generalize (w.alloc (Obj.cells #[.int .i64 H, .slice A n cap] 29)) = w0 at X0 Y0 Y1 b0 hz0_ ⊢
    have S0 := (⟨X0, Y0, Y1, b0⟩ : HouBox.BoxH w0 (w.heap.size) H A n cap ∧ PtsAt w0 w.heap.size A ds ∧ IntsAt w0 w.heap.size B zs ∧ Below w.heap.size w w0)
    clear X0 Y0 Y1 b0
    obtain ⟨⟨_, _⟩, _, _, _⟩ := id S0
    refine (Q1.out _ (S0.2.1.wide S0.2.2.2.size) (S0.2.2.1.wide S0.2.2.2.size)).mono ?_
    rintro e w1 ⟨rfl, hb_⟩
    replace S0 := HO _ _ S0 hb_
    clear hb_
    obtain ⟨⟨_, _⟩, _, _, _⟩ := id S0
    go_wp2_with fail
    go_ret
    exact ⟨ret_i64 E.out.symm, S0.2.2.2⟩
  have c3 : hallsB H zs = true := by revert c1; cases hallsB H zs <;> simp
  cases c2 : hallOf H ds x
  · have E : Hid (r = -1) := Lib.hid (HNo.out (by rw [c2]; simp))
    rw [c1] at Q1
    rw [c2] at Q2
    clear HR HNo c1 c2 c3 hl hz
    go_enter Try.func33, Try.ntmps33
    go_wp2_with fail
    have X0 := HouBox.boxH w H A n cap 29 (k := w.heap.size) (by simp)
    have b0 := PointOk.below1 w (Obj.cells #[.int .i64 H, .slice A n cap] 29)
    have HO : ∀ W W' : World, (HouBox.BoxH W (w.heap.size) H A n cap ∧ PtsAt W w.heap.size A ds ∧ IntsAt W w.heap.size B zs ∧ Below w.heap.size w W) → Below W.heap.size W W' → (HouBox.BoxH W' (w.heap.size) H A n cap ∧ PtsAt W' w.heap.size A ds ∧ IntsAt W' w.heap.size B zs ∧ Below w.heap.size w W') := fun W W' ⟨h0, x0, x1, hb⟩ h => ⟨h0.later h, x0.later (h.mono hb.size), x1.later (h.mono hb.size), hb.trans (h.mono hb.size)⟩
    have hz0_ : Hid (((w.alloc (Obj.cells #[.int .i64 H, .slice A n cap] 29))).heap.size = w.heap.size + 1) := Lib.hid (by simp)
    have Y0 : PtsAt ((w.alloc (Obj.cells #[.int .i64 H, .slice A n cap] 29))) w.heap.size A ds := hp.later b0
    have Y1 : IntsAt ((w.alloc (Obj.cells #[.int .i64 H, .slice A n cap] 29))) w.heap.size B zs := hq.later b0
    generalize (w.alloc (Obj.cells #[.int .i64 H, .slice A n cap] 29)) = w0 at X0 Y0 Y1 b0 hz0_ ⊢
    have S0 := (⟨X0, Y0, Y1, b0⟩ : HouBox.BoxH w0 (w.heap.size) H A n cap ∧ PtsAt w0 w.heap.size A ds ∧ IntsAt w0 w.heap.size B zs ∧ Below w.heap.size w w0)
    clear X0 Y0 Y1 b0
    obtain ⟨⟨_, _⟩, _, _, _⟩ := id S0
    refine (Q1.out _ (S0.2.1.wide S0.2.2.2.size) (S0.2.2.1.wide S0.2.2.2.size)).mono ?_
    rintro e w1 ⟨rfl, hb_⟩
    replace S0 := HO _ _ S0 hb_
    clear hb_
    obtain ⟨⟨_, _⟩, _, _, _⟩ := id S0
    go_wp2_with fail
    refine (Q2.out _ (S0.2.1.wide S0.2.2.2.size)).mono ?_
    rintro e w2 ⟨rfl, hb_⟩
    replace S0 := HO _ _ S0 hb_
    clear hb_
    obtain ⟨⟨_, _⟩, _, _, _⟩ := id S0
    go_wp2_with fail
    go_ret
    exact ⟨ret_i64 E.out.symm, S0.2.2.2⟩
  obtain ⟨N, a, rfl, rfl, ha, hf⟩ := hall_nat c2
  have HE : Hid (r = nearTo (wayAt (dist N ds a) zs) m) := Lib.hid (by rw [← HR.out, near_yes (by rw [c3, c2]; rfl), hz])
  have HZ : Hid (∀ k, k < m → ∃ z : Nat, z < N ∧ zs.getD k 0 = (z : Int)) := Lib.hid (fun k hk => halls_nat c3 (by omega))
  have Q3 := Lib.hid fun w hp => HouDspec.distances N A n cap a w ds hf hl ha hp
  have hDl := dist_len (ds := ds) ha
  have h7 : N ≤ 7 := by have := hf.h7; omega
  generalize dist N ds a = D at *
  rw [c1] at Q1
  rw [c2] at Q2
  clear HR HNo c1 c2 c3 hf hl ha
  go_enter Try.func33, Try.ntmps33
  go_wp2_with fail
  have X0 := HouBox.boxH w N A n cap 29 (k := w.heap.size) (by simp)
  have b0 := PointOk.below1 w (Obj.cells #[.int .i64 N, .slice A n cap] 29)
  have HO : ∀ W W' : World, (HouBox.BoxH W (w.heap.size) N A n cap ∧ PtsAt W w.heap.size A ds ∧ IntsAt W w.heap.size B zs ∧ Below w.heap.size w W) → Below W.heap.size W W' → (HouBox.BoxH W' (w.heap.size) N A n cap ∧ PtsAt W' w.heap.size A ds ∧ IntsAt W' w.heap.size B zs ∧ Below w.heap.size w W') := fun W W' ⟨h0, x0, x1, hb⟩ h => ⟨h0.later h, x0.later (h.mono hb.size), x1.later (h.mono hb.size), hb.trans (h.mono hb.size)⟩
  have hz0_ : Hid (((w.alloc (Obj.cells #[.int .i64 N, .slice A n cap] 29))).heap.size = w.heap.size + 1) := Lib.hid (by simp)
  have Y0 : PtsAt ((w.alloc (Obj.cells #[.int .i64 N, .slice A n cap] 29))) w.heap.size A ds := hp.later b0
  have Y1 : IntsAt ((w.alloc (Obj.cells #[.int .i64 N, .slice A n cap] 29))) w.heap.size B zs := hq.later b0
  generalize (w.alloc (Obj.cells #[.int .i64 N, .slice A n cap] 29)) = w0 at X0 Y0 Y1 b0 hz0_ ⊢
  have S0 := (⟨X0, Y0, Y1, b0⟩ : HouBox.BoxH w0 (w.heap.size) N A n cap ∧ PtsAt w0 w.heap.size A ds ∧ IntsAt w0 w.heap.size B zs ∧ Below w.heap.size w w0)
  clear X0 Y0 Y1 b0
  obtain ⟨⟨_, _⟩, _, _, _⟩ := id S0
  refine (Q1.out _ (S0.2.1.wide S0.2.2.2.size) (S0.2.2.1.wide S0.2.2.2.size)).mono ?_
  rintro e w1 ⟨rfl, hb_⟩
  replace S0 := HO _ _ S0 hb_
  clear hb_
  obtain ⟨⟨_, _⟩, _, _, _⟩ := id S0
  go_wp2_with fail
  refine (Q2.out _ (S0.2.1.wide S0.2.2.2.size)).mono ?_
  rintro e w2 ⟨rfl, hb_⟩
  replace S0 := HO _ _ S0 hb_
  clear hb_
  obtain ⟨⟨_, _⟩, _, _, _⟩ := id S0
  go_wp2_with fail
  refine (Q3.out _ (S0.2.1.wide S0.2.2.2.size)).mono ?_
  rintro e w3 ⟨g, rfl, hG, hg, hb_⟩
  replace S0 := HO _ _ S0 hb_
  replace hG := Lib.hid hG
  have hgl : Hid (g < w3.heap.size) := Lib.hid hG.out.lt
  clear Q1 Q2 Q3 hb_ hg
  obtain ⟨⟨_, _⟩, _, _, _⟩ := id S0
  go_wp2_with fail
  have HF : Hid (∀ k z : Nat, zs.getD k 0 = (z : Int) → wayAt D zs k = D.getD z 0) := Lib.hid (fun k z h => wayAt_of h)
  have HNS : Hid (∀ k, k = 0 → nearTo (wayAt D zs) (k + 1) = (k : Int)) := Lib.hid (fun k h => near_start _ h)
  have HNT : Hid (∀ k j : Nat, nearTo (wayAt D zs) k = (j : Int) → nearTo (wayAt D zs) (k + 1) = if wayAt D zs k < wayAt D zs j then (k : Int) else (j : Int)) := Lib.hid (fun k j h => near_step _ h)
  have HNP : Hid (∀ k : Nat, 0 < k → ∃ j : Nat, j < k ∧ nearTo (wayAt D zs) k = (j : Int)) := Lib.hid (fun k h => near_pos _ h)
  have HN0 : nearTo (wayAt D zs) 0 = -1 := rfl
  generalize nearTo (wayAt D zs) = nt at *
  generalize wayAt D zs = f at *
  go_loopw [7, 9] (fun t i wr => ∃ k : Nat, k ≤ m ∧ i = .int .i64 k ∧ t = .int .i64 (nt k) ∧ Hid (Holds wr g (icells D).toArray 3) ∧ (HouBox.BoxH wr (w.heap.size) N A n cap ∧ PtsAt wr w.heap.size A ds ∧ IntsAt wr w.heap.size B zs ∧ Below w.heap.size w wr))
    (fun _ i _ => m - (intOf i).toNat)
  case atStart => exact ⟨0, Nat.zero_le _, rfl, by rw [HN0], hG, S0⟩
  case round =>
    clear S0 hG hgl
    obtain ⟨k, hk, rfl, rfl, hG, S0⟩ := hrel
    obtain ⟨⟨_, _⟩, _, _, _⟩ := id S0
    by_cases hkm : k < m
    rotate_left
    · obtain rfl : k = m := by omega
      clear HF HNS HNT HNP HN0 HZ hz hDl hG
      generalize nt k = t at *
      go_wp2_with fail
      go_ret
      exact ⟨ret_i64 HE.out.symm, S0.2.2.2⟩
    have hk1 : (k : Int) < (m : Int) := by omega
    have hk0 : (0 : Int) ≤ (k : Int) := by omega
    have p0 := at_d (zs := zs) (k := k) (by omega)
    obtain ⟨z, hzN, hzz⟩ := HZ.out k hkm
    rw [hzz] at p0
    have hz0 : (0 : Int) ≤ (z : Int) := by omega
    have hz1 : (z : Int) < (N : Int) := by omega
    obtain ⟨bd, eB, bB, pB⟩ := S0.2.2.1.get p0
    subst eB
    have cz := HouVspec.dist_cell hG.out hDl hzN
    have hfk := HF.out k z hzz
    by_cases hk00 : k = 0
    · have e1 : Hid (nt (k + 1) = (k : Int)) := Lib.hid (HNS.out k hk00)
      have e0 : nt k = -1 := by rw [hk00]; exact HN0
      rw [e0]
      obtain ⟨dz, hdz⟩ : ∃ d, D.getD z 0 = d := ⟨_, rfl⟩
      rw [hdz] at cz
      clear HF HNS HNT HNP HN0 HZ hz hDl hfk p0 e0 hdz
      have HO : ∀ W W' : World, (BoxH W w.heap.size N A n cap ∧ PtsAt W w.heap.size A ds ∧ IntsAt W w.heap.size (some bd) zs ∧ IntAt W bd k z ∧ W.cell? ⟨g, z, none⟩ = some (.int .i64 dz) ∧ Holds W g (icells D).toArray 3 ∧ Below w.heap.size w W) → Below W.heap.size W W' → (BoxH W' w.heap.size N A n cap ∧ PtsAt W' w.heap.size A ds ∧ IntsAt W' w.heap.size (some bd) zs ∧ IntAt W' bd k z ∧ W'.cell? ⟨g, z, none⟩ = some (.int .i64 dz) ∧ Holds W' g (icells D).toArray 3 ∧ Below w.heap.size w W') := fun W W' ⟨x0, x1, x2, x3, x4, x5, hb⟩ h => ⟨x0.later h, x1.later (h.mono hb.size), x2.later (h.mono hb.size), x3.later bB (h.mono hb.size), cell_later h x4, x5.later h, hb.trans (h.mono hb.size)⟩
      replace S0 : (BoxH wr w.heap.size N A n cap ∧ PtsAt wr w.heap.size A ds ∧ IntsAt wr w.heap.size (some bd) zs ∧ IntAt wr bd k z ∧ wr.cell? ⟨g, z, none⟩ = some (.int .i64 dz) ∧ Holds wr g (icells D).toArray 3 ∧ Below w.heap.size w wr) := ⟨S0.1, S0.2.1, S0.2.2.1, pB, cz, hG.out, S0.2.2.2⟩
      clear pB cz hG
      obtain ⟨⟨_, _⟩, _, _, ⟨_, _⟩, _, _, _⟩ := id S0
      go_wp2_with fail
      refine Settle.region (fun W => BoxH W w.heap.size N A n cap ∧ PtsAt W w.heap.size A ds ∧ IntsAt W w.heap.size (some bd) zs ∧ IntAt W bd k z ∧ W.cell? ⟨g, z, none⟩ = some (.int .i64 dz) ∧ Holds W g (icells D).toArray 3 ∧ Below w.heap.size w W) (by kernel_rfl) (by kernel_rfl) (by kernel_rfl) (by kernel_rfl) (HO _ _ S0 ((Below.refl _ _).drew)) ?_
      clear S0
      repeat (first
        | (refine Settle.Settles.off (by rfl) ?_; simp only [Act.put, List.setIfInBounds_toArray, List.set_cons_zero, List.set_cons_succ])
        | (refine Settle.Settles.quiet (v := ?_) (by rfl) ?_ ?_
           rotate_left
           · (intro W hS; obtain ⟨⟨_, _⟩, _, _, ⟨_, _⟩, _, _, _⟩ := hS; go_simp; with_reducible rfl)
           simp only [Act.put, List.setIfInBounds_toArray, List.set_cons_zero, List.set_cons_succ])
        | (refine Settle.Settles.call (v := ?_) (f := ?_) (args := ?_) (by rfl) ?_ ?_ ?_
           rotate_left 3
           · (intro W; go_simp; refine ⟨?_, ?_⟩ <;> with_reducible rfl)
           · (intro W hS; fail)
           simp only [Act.put, List.setIfInBounds_toArray, List.set_cons_zero, List.set_cons_succ]))
      refine Settle.Settles.nil ?_
      intro wr S0
      obtain ⟨⟨_, _⟩, _, _, ⟨_, _⟩, _, _, _⟩ := id S0
      go_wp2_with fail
      exact ⟨⟨k + 1, by omega, by go_num, by rw [e1.out], Lib.hid S0.2.2.2.2.2.1, S0.1, S0.2.1, S0.2.2.1, S0.2.2.2.2.2.2⟩, by simp [intOf]; omega⟩
    obtain ⟨j, hjk, hj⟩ := HNP.out k (by omega)
    have p1 := at_d (zs := zs) (k := j) (by omega)
    obtain ⟨y, hyN, hyz⟩ := HZ.out j (by omega)
    rw [hyz] at p1
    have hy0 : (0 : Int) ≤ (y : Int) := by omega
    have hy1 : (y : Int) < (N : Int) := by omega
    have hj0 : (0 : Int) ≤ (j : Int) := by omega
    have hj1 : (j : Int) < (m : Int) := by omega
    obtain ⟨bd', eB, _, pC⟩ := S0.2.2.1.get p1
    cases eB
    have cy := HouVspec.dist_cell hG.out hDl hyN
    have HT : Hid (nt (k + 1) = if D.getD z 0 < D.getD y 0 then (k : Int) else (j : Int)) := Lib.hid (by rw [HNT.out k j hj, hfk, HF.out j y hyz])
    rw [hj]
    clear HF HNS HNT HNP HN0 HZ hz hDl hfk p0 p1 hj
    obtain ⟨dz, hdz⟩ : ∃ d, D.getD z 0 = d := ⟨_, rfl⟩
    obtain ⟨dy, hdy⟩ : ∃ d, D.getD y 0 = d := ⟨_, rfl⟩
    rw [hdz] at cz HT
    rw [hdy] at cy HT
    have HO : ∀ W W' : World, (BoxH W w.heap.size N A n cap ∧ PtsAt W w.heap.size A ds ∧ IntsAt W w.heap.size (some bd) zs ∧ IntAt W bd k z ∧ IntAt W bd j y ∧ W.cell? ⟨g, z, none⟩ = some (.int .i64 dz) ∧ W.cell? ⟨g, y, none⟩ = some (.int .i64 dy) ∧ Holds W g (icells D).toArray 3 ∧ Below w.heap.size w W) → Below W.heap.size W W' → (BoxH W' w.heap.size N A n cap ∧ PtsAt W' w.heap.size A ds ∧ IntsAt W' w.heap.size (some bd) zs ∧ IntAt W' bd k z ∧ IntAt W' bd j y ∧ W'.cell? ⟨g, z, none⟩ = some (.int .i64 dz) ∧ W'.cell? ⟨g, y, none⟩ = some (.int .i64 dy) ∧ Holds W' g (icells D).toArray 3 ∧ Below w.heap.size w W') := fun W W' ⟨x0, x1, x2, x3, x4, x5, x6, x7, hb⟩ h => ⟨x0.later h, x1.later (h.mono hb.size), x2.later (h.mono hb.size), x3.later bB (h.mono hb.size), x4.later bB (h.mono hb.size), cell_later h x5, cell_later h x6, x7.later h, hb.trans (h.mono hb.size)⟩
    replace S0 : (BoxH wr w.heap.size N A n cap ∧ PtsAt wr w.heap.size A ds ∧ IntsAt wr w.heap.size (some bd) zs ∧ IntAt wr bd k z ∧ IntAt wr bd j y ∧ wr.cell? ⟨g, z, none⟩ = some (.int .i64 dz) ∧ wr.cell? ⟨g, y, none⟩ = some (.int .i64 dy) ∧ Holds wr g (icells D).toArray 3 ∧ Below w.heap.size w wr) := ⟨S0.1, S0.2.1, S0.2.2.1, pB, pC, cz, cy, hG.out, S0.2.2.2⟩
    clear pB pC cz cy hG hdz hdy
    obtain ⟨⟨_, _⟩, _, _, ⟨_, _⟩, ⟨_, _⟩, _, _, _, _⟩ := id S0
    by_cases hlt : dz < dy
    · have e1 : Hid (nt (k + 1) = (k : Int)) := Lib.hid (by rw [HT.out, if_pos hlt])
      clear HT
      go_wp2_with fail
      refine Settle.region (fun W => BoxH W w.heap.size N A n cap ∧ PtsAt W w.heap.size A ds ∧ IntsAt W w.heap.size (some bd) zs ∧ IntAt W bd k z ∧ IntAt W bd j y ∧ W.cell? ⟨g, z, none⟩ = some (.int .i64 dz) ∧ W.cell? ⟨g, y, none⟩ = some (.int .i64 dy) ∧ Holds W g (icells D).toArray 3 ∧ Below w.heap.size w W) (by kernel_rfl) (by kernel_rfl) (by kernel_rfl) (by kernel_rfl) (HO _ _ S0 ((Below.refl _ _).drew)) ?_
      clear S0
      repeat (first
        | (refine Settle.Settles.off (by rfl) ?_; simp only [Act.put, List.setIfInBounds_toArray, List.set_cons_zero, List.set_cons_succ])
        | (refine Settle.Settles.quiet (v := ?_) (by rfl) ?_ ?_
           rotate_left
           · (intro W hS; obtain ⟨⟨_, _⟩, _, _, ⟨_, _⟩, ⟨_, _⟩, _, _, _, _⟩ := hS; go_simp; with_reducible rfl)
           simp only [Act.put, List.setIfInBounds_toArray, List.set_cons_zero, List.set_cons_succ])
        | (refine Settle.Settles.call (v := ?_) (f := ?_) (args := ?_) (by rfl) ?_ ?_ ?_
           rotate_left 3
           · (intro W; go_simp; refine ⟨?_, ?_⟩ <;> with_reducible rfl)
           · (intro W hS; fail)
           simp only [Act.put, List.setIfInBounds_toArray, List.set_cons_zero, List.set_cons_succ]))
      refine Settle.Settles.nil ?_
      intro wr S0
      obtain ⟨⟨_, _⟩, _, _, ⟨_, _⟩, ⟨_, _⟩, _, _, _, _⟩ := id S0
      go_wp2_with fail
      exact ⟨⟨k + 1, by omega, by go_num, by rw [e1.out], Lib.hid S0.2.2.2.2.2.2.2.1, S0.1, S0.2.1, S0.2.2.1, S0.2.2.2.2.2.2.2.2⟩, by simp [intOf]; omega⟩
    · have e1 : Hid (nt (k + 1) = (j : Int)) := Lib.hid (by rw [HT.out, if_neg hlt])
      clear HT
      go_wp2_with fail
      refine Settle.region (fun W => BoxH W w.heap.size N A n cap ∧ PtsAt W w.heap.size A ds ∧ IntsAt W w.heap.size (some bd) zs ∧ IntAt W bd k z ∧ IntAt W bd j y ∧ W.cell? ⟨g, z, none⟩ = some (.int .i64 dz) ∧ W.cell? ⟨g, y, none⟩ = some (.int .i64 dy) ∧ Holds W g (icells D).toArray 3 ∧ Below w.heap.size w W) (by kernel_rfl) (by kernel_rfl) (by kernel_rfl) (by kernel_rfl) (HO _ _ S0 ((Below.refl _ _).drew)) ?_
      clear S0
      repeat (first
        | (refine Settle.Settles.off (by rfl) ?_; simp only [Act.put, List.setIfInBounds_toArray, List.set_cons_zero, List.set_cons_succ])
        | (refine Settle.Settles.quiet (v := ?_) (by rfl) ?_ ?_
           rotate_left
           · (intro W hS; obtain ⟨⟨_, _⟩, _, _, ⟨_, _⟩, ⟨_, _⟩, _, _, _, _⟩ := hS; go_simp; with_reducible rfl)
           simp only [Act.put, List.setIfInBounds_toArray, List.set_cons_zero, List.set_cons_succ])
        | (refine Settle.Settles.call (v := ?_) (f := ?_) (args := ?_) (by rfl) ?_ ?_ ?_
           rotate_left 3
           · (intro W; go_simp; refine ⟨?_, ?_⟩ <;> with_reducible rfl)
           · (intro W hS; fail)
           simp only [Act.put, List.setIfInBounds_toArray, List.set_cons_zero, List.set_cons_succ]))
      refine Settle.Settles.nil ?_
      intro wr S0
      obtain ⟨⟨_, _⟩, _, _, ⟨_, _⟩, ⟨_, _⟩, _, _, _, _⟩ := id S0
      go_wp2_with fail
      exact ⟨⟨k + 1, by omega, by go_num, by rw [e1.out], Lib.hid S0.2.2.2.2.2.2.2.1, S0.1, S0.2.1, S0.2.2.1, S0.2.2.2.2.2.2.2.2⟩, by simp [intOf]; omega⟩

end Go.Proofs.Ytknnekidfhooeaa.HouNspec

