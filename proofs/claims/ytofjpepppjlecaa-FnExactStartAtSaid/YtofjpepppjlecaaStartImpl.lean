/-
  What the landed StartAt does, as a contract: the room in new memory; no old cell is written.
-/
import Derived.Test.YtofjpepppjlecaaWallOfImpl
import Derived.Test.YtofjpepppjlecaaFacts
import Derived.Test.YtofjpepppjlecaaRoomRes
import Derived.Test.YtofjpepppjlecaaConcat
namespace Go.Proofs.Ytofjpepppjlecaa.StartImpl
open Go.RowKit Own PointMath WallMath RoomMath Pts Blk StartMath RoomRes
open PointOk (ret_bool ret_i64 below1 below2 below3)

theorem add_add (ad : Addr) (x y : Nat) : (ad.add x).add y = ad.add (x + y) := by
  unfold Addr.add
  by_cases h1 : x = 0
  · subst h1; simp
  · by_cases h2 : y = 0
    · subst h2; simp [h1]
    · simp [h1, h2, Nat.add_assoc]
theorem pts_drop {w : World} {b : Nat} {ad : Addr} {ps : List (Int × Int)} (h : PtsAt w b (some ad) ps) (k : Nat) : PtsAt w b (some (ad.add (k * 2))) (ps.drop k) := by
  intro j hj
  simp at hj
  obtain ⟨ad2, e, h2, h3, h4⟩ := h (k + j) (by omega)
  injection e with e
  subst e
  have e1 : (ad.add (k * 2)).add (j * 2) = ad.add ((k + j) * 2) := by rw [add_add, Nat.add_mul]
  refine ⟨_, rfl, by rw [block_add]; exact h2, ?_, ?_⟩
  · rw [e1, List.getElem_drop]; exact h3
  · rw [e1, List.getElem_drop]; exact h4
theorem pts_take {w : World} {b : Nat} {A : Option Addr} {ps : List (Int × Int)} (h : PtsAt w b A ps) (k : Nat) : PtsAt w b A (ps.take k) := by
  intro j hj
  simp at hj
  obtain ⟨ad2, e, h2, h3, h4⟩ := h j (by omega)
  exact ⟨ad2, e, h2, by rw [List.getElem_take]; exact h3, by rw [List.getElem_take]; exact h4⟩

set_option maxRecDepth 100000 in
set_option maxHeartbeats 4000000 in
theorem startAt (A : Option Addr) (n cap : Nat) (k : Int) (w : World) (ps : List (Int × Int)) (hl : ps.length = n) (hn : n ≤ 1048576) (hcap : n ≤ cap) (hp : PtsAt w w.heap.size A ps) :
    Calls Try.prog 27 #[.agg #[.slice A n cap], .int .i64 k] w (GivesR 34 w (startL ps k)) := by
  obtain ⟨r, hr⟩ : ∃ r, startL ps k = r := ⟨_, rfl⟩
  have HR := Lib.hid hr
  rw [hr]
  clear hr
  go_enter Try.func27, Try.ntmps27
  go_wp2_with fail
  have X0 := (Pts.boxR w (.slice A n cap) 29 (k := w.heap.size) (by simp)).alloc (Obj.cells #[.slice none 0 0] 29)
  have X1 := Blk.Holds.box (w.alloc (Obj.cells #[.slice A n cap] 29)) #[.slice none 0 0] 29 (k := w.heap.size + 1) (by simp)
  have b0 := PointOk.below2 w (Obj.cells #[.slice A n cap] 29) (Obj.cells #[.slice none 0 0] 29)
  have HO : ∀ W W' : World, (Pts.BoxR W (w.heap.size) (.slice A n cap) ∧ Blk.Holds W (w.heap.size + 1) #[.slice none 0 0] 29 ∧ PtsAt W w.heap.size A ps ∧ w.heap.size + 2 ≤ W.heap.size ∧ Below w.heap.size w W) → Below W.heap.size W W' → (Pts.BoxR W' (w.heap.size) (.slice A n cap) ∧ Blk.Holds W' (w.heap.size + 1) #[.slice none 0 0] 29 ∧ PtsAt W' w.heap.size A ps ∧ w.heap.size + 2 ≤ W'.heap.size ∧ Below w.heap.size w W') := fun W W' ⟨h0, h1, x0, x1, hb⟩ h => ⟨h0.later h, h1.later h, x0.later (h.mono hb.size), Nat.le_trans x1 h.size, hb.trans (h.mono hb.size)⟩
  have hz0_ : Hid ((((w.alloc (Obj.cells #[.slice A n cap] 29)).alloc (Obj.cells #[.slice none 0 0] 29))).heap.size = w.heap.size + 1 + 1) := Lib.hid (by simp)
  have Y0 : PtsAt (((w.alloc (Obj.cells #[.slice A n cap] 29)).alloc (Obj.cells #[.slice none 0 0] 29))) w.heap.size A ps := hp.later b0
  have Y1 : w.heap.size + 2 ≤ (((w.alloc (Obj.cells #[.slice A n cap] 29)).alloc (Obj.cells #[.slice none 0 0] 29))).heap.size := by simp
  generalize ((w.alloc (Obj.cells #[.slice A n cap] 29)).alloc (Obj.cells #[.slice none 0 0] 29)) = w0 at X0 X1 Y0 Y1 b0 hz0_ ⊢
  have S0 := (⟨X0, X1, Y0, Y1, b0⟩ : Pts.BoxR w0 (w.heap.size) (.slice A n cap) ∧ Blk.Holds w0 (w.heap.size + 1) #[.slice none 0 0] 29 ∧ PtsAt w0 w.heap.size A ps ∧ w.heap.size + 2 ≤ w0.heap.size ∧ Below w.heap.size w w0)
  clear X0 X1 Y0 Y1 b0
  obtain ⟨⟨_, _⟩, _, _, _, _⟩ := id S0
  refine (WallOfImpl.hasCorner A n cap k _).mono ?_
  rintro e w1 ⟨rfl, hb_⟩
  replace S0 := HO _ _ S0 hb_
  clear hb_
  obtain ⟨⟨_, _⟩, _, _, _, _⟩ := id S0
  by_cases hk : 0 ≤ k ∧ k < (n : Int)
  rotate_left
  · have E : Hid (r = []) := Lib.hid (by rw [← HR.out]; exact startL_no (.inr (by rw [hl]; exact hk)))
    rw [show decide (0 ≤ k ∧ k < (n : Int)) = false from decide_eq_false hk]
    have hR := S0.2.1
    obtain ⟨_, _⟩ := hR.one
    have E_ := Blk.set_own hR 0 (.slice none 0 0)
    obtain ⟨r0_, _⟩ := Blk.Holds.one E_
    have hb4 := Lib.hid (S0.2.2.2.2.trans (below_set w1 w.heap.size (w.heap.size + 1) 0 (.slice none 0 0) (by omega)))
    clear hl hk HR hR
    go_wp2_with fail
    refine bodyPost_ret (v := .agg #[.slice none 0 0]) (by simp [results, Try.results27, go_sem, r0_]) rfl ⟨none, 0, by rw [E.out]; rfl, by rw [E.out]; exact World.ownsRow_nil _ _ _ _, hb4.out⟩
  rw [show decide (0 ≤ k ∧ k < (n : Int)) = true from decide_eq_true hk]
  go_wp2_with fail
  refine (RoomOkImpl.roomOk A n cap _ ps hl hn (S0.2.2.1.wide S0.2.2.2.2.size)).mono ?_
  rintro e w2 ⟨rfl, hb_⟩
  replace S0 := HO _ _ S0 hb_
  clear hb_
  obtain ⟨⟨_, _⟩, _, _, _, _⟩ := id S0
  cases hr : roomB ps
  · have E : Hid (r = []) := Lib.hid (by rw [← HR.out]; exact startL_no (.inl hr))
    have hR := S0.2.1
    obtain ⟨_, _⟩ := hR.one
    have E_ := Blk.set_own hR 0 (.slice none 0 0)
    obtain ⟨r0_, _⟩ := Blk.Holds.one E_
    have hb4 := Lib.hid (S0.2.2.2.2.trans (below_set w2 w.heap.size (w.heap.size + 1) 0 (.slice none 0 0) (by omega)))
    clear hl hk HR hR
    go_wp2_with fail
    refine bodyPost_ret (v := .agg #[.slice none 0 0]) (by simp [results, Try.results27, go_sem, r0_]) rfl ⟨none, 0, by rw [E.out]; rfl, by rw [E.out]; exact World.ownsRow_nil _ _ _ _, hb4.out⟩
  obtain ⟨kk, rfl⟩ := Int.eq_ofNat_of_zero_le hk.1
  have hkn : kk < n := by omega
  have E : Hid (r = ps.drop kk ++ ps.take kk) := Lib.hid (by rw [← HR.out]; exact startL_yes hr (by omega))
  have hrl : Hid (r.length = n) := Lib.hid (by rw [E.out]; simp; omega)
  obtain ⟨ad, eA, _, _⟩ := S0.2.2.1.get (pt_at (ps := ps) (k := 0) (by omega))
  subst eA
  have k0 : (0 : Int) ≤ (kk : Int) := by omega
  have k1 : (kk : Int) ≤ (n : Int) := by omega
  have k2 : (n : Int) ≤ (cap : Int) := by omega
  have k3 : (kk : Int) ≤ (cap : Int) := by omega
  have k4 : ¬ kk = cap := by omega
  have k8 : ¬ cap = kk := by omega
  have k5 : kk ≤ n := by omega
  have k6 : n ≤ cap := by omega
  have k7 : kk ≤ cap := by omega
  obtain ⟨n1, hn1⟩ : ∃ x, n - kk = x := ⟨_, rfl⟩
  obtain ⟨cp, hcp⟩ : ∃ x, cap - kk = x := ⟨_, rfl⟩
  have QC : Hid (∀ V w hp hq hV v0 v1, _) := Lib.hid fun V w hp hq hV v0 v1 => Concat.concat V (some (ad.add (kk * 2))) (some ad) n1 cp kk cap n (ps.drop kk) (ps.take kk) (by simp; omega) (by simp; omega) (by omega) (by omega) hn w hp hq hV v0 v1 2
  clear HR hr hk
  go_wp2_with fail
  have S0_ := HO _ _ S0 ((Below.refl _ _).drew)
  have HS0_ : w2.drew.cell? ⟨w.heap.size, 0, none⟩ = some (.slice (some ad) n cap) := S0_.1.1
  refine wp_region_held_drew (S := fun W => W.cell? ⟨w.heap.size, 0, none⟩ = some (.slice (some ad) n cap)) (by kernel_rfl) HS0_ (fun hHeld => ?_)
  refine wpAnyH_take (i := 0) (oi := ⟨some 15, _, _, _, _, _⟩) (v := ?_) rfl (by kernel_rfl) (by kernel_rfl) (by kernel_rfl) (fun _ _ _ h => h) (Or.inl ⟨by rfl, ?_⟩) (by assumption) ?_
  rotate_left 1
  · (intro w hSw; (try dsimp only at hSw); go_simp; try with_reducible rfl)
  try simp only [Act.put, List.setIfInBounds_toArray, List.set_cons_zero, List.set_cons_succ]
  refine wpAnyH_take (i := 1) (oi := ⟨some 16, _, _, _, _, _⟩) (v := ?_) rfl (by kernel_rfl) (by kernel_rfl) (by kernel_rfl) (fun _ _ _ h => h) (Or.inl ⟨by rfl, ?_⟩) (by assumption) ?_
  rotate_left 1
  · (intro w hSw; (try dsimp only at hSw); go_simp; try with_reducible rfl)
  try simp only [Act.put, List.setIfInBounds_toArray, List.set_cons_zero, List.set_cons_succ]
  refine wpAnyH_take (i := 2) (oi := ⟨some 17, _, _, _, _, _⟩) (v := ?_) rfl (by kernel_rfl) (by kernel_rfl) (by kernel_rfl) (fun _ _ _ h => h) (Or.inl ⟨by rfl, ?_⟩) (by assumption) ?_
  rotate_left 1
  · (intro w hSw; (try dsimp only at hSw); go_simp; try with_reducible rfl)
  try simp only [Act.put, List.setIfInBounds_toArray, List.set_cons_zero, List.set_cons_succ]
  refine wpAnyH_take (i := 3) (oi := ⟨some 18, _, _, _, _, _⟩) (v := ?_) rfl (by kernel_rfl) (by kernel_rfl) (by kernel_rfl) (fun _ _ _ h => h) (Or.inl ⟨by rfl, ?_⟩) (by assumption) ?_
  rotate_left 1
  · (intro w hSw; (try dsimp only at hSw); go_simp; try with_reducible rfl)
  try simp only [Act.put, List.setIfInBounds_toArray, List.set_cons_zero, List.set_cons_succ]
  refine wpAnyH_take (i := 4) (oi := ⟨some 19, _, _, _, _, _⟩) (v := ?_) rfl (by kernel_rfl) (by kernel_rfl) (by kernel_rfl) (fun _ _ _ h => h) (Or.inl ⟨by rfl, ?_⟩) (by assumption) ?_
  rotate_left 1
  · (intro w hSw; (try dsimp only at hSw); go_simp; try with_reducible rfl)
  try simp only [Act.put, List.setIfInBounds_toArray, List.set_cons_zero, List.set_cons_succ]
  refine wpAnyH_take (i := 5) (oi := ⟨some 20, _, _, _, _, _⟩) (v := ?_) rfl (by kernel_rfl) (by kernel_rfl) (by kernel_rfl) (fun _ _ _ h => h) (Or.inl ⟨by rfl, ?_⟩) (by assumption) ?_
  rotate_left 1
  · (intro w hSw; (try dsimp only at hSw); go_simp; try with_reducible rfl)
  try simp only [Act.put, List.setIfInBounds_toArray, List.set_cons_zero, List.set_cons_succ]
  refine wpAnyH_take (i := 6) (oi := ⟨some 21, _, _, _, _, _⟩) (v := ?_) rfl (by kernel_rfl) (by kernel_rfl) (by kernel_rfl) (fun _ _ _ h => h) (Or.inl ⟨by rfl, ?_⟩) (by assumption) ?_
  rotate_left 1
  · (intro w hSw; (try dsimp only at hSw); go_simp; try with_reducible rfl)
  try simp only [Act.put, List.setIfInBounds_toArray, List.set_cons_zero, List.set_cons_succ]
  refine wpAnyH_take (i := 7) (oi := ⟨some 22, _, _, _, _, _⟩) (v := ?_) rfl (by kernel_rfl) (by kernel_rfl) (by kernel_rfl) (fun _ _ _ h => h) (Or.inl ⟨by rfl, ?_⟩) (by assumption) ?_
  rotate_left 1
  · (intro w hSw; (try dsimp only at hSw); go_simp; try with_reducible rfl)
  try simp only [Act.put, List.setIfInBounds_toArray, List.set_cons_zero, List.set_cons_succ]
  have HV : Blk.Holds (w2.alloc (Obj.cells #[.slice (some (ad.add (kk * 2))) n1 cp, .slice (some ad) kk cap] 27)).drew w2.heap.size #[.slice (some (ad.add (kk * 2))) n1 cp, .slice (some ad) kk cap] 27 := Blk.Holds.new w2 _ _
  have S1_ := HO _ _ (HO _ _ S0 (below1 w2 (Obj.cells #[.slice (some (ad.add (kk * 2))) n1 cp, .slice (some ad) kk cap] 27))) ((Below.refl _ _).drew)
  refine wpAnyH_ready (rs := [8]) (by kernel_rfl) (by simp) ?_
  refine AllReadyH.cons (o := ⟨some 23, _, _, _, _, _⟩) rfl (fun K hK => ?_) ?_
  rotate_left 1
  · exact AllReadyH.nil
  go_simp
  refine hK.out _ _ S1_.1.1 (fun hHeld => ?_)
  clear hK K
  try simp only [Act.put, List.setIfInBounds_toArray, List.set_cons_zero, List.set_cons_succ]
  refine wpAnyH_ready (rs := [9]) (by kernel_rfl) (by simp) ?_
  refine AllReadyH.cons (o := ⟨some 24, _, _, _, _, _⟩) rfl (fun K hK => ?_) ?_
  rotate_left 1
  · exact AllReadyH.nil
  go_simp
  go_at_call 63; refine (QC.out w2.heap.size _ (pts_drop (S1_.2.2.1.wide S1_.2.2.2.2.size) kk) (pts_take (S1_.2.2.1.wide S1_.2.2.2.2.size) kk) HV.lt HV.two.1.1 HV.two.1.2).mono ?_; rintro e w3 ⟨g_, cap_, rfl, ho_, hb1_⟩
  have S2_ := HO _ _ S1_ hb1_
  replace ho_ := own_base ho_ (b' := w.heap.size + 2) S1_.2.2.2.1
  go_wp2_with fail
  refine hK.out _ _ S2_.1.1 (fun hHeld => ?_)
  clear hK K
  refine wpAnyH_take (i := 10) (oi := ⟨some 25, _, _, _, _, _⟩) (v := ?_) rfl (by kernel_rfl) (by kernel_rfl) (by kernel_rfl) (fun _ _ _ h => h) (Or.inl ⟨by rfl, ?_⟩) (by assumption) ?_
  rotate_left 1
  · (intro w hSw; (try dsimp only at hSw); go_simp; try with_reducible rfl)
  try simp only [Act.put, List.setIfInBounds_toArray, List.set_cons_zero, List.set_cons_succ]
  have hR := S2_.2.1
  obtain ⟨_, _⟩ := hR.one
  have E_ := Blk.set_own hR 0 (.slice (some ⟨g_, 0, none⟩) n cap_)
  obtain ⟨r0_, _⟩ := Blk.Holds.one E_
  have S3_ := below_set w3 (w.heap.size + 1) (w.heap.size + 1) 0 (.slice (some ⟨g_, 0, none⟩) n cap_) (Nat.le_refl _)
  have HS3_ := (S3_.cell (p := ⟨w.heap.size, 0, none⟩) (by show w.heap.size < w.heap.size + 1; omega)).trans S2_.1.1
  have hb4 := Lib.hid (S2_.2.2.2.2.trans (S3_.mono (by omega)))
  have hown4 := Lib.hid (own_set ho_ (w.heap.size + 1) 0 (.slice (some ⟨g_, 0, none⟩) n cap_) (by omega))
  refine wpAnyH_ready (rs := [11]) (by kernel_rfl) (by simp) ?_
  refine AllReadyH.cons (o := ⟨none, _, _, _, _, _⟩) rfl (fun K hK => ?_) ?_
  rotate_left 1
  · exact AllReadyH.nil
  go_simp
  refine hK.out _ _ HS3_ (fun hHeld => ?_)
  clear hK K
  try simp only [Act.put, List.setIfInBounds_toArray, List.set_cons_zero, List.set_cons_succ]
  refine wpAnyH_done (by kernel_rfl) ?_ _
  clear S0 S0_ S1_ S2_ S3_ HS0_ HS3_ hR ho_ QC hl
  go_wp2_with fail
  refine bodyPost_ret (v := .agg #[.slice (some ⟨g_, 0, none⟩) n cap_]) (by simp [results, Try.results27, go_sem, r0_]) rfl ⟨some ⟨g_, 0, none⟩, cap_, by rw [hrl.out], by rw [hrl.out, E.out]; exact own_base hown4.out (by omega), hb4.out⟩

end Go.Proofs.Ytofjpepppjlecaa.StartImpl

