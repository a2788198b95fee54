/-
  What the model's StartAt does, as a contract: the room in new memory; no old cell is written.
-/
import Derived.Test.YtofjpepppjlecaaRoomOkSpec
import Derived.Test.YtofjpepppjlecaaFacts
import Derived.Test.YtofjpepppjlecaaRoomRes
namespace Go.Proofs.Ytofjpepppjlecaa.StartSpec
open Go.RowKit Own PointMath WallMath RoomMath Pts Blk StartMath RoomRes
open PointOk (ret_bool ret_i64 below1 below2 below3)

theorem infoP : (Try.prog.info? 34).map (fun i => (i.zero, i.size, i.bytes)) = some (some (.agg #[.int .i64 0, .int .i64 0]), 2, 16) := by kernel_rfl

set_option maxRecDepth 100000 in
set_option maxHeartbeats 4000000 in
theorem startAt (A : Option Addr) (n cap : Nat) (k : Int) (w : World) (ps : List (Int × Int)) (hl : ps.length = n) (hn : n ≤ 1048576) (hp : PtsAt w w.heap.size A ps) :
    Calls Try.prog 26 #[.agg #[.slice A n cap], .int .i64 k] w (GivesR 34 w (startL ps k)) := by
  obtain ⟨r, hr⟩ : ∃ r, startL ps k = r := ⟨_, rfl⟩
  have HR := Lib.hid hr
  rw [hr]
  clear hr
  obtain ⟨i0, hi, hz0, hz1, hz2⟩ := info_parts infoP
  obtain ⟨kk, hkk⟩ : ∃ q, k.toNat = q := ⟨_, rfl⟩
  go_enter Try.func26, Try.ntmps26
  go_wp2_with fail
  have X0 := (Pts.boxR w (.slice A n cap) 29 (k := w.heap.size) (by simp)).alloc (Obj.cells #[.slice none 0 0] 29)
  have X1 := Blk.Holds.box (w.alloc (Obj.cells #[.slice A n cap] 29)) #[.slice none 0 0] 29 (k := w.heap.size + 1) (by simp)
  have b0 := PointOk.below2 w (Obj.cells #[.slice A n cap] 29) (Obj.cells #[.slice none 0 0] 29)
  have HO : ∀ W W' : World, (Pts.BoxR W (w.heap.size) (.slice A n cap) ∧ Blk.Holds W (w.heap.size + 1) #[.slice none 0 0] 29 ∧ PtsAt W w.heap.size A ps ∧ Below w.heap.size w W) → Below W.heap.size W W' → (Pts.BoxR W' (w.heap.size) (.slice A n cap) ∧ Blk.Holds W' (w.heap.size + 1) #[.slice none 0 0] 29 ∧ PtsAt W' w.heap.size A ps ∧ Below w.heap.size w W') := fun W W' ⟨h0, h1, x0, hb⟩ h => ⟨h0.later h, h1.later h, x0.later (h.mono hb.size), hb.trans (h.mono hb.size)⟩
  have hz0_ : Hid ((((w.alloc (Obj.cells #[.slice A n cap] 29)).alloc (Obj.cells #[.slice none 0 0] 29))).heap.size = w.heap.size + 1 + 1) := Lib.hid (by simp)
  have Y0 : PtsAt (((w.alloc (Obj.cells #[.slice A n cap] 29)).alloc (Obj.cells #[.slice none 0 0] 29))) w.heap.size A ps := hp.later b0
  generalize ((w.alloc (Obj.cells #[.slice A n cap] 29)).alloc (Obj.cells #[.slice none 0 0] 29)) = w0 at X0 X1 Y0 b0 hz0_ ⊢
  have S0 := (⟨X0, X1, Y0, b0⟩ : Pts.BoxR w0 (w.heap.size) (.slice A n cap) ∧ Blk.Holds w0 (w.heap.size + 1) #[.slice none 0 0] 29 ∧ PtsAt w0 w.heap.size A ps ∧ Below w.heap.size w w0)
  clear X0 X1 Y0 b0
  obtain ⟨⟨_, _⟩, _, _, _⟩ := id S0
  have hz1_ := hz0_.out
  have HCo := Blk.Holds.box w0 #[.slice none 0 0] 29 (k := w.heap.size + 2) (by omega)
  have S1 := HO _ _ S0 (below1 w0 (Obj.cells #[.slice none 0 0] 29))
  have hsz : w.heap.size + 3 ≤ (w0.alloc (Obj.cells #[.slice none 0 0] 29)).heap.size := by simp; omega
  clear S0
  go_loopw [6] (fun q wr => ∃ (i : Nat) (v : Value), i ≤ n ∧ (i = 0 ∨ (roomB ps = true ∧ 0 ≤ k ∧ k < (n : Int))) ∧ q = .int .i64 i ∧ Blk.Holds wr (w.heap.size + 2) #[v] 29 ∧ wr.ownsRow (w.heap.size + 3) 34 2 v i (cellsP (startTo ps kk i)) ∧ w.heap.size + 3 ≤ wr.heap.size ∧ (Pts.BoxR wr (w.heap.size) (.slice A n cap) ∧ Blk.Holds wr (w.heap.size + 1) #[.slice none 0 0] 29 ∧ PtsAt wr w.heap.size A ps ∧ Below w.heap.size w wr))
    (fun q _ => n - (intOf q).toNat)
  case atStart => exact ⟨0, _, Nat.zero_le _, .inl rfl, rfl, HCo, World.ownsRow_nil _ _ _ _, hsz, S1⟩
  case round =>
    clear S1 HCo hsz
    obtain ⟨i, v, hin, hc, rfl, HCo, hown, hsz, S0⟩ := hrel
    obtain ⟨⟨_, _⟩, _, _, _⟩ := id S0
    have HX : Hid ((¬ (roomB ps = true ∧ 0 ≤ k ∧ k < (n : Int)) ∨ n = i) → startTo ps kk i = r) := Lib.hid (fun h => by
      rw [← HR.out]
      rcases hc with hc | hc
      · subst hc
        rcases h with h | h
        · rw [startL_no (by
            cases hr : roomB ps
            · exact .inl rfl
            · exact .inr (fun q => h ⟨hr, by rw [← hl]; exact q⟩))]
          rfl
        · rw [startL_no (.inr (by omega))]; rfl
      · rcases h with h | h
        · exact absurd hc h
        · obtain ⟨q, rfl⟩ := Int.eq_ofNat_of_zero_le hc.2.1
          obtain rfl : q = kk := by simpa using hkk
          subst h
          rw [startL_yes hc.1 (by omega), ← hl, startTo_all (by omega)])
    by_cases hlt : i < n
    · have hi1 : (i : Int) < (n : Int) := by omega
      have hi0 : (0 : Int) ≤ (i : Int) := by omega
      go_wp2_with fail
      refine (RoomOkSpec.roomOk A n cap _ ps hl hn (S0.2.2.1.wide S0.2.2.2.size)).mono ?_
      rintro e w2 ⟨rfl, hb_⟩
      replace S0 := HO _ _ S0 hb_
      replace HCo := HCo.later hb_
      replace hown := own_below hown hb_
      replace hsz := Nat.le_trans hsz hb_.size
      clear hb_
      obtain ⟨⟨_, _⟩, _, _, _⟩ := id S0
      cases hr : roomB ps
      · have E : Hid (startTo ps kk i = r) := Lib.hid (HX.out (.inl (by rw [hr]; simp)))
        obtain ⟨A1, c1, rfl⟩ := own_shape hown
        have hR := S0.2.1
        have hE := E.out
        have hlr : r.length = i := by rw [← hE, startTo_len]
        obtain ⟨_, _⟩ := HCo.one
        obtain ⟨_, _⟩ := hR.one
        have E_ := Blk.set_own hR 0 (.slice A1 i c1)
        obtain ⟨r0_, _⟩ := Blk.Holds.one E_
        have hown4 := Lib.hid (own_set hown (w.heap.size + 1) 0 (.slice A1 i c1) (by omega))
        have hb4 := Lib.hid (S0.2.2.2.trans (below_set w2 w.heap.size (w.heap.size + 1) 0 (.slice A1 i c1) (by omega)))
        rw [hE] at hown4
        clear hl HR HX hown
        go_wp2_with fail
        refine bodyPost_ret (v := .agg #[.slice A1 i c1]) (by simp [results, Try.results26, go_sem, r0_]) rfl ⟨A1, c1, by rw [hlr], by rw [hlr]; exact own_base hown4.out (by omega), hb4.out⟩
      by_cases hk : 0 ≤ k ∧ k < (n : Int)
      rotate_left
      · have E : Hid (startTo ps kk i = r) := Lib.hid (HX.out (.inl (fun h => hk h.2)))
        have d1 : decide (0 ≤ k ∧ k ≤ (n : Int) - 1) = false := decide_eq_false (by omega)
        have hown2 := Lib.hid hown
        clear hown
        go_wp2_with fail
        refine (PointOk.l01In k 0 ((n : Int) - 1) _).mono ?_
        rintro e w' ⟨rfl, rfl⟩
        rw [d1]
        have hown := hown2.out
        obtain ⟨A1, c1, rfl⟩ := own_shape hown
        have hR := S0.2.1
        have hE := E.out
        have hlr : r.length = i := by rw [← hE, startTo_len]
        obtain ⟨_, _⟩ := HCo.one
        obtain ⟨_, _⟩ := hR.one
        have E_ := Blk.set_own hR 0 (.slice A1 i c1)
        obtain ⟨r0_, _⟩ := Blk.Holds.one E_
        have hown4 := Lib.hid (own_set hown (w.heap.size + 1) 0 (.slice A1 i c1) (by omega))
        have hb4 := Lib.hid (S0.2.2.2.trans (below_set w2 w.heap.size (w.heap.size + 1) 0 (.slice A1 i c1) (by omega)))
        rw [hE] at hown4
        clear hl HR HX hown
        go_wp2_with fail
        refine bodyPost_ret (v := .agg #[.slice A1 i c1]) (by simp [results, Try.results26, go_sem, r0_]) rfl ⟨A1, c1, by rw [hlr], by rw [hlr]; exact own_base hown4.out (by omega), hb4.out⟩
      have hgood : roomB ps = true ∧ 0 ≤ k ∧ k < (n : Int) := ⟨hr, hk⟩
      have d1 : decide (0 ≤ k ∧ k ≤ (n : Int) - 1) = true := decide_eq_true (by omega)
      obtain ⟨q, rfl⟩ := Int.eq_ofNat_of_zero_le hk.1
      obtain rfl : q = kk := by simpa using hkk
      have hm : (q + i) % n < n := Nat.mod_lt _ (by omega)
      have HG : Hid (startTo ps q (i + 1) = startTo ps q i ++ [pt ps ((q + i) % n)]) := Lib.hid (by simp only [startTo]; rw [hl])
      have p0 := pt_at (ps := ps) (k := (q + i) % n) (by omega)
      have e1t : ((q : Int) + (i : Int)).tmod (n : Int) = (((q + i) % n : Nat) : Int) := by rw [Int.tmod_eq_emod_of_nonneg (by omega), Int.natCast_emod, Int.natCast_add]
      have e1 : ((q : Int) + (i : Int)) % (n : Int) = (((q + i) % n : Nat) : Int) := by rw [Int.natCast_emod, Int.natCast_add]
      generalize (q + i) % n = m at *
      obtain ⟨cx, cy, hcc⟩ : ∃ x y, pt ps m = (x, y) := ⟨_, _, rfl⟩
      rw [hcc] at p0 HG
      obtain ⟨ad, eA, bA, pA⟩ := S0.2.2.1.get p0
      subst eA
      have hm1 : (m : Int) < (n : Int) := by omega
      have hm0 : (0 : Int) ≤ (m : Int) := by omega
      have hn0 : ¬ ((n : Int) = 0) := by omega
      have hn1 : ¬ (n = 0) := by omega
      have uq : IntKind.i64.wrap ((q : Int) + (i : Int)) = (q : Int) + (i : Int) := IntWalk.i64_in _ (by omega)
      obtain ⟨Ao, co, rfl⟩ := own_shape hown
      replace hown := Lib.hid hown
      clear HX hl HR p0 hcc hc
      go_wp2_with fail
      refine (PointOk.l01In (q : Int) 0 ((n : Int) - 1) _).mono ?_
      rintro e w' ⟨rfl, rfl⟩
      rw [d1]
      clear d1
      go_wp2_with fail
      rename World => wr
      have HO : ∀ W W' : World, (Pts.BoxR W (w.heap.size) (.slice (some ad) n cap) ∧ Blk.Holds W (w.heap.size + 1) #[.slice none 0 0] 29 ∧ PtsAt W w.heap.size (some ad) ps ∧ PtAt W ad m cx cy ∧ Below w.heap.size w W) → Below W.heap.size W W' → (Pts.BoxR W' (w.heap.size) (.slice (some ad) n cap) ∧ Blk.Holds W' (w.heap.size + 1) #[.slice none 0 0] 29 ∧ PtsAt W' w.heap.size (some ad) ps ∧ PtAt W' ad m cx cy ∧ Below w.heap.size w W') := fun W W' ⟨h0, h1, x0, x1, hb⟩ h => ⟨h0.later h, h1.later h, x0.later (h.mono hb.size), x1.later bA (h.mono hb.size), hb.trans (h.mono hb.size)⟩
      replace S0 : Pts.BoxR wr (w.heap.size) (.slice (some ad) n cap) ∧ Blk.Holds wr (w.heap.size + 1) #[.slice none 0 0] 29 ∧ PtsAt wr w.heap.size (some ad) ps ∧ PtAt wr ad m cx cy ∧ Below w.heap.size w wr := ⟨S0.1, S0.2.1, S0.2.2.1, pA, S0.2.2.2⟩
      have HO2 : ∀ W W' : World, (Pts.BoxR W (w.heap.size) (.slice (some ad) n cap) ∧ Blk.Holds W (w.heap.size + 1) #[.slice none 0 0] 29 ∧ PtsAt W w.heap.size (some ad) ps ∧ PtAt W ad m cx cy ∧ Below w.heap.size w W) → Below (w.heap.size + 2) W W' → (Pts.BoxR W' (w.heap.size) (.slice (some ad) n cap) ∧ Blk.Holds W' (w.heap.size + 1) #[.slice none 0 0] 29 ∧ PtsAt W' w.heap.size (some ad) ps ∧ PtAt W' ad m cx cy ∧ Below w.heap.size w W') := fun W W' ⟨h0, h1, h2, h3, hb⟩ h => ⟨⟨(h.cell (by simp)).trans h0.1, trivial⟩, (h.block _ (by omega)).trans h1, h2.later (h.mono (by omega)), h3.later bA (h.mono (by omega)), hb.trans (h.mono (by omega))⟩
      clear pA
      have dr_ := (Below.refl wr.heap.size wr).drew
      have SD := HO _ _ S0 dr_
      have HCD := HCo.later dr_
      have hownD := own_below hown.out dr_
      have hzD : wr.drew.heap.size = wr.heap.size := rfl
      have HSOF : ∀ W : World, (Pts.BoxR W (w.heap.size) (.slice (some ad) n cap) ∧ Blk.Holds W (w.heap.size + 1) #[.slice none 0 0] 29 ∧ PtsAt W w.heap.size (some ad) ps ∧ PtAt W ad m cx cy ∧ Below w.heap.size w W) → (W.cell? ⟨w.heap.size, 0, none⟩ = some (.slice (some ad) n cap) ∧ W.cell? (ad.add (m * 2)) = some (.int .i64 cx) ∧ W.cell? ⟨(ad.add (m * 2)).block, (ad.add (m * 2)).off + 1, none⟩ = some (.int .i64 cy)) := fun W h => ⟨h.1.1, h.2.2.2.1⟩
      have HS0_ := HSOF _ SD
      obtain ⟨_, _⟩ := HCD.one
      clear dr_ S0
      refine wp_region_held_drew (S := fun W => (W.cell? ⟨w.heap.size, 0, none⟩ = some (.slice (some ad) n cap) ∧ W.cell? (ad.add (m * 2)) = some (.int .i64 cx) ∧ W.cell? ⟨(ad.add (m * 2)).block, (ad.add (m * 2)).off + 1, none⟩ = some (.int .i64 cy))) (by kernel_rfl) HS0_ (fun hHeld => ?_)
      refine wpAnyH_take (i := 0) (oi := ⟨some 27, _, _, _, _, _⟩) (v := ?_) rfl (by kernel_rfl) (by kernel_rfl) (by kernel_rfl) (fun _ _ _ h => h) (Or.inl ⟨by rfl, ?_⟩) (by assumption) ?_
      rotate_left 1
      · (intro w hSw; obtain ⟨_, _, _⟩ := hSw; go_simp; try with_reducible rfl)
      try simp only [Act.put, List.setIfInBounds_toArray, List.set_cons_zero, List.set_cons_succ]
      refine wpAnyH_take (i := 2) (oi := ⟨some 29, _, _, _, _, _⟩) (v := ?_) rfl (by kernel_rfl) (by kernel_rfl) (by kernel_rfl) (fun _ _ _ h => h) (Or.inl ⟨by rfl, ?_⟩) (by assumption) ?_
      rotate_left 1
      · (intro w hSw; obtain ⟨_, _, _⟩ := hSw; go_simp; try with_reducible rfl)
      try simp only [Act.put, List.setIfInBounds_toArray, List.set_cons_zero, List.set_cons_succ]
      refine wpAnyH_take (i := 3) (oi := ⟨some 30, _, _, _, _, _⟩) (v := ?_) rfl (by kernel_rfl) (by kernel_rfl) (by kernel_rfl) (fun _ _ _ h => h) (Or.inl ⟨by rfl, ?_⟩) (by assumption) ?_
      rotate_left 1
      · (intro w hSw; obtain ⟨_, _, _⟩ := hSw; go_simp; try with_reducible rfl)
      try simp only [Act.put, List.setIfInBounds_toArray, List.set_cons_zero, List.set_cons_succ]
      refine wpAnyH_take (i := 4) (oi := ⟨some 31, _, _, _, _, _⟩) (v := ?_) rfl (by kernel_rfl) (by kernel_rfl) (by kernel_rfl) (fun _ _ _ h => h) (Or.inl ⟨by rfl, ?_⟩) (by assumption) ?_
      rotate_left 1
      · (intro w hSw; obtain ⟨_, _, _⟩ := hSw; go_simp; try with_reducible rfl)
      try simp only [Act.put, List.setIfInBounds_toArray, List.set_cons_zero, List.set_cons_succ]
      refine wpAnyH_take (i := 5) (oi := ⟨some 32, _, _, _, _, _⟩) (v := ?_) rfl (by kernel_rfl) (by kernel_rfl) (by kernel_rfl) (fun _ _ _ h => h) (Or.inl ⟨by rfl, ?_⟩) (by assumption) ?_
      rotate_left 1
      · (intro w hSw; obtain ⟨_, _, _⟩ := hSw; go_simp; try with_reducible rfl)
      try simp only [Act.put, List.setIfInBounds_toArray, List.set_cons_zero, List.set_cons_succ]
      refine wpAnyH_take (i := 6) (oi := ⟨some 33, _, _, _, _, _⟩) (v := ?_) rfl (by kernel_rfl) (by kernel_rfl) (by kernel_rfl) (fun _ _ _ h => h) (Or.inl ⟨by rfl, ?_⟩) (by assumption) ?_
      rotate_left 1
      · (intro w hSw; obtain ⟨_, _, _⟩ := hSw; go_simp; try with_reducible rfl)
      try simp only [Act.put, List.setIfInBounds_toArray, List.set_cons_zero, List.set_cons_succ]
      refine wpAnyH_take (i := 7) (oi := ⟨some 34, _, _, _, _, _⟩) (v := ?_) rfl (by kernel_rfl) (by kernel_rfl) (by kernel_rfl) (fun _ _ _ h => h) (Or.inl ⟨by rfl, ?_⟩) (by assumption) ?_
      rotate_left 1
      · (intro w hSw; obtain ⟨_, _, _⟩ := hSw; go_simp; try with_reducible rfl)
      try simp only [Act.put, List.setIfInBounds_toArray, List.set_cons_zero, List.set_cons_succ]
      refine wpAnyH_take (i := 8) (oi := ⟨some 35, _, _, _, _, _⟩) (v := ?_) rfl (by kernel_rfl) (by kernel_rfl) (by kernel_rfl) (fun _ _ _ h => h) (Or.inl ⟨by rfl, ?_⟩) (by assumption) ?_
      rotate_left 1
      · (intro w hSw; obtain ⟨_, _, _⟩ := hSw; go_simp; try with_reducible rfl)
      try simp only [Act.put, List.setIfInBounds_toArray, List.set_cons_zero, List.set_cons_succ]
      refine wpAnyH_take (i := 9) (oi := ⟨some 36, _, _, _, _, _⟩) (v := ?_) rfl (by kernel_rfl) (by kernel_rfl) (by kernel_rfl) (fun _ _ _ h => h) (Or.inl ⟨by rfl, ?_⟩) (by assumption) ?_
      rotate_left 1
      · (intro w hSw; obtain ⟨_, _, _⟩ := hSw; go_simp; try with_reducible rfl)
      try simp only [Act.put, List.setIfInBounds_toArray, List.set_cons_zero, List.set_cons_succ]
      refine wpAnyH_take (i := 10) (oi := ⟨some 37, _, _, _, _, _⟩) (v := ?_) rfl (by kernel_rfl) (by kernel_rfl) (by kernel_rfl) (fun _ _ _ h => h) (Or.inl ⟨by rfl, ?_⟩) (by assumption) ?_
      rotate_left 1
      · (intro w hSw; obtain ⟨_, _, _⟩ := hSw; go_simp; try with_reducible rfl)
      try simp only [Act.put, List.setIfInBounds_toArray, List.set_cons_zero, List.set_cons_succ]
      refine wpAnyH_take (i := 11) (oi := ⟨some 38, _, _, _, _, _⟩) (v := ?_) rfl (by kernel_rfl) (by kernel_rfl) (by kernel_rfl) (fun _ _ _ h => h) (Or.inl ⟨by rfl, ?_⟩) (by assumption) ?_
      rotate_left 1
      · (intro w hSw; obtain ⟨_, _, _⟩ := hSw; go_simp; try with_reducible rfl)
      try simp only [Act.put, List.setIfInBounds_toArray, List.set_cons_zero, List.set_cons_succ]
      refine wpAnyH_take (i := 12) (oi := ⟨some 39, _, _, _, _, _⟩) (v := ?_) rfl (by kernel_rfl) (by kernel_rfl) (by kernel_rfl) (fun _ _ _ h => h) (Or.inl ⟨by rfl, ?_⟩) (by assumption) ?_
      rotate_left 1
      · (intro w hSw; obtain ⟨_, _, _⟩ := hSw; go_simp; try with_reducible rfl)
      try simp only [Act.put, List.setIfInBounds_toArray, List.set_cons_zero, List.set_cons_succ]
      refine wpAnyH_ready (rs := [1, 13]) (by kernel_rfl) (by simp) ?_
      refine AllReadyH.cons (o := ⟨some 28, _, _, _, _, _⟩) rfl (fun K hK => ?_) ?_
      · skip
        go_simp
        refine hK.out _ _ HS0_ (fun hHeld => ?_)
        clear hK K
        try simp only [Act.put, List.setIfInBounds_toArray, List.set_cons_zero, List.set_cons_succ]
        refine wpAnyH_ready (rs := [13]) (by kernel_rfl) (by simp) ?_
        refine AllReadyH.cons (o := ⟨some 40, _, _, _, _, _⟩) rfl (fun K hK => ?_) ?_
        rotate_left 1
        · exact AllReadyH.nil
        have b2_ := below1 wr.drew (Obj.cells #[.int .i64 cx, .int .i64 cy] 34)
        have S1_ := HO _ _ SD b2_
        have HC1 := HCD.later b2_
        have hown1 := own_below hownD b2_
        have HS1_ := HSOF _ S1_
        obtain ⟨_, _⟩ := HC1.one
        have HC1b : Blk.Holds (wr.alloc (Obj.cells #[.int .i64 cx, .int .i64 cy] 34)).drew (w.heap.size + 2) #[.slice Ao i co] 29 := HC1
        obtain ⟨_, _⟩ := HC1b.one
        go_simp
        refine hK.out _ _ HS1_ (fun hHeld => ?_)
        clear hK K
        try simp only [Act.put, List.setIfInBounds_toArray, List.set_cons_zero, List.set_cons_succ]
        refine wpAnyH_ready (rs := [14]) (by kernel_rfl) (by simp) ?_
        refine AllReadyH.cons (o := ⟨some 41, _, _, _, _, _⟩) rfl (fun K hK => ?_) ?_
        rotate_left 1
        · exact AllReadyH.nil
        refine step_append_lies _ (by rfl) _ _ _ (by rfl) (w.heap.size + 3) 34 i0 _ 2 16 Try.underlying27 hi hz0 hz1 hz2 rfl (by omega) _ _ _ (by rfl) hown1 ⟨wr.drew.heap.size, 0, none⟩ 1 1 [.int .i64 cx, .int .i64 cy] (by rfl) (by rfl) ?c1 ?c2 (by omega) ?c3 ?c4 ?c5 _ rfl ?_
        case c1 => (intro a u ha; match a, ha with | 0, ha => (simp at ha; subst ha; simp [Addr.add]) | 1, ha => (simp at ha; subst ha; simp [Addr.add]))
        case c2 => (intro u hu; simp at hu; rcases hu with rfl | rfl <;> rfl)
        case c3 => (unfold maxLen; omega)
        case c4 => omega
        case c5 => (simp; omega)
        intro g2_ cap2_ wa_ ho_ hg_ hgo_ hlt_
        have hbg_ : Below (w.heap.size + 3) (wr.drew.alloc (Obj.cells #[.int .i64 cx, .int .i64 cy] 34)) wa_ := (Below.refl _ _).grown hg_ (by simp; omega) (fun g hg => (hown1.lt g hg).1)
        have HC3 : Blk.Holds wa_ (w.heap.size + 2) #[.slice Ao i co] 29 := (hbg_.block _ (by omega)).trans HC1
        have S3_ := HO2 _ _ S1_ (hbg_.mono (by omega))
        have HS3_ := HSOF _ S3_
        obtain ⟨_, _⟩ := HC3.one
        refine hK.out _ _ HS3_ (fun hHeld => ?_)
        clear hK K
        try simp only [Act.put, List.setIfInBounds_toArray, List.set_cons_zero, List.set_cons_succ]
        refine wpAnyH_take (i := 15) (oi := ⟨some 42, _, _, _, _, _⟩) (v := ?_) rfl (by kernel_rfl) (by kernel_rfl) (by kernel_rfl) (fun _ _ _ h => h) (Or.inl ⟨by rfl, ?_⟩) (by assumption) ?_
        rotate_left 1
        · (intro w hSw; obtain ⟨_, _, _⟩ := hSw; go_simp; try with_reducible rfl)
        try simp only [Act.put, List.setIfInBounds_toArray, List.set_cons_zero, List.set_cons_succ]
        refine wpAnyH_ready (rs := [16]) (by kernel_rfl) (by simp) ?_
        refine AllReadyH.cons (o := ⟨none, _, _, _, _, _⟩) rfl (fun K hK => ?_) ?_
        rotate_left 1
        · exact AllReadyH.nil
        have HC4 := Blk.set_own HC3 0 (Value.slice (some ⟨g2_, 0, none⟩) (i + 1) cap2_)
        have hown4 := own_set ho_ (w.heap.size + 2) 0 (Value.slice (some ⟨g2_, 0, none⟩) (i + 1) cap2_) (by omega)
        have hbs_ := below_set wa_ (w.heap.size + 2) (w.heap.size + 2) 0 (Value.slice (some ⟨g2_, 0, none⟩) (i + 1) cap2_) (Nat.le_refl _)
        have S4_ := HO2 _ _ S3_ hbs_
        have HS4_ := HSOF _ S4_
        go_simp
        refine hK.out _ _ HS4_ (fun hHeld => ?_)
        clear hK K
        try simp only [Act.put, List.setIfInBounds_toArray, List.set_cons_zero, List.set_cons_succ]
        have HN : Hid (Blk.Holds (wa_.setCell ⟨w.heap.size + 2, 0, none⟩ (Value.slice (some ⟨g2_, 0, none⟩) (i + 1) cap2_)) (w.heap.size + 2) #[(Value.slice (some ⟨g2_, 0, none⟩) (i + 1) cap2_)] 29 ∧ (wa_.setCell ⟨w.heap.size + 2, 0, none⟩ (Value.slice (some ⟨g2_, 0, none⟩) (i + 1) cap2_)).ownsRow (w.heap.size + 3) 34 2 (Value.slice (some ⟨g2_, 0, none⟩) (i + 1) cap2_) (i + 1) (cellsP (startTo ps q (i + 1))) ∧ w.heap.size + 3 ≤ (wa_.setCell ⟨w.heap.size + 2, 0, none⟩ (Value.slice (some ⟨g2_, 0, none⟩) (i + 1) cap2_)).heap.size ∧ ((fun W => (Pts.BoxR W (w.heap.size) (.slice (some ad) n cap) ∧ Blk.Holds W (w.heap.size + 1) #[.slice none 0 0] 29 ∧ PtsAt W w.heap.size (some ad) ps ∧ Below w.heap.size w W)) (wa_.setCell ⟨w.heap.size + 2, 0, none⟩ (Value.slice (some ⟨g2_, 0, none⟩) (i + 1) cap2_)))) := Lib.hid ⟨HC4, by rw [HG.out, cellsP_app]; exact hown4, by have := hbs_.size; have := hbg_.size; simp at this; omega, S4_.1, S4_.2.1, S4_.2.2.1, S4_.2.2.2.2⟩
        refine wpAnyH_done (by kernel_rfl) ?_ _
        clear HC4 HC3 HC1 HCD hown4 hown1 hownD ho_ hg_ hgo_ hlt_ hbs_ hbg_ S4_ S3_ S1_ SD HS4_ HS3_ HS1_ HS0_ HSOF HG HO HO2 HCo hown
        go_wp2_with fail
        first
          | exact ⟨⟨i + 1, _, by omega, .inr hgood, by go_num, HN.out.1, HN.out.2.1, HN.out.2.2.1, HN.out.2.2.2⟩, by simp [intOf]; omega⟩
          | (go_roundw <;> first | exact ⟨i + 1, _, by omega, .inr hgood, by go_num, HN.out.1, HN.out.2.1, HN.out.2.2.1, HN.out.2.2.2⟩ | (simp [intOf]; omega))
      refine AllReadyH.cons (o := ⟨some 40, _, _, _, _, _⟩) rfl (fun K hK => ?_) ?_
      · skip
        have b2_ := below1 wr.drew (Obj.cells #[.int .i64 cx, .int .i64 cy] 34)
        have S1_ := HO _ _ SD b2_
        have HC1 := HCD.later b2_
        have hown1 := own_below hownD b2_
        have HS1_ := HSOF _ S1_
        obtain ⟨_, _⟩ := HC1.one
        have HC1b : Blk.Holds (wr.alloc (Obj.cells #[.int .i64 cx, .int .i64 cy] 34)).drew (w.heap.size + 2) #[.slice Ao i co] 29 := HC1
        obtain ⟨_, _⟩ := HC1b.one
        go_simp
        refine hK.out _ _ HS1_ (fun hHeld => ?_)
        clear hK K
        try simp only [Act.put, List.setIfInBounds_toArray, List.set_cons_zero, List.set_cons_succ]
        refine wpAnyH_ready (rs := [1]) (by kernel_rfl) (by simp) ?_
        refine AllReadyH.cons (o := ⟨some 28, _, _, _, _, _⟩) rfl (fun K hK => ?_) ?_
        rotate_left 1
        · exact AllReadyH.nil
        go_simp
        refine hK.out _ _ HS1_ (fun hHeld => ?_)
        clear hK K
        try simp only [Act.put, List.setIfInBounds_toArray, List.set_cons_zero, List.set_cons_succ]
        refine wpAnyH_ready (rs := [14]) (by kernel_rfl) (by simp) ?_
        refine AllReadyH.cons (o := ⟨some 41, _, _, _, _, _⟩) rfl (fun K hK => ?_) ?_
        rotate_left 1
        · exact AllReadyH.nil
        refine step_append_lies _ (by rfl) _ _ _ (by rfl) (w.heap.size + 3) 34 i0 _ 2 16 Try.underlying27 hi hz0 hz1 hz2 rfl (by omega) _ _ _ (by rfl) hown1 ⟨wr.drew.heap.size, 0, none⟩ 1 1 [.int .i64 cx, .int .i64 cy] (by rfl) (by rfl) ?c1 ?c2 (by omega) ?c3 ?c4 ?c5 _ rfl ?_
        case c1 => (intro a u ha; match a, ha with | 0, ha => (simp at ha; subst ha; simp [Addr.add]) | 1, ha => (simp at ha; subst ha; simp [Addr.add]))
        case c2 => (intro u hu; simp at hu; rcases hu with rfl | rfl <;> rfl)
        case c3 => (unfold maxLen; omega)
        case c4 => omega
        case c5 => (simp; omega)
        intro g2_ cap2_ wa_ ho_ hg_ hgo_ hlt_
        have hbg_ : Below (w.heap.size + 3) (wr.drew.alloc (Obj.cells #[.int .i64 cx, .int .i64 cy] 34)) wa_ := (Below.refl _ _).grown hg_ (by simp; omega) (fun g hg => (hown1.lt g hg).1)
        have HC3 : Blk.Holds wa_ (w.heap.size + 2) #[.slice Ao i co] 29 := (hbg_.block _ (by omega)).trans HC1
        have S3_ := HO2 _ _ S1_ (hbg_.mono (by omega))
        have HS3_ := HSOF _ S3_
        obtain ⟨_, _⟩ := HC3.one
        refine hK.out _ _ HS3_ (fun hHeld => ?_)
        clear hK K
        try simp only [Act.put, List.setIfInBounds_toArray, List.set_cons_zero, List.set_cons_succ]
        refine wpAnyH_take (i := 15) (oi := ⟨some 42, _, _, _, _, _⟩) (v := ?_) rfl (by kernel_rfl) (by kernel_rfl) (by kernel_rfl) (fun _ _ _ h => h) (Or.inl ⟨by rfl, ?_⟩) (by assumption) ?_
        rotate_left 1
        · (intro w hSw; obtain ⟨_, _, _⟩ := hSw; go_simp; try with_reducible rfl)
        try simp only [Act.put, List.setIfInBounds_toArray, List.set_cons_zero, List.set_cons_succ]
        refine wpAnyH_ready (rs := [16]) (by kernel_rfl) (by simp) ?_
        refine AllReadyH.cons (o := ⟨none, _, _, _, _, _⟩) rfl (fun K hK => ?_) ?_
        rotate_left 1
        · exact AllReadyH.nil
        have HC4 := Blk.set_own HC3 0 (Value.slice (some ⟨g2_, 0, none⟩) (i + 1) cap2_)
        have hown4 := own_set ho_ (w.heap.size + 2) 0 (Value.slice (some ⟨g2_, 0, none⟩) (i + 1) cap2_) (by omega)
        have hbs_ := below_set wa_ (w.heap.size + 2) (w.heap.size + 2) 0 (Value.slice (some ⟨g2_, 0, none⟩) (i + 1) cap2_) (Nat.le_refl _)
        have S4_ := HO2 _ _ S3_ hbs_
        have HS4_ := HSOF _ S4_
        go_simp
        refine hK.out _ _ HS4_ (fun hHeld => ?_)
        clear hK K
        try simp only [Act.put, List.setIfInBounds_toArray, List.set_cons_zero, List.set_cons_succ]
        have HN : Hid (Blk.Holds (wa_.setCell ⟨w.heap.size + 2, 0, none⟩ (Value.slice (some ⟨g2_, 0, none⟩) (i + 1) cap2_)) (w.heap.size + 2) #[(Value.slice (some ⟨g2_, 0, none⟩) (i + 1) cap2_)] 29 ∧ (wa_.setCell ⟨w.heap.size + 2, 0, none⟩ (Value.slice (some ⟨g2_, 0, none⟩) (i + 1) cap2_)).ownsRow (w.heap.size + 3) 34 2 (Value.slice (some ⟨g2_, 0, none⟩) (i + 1) cap2_) (i + 1) (cellsP (startTo ps q (i + 1))) ∧ w.heap.size + 3 ≤ (wa_.setCell ⟨w.heap.size + 2, 0, none⟩ (Value.slice (some ⟨g2_, 0, none⟩) (i + 1) cap2_)).heap.size ∧ ((fun W => (Pts.BoxR W (w.heap.size) (.slice (some ad) n cap) ∧ Blk.Holds W (w.heap.size + 1) #[.slice none 0 0] 29 ∧ PtsAt W w.heap.size (some ad) ps ∧ Below w.heap.size w W)) (wa_.setCell ⟨w.heap.size + 2, 0, none⟩ (Value.slice (some ⟨g2_, 0, none⟩) (i + 1) cap2_)))) := Lib.hid ⟨HC4, by rw [HG.out, cellsP_app]; exact hown4, by have := hbs_.size; have := hbg_.size; simp at this; omega, S4_.1, S4_.2.1, S4_.2.2.1, S4_.2.2.2.2⟩
        refine wpAnyH_done (by kernel_rfl) ?_ _
        clear HC4 HC3 HC1 HCD hown4 hown1 hownD ho_ hg_ hgo_ hlt_ hbs_ hbg_ S4_ S3_ S1_ SD HS4_ HS3_ HS1_ HS0_ HSOF HG HO HO2 HCo hown
        go_wp2_with fail
        first
          | exact ⟨⟨i + 1, _, by omega, .inr hgood, by go_num, HN.out.1, HN.out.2.1, HN.out.2.2.1, HN.out.2.2.2⟩, by simp [intOf]; omega⟩
          | (go_roundw <;> first | exact ⟨i + 1, _, by omega, .inr hgood, by go_num, HN.out.1, HN.out.2.1, HN.out.2.2.1, HN.out.2.2.2⟩ | (simp [intOf]; omega))
      exact AllReadyH.nil
    · obtain rfl : n = i := by omega
      have E : Hid (startTo ps kk n = r) := Lib.hid (HX.out (.inr rfl))
      obtain ⟨A1, c1, rfl⟩ := own_shape hown
      have hR := S0.2.1
      have hE := E.out
      have hlr : r.length = n := by rw [← hE, startTo_len]
      obtain ⟨_, _⟩ := HCo.one
      obtain ⟨_, _⟩ := hR.one
      have E_ := Blk.set_own hR 0 (.slice A1 n c1)
      obtain ⟨r0_, _⟩ := Blk.Holds.one E_
      have hown4 := Lib.hid (own_set hown (w.heap.size + 1) 0 (.slice A1 n c1) (by omega))
      have hb4 := Lib.hid (S0.2.2.2.trans (below_set wr w.heap.size (w.heap.size + 1) 0 (.slice A1 n c1) (by omega)))
      rw [hE] at hown4
      clear hl HR HX hown
      go_wp2_with fail
      refine bodyPost_ret (v := .agg #[.slice A1 n c1]) (by simp [results, Try.results26, go_sem, r0_]) rfl ⟨A1, c1, by rw [hlr], by rw [hlr]; exact own_base hown4.out (by omega), hb4.out⟩

end Go.Proofs.Ytofjpepppjlecaa.StartSpec

