/-
  What MirrorRoom does, as a contract: the room in new memory; no old cell is written.
-/
import Derived.Test.YtgelkpaiabhklaaRoomOkSpec
import Derived.Test.YtgelkpaiabhklaaMirMath
import Derived.Test.YtgelkpaiabhklaaFacts
import Derived.Test.YtgelkpaiabhklaaRoomRes
namespace Go.Proofs.Ytgelkpaiabhklaa.MirSpec
open Go.RowKit Own PointMath WallMath RoomMath Pts Blk AreaMath TurnrMath MirMath RoomRes
open PointOk (ret_bool ret_i64 below1 below2 below3)

theorem infoP : (Try.prog.info? 118).map (fun i => (i.zero, i.size, i.bytes)) = some (some (.agg #[.int .i64 0, .int .i64 0]), 2, 16) := by kernel_rfl

set_option maxRecDepth 100000 in
set_option maxHeartbeats 4000000 in
theorem mirrorRoom (A : Option Addr) (n cap : Nat) (w : World) (ps : List (Int × Int)) (hl : ps.length = n) (hn : n ≤ 1048576) (hp : PtsAt w w.heap.size A ps) :
    Calls Try.prog 30 #[.agg #[.slice A n cap]] w (GivesR 118 w (mirL ps)) := by
  obtain ⟨r, hr⟩ : ∃ r, mirL ps = r := ⟨_, rfl⟩
  have HR := Lib.hid hr
  rw [hr]
  clear hr
  obtain ⟨i0, hi, hz0, hz1, hz2⟩ := info_parts infoP
  have un1 : IntKind.i64.wrap ((n : Int) - 1) = (n : Int) - 1 := IntWalk.i64_in _ (by omega)
  go_enter Try.func30, Try.ntmps30
  go_wp2_with fail
  have X0 := (Pts.boxR w (.slice A n cap) 50 (k := w.heap.size) (by simp)).alloc (Obj.cells #[.slice none 0 0] 50)
  have X1 := Blk.Holds.box (w.alloc (Obj.cells #[.slice A n cap] 50)) #[.slice none 0 0] 50 (k := w.heap.size + 1) (by simp)
  have b0 := PointOk.below2 w (Obj.cells #[.slice A n cap] 50) (Obj.cells #[.slice none 0 0] 50)
  have HO : ∀ W W' : World, (Pts.BoxR W (w.heap.size) (.slice A n cap) ∧ Blk.Holds W (w.heap.size + 1) #[.slice none 0 0] 50 ∧ PtsAt W w.heap.size A ps ∧ Below w.heap.size w W) → Below W.heap.size W W' → (Pts.BoxR W' (w.heap.size) (.slice A n cap) ∧ Blk.Holds W' (w.heap.size + 1) #[.slice none 0 0] 50 ∧ PtsAt W' w.heap.size A ps ∧ Below w.heap.size w W') := fun W W' ⟨h0, h1, x0, hb⟩ h => ⟨h0.later h, h1.later h, x0.later (h.mono hb.size), hb.trans (h.mono hb.size)⟩
  have hz0_ : Hid ((((w.alloc (Obj.cells #[.slice A n cap] 50)).alloc (Obj.cells #[.slice none 0 0] 50))).heap.size = w.heap.size + 1 + 1) := Lib.hid (by simp)
  have Y0 : PtsAt (((w.alloc (Obj.cells #[.slice A n cap] 50)).alloc (Obj.cells #[.slice none 0 0] 50))) w.heap.size A ps := hp.later b0
  generalize ((w.alloc (Obj.cells #[.slice A n cap] 50)).alloc (Obj.cells #[.slice none 0 0] 50)) = w0 at X0 X1 Y0 b0 hz0_ ⊢
  have S0 := (⟨X0, X1, Y0, b0⟩ : Pts.BoxR w0 (w.heap.size) (.slice A n cap) ∧ Blk.Holds w0 (w.heap.size + 1) #[.slice none 0 0] 50 ∧ PtsAt w0 w.heap.size A ps ∧ Below w.heap.size w w0)
  clear X0 X1 Y0 b0
  obtain ⟨⟨_, _⟩, _, _, _⟩ := id S0
  have hz1_ := hz0_.out
  have HCo := Blk.Holds.box w0 #[.slice none 0 0] 50 (k := w.heap.size + 2) (by omega)
  have S1 := HO _ _ S0 (below1 w0 (Obj.cells #[.slice none 0 0] 50))
  have hsz : w.heap.size + 3 ≤ (w0.alloc (Obj.cells #[.slice none 0 0] 50)).heap.size := by simp; omega
  clear S0
  go_loopw [4] (fun q wr => ∃ (i : Nat) (v : Value), i ≤ n ∧ (i = 0 ∨ roomB ps = true) ∧ q = .int .i64 ((n : Int) - 1 - (i : Int)) ∧ Blk.Holds wr (w.heap.size + 2) #[v] 50 ∧ wr.ownsRow (w.heap.size + 3) 118 2 v i (cellsP (mvTo (gMir ps) i)) ∧ w.heap.size + 3 ≤ wr.heap.size ∧ (Pts.BoxR wr (w.heap.size) (.slice A n cap) ∧ Blk.Holds wr (w.heap.size + 1) #[.slice none 0 0] 50 ∧ PtsAt wr w.heap.size A ps ∧ Below w.heap.size w wr))
    (fun q _ => (intOf q + 1).toNat)
  case atStart => exact ⟨0, _, Nat.zero_le _, .inl rfl, by go_num, HCo, World.ownsRow_nil _ _ _ _, hsz, S1⟩
  case round =>
    clear S1 HCo hsz
    obtain ⟨i, v, hin, hc, rfl, HCo, hown, hsz, S0⟩ := hrel
    obtain ⟨⟨_, _⟩, _, _, _⟩ := id S0
    have HX : Hid ((roomB ps = false ∨ n = i) → mvTo (gMir ps) i = r) := Lib.hid (fun h => by
      rw [← HR.out]
      rcases hc with hc | hc
      · subst hc
        rcases h with h | h
        · rw [mirL_no h]; rfl
        · have e0 : ps.length = 0 := by omega
          unfold mirL
          rw [e0]
          split <;> rfl
      · rcases h with h | h
        · rw [hc] at h; cases h
        · subst h
          rw [mirL_yes hc, hl])
    by_cases hlt : i < n
    · have hi1 : (i : Int) < (n : Int) := by omega
      have hi0 : (0 : Int) ≤ (i : Int) := by omega
      obtain ⟨m, hm⟩ : ∃ m, n - 1 - i = m := ⟨_, rfl⟩
      have em : (n : Int) - 1 - (i : Int) = (m : Int) := by omega
      have hm1 : (m : Int) < (n : Int) := by omega
      have hm0 : (0 : Int) ≤ (m : Int) := by omega
      have um : IntKind.i64.wrap ((m : Int) - 1) = (m : Int) - 1 := IntWalk.i64_in _ (by omega)
      rw [em]
      go_wp2_with fail
      refine (RoomOkSpec.roomOk A n cap _ ps hl hn (S0.2.2.1.wide S0.2.2.2.size)).mono ?_
      rintro e w2 ⟨rfl, hb_⟩
      replace S0 := HO _ _ S0 hb_
      replace HCo := HCo.later hb_
      replace hown := own_below hown hb_
      replace hsz := Nat.le_trans hsz hb_.size
      clear hb_
      obtain ⟨⟨_, _⟩, _, _, _⟩ := id S0
      cases hr : roomB ps
      · have E : Hid (mvTo (gMir ps) i = r) := Lib.hid (HX.out (.inl hr))
        obtain ⟨A1, c1, rfl⟩ := own_shape hown
        have hR := S0.2.1
        have hE := E.out
        have hlr : r.length = i := by rw [← hE, mvTo_len]
        obtain ⟨_, _⟩ := HCo.one
        obtain ⟨_, _⟩ := hR.one
        have E_ := Blk.set_own hR 0 (.slice A1 i c1)
        obtain ⟨r0_, _⟩ := Blk.Holds.one E_
        have hown4 := Lib.hid (own_set hown (w.heap.size + 1) 0 (.slice A1 i c1) (by omega))
        have hb4 := Lib.hid (S0.2.2.2.trans (below_set w2 w.heap.size (w.heap.size + 1) 0 (.slice A1 i c1) (by omega)))
        rw [hE] at hown4
        clear hl HR HX hown
        go_wp2_with fail
        refine bodyPost_ret (v := .agg #[.slice A1 i c1]) (by simp [results, Try.results30, go_sem, r0_]) rfl ⟨A1, c1, by rw [hlr], by rw [hlr]; exact own_base hown4.out (by omega), hb4.out⟩
      have HG : Hid (mvTo (gMir ps) (i + 1) = mvTo (gMir ps) i ++ [gMir ps i]) := Lib.hid rfl
      have p0 := pt_at (ps := ps) (k := m) (by omega)
      have o0 := okP_yes (okAll_at (roomB_yes hr).2.1 (k := m) (by omega))
      obtain ⟨py, cy, hcc⟩ : ∃ x y, pt ps m = (x, y) := ⟨_, _, rfl⟩
      obtain ⟨cx, hcx⟩ : ∃ x, -py = x := ⟨_, rfl⟩
      have eg : gMir ps i = (cx, cy) := by unfold gMir; rw [hl, hm, hcc, ← hcx]
      rw [hcc] at p0 o0
      rw [eg] at HG
      have un : IntKind.i64.wrap (-py) = cx := by rw [IntWalk.i64_in _ (by simp only at o0; omega)]; exact hcx
      obtain ⟨ad, eA, bA, pA⟩ := S0.2.2.1.get p0
      subst eA
      obtain ⟨Ao, co, rfl⟩ := own_shape hown
      replace hown := Lib.hid hown
      clear HX hl HR p0 hcc hc eg o0 hcx
      go_wp2_with fail
      rename World => wr
      have HO : ∀ W W' : World, (Pts.BoxR W (w.heap.size) (.slice (some ad) n cap) ∧ Blk.Holds W (w.heap.size + 1) #[.slice none 0 0] 50 ∧ PtsAt W w.heap.size (some ad) ps ∧ PtAt W ad m py cy ∧ Below w.heap.size w W) → Below W.heap.size W W' → (Pts.BoxR W' (w.heap.size) (.slice (some ad) n cap) ∧ Blk.Holds W' (w.heap.size + 1) #[.slice none 0 0] 50 ∧ PtsAt W' w.heap.size (some ad) ps ∧ PtAt W' ad m py cy ∧ Below w.heap.size w W') := fun W W' ⟨h0, h1, x0, x1, hb⟩ h => ⟨h0.later h, h1.later h, x0.later (h.mono hb.size), x1.later bA (h.mono hb.size), hb.trans (h.mono hb.size)⟩
      replace S0 : Pts.BoxR wr (w.heap.size) (.slice (some ad) n cap) ∧ Blk.Holds wr (w.heap.size + 1) #[.slice none 0 0] 50 ∧ PtsAt wr w.heap.size (some ad) ps ∧ PtAt wr ad m py cy ∧ Below w.heap.size w wr := ⟨S0.1, S0.2.1, S0.2.2.1, pA, S0.2.2.2⟩
      have HO2 : ∀ W W' : World, (Pts.BoxR W (w.heap.size) (.slice (some ad) n cap) ∧ Blk.Holds W (w.heap.size + 1) #[.slice none 0 0] 50 ∧ PtsAt W w.heap.size (some ad) ps ∧ PtAt W ad m py cy ∧ Below w.heap.size w W) → Below (w.heap.size + 2) W W' → (Pts.BoxR W' (w.heap.size) (.slice (some ad) n cap) ∧ Blk.Holds W' (w.heap.size + 1) #[.slice none 0 0] 50 ∧ PtsAt W' w.heap.size (some ad) ps ∧ PtAt W' ad m py cy ∧ Below w.heap.size w W') := fun W W' ⟨h0, h1, h2, h3, hb⟩ h => ⟨⟨(h.cell (by simp)).trans h0.1, trivial⟩, (h.block _ (by omega)).trans h1, h2.later (h.mono (by omega)), h3.later bA (h.mono (by omega)), hb.trans (h.mono (by omega))⟩
      clear pA
      have dr_ := (Below.refl wr.heap.size wr).drew
      have SD := HO _ _ S0 dr_
      have HCD := HCo.later dr_
      have hownD := own_below hown.out dr_
      have hzD : wr.drew.heap.size = wr.heap.size := rfl
      have HSOF : ∀ W : World, (Pts.BoxR W (w.heap.size) (.slice (some ad) n cap) ∧ Blk.Holds W (w.heap.size + 1) #[.slice none 0 0] 50 ∧ PtsAt W w.heap.size (some ad) ps ∧ PtAt W ad m py cy ∧ Below w.heap.size w W) → (W.cell? ⟨w.heap.size, 0, none⟩ = some (.slice (some ad) n cap) ∧ W.cell? (ad.add (m * 2)) = some (.int .i64 py) ∧ W.cell? ⟨(ad.add (m * 2)).block, (ad.add (m * 2)).off + 1, none⟩ = some (.int .i64 cy)) := fun W h => ⟨h.1.1, h.2.2.2.1⟩
      have HS0_ := HSOF _ SD
      obtain ⟨_, _⟩ := HCD.one
      clear dr_ S0
      refine wp_region_held_drew (S := fun W => (W.cell? ⟨w.heap.size, 0, none⟩ = some (.slice (some ad) n cap) ∧ W.cell? (ad.add (m * 2)) = some (.int .i64 py) ∧ W.cell? ⟨(ad.add (m * 2)).block, (ad.add (m * 2)).off + 1, none⟩ = some (.int .i64 cy))) (by kernel_rfl) HS0_ (fun hHeld => ?_)
      refine wpAnyH_take (i := 0) (oi := ⟨some 18, _, _, _, _, _⟩) (v := ?_) rfl (by kernel_rfl) (by kernel_rfl) (by kernel_rfl) (fun _ _ _ h => h) (Or.inl ⟨by rfl, ?_⟩) (by assumption) ?_
      rotate_left 1
      · (intro w hSw; (try obtain ⟨_, _, _⟩ := hSw); go_simp; try with_reducible rfl)
      try simp only [Act.put, List.setIfInBounds_toArray, List.set_cons_zero, List.set_cons_succ]
      refine wpAnyH_take (i := 2) (oi := ⟨some 20, _, _, _, _, _⟩) (v := ?_) rfl (by kernel_rfl) (by kernel_rfl) (by kernel_rfl) (fun _ _ _ h => h) (Or.inl ⟨by rfl, ?_⟩) (by assumption) ?_
      rotate_left 1
      · (intro w hSw; (try obtain ⟨_, _, _⟩ := hSw); go_simp; try with_reducible rfl)
      try simp only [Act.put, List.setIfInBounds_toArray, List.set_cons_zero, List.set_cons_succ]
      refine wpAnyH_take (i := 3) (oi := ⟨some 21, _, _, _, _, _⟩) (v := ?_) rfl (by kernel_rfl) (by kernel_rfl) (by kernel_rfl) (fun _ _ _ h => h) (Or.inl ⟨by rfl, ?_⟩) (by assumption) ?_
      rotate_left 1
      · (intro w hSw; (try obtain ⟨_, _, _⟩ := hSw); go_simp; try with_reducible rfl)
      try simp only [Act.put, List.setIfInBounds_toArray, List.set_cons_zero, List.set_cons_succ]
      refine wpAnyH_take (i := 4) (oi := ⟨some 22, _, _, _, _, _⟩) (v := ?_) rfl (by kernel_rfl) (by kernel_rfl) (by kernel_rfl) (fun _ _ _ h => h) (Or.inl ⟨by rfl, ?_⟩) (by assumption) ?_
      rotate_left 1
      · (intro w hSw; (try obtain ⟨_, _, _⟩ := hSw); go_simp; try with_reducible rfl)
      try simp only [Act.put, List.setIfInBounds_toArray, List.set_cons_zero, List.set_cons_succ]
      refine wpAnyH_take (i := 5) (oi := ⟨some 23, _, _, _, _, _⟩) (v := ?_) rfl (by kernel_rfl) (by kernel_rfl) (by kernel_rfl) (fun _ _ _ h => h) (Or.inl ⟨by rfl, ?_⟩) (by assumption) ?_
      rotate_left 1
      · (intro w hSw; (try obtain ⟨_, _, _⟩ := hSw); go_simp; try with_reducible rfl)
      try simp only [Act.put, List.setIfInBounds_toArray, List.set_cons_zero, List.set_cons_succ]
      refine wpAnyH_take (i := 6) (oi := ⟨some 24, _, _, _, _, _⟩) (v := ?_) rfl (by kernel_rfl) (by kernel_rfl) (by kernel_rfl) (fun _ _ _ h => h) (Or.inl ⟨by rfl, ?_⟩) (by assumption) ?_
      rotate_left 1
      · (intro w hSw; (try obtain ⟨_, _, _⟩ := hSw); go_simp; try with_reducible rfl)
      try simp only [Act.put, List.setIfInBounds_toArray, List.set_cons_zero, List.set_cons_succ]
      refine wpAnyH_take (i := 7) (oi := ⟨some 25, _, _, _, _, _⟩) (v := ?_) rfl (by kernel_rfl) (by kernel_rfl) (by kernel_rfl) (fun _ _ _ h => h) (Or.inl ⟨by rfl, ?_⟩) (by assumption) ?_
      rotate_left 1
      · (intro w hSw; (try obtain ⟨_, _, _⟩ := hSw); go_simp; try with_reducible rfl)
      try simp only [Act.put, List.setIfInBounds_toArray, List.set_cons_zero, List.set_cons_succ]
      refine wpAnyH_take (i := 8) (oi := ⟨some 26, _, _, _, _, _⟩) (v := ?_) rfl (by kernel_rfl) (by kernel_rfl) (by kernel_rfl) (fun _ _ _ h => h) (Or.inl ⟨by rfl, ?_⟩) (by assumption) ?_
      rotate_left 1
      · (intro w hSw; (try obtain ⟨_, _, _⟩ := hSw); go_simp; try with_reducible rfl)
      try simp only [Act.put, List.setIfInBounds_toArray, List.set_cons_zero, List.set_cons_succ]
      refine wpAnyH_take (i := 9) (oi := ⟨some 27, _, _, _, _, _⟩) (v := ?_) rfl (by kernel_rfl) (by kernel_rfl) (by kernel_rfl) (fun _ _ _ h => h) (Or.inl ⟨by rfl, ?_⟩) (by assumption) ?_
      rotate_left 1
      · (intro w hSw; (try obtain ⟨_, _, _⟩ := hSw); go_simp; try with_reducible rfl)
      try simp only [Act.put, List.setIfInBounds_toArray, List.set_cons_zero, List.set_cons_succ]
      refine wpAnyH_take (i := 10) (oi := ⟨some 28, _, _, _, _, _⟩) (v := ?_) rfl (by kernel_rfl) (by kernel_rfl) (by kernel_rfl) (fun _ _ _ h => h) (Or.inl ⟨by rfl, ?_⟩) (by assumption) ?_
      rotate_left 1
      · (intro w hSw; (try obtain ⟨_, _, _⟩ := hSw); go_simp; try with_reducible rfl)
      try simp only [Act.put, List.setIfInBounds_toArray, List.set_cons_zero, List.set_cons_succ]
      refine wpAnyH_take (i := 11) (oi := ⟨some 29, _, _, _, _, _⟩) (v := ?_) rfl (by kernel_rfl) (by kernel_rfl) (by kernel_rfl) (fun _ _ _ h => h) (Or.inl ⟨by rfl, ?_⟩) (by assumption) ?_
      rotate_left 1
      · (intro w hSw; (try obtain ⟨_, _, _⟩ := hSw); go_simp; try with_reducible rfl)
      try simp only [Act.put, List.setIfInBounds_toArray, List.set_cons_zero, List.set_cons_succ]
      refine wpAnyH_take (i := 12) (oi := ⟨some 30, _, _, _, _, _⟩) (v := ?_) rfl (by kernel_rfl) (by kernel_rfl) (by kernel_rfl) (fun _ _ _ h => h) (Or.inl ⟨by rfl, ?_⟩) (by assumption) ?_
      rotate_left 1
      · (intro w hSw; (try obtain ⟨_, _, _⟩ := hSw); go_simp; try with_reducible rfl)
      try simp only [Act.put, List.setIfInBounds_toArray, List.set_cons_zero, List.set_cons_succ]
      refine wpAnyH_take (i := 13) (oi := ⟨some 31, _, _, _, _, _⟩) (v := ?_) rfl (by kernel_rfl) (by kernel_rfl) (by kernel_rfl) (fun _ _ _ h => h) (Or.inl ⟨by rfl, ?_⟩) (by assumption) ?_
      rotate_left 1
      · (intro w hSw; (try obtain ⟨_, _, _⟩ := hSw); go_simp; try with_reducible rfl)
      try simp only [Act.put, List.setIfInBounds_toArray, List.set_cons_zero, List.set_cons_succ]
      refine wpAnyH_take (i := 14) (oi := ⟨some 32, _, _, _, _, _⟩) (v := ?_) rfl (by kernel_rfl) (by kernel_rfl) (by kernel_rfl) (fun _ _ _ h => h) (Or.inl ⟨by rfl, ?_⟩) (by assumption) ?_
      rotate_left 1
      · (intro w hSw; (try obtain ⟨_, _, _⟩ := hSw); go_simp; try with_reducible rfl)
      try simp only [Act.put, List.setIfInBounds_toArray, List.set_cons_zero, List.set_cons_succ]
      refine wpAnyH_take (i := 15) (oi := ⟨some 33, _, _, _, _, _⟩) (v := ?_) rfl (by kernel_rfl) (by kernel_rfl) (by kernel_rfl) (fun _ _ _ h => h) (Or.inl ⟨by rfl, ?_⟩) (by assumption) ?_
      rotate_left 1
      · (intro w hSw; (try obtain ⟨_, _, _⟩ := hSw); go_simp; try with_reducible rfl)
      try simp only [Act.put, List.setIfInBounds_toArray, List.set_cons_zero, List.set_cons_succ]
      refine wpAnyH_ready (rs := [1, 16]) (by kernel_rfl) (by simp) ?_
      refine AllReadyH.cons (o := ⟨some 19, _, _, _, _, _⟩) rfl (fun K hK => ?_) ?_
      · skip
        go_simp
        refine hK.out _ _ HS0_ (fun hHeld => ?_)
        clear hK K
        try simp only [Act.put, List.setIfInBounds_toArray, List.set_cons_zero, List.set_cons_succ]
        refine wpAnyH_ready (rs := [16]) (by kernel_rfl) (by simp) ?_
        refine AllReadyH.cons (o := ⟨some 34, _, _, _, _, _⟩) rfl (fun K hK => ?_) ?_
        rotate_left 1
        · exact AllReadyH.nil
        have b2_ := below1 wr.drew (Obj.cells #[.int .i64 cx, .int .i64 cy] 118)
        have S1_ := HO _ _ SD b2_
        have HC1 := HCD.later b2_
        have hown1 := own_below hownD b2_
        have HS1_ := HSOF _ S1_
        obtain ⟨_, _⟩ := HC1.one
        have HC1b : Blk.Holds (wr.alloc (Obj.cells #[.int .i64 cx, .int .i64 cy] 118)).drew (w.heap.size + 2) #[.slice Ao i co] 50 := HC1
        obtain ⟨_, _⟩ := HC1b.one
        go_simp
        refine hK.out _ _ HS1_ (fun hHeld => ?_)
        clear hK K
        try simp only [Act.put, List.setIfInBounds_toArray, List.set_cons_zero, List.set_cons_succ]
        refine wpAnyH_ready (rs := [17]) (by kernel_rfl) (by simp) ?_
        refine AllReadyH.cons (o := ⟨some 35, _, _, _, _, _⟩) rfl (fun K hK => ?_) ?_
        rotate_left 1
        · exact AllReadyH.nil
        refine step_append_lies _ (by rfl) _ _ _ (by rfl) (w.heap.size + 3) 118 i0 _ 2 16 Try.underlying48 hi hz0 hz1 hz2 rfl (by omega) _ _ _ (by rfl) hown1 ⟨wr.drew.heap.size, 0, none⟩ 1 1 [.int .i64 cx, .int .i64 cy] (by rfl) (by rfl) ?c1 ?c2 (by omega) ?c3 ?c4 ?c5 _ rfl ?_
        case c1 => (intro a u ha; match a, ha with | 0, ha => (simp at ha; subst ha; simp [Addr.add]) | 1, ha => (simp at ha; subst ha; simp [Addr.add]))
        case c2 => (intro u hu; simp at hu; rcases hu with rfl | rfl <;> rfl)
        case c3 => (unfold maxLen; omega)
        case c4 => omega
        case c5 => (simp; omega)
        intro g2_ cap2_ wa_ ho_ hg_ hgo_ hlt_
        have hbg_ : Below (w.heap.size + 3) (wr.drew.alloc (Obj.cells #[.int .i64 cx, .int .i64 cy] 118)) wa_ := (Below.refl _ _).grown hg_ (by simp; omega) (fun g hg => (hown1.lt g hg).1)
        have HC3 : Blk.Holds wa_ (w.heap.size + 2) #[.slice Ao i co] 50 := (hbg_.block _ (by omega)).trans HC1
        have S3_ := HO2 _ _ S1_ (hbg_.mono (by omega))
        have HS3_ := HSOF _ S3_
        obtain ⟨_, _⟩ := HC3.one
        refine hK.out _ _ HS3_ (fun hHeld => ?_)
        clear hK K
        try simp only [Act.put, List.setIfInBounds_toArray, List.set_cons_zero, List.set_cons_succ]
        refine wpAnyH_take (i := 18) (oi := ⟨some 36, _, _, _, _, _⟩) (v := ?_) rfl (by kernel_rfl) (by kernel_rfl) (by kernel_rfl) (fun _ _ _ h => h) (Or.inl ⟨by rfl, ?_⟩) (by assumption) ?_
        rotate_left 1
        · (intro w hSw; (try obtain ⟨_, _, _⟩ := hSw); go_simp; try with_reducible rfl)
        try simp only [Act.put, List.setIfInBounds_toArray, List.set_cons_zero, List.set_cons_succ]
        refine wpAnyH_ready (rs := [19]) (by kernel_rfl) (by simp) ?_
        refine AllReadyH.cons (o := ⟨none, _, _, _, _, _⟩) rfl (fun K hK => ?_) ?_
        rotate_left 1
        · exact AllReadyH.nil
        have HC4 := Blk.set_own HC3 0 (Value.slice (some ⟨g2_, 0, none⟩) (i + 1) cap2_)
        have hown4 := own_set ho_ (w.heap.size + 2) 0 (Value.slice (some ⟨g2_, 0, none⟩) (i + 1) cap2_) (by omega)
        have hbs_ := below_set wa_ (w.heap.size + 2) (w.heap.size + 2) 0 (Value.slice (some ⟨g2_, 0, none⟩) (i + 1) cap2_) (Nat.le_refl _)
        have S4_ := HO2 _ _ S3_ hbs_
        have HS4_ := HSOF _ S4_
        go_simp
        refine hK.out _ _ HS4_ (fun hHeld => ?_)
        clear hK K
        try simp only [Act.put, List.setIfInBounds_toArray, List.set_cons_zero, List.set_cons_succ]
        have HN : Hid (Blk.Holds (wa_.setCell ⟨w.heap.size + 2, 0, none⟩ (Value.slice (some ⟨g2_, 0, none⟩) (i + 1) cap2_)) (w.heap.size + 2) #[(Value.slice (some ⟨g2_, 0, none⟩) (i + 1) cap2_)] 50 ∧ (wa_.setCell ⟨w.heap.size + 2, 0, none⟩ (Value.slice (some ⟨g2_, 0, none⟩) (i + 1) cap2_)).ownsRow (w.heap.size + 3) 118 2 (Value.slice (some ⟨g2_, 0, none⟩) (i + 1) cap2_) (i + 1) (cellsP (mvTo (gMir ps) (i + 1))) ∧ w.heap.size + 3 ≤ (wa_.setCell ⟨w.heap.size + 2, 0, none⟩ (Value.slice (some ⟨g2_, 0, none⟩) (i + 1) cap2_)).heap.size ∧ ((fun W => (Pts.BoxR W (w.heap.size) (.slice (some ad) n cap) ∧ Blk.Holds W (w.heap.size + 1) #[.slice none 0 0] 50 ∧ PtsAt W w.heap.size (some ad) ps ∧ Below w.heap.size w W)) (wa_.setCell ⟨w.heap.size + 2, 0, none⟩ (Value.slice (some ⟨g2_, 0, none⟩) (i + 1) cap2_)))) := Lib.hid ⟨HC4, by rw [HG.out, cellsP_app]; exact hown4, by have := hbs_.size; have := hbg_.size; simp at this; omega, S4_.1, S4_.2.1, S4_.2.2.1, S4_.2.2.2.2⟩
        refine wpAnyH_done (by kernel_rfl) ?_ _
        clear HC4 HC3 HC1 HCD hown4 hown1 hownD ho_ hg_ hgo_ hlt_ hbs_ hbg_ S4_ S3_ S1_ SD HS4_ HS3_ HS1_ HS0_ HSOF HG HO HO2 HCo hown
        go_wp2_with fail
        first
          | exact ⟨⟨i + 1, _, by omega, .inr hr, by go_num, HN.out.1, HN.out.2.1, HN.out.2.2.1, HN.out.2.2.2⟩, by first | (simp [intOf]; done) | (simp [intOf]; omega)⟩
          | (go_roundw <;> first | exact ⟨i + 1, _, by omega, .inr hr, by go_num, HN.out.1, HN.out.2.1, HN.out.2.2.1, HN.out.2.2.2⟩ | (simp [intOf]; omega))
      refine AllReadyH.cons (o := ⟨some 34, _, _, _, _, _⟩) rfl (fun K hK => ?_) ?_
      · skip
        have b2_ := below1 wr.drew (Obj.cells #[.int .i64 cx, .int .i64 cy] 118)
        have S1_ := HO _ _ SD b2_
        have HC1 := HCD.later b2_
        have hown1 := own_below hownD b2_
        have HS1_ := HSOF _ S1_
        obtain ⟨_, _⟩ := HC1.one
        have HC1b : Blk.Holds (wr.alloc (Obj.cells #[.int .i64 cx, .int .i64 cy] 118)).drew (w.heap.size + 2) #[.slice Ao i co] 50 := HC1
        obtain ⟨_, _⟩ := HC1b.one
        go_simp
        refine hK.out _ _ HS1_ (fun hHeld => ?_)
        clear hK K
        try simp only [Act.put, List.setIfInBounds_toArray, List.set_cons_zero, List.set_cons_succ]
        refine wpAnyH_ready (rs := [1]) (by kernel_rfl) (by simp) ?_
        refine AllReadyH.cons (o := ⟨some 19, _, _, _, _, _⟩) rfl (fun K hK => ?_) ?_
        rotate_left 1
        · exact AllReadyH.nil
        go_simp
        refine hK.out _ _ HS1_ (fun hHeld => ?_)
        clear hK K
        try simp only [Act.put, List.setIfInBounds_toArray, List.set_cons_zero, List.set_cons_succ]
        refine wpAnyH_ready (rs := [17]) (by kernel_rfl) (by simp) ?_
        refine AllReadyH.cons (o := ⟨some 35, _, _, _, _, _⟩) rfl (fun K hK => ?_) ?_
        rotate_left 1
        · exact AllReadyH.nil
        refine step_append_lies _ (by rfl) _ _ _ (by rfl) (w.heap.size + 3) 118 i0 _ 2 16 Try.underlying48 hi hz0 hz1 hz2 rfl (by omega) _ _ _ (by rfl) hown1 ⟨wr.drew.heap.size, 0, none⟩ 1 1 [.int .i64 cx, .int .i64 cy] (by rfl) (by rfl) ?c1 ?c2 (by omega) ?c3 ?c4 ?c5 _ rfl ?_
        case c1 => (intro a u ha; match a, ha with | 0, ha => (simp at ha; subst ha; simp [Addr.add]) | 1, ha => (simp at ha; subst ha; simp [Addr.add]))
        case c2 => (intro u hu; simp at hu; rcases hu with rfl | rfl <;> rfl)
        case c3 => (unfold maxLen; omega)
        case c4 => omega
        case c5 => (simp; omega)
        intro g2_ cap2_ wa_ ho_ hg_ hgo_ hlt_
        have hbg_ : Below (w.heap.size + 3) (wr.drew.alloc (Obj.cells #[.int .i64 cx, .int .i64 cy] 118)) wa_ := (Below.refl _ _).grown hg_ (by simp; omega) (fun g hg => (hown1.lt g hg).1)
        have HC3 : Blk.Holds wa_ (w.heap.size + 2) #[.slice Ao i co] 50 := (hbg_.block _ (by omega)).trans HC1
        have S3_ := HO2 _ _ S1_ (hbg_.mono (by omega))
        have HS3_ := HSOF _ S3_
        obtain ⟨_, _⟩ := HC3.one
        refine hK.out _ _ HS3_ (fun hHeld => ?_)
        clear hK K
        try simp only [Act.put, List.setIfInBounds_toArray, List.set_cons_zero, List.set_cons_succ]
        refine wpAnyH_take (i := 18) (oi := ⟨some 36, _, _, _, _, _⟩) (v := ?_) rfl (by kernel_rfl) (by kernel_rfl) (by kernel_rfl) (fun _ _ _ h => h) (Or.inl ⟨by rfl, ?_⟩) (by assumption) ?_
        rotate_left 1
        · (intro w hSw; (try obtain ⟨_, _, _⟩ := hSw); go_simp; try with_reducible rfl)
        try simp only [Act.put, List.setIfInBounds_toArray, List.set_cons_zero, List.set_cons_succ]
        refine wpAnyH_ready (rs := [19]) (by kernel_rfl) (by simp) ?_
        refine AllReadyH.cons (o := ⟨none, _, _, _, _, _⟩) rfl (fun K hK => ?_) ?_
        rotate_left 1
        · exact AllReadyH.nil
        have HC4 := Blk.set_own HC3 0 (Value.slice (some ⟨g2_, 0, none⟩) (i + 1) cap2_)
        have hown4 := own_set ho_ (w.heap.size + 2) 0 (Value.slice (some ⟨g2_, 0, none⟩) (i + 1) cap2_) (by omega)
        have hbs_ := below_set wa_ (w.heap.size + 2) (w.heap.size + 2) 0 (Value.slice (some ⟨g2_, 0, none⟩) (i + 1) cap2_) (Nat.le_refl _)
        have S4_ := HO2 _ _ S3_ hbs_
        have HS4_ := HSOF _ S4_
        go_simp
        refine hK.out _ _ HS4_ (fun hHeld => ?_)
        clear hK K
        try simp only [Act.put, List.setIfInBounds_toArray, List.set_cons_zero, List.set_cons_succ]
        have HN : Hid (Blk.Holds (wa_.setCell ⟨w.heap.size + 2, 0, none⟩ (Value.slice (some ⟨g2_, 0, none⟩) (i + 1) cap2_)) (w.heap.size + 2) #[(Value.slice (some ⟨g2_, 0, none⟩) (i + 1) cap2_)] 50 ∧ (wa_.setCell ⟨w.heap.size + 2, 0, none⟩ (Value.slice (some ⟨g2_, 0, none⟩) (i + 1) cap2_)).ownsRow (w.heap.size + 3) 118 2 (Value.slice (some ⟨g2_, 0, none⟩) (i + 1) cap2_) (i + 1) (cellsP (mvTo (gMir ps) (i + 1))) ∧ w.heap.size + 3 ≤ (wa_.setCell ⟨w.heap.size + 2, 0, none⟩ (Value.slice (some ⟨g2_, 0, none⟩) (i + 1) cap2_)).heap.size ∧ ((fun W => (Pts.BoxR W (w.heap.size) (.slice (some ad) n cap) ∧ Blk.Holds W (w.heap.size + 1) #[.slice none 0 0] 50 ∧ PtsAt W w.heap.size (some ad) ps ∧ Below w.heap.size w W)) (wa_.setCell ⟨w.heap.size + 2, 0, none⟩ (Value.slice (some ⟨g2_, 0, none⟩) (i + 1) cap2_)))) := Lib.hid ⟨HC4, by rw [HG.out, cellsP_app]; exact hown4, by have := hbs_.size; have := hbg_.size; simp at this; omega, S4_.1, S4_.2.1, S4_.2.2.1, S4_.2.2.2.2⟩
        refine wpAnyH_done (by kernel_rfl) ?_ _
        clear HC4 HC3 HC1 HCD hown4 hown1 hownD ho_ hg_ hgo_ hlt_ hbs_ hbg_ S4_ S3_ S1_ SD HS4_ HS3_ HS1_ HS0_ HSOF HG HO HO2 HCo hown
        go_wp2_with fail
        first
          | exact ⟨⟨i + 1, _, by omega, .inr hr, by go_num, HN.out.1, HN.out.2.1, HN.out.2.2.1, HN.out.2.2.2⟩, by first | (simp [intOf]; done) | (simp [intOf]; omega)⟩
          | (go_roundw <;> first | exact ⟨i + 1, _, by omega, .inr hr, by go_num, HN.out.1, HN.out.2.1, HN.out.2.2.1, HN.out.2.2.2⟩ | (simp [intOf]; omega))
      exact AllReadyH.nil
    · obtain rfl : n = i := by omega
      have em : (n : Int) - 1 - (n : Int) = -1 := by omega
      rw [em]
      have E : Hid (mvTo (gMir ps) n = r) := Lib.hid (HX.out (.inr rfl))
      obtain ⟨A1, c1, rfl⟩ := own_shape hown
      have hR := S0.2.1
      have hE := E.out
      have hlr : r.length = n := by rw [← hE, mvTo_len]
      obtain ⟨_, _⟩ := HCo.one
      obtain ⟨_, _⟩ := hR.one
      have E_ := Blk.set_own hR 0 (.slice A1 n c1)
      obtain ⟨r0_, _⟩ := Blk.Holds.one E_
      have hown4 := Lib.hid (own_set hown (w.heap.size + 1) 0 (.slice A1 n c1) (by omega))
      have hb4 := Lib.hid (S0.2.2.2.trans (below_set wr w.heap.size (w.heap.size + 1) 0 (.slice A1 n c1) (by omega)))
      rw [hE] at hown4
      clear hl HR HX hown
      go_wp2_with fail
      refine bodyPost_ret (v := .agg #[.slice A1 n c1]) (by simp [results, Try.results30, go_sem, r0_]) rfl ⟨A1, c1, by rw [hlr], by rw [hlr]; exact own_base hown4.out (by omega), hb4.out⟩

end Go.Proofs.Ytgelkpaiabhklaa.MirSpec

