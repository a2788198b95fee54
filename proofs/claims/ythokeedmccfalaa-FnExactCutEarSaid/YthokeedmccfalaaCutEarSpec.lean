/-
  What the model's CutEar does, as a contract: the room without the ear, and whether it may be cut off.
-/
import Derived.Test.YthokeedmccfalaaStrSpec
import Derived.Test.YthokeedmccfalaaEarSpec
import Derived.Test.YthokeedmccfalaaMovRoom
namespace Go.Proofs.Ythokeedmccfalaa.CutEarSpec
open Go.RowKit Own PointMath WallMath RoomMath Pts Blk AreaMath PlaceMath FloorMath LineMath CutsMath SightMath DiagMath EarMath RoomRes MovRoom StrMath
open CutMath (own_ptsC)
open PointOk (ret_bool ret_i64 below1 below2 below3)
theorem apart {w : World} {b sz n k : Nat} {T T2 : TypeId} {v : Value} {xs : List Value} {cs : Array Value} (h : w.ownsRow b T sz v n xs) (h2 : Holds w k cs T2) (ht : T ≠ T2) : ∀ g, v.ownBlock = some g → g ≠ k := by
  intro g hg e
  subst e
  rcases h.2 with ⟨rfl, _⟩ | ⟨g', cap', cur, rfl, _, hh, _⟩
  · cases hg
  · injection hg with hg
    have hg : g' = g := hg
    subst hg
    unfold Holds at h2
    rw [hh] at h2
    injection h2 with h2
    injection h2 with _ h2
    exact ht h2

set_option maxRecDepth 100000 in
set_option maxHeartbeats 6400000 in
theorem cutEar (A : Option Addr) (n cap : Nat) (k : Int) (w : World) (ps : List (Int × Int)) (hl : ps.length = n) (hn : n ≤ 1048576) (hc0 : n ≤ cap) (hp : PtsAt w w.heap.size A ps) :
    Calls Try.prog 18 #[.agg #[.slice A n cap], .int .i64 k] w (GivesRB 49 w (earL ps k) (earB ps k)) := by
  obtain ⟨o, ho⟩ : ∃ o, earB ps k = o := ⟨_, rfl⟩
  obtain ⟨l0, hl0⟩ : ∃ l, earL ps k = l := ⟨_, rfl⟩
  have HN : Hid (earB ps k = false → l0 = [] ∧ o = false) := Lib.hid (fun h => by rw [← hl0, ← ho, h]; exact ⟨ear_no h, rfl⟩)
  have HY : Hid (earB ps k = true → l0 = modL (cut ps k.toNat) ∧ o = true) := Lib.hid (fun h => by rw [← hl0, ← ho, h]; exact ⟨ear_yes h, rfl⟩)
  rw [hl0, ho]
  unfold GivesRB
  clear hl0 ho
  go_enter Try.func18, Try.ntmps18
  go_wp2_with fail
  have X0 := (Pts.boxR w (.slice A n cap) 37 (k := w.heap.size) (by simp)).alloc (Obj.cells #[.slice none 0 0] 37)
  have X1 := Blk.Holds.box (w.alloc (Obj.cells #[.slice A n cap] 37)) #[.slice none 0 0] 37 (k := w.heap.size + 1) (by simp)
  have b0 := PointOk.below2 w (Obj.cells #[.slice A n cap] 37) (Obj.cells #[.slice none 0 0] 37)
  have HO : ∀ W W' : World, (Pts.BoxR W (w.heap.size) (.slice A n cap) ∧ Blk.Holds W (w.heap.size + 1) #[.slice none 0 0] 37 ∧ PtsAt W w.heap.size A ps ∧ w.heap.size + 2 ≤ W.heap.size ∧ Below w.heap.size w W) → Below W.heap.size W W' → (Pts.BoxR W' (w.heap.size) (.slice A n cap) ∧ Blk.Holds W' (w.heap.size + 1) #[.slice none 0 0] 37 ∧ PtsAt W' w.heap.size A ps ∧ w.heap.size + 2 ≤ W'.heap.size ∧ Below w.heap.size w W') := fun W W' ⟨h0, h1, x0, x1, hb⟩ h => ⟨h0.later h, h1.later h, x0.later (h.mono hb.size), Nat.le_trans x1 h.size, hb.trans (h.mono hb.size)⟩
  have hz0_ : Hid ((((w.alloc (Obj.cells #[.slice A n cap] 37)).alloc (Obj.cells #[.slice none 0 0] 37))).heap.size = w.heap.size + 1 + 1) := Lib.hid (by simp)
  have Y0 : PtsAt (((w.alloc (Obj.cells #[.slice A n cap] 37)).alloc (Obj.cells #[.slice none 0 0] 37))) w.heap.size A ps := hp.later b0
  have Y1 : w.heap.size + 2 ≤ (((w.alloc (Obj.cells #[.slice A n cap] 37)).alloc (Obj.cells #[.slice none 0 0] 37))).heap.size := by simp
  generalize ((w.alloc (Obj.cells #[.slice A n cap] 37)).alloc (Obj.cells #[.slice none 0 0] 37)) = w0 at X0 X1 Y0 Y1 b0 hz0_ ⊢
  have S0 := (⟨X0, X1, Y0, Y1, b0⟩ : Pts.BoxR w0 (w.heap.size) (.slice A n cap) ∧ Blk.Holds w0 (w.heap.size + 1) #[.slice none 0 0] 37 ∧ PtsAt w0 w.heap.size A ps ∧ w.heap.size + 2 ≤ w0.heap.size ∧ Below w.heap.size w w0)
  clear X0 X1 Y0 Y1 b0
  obtain ⟨⟨_, _⟩, _, _, _, _⟩ := id S0
  refine (EarSpec.isEar A n cap k _ ps hl hn (S0.2.2.1.wide S0.2.2.2.2.size)).mono ?_
  rintro e w1 ⟨rfl, hb_⟩
  replace S0 := HO _ _ S0 hb_
  clear hb_
  obtain ⟨⟨_, _⟩, _, _, _, _⟩ := id S0
  cases he : isEarB ps k
  · obtain ⟨rfl, rfl⟩ := HN.out (no_ear he)
    have hR := S0.2.1
    have E_ := Blk.set_own hR 0 (.slice none 0 0)
    obtain ⟨r0_, _⟩ := Blk.Holds.one E_
    have hb4 := Lib.hid (S0.2.2.2.2.trans (below_set w1 w.heap.size (w.heap.size + 1) 0 (.slice none 0 0) (by omega)))
    obtain ⟨_, _⟩ := hR.one
    clear hR HN HY
    go_wp2_with fail
    refine bodyPost_ret (v := .tuple #[.agg #[.slice none 0 0], .bool false]) (by simp [results, Try.results18, go_sem, r0_]) rfl ⟨none, 0, rfl, World.ownsRow_nil _ _ _ _, hb4.out⟩
  by_cases h3 : n = 3
  · obtain ⟨rfl, rfl⟩ := HN.out (no_three (by omega))
    subst h3
    have hR := S0.2.1
    have E_ := Blk.set_own hR 0 (.slice none 0 0)
    obtain ⟨r0_, _⟩ := Blk.Holds.one E_
    have hb4 := Lib.hid (S0.2.2.2.2.trans (below_set w1 w.heap.size (w.heap.size + 1) 0 (.slice none 0 0) (by omega)))
    obtain ⟨_, _⟩ := hR.one
    clear hR HN HY
    go_wp2_with fail
    refine bodyPost_ret (v := .tuple #[.agg #[.slice none 0 0], .bool false]) (by simp [results, Try.results18, go_sem, r0_]) rfl ⟨none, 0, rfl, World.ownsRow_nil _ _ _ _, hb4.out⟩
  obtain ⟨hr0, kk, rfl, hkk, _⟩ := isEarB_yes he
  have hy := roomB_yes hr0
  have HE : Hid (earB ps (kk : Int) = roomB (modL (cut ps kk))) := Lib.hid (the_ear he (by omega))
  simp only [Int.toNat_natCast] at HY
  rw [hl] at hkk
  have hn10 : n ≤ 10 := by have := hy.1.2; omega
  have hcl : (cut ps kk).length = n - 1 := by rw [cut_len (by omega), hl]
  have hmb : (modL (cut ps kk)).length ≤ 1048576 := by have := mod_le (cut ps kk); omega
  obtain ⟨ad, eA, _, _⟩ := S0.2.2.1.get (pt_at (ps := ps) (k := 0) (by omega))
  subst eA
  have QL : Hid (∀ A c W h1 h2, _) := Lib.hid fun A c W h1 h2 => StrSpec.l10Straight A (n - 1) c (w.heap.size + 2) W (cut ps kk) hcl (by omega) (cut_ok kk hy.2.1) h1 h2
  generalize modL (cut ps kk) = r at *
  obtain ⟨m, hm⟩ : ∃ m, r.length = m := ⟨_, rfl⟩
  rw [hm] at QL hmb
  replace hm := Lib.hid hm
  have hla : (ps.take kk).length = kk := by rw [List.length_take]; omega
  have hlb : (ps.drop (kk + 1)).length = n - (kk + 1) := by rw [List.length_drop, hl]
  have QA : Hid (∀ W b, PtsAt W b (some ad) ps → PtsAt W b (some ad) (ps.take kk)) := Lib.hid fun W b h => PtsRow.pts_take h kk
  have QB : Hid (∀ W b, PtsAt W b (some ad) ps → PtsAt W b (PtsRow.dropA (some ad) cap (kk + 1)) (ps.drop (kk + 1))) := Lib.hid fun W b h => PtsRow.pts_drop h (by omega) (by omega)
  have hab : Hid (cut ps kk = ps.take kk ++ ps.drop (kk + 1)) := Lib.hid rfl
  rw [hab.out] at QL
  clear hcl hy hr0 he hab
  generalize ps.take kk = la at *
  generalize ps.drop (kk + 1) = lb at *
  have h3i : ¬ (n : Int) = 3 := by omega
  have hkc : (kk : Int) ≤ (cap : Int) := by omega
  have hk2 : (kk : Int) + 1 ≤ (n : Int) := by omega
  have hk4 : (0 : Int) ≤ (kk : Int) + 1 := by omega
  have hk0 : (0 : Int) ≤ (kk : Int) := by omega
  have hk5 : kk ≤ cap := by omega
  have hk6 : kk + 1 ≤ n := by omega
  have hk7 : (n : Int) ≤ (cap : Int) := by omega
  have ux : IntKind.i64.wrap ((kk : Int) + 1) = (kk : Int) + 1 := IntWalk.i64_in _ (by omega)
  have hk8 : (kk : Int) ≤ (n : Int) := by omega
  have hk9 : kk ≤ n := by omega
  have hNc : Hid (kk + (n - (kk + 1)) = n - 1) := Lib.hid (by omega)
  have HO3 : ∀ W W' : World, (Pts.BoxR W w.heap.size (.slice (some ad) n cap) ∧ Blk.Holds W (w.heap.size + 1) #[.slice none 0 0] 37 ∧ PtsAt W w.heap.size (some ad) ps ∧ w.heap.size + 2 ≤ W.heap.size ∧ Below w.heap.size w W) → Below (w.heap.size + 2) W W' → (Pts.BoxR W' w.heap.size (.slice (some ad) n cap) ∧ Blk.Holds W' (w.heap.size + 1) #[.slice none 0 0] 37 ∧ PtsAt W' w.heap.size (some ad) ps ∧ w.heap.size + 2 ≤ W'.heap.size ∧ Below w.heap.size w W') := fun W W' ⟨h0, h1, x0, x1, hb⟩ h => ⟨⟨(h.cell (by simp)).trans h0.1, trivial⟩, (h.block _ (by omega)).trans h1, x0.later (h.mono (by omega)), Nat.le_trans x1 h.size, hb.trans (h.mono (by omega))⟩
  obtain ⟨⟨_, _⟩, _, _, _, _⟩ := id S0
  go_wp2_with fail
  by_cases hcase : cap = kk + 1
  · have hd : PtsRow.dropA (some ad) cap (kk + 1) = some ad := by unfold PtsRow.dropA; rw [if_pos hcase]
    have hT : (cap = kk + 1) = True := eq_true hcase
    rw [hd] at QB
    clear hd hcase
    have SD := HO _ _ S0 (Below.refl w1.heap.size w1).drew
    have HS0_ := SD.1.1
    clear S0
    refine wp_region_held_drew (S := fun W => W.cell? ⟨w.heap.size, 0, none⟩ = some (.slice (some ad) n cap)) (by kernel_rfl) HS0_ (fun hHeld => ?_)
    clear HS0_
    generalize w1.drew = v0 at *
    have S0 := SD
    clear SD
    refine wpAnyH_take (i := 1) (oi := ⟨some 19, _, _, _, _, _⟩) (v := ?_) rfl (by kernel_rfl) (by kernel_rfl) (by kernel_rfl) (fun _ _ _ h => h) (Or.inl ⟨by rfl, ?_⟩) (by assumption) ?_
    rotate_left 1
    · (intro w hSw; (try dsimp only at hSw); go_simp; try with_reducible rfl)
    try simp only [Act.put, List.setIfInBounds_toArray, List.set_cons_zero, List.set_cons_succ]
    refine wpAnyH_take (i := 2) (oi := ⟨some 20, _, _, _, _, _⟩) (v := ?_) rfl (by kernel_rfl) (by kernel_rfl) (by kernel_rfl) (fun _ _ _ h => h) (Or.inl ⟨by rfl, ?_⟩) (by assumption) ?_
    rotate_left 1
    · (intro w hSw; (try dsimp only at hSw); go_simp; try with_reducible rfl)
    try simp only [Act.put, List.setIfInBounds_toArray, List.set_cons_zero, List.set_cons_succ]
    refine wpAnyH_take (i := 3) (oi := ⟨some 21, _, _, _, _, _⟩) (v := ?_) rfl (by kernel_rfl) (by kernel_rfl) (by kernel_rfl) (fun _ _ _ h => h) (Or.inl ⟨by rfl, ?_⟩) (by assumption) ?_
    rotate_left 1
    · (intro w hSw; (try dsimp only at hSw); go_simp; try with_reducible rfl)
    try simp only [Act.put, List.setIfInBounds_toArray, List.set_cons_zero, List.set_cons_succ]
    refine wpAnyH_take (i := 4) (oi := ⟨some 22, _, _, _, _, _⟩) (v := ?_) rfl (by kernel_rfl) (by kernel_rfl) (by kernel_rfl) (fun _ _ _ h => h) (Or.inl ⟨by rfl, ?_⟩) (by assumption) ?_
    rotate_left 1
    · (intro w hSw; (try dsimp only at hSw); go_simp; try with_reducible rfl)
    try simp only [Act.put, List.setIfInBounds_toArray, List.set_cons_zero, List.set_cons_succ]
    refine wpAnyH_take (i := 6) (oi := ⟨some 24, _, _, _, _, _⟩) (v := ?_) rfl (by kernel_rfl) (by kernel_rfl) (by kernel_rfl) (fun _ _ _ h => h) (Or.inl ⟨by rfl, ?_⟩) (by assumption) ?_
    rotate_left 1
    · (intro w hSw; (try dsimp only at hSw); go_simp; try with_reducible rfl)
    try simp only [Act.put, List.setIfInBounds_toArray, List.set_cons_zero, List.set_cons_succ]
    refine wpAnyH_take (i := 7) (oi := ⟨some 25, _, _, _, _, _⟩) (v := ?_) rfl (by kernel_rfl) (by kernel_rfl) (by kernel_rfl) (fun _ _ _ h => h) (Or.inl ⟨by rfl, ?_⟩) (by assumption) ?_
    rotate_left 1
    · (intro w hSw; (try dsimp only at hSw); go_simp; try with_reducible rfl)
    try simp only [Act.put, List.setIfInBounds_toArray, List.set_cons_zero, List.set_cons_succ]
    refine wpAnyH_take (i := 8) (oi := ⟨some 26, _, _, _, _, _⟩) (v := ?_) rfl (by kernel_rfl) (by kernel_rfl) (by kernel_rfl) (fun _ _ _ h => h) (Or.inl ⟨by rfl, ?_⟩) (by assumption) ?_
    rotate_left 1
    · (intro w hSw; (try dsimp only at hSw); go_simp; try with_reducible rfl)
    try simp only [Act.put, List.setIfInBounds_toArray, List.set_cons_zero, List.set_cons_succ]
    refine wpAnyH_take (i := 9) (oi := ⟨some 27, _, _, _, _, _⟩) (v := ?_) rfl (by kernel_rfl) (by kernel_rfl) (by kernel_rfl) (fun _ _ _ h => h) (Or.inl ⟨by rfl, ?_⟩) (by assumption) ?_
    rotate_left 1
    · (intro w hSw; (try dsimp only at hSw); go_simp; try with_reducible rfl)
    try simp only [Act.put, List.setIfInBounds_toArray, List.set_cons_zero, List.set_cons_succ]
    refine wpAnyH_take (i := 10) (oi := ⟨some 28, _, _, _, _, _⟩) (v := ?_) rfl (by kernel_rfl) (by kernel_rfl) (by kernel_rfl) (fun _ _ _ h => h) (Or.inl ⟨by rfl, ?_⟩) (by assumption) ?_
    rotate_left 1
    · (intro w hSw; (try dsimp only at hSw); go_simp; try with_reducible rfl)
    try simp only [Act.put, List.setIfInBounds_toArray, List.set_cons_zero, List.set_cons_succ]
    refine wpAnyH_ready (rs := [0, 14]) (by kernel_rfl) (by simp) ?_
    refine AllReadyH.cons (o := ⟨some 18, _, _, _, _, _⟩) rfl (fun K hK => ?_) ?_
    · skip
      obtain ⟨k0, hk0_⟩ : ∃ q, q = v0.heap.size := ⟨_, rfl⟩
      have E0 := own_base (own_empty v0 49 2) (b' := w.heap.size + 2) S0.2.2.2.1
      rw [← hk0_] at E0
      have hb_ := below1 v0 (Obj.cells #[] 49)
      replace S0 := HO _ _ S0 hb_
      clear hb_
      go_simp
      try rw [← hk0_]
      generalize v0.alloc (Obj.cells #[] 49) = v0 at *
      clear hk0_
      refine hK.out _ _ S0.1.1 (fun hHeld => ?_)
      clear hK K
      try simp only [Act.put, List.setIfInBounds_toArray, List.set_cons_zero, List.set_cons_succ]
      refine wpAnyH_ready (rs := [5, 14]) (by kernel_rfl) (by simp) ?_
      refine AllReadyH.cons (o := ⟨some 23, _, _, _, _, _⟩) rfl (fun K hK => ?_) ?_
      · skip
        refine PtsRow.step_append_pts _ (by rfl) _ _ (by rfl) (w.heap.size + 2) _ 0 [] (by rfl) E0 _ kk cap la hla (by rfl) (QA.out _ _ (S0.2.2.1.wide S0.2.2.2.2.size)) (by omega) S0.2.2.2.1 ?_
        intro q5 v5 h5 g5
        have O5 : v5.ownsRow (w.heap.size + 2) 49 2 q5 kk (cellsP la) := by simpa using h5
        have hb_ : Below (w.heap.size + 2) v0 v5 := (Below.refl _ _).grown g5 S0.2.2.2.1 (fun g hg => (E0.lt g hg).1)
        obtain ⟨A5, c5, rfl⟩ := own_shape O5
        replace S0 := HO3 _ _ S0 hb_
        clear hb_ g5 h5 E0
        refine hK.out _ _ S0.1.1 (fun hHeld => ?_)
        clear hK K
        try simp only [Act.put, List.setIfInBounds_toArray, List.set_cons_zero, List.set_cons_succ]
        refine wpAnyH_ready (rs := [11, 14]) (by kernel_rfl) (by simp) ?_
        refine AllReadyH.cons (o := ⟨some 29, _, _, _, _, _⟩) rfl (fun K hK => ?_) ?_
        · skip
          refine PtsRow.step_append_pts _ (by rfl) _ _ (by rfl) (w.heap.size + 2) _ kk la (by rfl) O5 _ (n - (kk + 1)) (cap - (kk + 1)) lb hlb (by rfl) (QB.out _ _ (S0.2.2.1.wide S0.2.2.2.2.size)) (by omega) S0.2.2.2.1 ?_
          intro q11 v11 h11 g11
          have O11 : v11.ownsRow (w.heap.size + 2) 49 2 q11 (n - 1) (cellsP (la ++ lb)) := by rw [hNc.out] at h11; exact h11
          have hb_ : Below (w.heap.size + 2) v5 v11 := (Below.refl _ _).grown g11 S0.2.2.2.1 (fun g hg => (O5.lt g hg).1)
          obtain ⟨A11, c11, rfl⟩ := own_shape O11
          replace S0 := HO3 _ _ S0 hb_
          clear hb_ g11 h11 O5
          refine hK.out _ _ S0.1.1 (fun hHeld => ?_)
          clear hK K
          try simp only [Act.put, List.setIfInBounds_toArray, List.set_cons_zero, List.set_cons_succ]
          refine wpAnyH_ready (rs := [12, 14]) (by kernel_rfl) (by simp) ?_
          refine AllReadyH.cons (o := ⟨some 30, _, _, _, _, _⟩) rfl (fun K hK => ?_) ?_
          · skip
            go_simp
            go_at_call 68
            refine (QL.out _ _ _ S0.2.2.2.1 O11).mono ?_
            rintro e v12 ⟨A12, c12, rfl, O12, hb_⟩
            replace S0 := HO _ _ S0 hb_
            clear hb_ O11
            refine hK.out _ _ S0.1.1 (fun hHeld => ?_)
            clear hK K
            try simp only [Act.put, List.setIfInBounds_toArray, List.set_cons_zero, List.set_cons_succ]
            refine wpAnyH_take (i := 13) (oi := ⟨some 31, _, _, _, _, _⟩) (v := ?_) rfl (by kernel_rfl) (by kernel_rfl) (by kernel_rfl) (fun _ _ _ h => h) (Or.inl ⟨by rfl, ?_⟩) (by assumption) ?_
            rotate_left 1
            · (intro w hSw; have hSw_ := hSw; go_simp; try with_reducible rfl)
            try simp only [Act.put, List.setIfInBounds_toArray, List.set_cons_zero, List.set_cons_succ]
            refine wpAnyH_ready (rs := [14]) (by kernel_rfl) (by simp) ?_
            refine AllReadyH.cons (o := ⟨some 6, _, _, _, _, _⟩) rfl (fun K hK => ?_) ?_
            rotate_left 1
            · exact AllReadyH.nil
            obtain ⟨k14, hk14⟩ : ∃ q, q = v12.heap.size := ⟨_, rfl⟩
            have lo14 : w.heap.size + 2 ≤ k14 := by rw [hk14]; exact S0.2.2.2.1
            have H14 := Blk.Holds.box v12 #[.slice none 0 0] 37 hk14
            have hb_ := below1 v12 (Obj.cells #[.slice none 0 0] 37)
            replace O12 := own_below O12 hb_
            replace S0 := HO _ _ S0 hb_
            clear hb_
            go_simp
            try rw [← hk14]
            generalize v12.alloc (Obj.cells #[.slice none 0 0] 37) = v14 at *
            clear hk14
            refine hK.out _ _ S0.1.1 (fun hHeld => ?_)
            clear hK K
            try simp only [Act.put, List.setIfInBounds_toArray, List.set_cons_zero, List.set_cons_succ]
            refine wpAnyH_ready (rs := [15]) (by kernel_rfl) (by simp) ?_
            refine AllReadyH.cons (o := ⟨none, _, _, _, _, _⟩) rfl (fun K hK => ?_) ?_
            rotate_left 1
            · exact AllReadyH.nil
            obtain ⟨_, _⟩ := H14.one
            have hg_ := grown_set v14 k14 0 (.slice A12 m c12)
            have hb_ := below_set v14 (w.heap.size + 2) k14 0 (.slice A12 m c12) lo14
            replace O12 := kept_ne O12 hg_ (apart O12 H14 (by decide))
            replace H14 : Holds (v14.setCell ⟨k14, 0, none⟩ (.slice A12 m c12)) k14 #[(.slice A12 m c12)] 37 := Blk.set_own H14 0 (.slice A12 m c12)
            replace S0 := HO3 _ _ S0 hb_
            go_simp
            generalize v14.setCell ⟨k14, 0, none⟩ (.slice A12 m c12) = v15 at *
            clear hg_ hb_
            refine hK.out _ _ S0.1.1 (fun hHeld => ?_)
            clear hK K
            try simp only [Act.put, List.setIfInBounds_toArray, List.set_cons_zero, List.set_cons_succ]
            refine wpAnyH_done (by kernel_rfl) ?_ _
            obtain ⟨⟨_, _⟩, _⟩ := id S0
            obtain ⟨_, _⟩ := H14.one
            go_wp2_with fail
            refine (RoomOkSpec.roomOk A12 m c12 _ r hm.out hmb (own_ptsC O12 hm.out)).mono ?_
            rintro e x4 ⟨rfl, hb_⟩
            replace H14 := H14.later hb_
            replace O12 := own_below O12 hb_
            replace S0 := HO _ _ S0 hb_
            clear hb_ QL QA QB hla hlb
            obtain ⟨_, _⟩ := H14.one
            cases q : roomB r
            · obtain ⟨rfl, rfl⟩ := HN.out (by rw [HE.out, q])
              have hR := S0.2.1
              have E_ := Blk.set_own hR 0 (.slice none 0 0)
              obtain ⟨r0_, _⟩ := Blk.Holds.one E_
              have hb4 := Lib.hid (S0.2.2.2.2.trans (below_set x4 w.heap.size (w.heap.size + 1) 0 (.slice none 0 0) (by omega)))
              obtain ⟨_, _⟩ := hR.one
              clear hR HN HY
              go_wp2_with fail
              refine bodyPost_ret (v := .tuple #[.agg #[.slice none 0 0], .bool false]) (by simp [results, Try.results18, go_sem, r0_]) rfl ⟨none, 0, rfl, World.ownsRow_nil _ _ _ _, hb4.out⟩
            obtain ⟨rfl, rfl⟩ := HY.out (by rw [HE.out, q])
            have hR := S0.2.1
            have E_ := Blk.set_own hR 0 (.slice A12 m c12)
            obtain ⟨r0_, _⟩ := Blk.Holds.one E_
            have hb4 := Lib.hid (S0.2.2.2.2.trans (below_set x4 w.heap.size (w.heap.size + 1) 0 (.slice A12 m c12) (by omega)))
            have OF := Lib.hid (own_set O12 (w.heap.size + 1) 0 (.slice A12 m c12) (by omega))
            obtain ⟨_, _⟩ := hR.one
            clear hR HN HY
            go_wp2_with fail
            refine bodyPost_ret (v := .tuple #[.agg #[.slice A12 m c12], .bool true]) (by simp [results, Try.results18, go_sem, r0_]) rfl ⟨A12, c12, by rw [hm.out], by rw [hm.out]; exact own_base OF.out (by omega), hb4.out⟩
          refine AllReadyH.cons (o := ⟨some 6, _, _, _, _, _⟩) rfl (fun K hK => ?_) ?_
          · skip
            obtain ⟨k14, hk14⟩ : ∃ q, q = v11.heap.size := ⟨_, rfl⟩
            have lo14 : w.heap.size + 2 ≤ k14 := by rw [hk14]; exact S0.2.2.2.1
            have H14 := Blk.Holds.box v11 #[.slice none 0 0] 37 hk14
            have hb_ := below1 v11 (Obj.cells #[.slice none 0 0] 37)
            replace O11 := own_below O11 hb_
            replace S0 := HO _ _ S0 hb_
            clear hb_
            go_simp
            try rw [← hk14]
            generalize v11.alloc (Obj.cells #[.slice none 0 0] 37) = v14 at *
            clear hk14
            refine hK.out _ _ S0.1.1 (fun hHeld => ?_)
            clear hK K
            try simp only [Act.put, List.setIfInBounds_toArray, List.set_cons_zero, List.set_cons_succ]
            refine wpAnyH_ready (rs := [12]) (by kernel_rfl) (by simp) ?_
            refine AllReadyH.cons (o := ⟨some 30, _, _, _, _, _⟩) rfl (fun K hK => ?_) ?_
            rotate_left 1
            · exact AllReadyH.nil
            go_simp
            go_at_call 68
            refine (QL.out _ _ _ S0.2.2.2.1 O11).mono ?_
            rintro e v12 ⟨A12, c12, rfl, O12, hb_⟩
            replace H14 := H14.later hb_
            replace S0 := HO _ _ S0 hb_
            clear hb_ O11
            refine hK.out _ _ S0.1.1 (fun hHeld => ?_)
            clear hK K
            try simp only [Act.put, List.setIfInBounds_toArray, List.set_cons_zero, List.set_cons_succ]
            refine wpAnyH_take (i := 13) (oi := ⟨some 31, _, _, _, _, _⟩) (v := ?_) rfl (by kernel_rfl) (by kernel_rfl) (by kernel_rfl) (fun _ _ _ h => h) (Or.inl ⟨by rfl, ?_⟩) (by assumption) ?_
            rotate_left 1
            · (intro w hSw; have hSw_ := hSw; go_simp; try with_reducible rfl)
            try simp only [Act.put, List.setIfInBounds_toArray, List.set_cons_zero, List.set_cons_succ]
            refine wpAnyH_ready (rs := [15]) (by kernel_rfl) (by simp) ?_
            refine AllReadyH.cons (o := ⟨none, _, _, _, _, _⟩) rfl (fun K hK => ?_) ?_
            rotate_left 1
            · exact AllReadyH.nil
            obtain ⟨_, _⟩ := H14.one
            have hg_ := grown_set v12 k14 0 (.slice A12 m c12)
            have hb_ := below_set v12 (w.heap.size + 2) k14 0 (.slice A12 m c12) lo14
            replace O12 := kept_ne O12 hg_ (apart O12 H14 (by decide))
            replace H14 : Holds (v12.setCell ⟨k14, 0, none⟩ (.slice A12 m c12)) k14 #[(.slice A12 m c12)] 37 := Blk.set_own H14 0 (.slice A12 m c12)
            replace S0 := HO3 _ _ S0 hb_
            go_simp
            generalize v12.setCell ⟨k14, 0, none⟩ (.slice A12 m c12) = v15 at *
            clear hg_ hb_
            refine hK.out _ _ S0.1.1 (fun hHeld => ?_)
            clear hK K
            try simp only [Act.put, List.setIfInBounds_toArray, List.set_cons_zero, List.set_cons_succ]
            refine wpAnyH_done (by kernel_rfl) ?_ _
            obtain ⟨⟨_, _⟩, _⟩ := id S0
            obtain ⟨_, _⟩ := H14.one
            go_wp2_with fail
            refine (RoomOkSpec.roomOk A12 m c12 _ r hm.out hmb (own_ptsC O12 hm.out)).mono ?_
            rintro e x4 ⟨rfl, hb_⟩
            replace H14 := H14.later hb_
            replace O12 := own_below O12 hb_
            replace S0 := HO _ _ S0 hb_
            clear hb_ QL QA QB hla hlb
            obtain ⟨_, _⟩ := H14.one
            cases q : roomB r
            · obtain ⟨rfl, rfl⟩ := HN.out (by rw [HE.out, q])
              have hR := S0.2.1
              have E_ := Blk.set_own hR 0 (.slice none 0 0)
              obtain ⟨r0_, _⟩ := Blk.Holds.one E_
              have hb4 := Lib.hid (S0.2.2.2.2.trans (below_set x4 w.heap.size (w.heap.size + 1) 0 (.slice none 0 0) (by omega)))
              obtain ⟨_, _⟩ := hR.one
              clear hR HN HY
              go_wp2_with fail
              refine bodyPost_ret (v := .tuple #[.agg #[.slice none 0 0], .bool false]) (by simp [results, Try.results18, go_sem, r0_]) rfl ⟨none, 0, rfl, World.ownsRow_nil _ _ _ _, hb4.out⟩
            obtain ⟨rfl, rfl⟩ := HY.out (by rw [HE.out, q])
            have hR := S0.2.1
            have E_ := Blk.set_own hR 0 (.slice A12 m c12)
            obtain ⟨r0_, _⟩ := Blk.Holds.one E_
            have hb4 := Lib.hid (S0.2.2.2.2.trans (below_set x4 w.heap.size (w.heap.size + 1) 0 (.slice A12 m c12) (by omega)))
            have OF := Lib.hid (own_set O12 (w.heap.size + 1) 0 (.slice A12 m c12) (by omega))
            obtain ⟨_, _⟩ := hR.one
            clear hR HN HY
            go_wp2_with fail
            refine bodyPost_ret (v := .tuple #[.agg #[.slice A12 m c12], .bool true]) (by simp [results, Try.results18, go_sem, r0_]) rfl ⟨A12, c12, by rw [hm.out], by rw [hm.out]; exact own_base OF.out (by omega), hb4.out⟩
          exact AllReadyH.nil
        refine AllReadyH.cons (o := ⟨some 6, _, _, _, _, _⟩) rfl (fun K hK => ?_) ?_
        · skip
          obtain ⟨k14, hk14⟩ : ∃ q, q = v5.heap.size := ⟨_, rfl⟩
          have lo14 : w.heap.size + 2 ≤ k14 := by rw [hk14]; exact S0.2.2.2.1
          have H14 := Blk.Holds.box v5 #[.slice none 0 0] 37 hk14
          have hb_ := below1 v5 (Obj.cells #[.slice none 0 0] 37)
          replace O5 := own_below O5 hb_
          replace S0 := HO _ _ S0 hb_
          clear hb_
          go_simp
          try rw [← hk14]
          generalize v5.alloc (Obj.cells #[.slice none 0 0] 37) = v14 at *
          clear hk14
          refine hK.out _ _ S0.1.1 (fun hHeld => ?_)
          clear hK K
          try simp only [Act.put, List.setIfInBounds_toArray, List.set_cons_zero, List.set_cons_succ]
          refine wpAnyH_ready (rs := [11]) (by kernel_rfl) (by simp) ?_
          refine AllReadyH.cons (o := ⟨some 29, _, _, _, _, _⟩) rfl (fun K hK => ?_) ?_
          rotate_left 1
          · exact AllReadyH.nil
          refine PtsRow.step_append_pts _ (by rfl) _ _ (by rfl) (w.heap.size + 2) _ kk la (by rfl) O5 _ (n - (kk + 1)) (cap - (kk + 1)) lb hlb (by rfl) (QB.out _ _ (S0.2.2.1.wide S0.2.2.2.2.size)) (by omega) S0.2.2.2.1 ?_
          intro q11 v11 h11 g11
          have O11 : v11.ownsRow (w.heap.size + 2) 49 2 q11 (n - 1) (cellsP (la ++ lb)) := by rw [hNc.out] at h11; exact h11
          have hb_ : Below (w.heap.size + 2) v14 v11 := (Below.refl _ _).grown g11 S0.2.2.2.1 (fun g hg => (O5.lt g hg).1)
          replace H14 : Holds v11 k14 #[.slice none 0 0] 37 := (g11.block _ H14.lt (fun e => apart O5 H14 (by decide) _ e.symm rfl)).trans H14
          obtain ⟨A11, c11, rfl⟩ := own_shape O11
          replace S0 := HO3 _ _ S0 hb_
          clear hb_ g11 h11 O5
          refine hK.out _ _ S0.1.1 (fun hHeld => ?_)
          clear hK K
          try simp only [Act.put, List.setIfInBounds_toArray, List.set_cons_zero, List.set_cons_succ]
          refine wpAnyH_ready (rs := [12]) (by kernel_rfl) (by simp) ?_
          refine AllReadyH.cons (o := ⟨some 30, _, _, _, _, _⟩) rfl (fun K hK => ?_) ?_
          rotate_left 1
          · exact AllReadyH.nil
          go_simp
          go_at_call 68
          refine (QL.out _ _ _ S0.2.2.2.1 O11).mono ?_
          rintro e v12 ⟨A12, c12, rfl, O12, hb_⟩
          replace H14 := H14.later hb_
          replace S0 := HO _ _ S0 hb_
          clear hb_ O11
          refine hK.out _ _ S0.1.1 (fun hHeld => ?_)
          clear hK K
          try simp only [Act.put, List.setIfInBounds_toArray, List.set_cons_zero, List.set_cons_succ]
          refine wpAnyH_take (i := 13) (oi := ⟨some 31, _, _, _, _, _⟩) (v := ?_) rfl (by kernel_rfl) (by kernel_rfl) (by kernel_rfl) (fun _ _ _ h => h) (Or.inl ⟨by rfl, ?_⟩) (by assumption) ?_
          rotate_left 1
          · (intro w hSw; have hSw_ := hSw; go_simp; try with_reducible rfl)
          try simp only [Act.put, List.setIfInBounds_toArray, List.set_cons_zero, List.set_cons_succ]
          refine wpAnyH_ready (rs := [15]) (by kernel_rfl) (by simp) ?_
          refine AllReadyH.cons (o := ⟨none, _, _, _, _, _⟩) rfl (fun K hK => ?_) ?_
          rotate_left 1
          · exact AllReadyH.nil
          obtain ⟨_, _⟩ := H14.one
          have hg_ := grown_set v12 k14 0 (.slice A12 m c12)
          have hb_ := below_set v12 (w.heap.size + 2) k14 0 (.slice A12 m c12) lo14
          replace O12 := kept_ne O12 hg_ (apart O12 H14 (by decide))
          replace H14 : Holds (v12.setCell ⟨k14, 0, none⟩ (.slice A12 m c12)) k14 #[(.slice A12 m c12)] 37 := Blk.set_own H14 0 (.slice A12 m c12)
          replace S0 := HO3 _ _ S0 hb_
          go_simp
          generalize v12.setCell ⟨k14, 0, none⟩ (.slice A12 m c12) = v15 at *
          clear hg_ hb_
          refine hK.out _ _ S0.1.1 (fun hHeld => ?_)
          clear hK K
          try simp only [Act.put, List.setIfInBounds_toArray, List.set_cons_zero, List.set_cons_succ]
          refine wpAnyH_done (by kernel_rfl) ?_ _
          obtain ⟨⟨_, _⟩, _⟩ := id S0
          obtain ⟨_, _⟩ := H14.one
          go_wp2_with fail
          refine (RoomOkSpec.roomOk A12 m c12 _ r hm.out hmb (own_ptsC O12 hm.out)).mono ?_
          rintro e x4 ⟨rfl, hb_⟩
          replace H14 := H14.later hb_
          replace O12 := own_below O12 hb_
          replace S0 := HO _ _ S0 hb_
          clear hb_ QL QA QB hla hlb
          obtain ⟨_, _⟩ := H14.one
          cases q : roomB r
          · obtain ⟨rfl, rfl⟩ := HN.out (by rw [HE.out, q])
            have hR := S0.2.1
            have E_ := Blk.set_own hR 0 (.slice none 0 0)
            obtain ⟨r0_, _⟩ := Blk.Holds.one E_
            have hb4 := Lib.hid (S0.2.2.2.2.trans (below_set x4 w.heap.size (w.heap.size + 1) 0 (.slice none 0 0) (by omega)))
            obtain ⟨_, _⟩ := hR.one
            clear hR HN HY
            go_wp2_with fail
            refine bodyPost_ret (v := .tuple #[.agg #[.slice none 0 0], .bool false]) (by simp [results, Try.results18, go_sem, r0_]) rfl ⟨none, 0, rfl, World.ownsRow_nil _ _ _ _, hb4.out⟩
          obtain ⟨rfl, rfl⟩ := HY.out (by rw [HE.out, q])
          have hR := S0.2.1
          have E_ := Blk.set_own hR 0 (.slice A12 m c12)
          obtain ⟨r0_, _⟩ := Blk.Holds.one E_
          have hb4 := Lib.hid (S0.2.2.2.2.trans (below_set x4 w.heap.size (w.heap.size + 1) 0 (.slice A12 m c12) (by omega)))
          have OF := Lib.hid (own_set O12 (w.heap.size + 1) 0 (.slice A12 m c12) (by omega))
          obtain ⟨_, _⟩ := hR.one
          clear hR HN HY
          go_wp2_with fail
          refine bodyPost_ret (v := .tuple #[.agg #[.slice A12 m c12], .bool true]) (by simp [results, Try.results18, go_sem, r0_]) rfl ⟨A12, c12, by rw [hm.out], by rw [hm.out]; exact own_base OF.out (by omega), hb4.out⟩
        exact AllReadyH.nil
      refine AllReadyH.cons (o := ⟨some 6, _, _, _, _, _⟩) rfl (fun K hK => ?_) ?_
      · skip
        obtain ⟨k14, hk14⟩ : ∃ q, q = v0.heap.size := ⟨_, rfl⟩
        have lo14 : w.heap.size + 2 ≤ k14 := by rw [hk14]; exact S0.2.2.2.1
        have H14 := Blk.Holds.box v0 #[.slice none 0 0] 37 hk14
        have hb_ := below1 v0 (Obj.cells #[.slice none 0 0] 37)
        replace E0 := own_below E0 hb_
        replace S0 := HO _ _ S0 hb_
        clear hb_
        go_simp
        try rw [← hk14]
        generalize v0.alloc (Obj.cells #[.slice none 0 0] 37) = v14 at *
        clear hk14
        refine hK.out _ _ S0.1.1 (fun hHeld => ?_)
        clear hK K
        try simp only [Act.put, List.setIfInBounds_toArray, List.set_cons_zero, List.set_cons_succ]
        refine wpAnyH_ready (rs := [5]) (by kernel_rfl) (by simp) ?_
        refine AllReadyH.cons (o := ⟨some 23, _, _, _, _, _⟩) rfl (fun K hK => ?_) ?_
        rotate_left 1
        · exact AllReadyH.nil
        refine PtsRow.step_append_pts _ (by rfl) _ _ (by rfl) (w.heap.size + 2) _ 0 [] (by rfl) E0 _ kk cap la hla (by rfl) (QA.out _ _ (S0.2.2.1.wide S0.2.2.2.2.size)) (by omega) S0.2.2.2.1 ?_
        intro q5 v5 h5 g5
        have O5 : v5.ownsRow (w.heap.size + 2) 49 2 q5 kk (cellsP la) := by simpa using h5
        have hb_ : Below (w.heap.size + 2) v14 v5 := (Below.refl _ _).grown g5 S0.2.2.2.1 (fun g hg => (E0.lt g hg).1)
        replace H14 : Holds v5 k14 #[.slice none 0 0] 37 := (g5.block _ H14.lt (fun e => apart E0 H14 (by decide) _ e.symm rfl)).trans H14
        obtain ⟨A5, c5, rfl⟩ := own_shape O5
        replace S0 := HO3 _ _ S0 hb_
        clear hb_ g5 h5 E0
        refine hK.out _ _ S0.1.1 (fun hHeld => ?_)
        clear hK K
        try simp only [Act.put, List.setIfInBounds_toArray, List.set_cons_zero, List.set_cons_succ]
        refine wpAnyH_ready (rs := [11]) (by kernel_rfl) (by simp) ?_
        refine AllReadyH.cons (o := ⟨some 29, _, _, _, _, _⟩) rfl (fun K hK => ?_) ?_
        rotate_left 1
        · exact AllReadyH.nil
        refine PtsRow.step_append_pts _ (by rfl) _ _ (by rfl) (w.heap.size + 2) _ kk la (by rfl) O5 _ (n - (kk + 1)) (cap - (kk + 1)) lb hlb (by rfl) (QB.out _ _ (S0.2.2.1.wide S0.2.2.2.2.size)) (by omega) S0.2.2.2.1 ?_
        intro q11 v11 h11 g11
        have O11 : v11.ownsRow (w.heap.size + 2) 49 2 q11 (n - 1) (cellsP (la ++ lb)) := by rw [hNc.out] at h11; exact h11
        have hb_ : Below (w.heap.size + 2) v5 v11 := (Below.refl _ _).grown g11 S0.2.2.2.1 (fun g hg => (O5.lt g hg).1)
        replace H14 : Holds v11 k14 #[.slice none 0 0] 37 := (g11.block _ H14.lt (fun e => apart O5 H14 (by decide) _ e.symm rfl)).trans H14
        obtain ⟨A11, c11, rfl⟩ := own_shape O11
        replace S0 := HO3 _ _ S0 hb_
        clear hb_ g11 h11 O5
        refine hK.out _ _ S0.1.1 (fun hHeld => ?_)
        clear hK K
        try simp only [Act.put, List.setIfInBounds_toArray, List.set_cons_zero, List.set_cons_succ]
        refine wpAnyH_ready (rs := [12]) (by kernel_rfl) (by simp) ?_
        refine AllReadyH.cons (o := ⟨some 30, _, _, _, _, _⟩) rfl (fun K hK => ?_) ?_
        rotate_left 1
        · exact AllReadyH.nil
        go_simp
        go_at_call 68
        refine (QL.out _ _ _ S0.2.2.2.1 O11).mono ?_
        rintro e v12 ⟨A12, c12, rfl, O12, hb_⟩
        replace H14 := H14.later hb_
        replace S0 := HO _ _ S0 hb_
        clear hb_ O11
        refine hK.out _ _ S0.1.1 (fun hHeld => ?_)
        clear hK K
        try simp only [Act.put, List.setIfInBounds_toArray, List.set_cons_zero, List.set_cons_succ]
        refine wpAnyH_take (i := 13) (oi := ⟨some 31, _, _, _, _, _⟩) (v := ?_) rfl (by kernel_rfl) (by kernel_rfl) (by kernel_rfl) (fun _ _ _ h => h) (Or.inl ⟨by rfl, ?_⟩) (by assumption) ?_
        rotate_left 1
        · (intro w hSw; have hSw_ := hSw; go_simp; try with_reducible rfl)
        try simp only [Act.put, List.setIfInBounds_toArray, List.set_cons_zero, List.set_cons_succ]
        refine wpAnyH_ready (rs := [15]) (by kernel_rfl) (by simp) ?_
        refine AllReadyH.cons (o := ⟨none, _, _, _, _, _⟩) rfl (fun K hK => ?_) ?_
        rotate_left 1
        · exact AllReadyH.nil
        obtain ⟨_, _⟩ := H14.one
        have hg_ := grown_set v12 k14 0 (.slice A12 m c12)
        have hb_ := below_set v12 (w.heap.size + 2) k14 0 (.slice A12 m c12) lo14
        replace O12 := kept_ne O12 hg_ (apart O12 H14 (by decide))
        replace H14 : Holds (v12.setCell ⟨k14, 0, none⟩ (.slice A12 m c12)) k14 #[(.slice A12 m c12)] 37 := Blk.set_own H14 0 (.slice A12 m c12)
        replace S0 := HO3 _ _ S0 hb_
        go_simp
        generalize v12.setCell ⟨k14, 0, none⟩ (.slice A12 m c12) = v15 at *
        clear hg_ hb_
        refine hK.out _ _ S0.1.1 (fun hHeld => ?_)
        clear hK K
        try simp only [Act.put, List.setIfInBounds_toArray, List.set_cons_zero, List.set_cons_succ]
        refine wpAnyH_done (by kernel_rfl) ?_ _
        obtain ⟨⟨_, _⟩, _⟩ := id S0
        obtain ⟨_, _⟩ := H14.one
        go_wp2_with fail
        refine (RoomOkSpec.roomOk A12 m c12 _ r hm.out hmb (own_ptsC O12 hm.out)).mono ?_
        rintro e x4 ⟨rfl, hb_⟩
        replace H14 := H14.later hb_
        replace O12 := own_below O12 hb_
        replace S0 := HO _ _ S0 hb_
        clear hb_ QL QA QB hla hlb
        obtain ⟨_, _⟩ := H14.one
        cases q : roomB r
        · obtain ⟨rfl, rfl⟩ := HN.out (by rw [HE.out, q])
          have hR := S0.2.1
          have E_ := Blk.set_own hR 0 (.slice none 0 0)
          obtain ⟨r0_, _⟩ := Blk.Holds.one E_
          have hb4 := Lib.hid (S0.2.2.2.2.trans (below_set x4 w.heap.size (w.heap.size + 1) 0 (.slice none 0 0) (by omega)))
          obtain ⟨_, _⟩ := hR.one
          clear hR HN HY
          go_wp2_with fail
          refine bodyPost_ret (v := .tuple #[.agg #[.slice none 0 0], .bool false]) (by simp [results, Try.results18, go_sem, r0_]) rfl ⟨none, 0, rfl, World.ownsRow_nil _ _ _ _, hb4.out⟩
        obtain ⟨rfl, rfl⟩ := HY.out (by rw [HE.out, q])
        have hR := S0.2.1
        have E_ := Blk.set_own hR 0 (.slice A12 m c12)
        obtain ⟨r0_, _⟩ := Blk.Holds.one E_
        have hb4 := Lib.hid (S0.2.2.2.2.trans (below_set x4 w.heap.size (w.heap.size + 1) 0 (.slice A12 m c12) (by omega)))
        have OF := Lib.hid (own_set O12 (w.heap.size + 1) 0 (.slice A12 m c12) (by omega))
        obtain ⟨_, _⟩ := hR.one
        clear hR HN HY
        go_wp2_with fail
        refine bodyPost_ret (v := .tuple #[.agg #[.slice A12 m c12], .bool true]) (by simp [results, Try.results18, go_sem, r0_]) rfl ⟨A12, c12, by rw [hm.out], by rw [hm.out]; exact own_base OF.out (by omega), hb4.out⟩
      exact AllReadyH.nil
    refine AllReadyH.cons (o := ⟨some 6, _, _, _, _, _⟩) rfl (fun K hK => ?_) ?_
    · skip
      obtain ⟨k14, hk14⟩ : ∃ q, q = v0.heap.size := ⟨_, rfl⟩
      have lo14 : w.heap.size + 2 ≤ k14 := by rw [hk14]; exact S0.2.2.2.1
      have H14 := Blk.Holds.box v0 #[.slice none 0 0] 37 hk14
      have hb_ := below1 v0 (Obj.cells #[.slice none 0 0] 37)
      replace S0 := HO _ _ S0 hb_
      clear hb_
      go_simp
      try rw [← hk14]
      generalize v0.alloc (Obj.cells #[.slice none 0 0] 37) = v14 at *
      clear hk14
      refine hK.out _ _ S0.1.1 (fun hHeld => ?_)
      clear hK K
      try simp only [Act.put, List.setIfInBounds_toArray, List.set_cons_zero, List.set_cons_succ]
      refine wpAnyH_ready (rs := [0]) (by kernel_rfl) (by simp) ?_
      refine AllReadyH.cons (o := ⟨some 18, _, _, _, _, _⟩) rfl (fun K hK => ?_) ?_
      rotate_left 1
      · exact AllReadyH.nil
      obtain ⟨k0, hk0_⟩ : ∃ q, q = v14.heap.size := ⟨_, rfl⟩
      have E0 := own_base (own_empty v14 49 2) (b' := w.heap.size + 2) S0.2.2.2.1
      rw [← hk0_] at E0
      have hb_ := below1 v14 (Obj.cells #[] 49)
      replace H14 := H14.later hb_
      replace S0 := HO _ _ S0 hb_
      clear hb_
      go_simp
      try rw [← hk0_]
      generalize v14.alloc (Obj.cells #[] 49) = v0 at *
      clear hk0_
      refine hK.out _ _ S0.1.1 (fun hHeld => ?_)
      clear hK K
      try simp only [Act.put, List.setIfInBounds_toArray, List.set_cons_zero, List.set_cons_succ]
      refine wpAnyH_ready (rs := [5]) (by kernel_rfl) (by simp) ?_
      refine AllReadyH.cons (o := ⟨some 23, _, _, _, _, _⟩) rfl (fun K hK => ?_) ?_
      rotate_left 1
      · exact AllReadyH.nil
      refine PtsRow.step_append_pts _ (by rfl) _ _ (by rfl) (w.heap.size + 2) _ 0 [] (by rfl) E0 _ kk cap la hla (by rfl) (QA.out _ _ (S0.2.2.1.wide S0.2.2.2.2.size)) (by omega) S0.2.2.2.1 ?_
      intro q5 v5 h5 g5
      have O5 : v5.ownsRow (w.heap.size + 2) 49 2 q5 kk (cellsP la) := by simpa using h5
      have hb_ : Below (w.heap.size + 2) v0 v5 := (Below.refl _ _).grown g5 S0.2.2.2.1 (fun g hg => (E0.lt g hg).1)
      replace H14 : Holds v5 k14 #[.slice none 0 0] 37 := (g5.block _ H14.lt (fun e => apart E0 H14 (by decide) _ e.symm rfl)).trans H14
      obtain ⟨A5, c5, rfl⟩ := own_shape O5
      replace S0 := HO3 _ _ S0 hb_
      clear hb_ g5 h5 E0
      refine hK.out _ _ S0.1.1 (fun hHeld => ?_)
      clear hK K
      try simp only [Act.put, List.setIfInBounds_toArray, List.set_cons_zero, List.set_cons_succ]
      refine wpAnyH_ready (rs := [11]) (by kernel_rfl) (by simp) ?_
      refine AllReadyH.cons (o := ⟨some 29, _, _, _, _, _⟩) rfl (fun K hK => ?_) ?_
      rotate_left 1
      · exact AllReadyH.nil
      refine PtsRow.step_append_pts _ (by rfl) _ _ (by rfl) (w.heap.size + 2) _ kk la (by rfl) O5 _ (n - (kk + 1)) (cap - (kk + 1)) lb hlb (by rfl) (QB.out _ _ (S0.2.2.1.wide S0.2.2.2.2.size)) (by omega) S0.2.2.2.1 ?_
      intro q11 v11 h11 g11
      have O11 : v11.ownsRow (w.heap.size + 2) 49 2 q11 (n - 1) (cellsP (la ++ lb)) := by rw [hNc.out] at h11; exact h11
      have hb_ : Below (w.heap.size + 2) v5 v11 := (Below.refl _ _).grown g11 S0.2.2.2.1 (fun g hg => (O5.lt g hg).1)
      replace H14 : Holds v11 k14 #[.slice none 0 0] 37 := (g11.block _ H14.lt (fun e => apart O5 H14 (by decide) _ e.symm rfl)).trans H14
      obtain ⟨A11, c11, rfl⟩ := own_shape O11
      replace S0 := HO3 _ _ S0 hb_
      clear hb_ g11 h11 O5
      refine hK.out _ _ S0.1.1 (fun hHeld => ?_)
      clear hK K
      try simp only [Act.put, List.setIfInBounds_toArray, List.set_cons_zero, List.set_cons_succ]
      refine wpAnyH_ready (rs := [12]) (by kernel_rfl) (by simp) ?_
      refine AllReadyH.cons (o := ⟨some 30, _, _, _, _, _⟩) rfl (fun K hK => ?_) ?_
      rotate_left 1
      · exact AllReadyH.nil
      go_simp
      go_at_call 68
      refine (QL.out _ _ _ S0.2.2.2.1 O11).mono ?_
      rintro e v12 ⟨A12, c12, rfl, O12, hb_⟩
      replace H14 := H14.later hb_
      replace S0 := HO _ _ S0 hb_
      clear hb_ O11
      refine hK.out _ _ S0.1.1 (fun hHeld => ?_)
      clear hK K
      try simp only [Act.put, List.setIfInBounds_toArray, List.set_cons_zero, List.set_cons_succ]
      refine wpAnyH_take (i := 13) (oi := ⟨some 31, _, _, _, _, _⟩) (v := ?_) rfl (by kernel_rfl) (by kernel_rfl) (by kernel_rfl) (fun _ _ _ h => h) (Or.inl ⟨by rfl, ?_⟩) (by assumption) ?_
      rotate_left 1
      · (intro w hSw; have hSw_ := hSw; go_simp; try with_reducible rfl)
      try simp only [Act.put, List.setIfInBounds_toArray, List.set_cons_zero, List.set_cons_succ]
      refine wpAnyH_ready (rs := [15]) (by kernel_rfl) (by simp) ?_
      refine AllReadyH.cons (o := ⟨none, _, _, _, _, _⟩) rfl (fun K hK => ?_) ?_
      rotate_left 1
      · exact AllReadyH.nil
      obtain ⟨_, _⟩ := H14.one
      have hg_ := grown_set v12 k14 0 (.slice A12 m c12)
      have hb_ := below_set v12 (w.heap.size + 2) k14 0 (.slice A12 m c12) lo14
      replace O12 := kept_ne O12 hg_ (apart O12 H14 (by decide))
      replace H14 : Holds (v12.setCell ⟨k14, 0, none⟩ (.slice A12 m c12)) k14 #[(.slice A12 m c12)] 37 := Blk.set_own H14 0 (.slice A12 m c12)
      replace S0 := HO3 _ _ S0 hb_
      go_simp
      generalize v12.setCell ⟨k14, 0, none⟩ (.slice A12 m c12) = v15 at *
      clear hg_ hb_
      refine hK.out _ _ S0.1.1 (fun hHeld => ?_)
      clear hK K
      try simp only [Act.put, List.setIfInBounds_toArray, List.set_cons_zero, List.set_cons_succ]
      refine wpAnyH_done (by kernel_rfl) ?_ _
      obtain ⟨⟨_, _⟩, _⟩ := id S0
      obtain ⟨_, _⟩ := H14.one
      go_wp2_with fail
      refine (RoomOkSpec.roomOk A12 m c12 _ r hm.out hmb (own_ptsC O12 hm.out)).mono ?_
      rintro e x4 ⟨rfl, hb_⟩
      replace H14 := H14.later hb_
      replace O12 := own_below O12 hb_
      replace S0 := HO _ _ S0 hb_
      clear hb_ QL QA QB hla hlb
      obtain ⟨_, _⟩ := H14.one
      cases q : roomB r
      · obtain ⟨rfl, rfl⟩ := HN.out (by rw [HE.out, q])
        have hR := S0.2.1
        have E_ := Blk.set_own hR 0 (.slice none 0 0)
        obtain ⟨r0_, _⟩ := Blk.Holds.one E_
        have hb4 := Lib.hid (S0.2.2.2.2.trans (below_set x4 w.heap.size (w.heap.size + 1) 0 (.slice none 0 0) (by omega)))
        obtain ⟨_, _⟩ := hR.one
        clear hR HN HY
        go_wp2_with fail
        refine bodyPost_ret (v := .tuple #[.agg #[.slice none 0 0], .bool false]) (by simp [results, Try.results18, go_sem, r0_]) rfl ⟨none, 0, rfl, World.ownsRow_nil _ _ _ _, hb4.out⟩
      obtain ⟨rfl, rfl⟩ := HY.out (by rw [HE.out, q])
      have hR := S0.2.1
      have E_ := Blk.set_own hR 0 (.slice A12 m c12)
      obtain ⟨r0_, _⟩ := Blk.Holds.one E_
      have hb4 := Lib.hid (S0.2.2.2.2.trans (below_set x4 w.heap.size (w.heap.size + 1) 0 (.slice A12 m c12) (by omega)))
      have OF := Lib.hid (own_set O12 (w.heap.size + 1) 0 (.slice A12 m c12) (by omega))
      obtain ⟨_, _⟩ := hR.one
      clear hR HN HY
      go_wp2_with fail
      refine bodyPost_ret (v := .tuple #[.agg #[.slice A12 m c12], .bool true]) (by simp [results, Try.results18, go_sem, r0_]) rfl ⟨A12, c12, by rw [hm.out], by rw [hm.out]; exact own_base OF.out (by omega), hb4.out⟩
    exact AllReadyH.nil
  · have hd : PtsRow.dropA (some ad) cap (kk + 1) = some ⟨ad.block, ad.off + (kk + 1) * 2, none⟩ := by simp [PtsRow.dropA, hcase]
    rw [hd] at QB
    clear hd
    have SD := HO _ _ S0 (Below.refl w1.heap.size w1).drew
    have HS0_ := SD.1.1
    clear S0
    refine wp_region_held_drew (S := fun W => W.cell? ⟨w.heap.size, 0, none⟩ = some (.slice (some ad) n cap)) (by kernel_rfl) HS0_ (fun hHeld => ?_)
    clear HS0_
    generalize w1.drew = v0 at *
    have S0 := SD
    clear SD
    refine wpAnyH_take (i := 1) (oi := ⟨some 19, _, _, _, _, _⟩) (v := ?_) rfl (by kernel_rfl) (by kernel_rfl) (by kernel_rfl) (fun _ _ _ h => h) (Or.inl ⟨by rfl, ?_⟩) (by assumption) ?_
    rotate_left 1
    · (intro w hSw; (try dsimp only at hSw); go_simp; try with_reducible rfl)
    try simp only [Act.put, List.setIfInBounds_toArray, List.set_cons_zero, List.set_cons_succ]
    refine wpAnyH_take (i := 2) (oi := ⟨some 20, _, _, _, _, _⟩) (v := ?_) rfl (by kernel_rfl) (by kernel_rfl) (by kernel_rfl) (fun _ _ _ h => h) (Or.inl ⟨by rfl, ?_⟩) (by assumption) ?_
    rotate_left 1
    · (intro w hSw; (try dsimp only at hSw); go_simp; try with_reducible rfl)
    try simp only [Act.put, List.setIfInBounds_toArray, List.set_cons_zero, List.set_cons_succ]
    refine wpAnyH_take (i := 3) (oi := ⟨some 21, _, _, _, _, _⟩) (v := ?_) rfl (by kernel_rfl) (by kernel_rfl) (by kernel_rfl) (fun _ _ _ h => h) (Or.inl ⟨by rfl, ?_⟩) (by assumption) ?_
    rotate_left 1
    · (intro w hSw; (try dsimp only at hSw); go_simp; try with_reducible rfl)
    try simp only [Act.put, List.setIfInBounds_toArray, List.set_cons_zero, List.set_cons_succ]
    refine wpAnyH_take (i := 4) (oi := ⟨some 22, _, _, _, _, _⟩) (v := ?_) rfl (by kernel_rfl) (by kernel_rfl) (by kernel_rfl) (fun _ _ _ h => h) (Or.inl ⟨by rfl, ?_⟩) (by assumption) ?_
    rotate_left 1
    · (intro w hSw; (try dsimp only at hSw); go_simp; try with_reducible rfl)
    try simp only [Act.put, List.setIfInBounds_toArray, List.set_cons_zero, List.set_cons_succ]
    refine wpAnyH_take (i := 6) (oi := ⟨some 24, _, _, _, _, _⟩) (v := ?_) rfl (by kernel_rfl) (by kernel_rfl) (by kernel_rfl) (fun _ _ _ h => h) (Or.inl ⟨by rfl, ?_⟩) (by assumption) ?_
    rotate_left 1
    · (intro w hSw; (try dsimp only at hSw); go_simp; try with_reducible rfl)
    try simp only [Act.put, List.setIfInBounds_toArray, List.set_cons_zero, List.set_cons_succ]
    refine wpAnyH_take (i := 7) (oi := ⟨some 25, _, _, _, _, _⟩) (v := ?_) rfl (by kernel_rfl) (by kernel_rfl) (by kernel_rfl) (fun _ _ _ h => h) (Or.inl ⟨by rfl, ?_⟩) (by assumption) ?_
    rotate_left 1
    · (intro w hSw; (try dsimp only at hSw); go_simp; try with_reducible rfl)
    try simp only [Act.put, List.setIfInBounds_toArray, List.set_cons_zero, List.set_cons_succ]
    refine wpAnyH_take (i := 8) (oi := ⟨some 26, _, _, _, _, _⟩) (v := ?_) rfl (by kernel_rfl) (by kernel_rfl) (by kernel_rfl) (fun _ _ _ h => h) (Or.inl ⟨by rfl, ?_⟩) (by assumption) ?_
    rotate_left 1
    · (intro w hSw; (try dsimp only at hSw); go_simp; try with_reducible rfl)
    try simp only [Act.put, List.setIfInBounds_toArray, List.set_cons_zero, List.set_cons_succ]
    refine wpAnyH_take (i := 9) (oi := ⟨some 27, _, _, _, _, _⟩) (v := ?_) rfl (by kernel_rfl) (by kernel_rfl) (by kernel_rfl) (fun _ _ _ h => h) (Or.inl ⟨by rfl, ?_⟩) (by assumption) ?_
    rotate_left 1
    · (intro w hSw; (try dsimp only at hSw); go_simp; try with_reducible rfl)
    try simp only [Act.put, List.setIfInBounds_toArray, List.set_cons_zero, List.set_cons_succ]
    refine wpAnyH_take (i := 10) (oi := ⟨some 28, _, _, _, _, _⟩) (v := ?_) rfl (by kernel_rfl) (by kernel_rfl) (by kernel_rfl) (fun _ _ _ h => h) (Or.inl ⟨by rfl, ?_⟩) (by assumption) ?_
    rotate_left 1
    · (intro w hSw; (try dsimp only at hSw); go_simp; try with_reducible rfl)
    try simp only [Act.put, List.setIfInBounds_toArray, List.set_cons_zero, List.set_cons_succ]
    refine wpAnyH_ready (rs := [0, 14]) (by kernel_rfl) (by simp) ?_
    refine AllReadyH.cons (o := ⟨some 18, _, _, _, _, _⟩) rfl (fun K hK => ?_) ?_
    · skip
      obtain ⟨k0, hk0_⟩ : ∃ q, q = v0.heap.size := ⟨_, rfl⟩
      have E0 := own_base (own_empty v0 49 2) (b' := w.heap.size + 2) S0.2.2.2.1
      rw [← hk0_] at E0
      have hb_ := below1 v0 (Obj.cells #[] 49)
      replace S0 := HO _ _ S0 hb_
      clear hb_
      go_simp
      try rw [← hk0_]
      generalize v0.alloc (Obj.cells #[] 49) = v0 at *
      clear hk0_
      refine hK.out _ _ S0.1.1 (fun hHeld => ?_)
      clear hK K
      try simp only [Act.put, List.setIfInBounds_toArray, List.set_cons_zero, List.set_cons_succ]
      refine wpAnyH_ready (rs := [5, 14]) (by kernel_rfl) (by simp) ?_
      refine AllReadyH.cons (o := ⟨some 23, _, _, _, _, _⟩) rfl (fun K hK => ?_) ?_
      · skip
        refine PtsRow.step_append_pts _ (by rfl) _ _ (by rfl) (w.heap.size + 2) _ 0 [] (by rfl) E0 _ kk cap la hla (by rfl) (QA.out _ _ (S0.2.2.1.wide S0.2.2.2.2.size)) (by omega) S0.2.2.2.1 ?_
        intro q5 v5 h5 g5
        have O5 : v5.ownsRow (w.heap.size + 2) 49 2 q5 kk (cellsP la) := by simpa using h5
        have hb_ : Below (w.heap.size + 2) v0 v5 := (Below.refl _ _).grown g5 S0.2.2.2.1 (fun g hg => (E0.lt g hg).1)
        obtain ⟨A5, c5, rfl⟩ := own_shape O5
        replace S0 := HO3 _ _ S0 hb_
        clear hb_ g5 h5 E0
        refine hK.out _ _ S0.1.1 (fun hHeld => ?_)
        clear hK K
        try simp only [Act.put, List.setIfInBounds_toArray, List.set_cons_zero, List.set_cons_succ]
        refine wpAnyH_ready (rs := [11, 14]) (by kernel_rfl) (by simp) ?_
        refine AllReadyH.cons (o := ⟨some 29, _, _, _, _, _⟩) rfl (fun K hK => ?_) ?_
        · skip
          refine PtsRow.step_append_pts _ (by rfl) _ _ (by rfl) (w.heap.size + 2) _ kk la (by rfl) O5 _ (n - (kk + 1)) (cap - (kk + 1)) lb hlb (by rfl) (QB.out _ _ (S0.2.2.1.wide S0.2.2.2.2.size)) (by omega) S0.2.2.2.1 ?_
          intro q11 v11 h11 g11
          have O11 : v11.ownsRow (w.heap.size + 2) 49 2 q11 (n - 1) (cellsP (la ++ lb)) := by rw [hNc.out] at h11; exact h11
          have hb_ : Below (w.heap.size + 2) v5 v11 := (Below.refl _ _).grown g11 S0.2.2.2.1 (fun g hg => (O5.lt g hg).1)
          obtain ⟨A11, c11, rfl⟩ := own_shape O11
          replace S0 := HO3 _ _ S0 hb_
          clear hb_ g11 h11 O5
          refine hK.out _ _ S0.1.1 (fun hHeld => ?_)
          clear hK K
          try simp only [Act.put, List.setIfInBounds_toArray, List.set_cons_zero, List.set_cons_succ]
          refine wpAnyH_ready (rs := [12, 14]) (by kernel_rfl) (by simp) ?_
          refine AllReadyH.cons (o := ⟨some 30, _, _, _, _, _⟩) rfl (fun K hK => ?_) ?_
          · skip
            go_simp
            go_at_call 68
            refine (QL.out _ _ _ S0.2.2.2.1 O11).mono ?_
            rintro e v12 ⟨A12, c12, rfl, O12, hb_⟩
            replace S0 := HO _ _ S0 hb_
            clear hb_ O11
            refine hK.out _ _ S0.1.1 (fun hHeld => ?_)
            clear hK K
            try simp only [Act.put, List.setIfInBounds_toArray, List.set_cons_zero, List.set_cons_succ]
            refine wpAnyH_take (i := 13) (oi := ⟨some 31, _, _, _, _, _⟩) (v := ?_) rfl (by kernel_rfl) (by kernel_rfl) (by kernel_rfl) (fun _ _ _ h => h) (Or.inl ⟨by rfl, ?_⟩) (by assumption) ?_
            rotate_left 1
            · (intro w hSw; have hSw_ := hSw; go_simp; try with_reducible rfl)
            try simp only [Act.put, List.setIfInBounds_toArray, List.set_cons_zero, List.set_cons_succ]
            refine wpAnyH_ready (rs := [14]) (by kernel_rfl) (by simp) ?_
            refine AllReadyH.cons (o := ⟨some 6, _, _, _, _, _⟩) rfl (fun K hK => ?_) ?_
            rotate_left 1
            · exact AllReadyH.nil
            obtain ⟨k14, hk14⟩ : ∃ q, q = v12.heap.size := ⟨_, rfl⟩
            have lo14 : w.heap.size + 2 ≤ k14 := by rw [hk14]; exact S0.2.2.2.1
            have H14 := Blk.Holds.box v12 #[.slice none 0 0] 37 hk14
            have hb_ := below1 v12 (Obj.cells #[.slice none 0 0] 37)
            replace O12 := own_below O12 hb_
            replace S0 := HO _ _ S0 hb_
            clear hb_
            go_simp
            try rw [← hk14]
            generalize v12.alloc (Obj.cells #[.slice none 0 0] 37) = v14 at *
            clear hk14
            refine hK.out _ _ S0.1.1 (fun hHeld => ?_)
            clear hK K
            try simp only [Act.put, List.setIfInBounds_toArray, List.set_cons_zero, List.set_cons_succ]
            refine wpAnyH_ready (rs := [15]) (by kernel_rfl) (by simp) ?_
            refine AllReadyH.cons (o := ⟨none, _, _, _, _, _⟩) rfl (fun K hK => ?_) ?_
            rotate_left 1
            · exact AllReadyH.nil
            obtain ⟨_, _⟩ := H14.one
            have hg_ := grown_set v14 k14 0 (.slice A12 m c12)
            have hb_ := below_set v14 (w.heap.size + 2) k14 0 (.slice A12 m c12) lo14
            replace O12 := kept_ne O12 hg_ (apart O12 H14 (by decide))
            replace H14 : Holds (v14.setCell ⟨k14, 0, none⟩ (.slice A12 m c12)) k14 #[(.slice A12 m c12)] 37 := Blk.set_own H14 0 (.slice A12 m c12)
            replace S0 := HO3 _ _ S0 hb_
            go_simp
            generalize v14.setCell ⟨k14, 0, none⟩ (.slice A12 m c12) = v15 at *
            clear hg_ hb_
            refine hK.out _ _ S0.1.1 (fun hHeld => ?_)
            clear hK K
            try simp only [Act.put, List.setIfInBounds_toArray, List.set_cons_zero, List.set_cons_succ]
            refine wpAnyH_done (by kernel_rfl) ?_ _
            obtain ⟨⟨_, _⟩, _⟩ := id S0
            obtain ⟨_, _⟩ := H14.one
            go_wp2_with fail
            refine (RoomOkSpec.roomOk A12 m c12 _ r hm.out hmb (own_ptsC O12 hm.out)).mono ?_
            rintro e x4 ⟨rfl, hb_⟩
            replace H14 := H14.later hb_
            replace O12 := own_below O12 hb_
            replace S0 := HO _ _ S0 hb_
            clear hb_ QL QA QB hla hlb
            obtain ⟨_, _⟩ := H14.one
            cases q : roomB r
            · obtain ⟨rfl, rfl⟩ := HN.out (by rw [HE.out, q])
              have hR := S0.2.1
              have E_ := Blk.set_own hR 0 (.slice none 0 0)
              obtain ⟨r0_, _⟩ := Blk.Holds.one E_
              have hb4 := Lib.hid (S0.2.2.2.2.trans (below_set x4 w.heap.size (w.heap.size + 1) 0 (.slice none 0 0) (by omega)))
              obtain ⟨_, _⟩ := hR.one
              clear hR HN HY
              go_wp2_with fail
              refine bodyPost_ret (v := .tuple #[.agg #[.slice none 0 0], .bool false]) (by simp [results, Try.results18, go_sem, r0_]) rfl ⟨none, 0, rfl, World.ownsRow_nil _ _ _ _, hb4.out⟩
            obtain ⟨rfl, rfl⟩ := HY.out (by rw [HE.out, q])
            have hR := S0.2.1
            have E_ := Blk.set_own hR 0 (.slice A12 m c12)
            obtain ⟨r0_, _⟩ := Blk.Holds.one E_
            have hb4 := Lib.hid (S0.2.2.2.2.trans (below_set x4 w.heap.size (w.heap.size + 1) 0 (.slice A12 m c12) (by omega)))
            have OF := Lib.hid (own_set O12 (w.heap.size + 1) 0 (.slice A12 m c12) (by omega))
            obtain ⟨_, _⟩ := hR.one
            clear hR HN HY
            go_wp2_with fail
            refine bodyPost_ret (v := .tuple #[.agg #[.slice A12 m c12], .bool true]) (by simp [results, Try.results18, go_sem, r0_]) rfl ⟨A12, c12, by rw [hm.out], by rw [hm.out]; exact own_base OF.out (by omega), hb4.out⟩
          refine AllReadyH.cons (o := ⟨some 6, _, _, _, _, _⟩) rfl (fun K hK => ?_) ?_
          · skip
            obtain ⟨k14, hk14⟩ : ∃ q, q = v11.heap.size := ⟨_, rfl⟩
            have lo14 : w.heap.size + 2 ≤ k14 := by rw [hk14]; exact S0.2.2.2.1
            have H14 := Blk.Holds.box v11 #[.slice none 0 0] 37 hk14
            have hb_ := below1 v11 (Obj.cells #[.slice none 0 0] 37)
            replace O11 := own_below O11 hb_
            replace S0 := HO _ _ S0 hb_
            clear hb_
            go_simp
            try rw [← hk14]
            generalize v11.alloc (Obj.cells #[.slice none 0 0] 37) = v14 at *
            clear hk14
            refine hK.out _ _ S0.1.1 (fun hHeld => ?_)
            clear hK K
            try simp only [Act.put, List.setIfInBounds_toArray, List.set_cons_zero, List.set_cons_succ]
            refine wpAnyH_ready (rs := [12]) (by kernel_rfl) (by simp) ?_
            refine AllReadyH.cons (o := ⟨some 30, _, _, _, _, _⟩) rfl (fun K hK => ?_) ?_
            rotate_left 1
            · exact AllReadyH.nil
            go_simp
            go_at_call 68
            refine (QL.out _ _ _ S0.2.2.2.1 O11).mono ?_
            rintro e v12 ⟨A12, c12, rfl, O12, hb_⟩
            replace H14 := H14.later hb_
            replace S0 := HO _ _ S0 hb_
            clear hb_ O11
            refine hK.out _ _ S0.1.1 (fun hHeld => ?_)
            clear hK K
            try simp only [Act.put, List.setIfInBounds_toArray, List.set_cons_zero, List.set_cons_succ]
            refine wpAnyH_take (i := 13) (oi := ⟨some 31, _, _, _, _, _⟩) (v := ?_) rfl (by kernel_rfl) (by kernel_rfl) (by kernel_rfl) (fun _ _ _ h => h) (Or.inl ⟨by rfl, ?_⟩) (by assumption) ?_
            rotate_left 1
            · (intro w hSw; have hSw_ := hSw; go_simp; try with_reducible rfl)
            try simp only [Act.put, List.setIfInBounds_toArray, List.set_cons_zero, List.set_cons_succ]
            refine wpAnyH_ready (rs := [15]) (by kernel_rfl) (by simp) ?_
            refine AllReadyH.cons (o := ⟨none, _, _, _, _, _⟩) rfl (fun K hK => ?_) ?_
            rotate_left 1
            · exact AllReadyH.nil
            obtain ⟨_, _⟩ := H14.one
            have hg_ := grown_set v12 k14 0 (.slice A12 m c12)
            have hb_ := below_set v12 (w.heap.size + 2) k14 0 (.slice A12 m c12) lo14
            replace O12 := kept_ne O12 hg_ (apart O12 H14 (by decide))
            replace H14 : Holds (v12.setCell ⟨k14, 0, none⟩ (.slice A12 m c12)) k14 #[(.slice A12 m c12)] 37 := Blk.set_own H14 0 (.slice A12 m c12)
            replace S0 := HO3 _ _ S0 hb_
            go_simp
            generalize v12.setCell ⟨k14, 0, none⟩ (.slice A12 m c12) = v15 at *
            clear hg_ hb_
            refine hK.out _ _ S0.1.1 (fun hHeld => ?_)
            clear hK K
            try simp only [Act.put, List.setIfInBounds_toArray, List.set_cons_zero, List.set_cons_succ]
            refine wpAnyH_done (by kernel_rfl) ?_ _
            obtain ⟨⟨_, _⟩, _⟩ := id S0
            obtain ⟨_, _⟩ := H14.one
            go_wp2_with fail
            refine (RoomOkSpec.roomOk A12 m c12 _ r hm.out hmb (own_ptsC O12 hm.out)).mono ?_
            rintro e x4 ⟨rfl, hb_⟩
            replace H14 := H14.later hb_
            replace O12 := own_below O12 hb_
            replace S0 := HO _ _ S0 hb_
            clear hb_ QL QA QB hla hlb
            obtain ⟨_, _⟩ := H14.one
            cases q : roomB r
            · obtain ⟨rfl, rfl⟩ := HN.out (by rw [HE.out, q])
              have hR := S0.2.1
              have E_ := Blk.set_own hR 0 (.slice none 0 0)
              obtain ⟨r0_, _⟩ := Blk.Holds.one E_
              have hb4 := Lib.hid (S0.2.2.2.2.trans (below_set x4 w.heap.size (w.heap.size + 1) 0 (.slice none 0 0) (by omega)))
              obtain ⟨_, _⟩ := hR.one
              clear hR HN HY
              go_wp2_with fail
              refine bodyPost_ret (v := .tuple #[.agg #[.slice none 0 0], .bool false]) (by simp [results, Try.results18, go_sem, r0_]) rfl ⟨none, 0, rfl, World.ownsRow_nil _ _ _ _, hb4.out⟩
            obtain ⟨rfl, rfl⟩ := HY.out (by rw [HE.out, q])
            have hR := S0.2.1
            have E_ := Blk.set_own hR 0 (.slice A12 m c12)
            obtain ⟨r0_, _⟩ := Blk.Holds.one E_
            have hb4 := Lib.hid (S0.2.2.2.2.trans (below_set x4 w.heap.size (w.heap.size + 1) 0 (.slice A12 m c12) (by omega)))
            have OF := Lib.hid (own_set O12 (w.heap.size + 1) 0 (.slice A12 m c12) (by omega))
            obtain ⟨_, _⟩ := hR.one
            clear hR HN HY
            go_wp2_with fail
            refine bodyPost_ret (v := .tuple #[.agg #[.slice A12 m c12], .bool true]) (by simp [results, Try.results18, go_sem, r0_]) rfl ⟨A12, c12, by rw [hm.out], by rw [hm.out]; exact own_base OF.out (by omega), hb4.out⟩
          exact AllReadyH.nil
        refine AllReadyH.cons (o := ⟨some 6, _, _, _, _, _⟩) rfl (fun K hK => ?_) ?_
        · skip
          obtain ⟨k14, hk14⟩ : ∃ q, q = v5.heap.size := ⟨_, rfl⟩
          have lo14 : w.heap.size + 2 ≤ k14 := by rw [hk14]; exact S0.2.2.2.1
          have H14 := Blk.Holds.box v5 #[.slice none 0 0] 37 hk14
          have hb_ := below1 v5 (Obj.cells #[.slice none 0 0] 37)
          replace O5 := own_below O5 hb_
          replace S0 := HO _ _ S0 hb_
          clear hb_
          go_simp
          try rw [← hk14]
          generalize v5.alloc (Obj.cells #[.slice none 0 0] 37) = v14 at *
          clear hk14
          refine hK.out _ _ S0.1.1 (fun hHeld => ?_)
          clear hK K
          try simp only [Act.put, List.setIfInBounds_toArray, List.set_cons_zero, List.set_cons_succ]
          refine wpAnyH_ready (rs := [11]) (by kernel_rfl) (by simp) ?_
          refine AllReadyH.cons (o := ⟨some 29, _, _, _, _, _⟩) rfl (fun K hK => ?_) ?_
          rotate_left 1
          · exact AllReadyH.nil
          refine PtsRow.step_append_pts _ (by rfl) _ _ (by rfl) (w.heap.size + 2) _ kk la (by rfl) O5 _ (n - (kk + 1)) (cap - (kk + 1)) lb hlb (by rfl) (QB.out _ _ (S0.2.2.1.wide S0.2.2.2.2.size)) (by omega) S0.2.2.2.1 ?_
          intro q11 v11 h11 g11
          have O11 : v11.ownsRow (w.heap.size + 2) 49 2 q11 (n - 1) (cellsP (la ++ lb)) := by rw [hNc.out] at h11; exact h11
          have hb_ : Below (w.heap.size + 2) v14 v11 := (Below.refl _ _).grown g11 S0.2.2.2.1 (fun g hg => (O5.lt g hg).1)
          replace H14 : Holds v11 k14 #[.slice none 0 0] 37 := (g11.block _ H14.lt (fun e => apart O5 H14 (by decide) _ e.symm rfl)).trans H14
          obtain ⟨A11, c11, rfl⟩ := own_shape O11
          replace S0 := HO3 _ _ S0 hb_
          clear hb_ g11 h11 O5
          refine hK.out _ _ S0.1.1 (fun hHeld => ?_)
          clear hK K
          try simp only [Act.put, List.setIfInBounds_toArray, List.set_cons_zero, List.set_cons_succ]
          refine wpAnyH_ready (rs := [12]) (by kernel_rfl) (by simp) ?_
          refine AllReadyH.cons (o := ⟨some 30, _, _, _, _, _⟩) rfl (fun K hK => ?_) ?_
          rotate_left 1
          · exact AllReadyH.nil
          go_simp
          go_at_call 68
          refine (QL.out _ _ _ S0.2.2.2.1 O11).mono ?_
          rintro e v12 ⟨A12, c12, rfl, O12, hb_⟩
          replace H14 := H14.later hb_
          replace S0 := HO _ _ S0 hb_
          clear hb_ O11
          refine hK.out _ _ S0.1.1 (fun hHeld => ?_)
          clear hK K
          try simp only [Act.put, List.setIfInBounds_toArray, List.set_cons_zero, List.set_cons_succ]
          refine wpAnyH_take (i := 13) (oi := ⟨some 31, _, _, _, _, _⟩) (v := ?_) rfl (by kernel_rfl) (by kernel_rfl) (by kernel_rfl) (fun _ _ _ h => h) (Or.inl ⟨by rfl, ?_⟩) (by assumption) ?_
          rotate_left 1
          · (intro w hSw; have hSw_ := hSw; go_simp; try with_reducible rfl)
          try simp only [Act.put, List.setIfInBounds_toArray, List.set_cons_zero, List.set_cons_succ]
          refine wpAnyH_ready (rs := [15]) (by kernel_rfl) (by simp) ?_
          refine AllReadyH.cons (o := ⟨none, _, _, _, _, _⟩) rfl (fun K hK => ?_) ?_
          rotate_left 1
          · exact AllReadyH.nil
          obtain ⟨_, _⟩ := H14.one
          have hg_ := grown_set v12 k14 0 (.slice A12 m c12)
          have hb_ := below_set v12 (w.heap.size + 2) k14 0 (.slice A12 m c12) lo14
          replace O12 := kept_ne O12 hg_ (apart O12 H14 (by decide))
          replace H14 : Holds (v12.setCell ⟨k14, 0, none⟩ (.slice A12 m c12)) k14 #[(.slice A12 m c12)] 37 := Blk.set_own H14 0 (.slice A12 m c12)
          replace S0 := HO3 _ _ S0 hb_
          go_simp
          generalize v12.setCell ⟨k14, 0, none⟩ (.slice A12 m c12) = v15 at *
          clear hg_ hb_
          refine hK.out _ _ S0.1.1 (fun hHeld => ?_)
          clear hK K
          try simp only [Act.put, List.setIfInBounds_toArray, List.set_cons_zero, List.set_cons_succ]
          refine wpAnyH_done (by kernel_rfl) ?_ _
          obtain ⟨⟨_, _⟩, _⟩ := id S0
          obtain ⟨_, _⟩ := H14.one
          go_wp2_with fail
          refine (RoomOkSpec.roomOk A12 m c12 _ r hm.out hmb (own_ptsC O12 hm.out)).mono ?_
          rintro e x4 ⟨rfl, hb_⟩
          replace H14 := H14.later hb_
          replace O12 := own_below O12 hb_
          replace S0 := HO _ _ S0 hb_
          clear hb_ QL QA QB hla hlb
          obtain ⟨_, _⟩ := H14.one
          cases q : roomB r
          · obtain ⟨rfl, rfl⟩ := HN.out (by rw [HE.out, q])
            have hR := S0.2.1
            have E_ := Blk.set_own hR 0 (.slice none 0 0)
            obtain ⟨r0_, _⟩ := Blk.Holds.one E_
            have hb4 := Lib.hid (S0.2.2.2.2.trans (below_set x4 w.heap.size (w.heap.size + 1) 0 (.slice none 0 0) (by omega)))
            obtain ⟨_, _⟩ := hR.one
            clear hR HN HY
            go_wp2_with fail
            refine bodyPost_ret (v := .tuple #[.agg #[.slice none 0 0], .bool false]) (by simp [results, Try.results18, go_sem, r0_]) rfl ⟨none, 0, rfl, World.ownsRow_nil _ _ _ _, hb4.out⟩
          obtain ⟨rfl, rfl⟩ := HY.out (by rw [HE.out, q])
          have hR := S0.2.1
          have E_ := Blk.set_own hR 0 (.slice A12 m c12)
          obtain ⟨r0_, _⟩ := Blk.Holds.one E_
          have hb4 := Lib.hid (S0.2.2.2.2.trans (below_set x4 w.heap.size (w.heap.size + 1) 0 (.slice A12 m c12) (by omega)))
          have OF := Lib.hid (own_set O12 (w.heap.size + 1) 0 (.slice A12 m c12) (by omega))
          obtain ⟨_, _⟩ := hR.one
          clear hR HN HY
          go_wp2_with fail
          refine bodyPost_ret (v := .tuple #[.agg #[.slice A12 m c12], .bool true]) (by simp [results, Try.results18, go_sem, r0_]) rfl ⟨A12, c12, by rw [hm.out], by rw [hm.out]; exact own_base OF.out (by omega), hb4.out⟩
        exact AllReadyH.nil
      refine AllReadyH.cons (o := ⟨some 6, _, _, _, _, _⟩) rfl (fun K hK => ?_) ?_
      · skip
        obtain ⟨k14, hk14⟩ : ∃ q, q = v0.heap.size := ⟨_, rfl⟩
        have lo14 : w.heap.size + 2 ≤ k14 := by rw [hk14]; exact S0.2.2.2.1
        have H14 := Blk.Holds.box v0 #[.slice none 0 0] 37 hk14
        have hb_ := below1 v0 (Obj.cells #[.slice none 0 0] 37)
        replace E0 := own_below E0 hb_
        replace S0 := HO _ _ S0 hb_
        clear hb_
        go_simp
        try rw [← hk14]
        generalize v0.alloc (Obj.cells #[.slice none 0 0] 37) = v14 at *
        clear hk14
        refine hK.out _ _ S0.1.1 (fun hHeld => ?_)
        clear hK K
        try simp only [Act.put, List.setIfInBounds_toArray, List.set_cons_zero, List.set_cons_succ]
        refine wpAnyH_ready (rs := [5]) (by kernel_rfl) (by simp) ?_
        refine AllReadyH.cons (o := ⟨some 23, _, _, _, _, _⟩) rfl (fun K hK => ?_) ?_
        rotate_left 1
        · exact AllReadyH.nil
        refine PtsRow.step_append_pts _ (by rfl) _ _ (by rfl) (w.heap.size + 2) _ 0 [] (by rfl) E0 _ kk cap la hla (by rfl) (QA.out _ _ (S0.2.2.1.wide S0.2.2.2.2.size)) (by omega) S0.2.2.2.1 ?_
        intro q5 v5 h5 g5
        have O5 : v5.ownsRow (w.heap.size + 2) 49 2 q5 kk (cellsP la) := by simpa using h5
        have hb_ : Below (w.heap.size + 2) v14 v5 := (Below.refl _ _).grown g5 S0.2.2.2.1 (fun g hg => (E0.lt g hg).1)
        replace H14 : Holds v5 k14 #[.slice none 0 0] 37 := (g5.block _ H14.lt (fun e => apart E0 H14 (by decide) _ e.symm rfl)).trans H14
        obtain ⟨A5, c5, rfl⟩ := own_shape O5
        replace S0 := HO3 _ _ S0 hb_
        clear hb_ g5 h5 E0
        refine hK.out _ _ S0.1.1 (fun hHeld => ?_)
        clear hK K
        try simp only [Act.put, List.setIfInBounds_toArray, List.set_cons_zero, List.set_cons_succ]
        refine wpAnyH_ready (rs := [11]) (by kernel_rfl) (by simp) ?_
        refine AllReadyH.cons (o := ⟨some 29, _, _, _, _, _⟩) rfl (fun K hK => ?_) ?_
        rotate_left 1
        · exact AllReadyH.nil
        refine PtsRow.step_append_pts _ (by rfl) _ _ (by rfl) (w.heap.size + 2) _ kk la (by rfl) O5 _ (n - (kk + 1)) (cap - (kk + 1)) lb hlb (by rfl) (QB.out _ _ (S0.2.2.1.wide S0.2.2.2.2.size)) (by omega) S0.2.2.2.1 ?_
        intro q11 v11 h11 g11
        have O11 : v11.ownsRow (w.heap.size + 2) 49 2 q11 (n - 1) (cellsP (la ++ lb)) := by rw [hNc.out] at h11; exact h11
        have hb_ : Below (w.heap.size + 2) v5 v11 := (Below.refl _ _).grown g11 S0.2.2.2.1 (fun g hg => (O5.lt g hg).1)
        replace H14 : Holds v11 k14 #[.slice none 0 0] 37 := (g11.block _ H14.lt (fun e => apart O5 H14 (by decide) _ e.symm rfl)).trans H14
        obtain ⟨A11, c11, rfl⟩ := own_shape O11
        replace S0 := HO3 _ _ S0 hb_
        clear hb_ g11 h11 O5
        refine hK.out _ _ S0.1.1 (fun hHeld => ?_)
        clear hK K
        try simp only [Act.put, List.setIfInBounds_toArray, List.set_cons_zero, List.set_cons_succ]
        refine wpAnyH_ready (rs := [12]) (by kernel_rfl) (by simp) ?_
        refine AllReadyH.cons (o := ⟨some 30, _, _, _, _, _⟩) rfl (fun K hK => ?_) ?_
        rotate_left 1
        · exact AllReadyH.nil
        go_simp
        go_at_call 68
        refine (QL.out _ _ _ S0.2.2.2.1 O11).mono ?_
        rintro e v12 ⟨A12, c12, rfl, O12, hb_⟩
        replace H14 := H14.later hb_
        replace S0 := HO _ _ S0 hb_
        clear hb_ O11
        refine hK.out _ _ S0.1.1 (fun hHeld => ?_)
        clear hK K
        try simp only [Act.put, List.setIfInBounds_toArray, List.set_cons_zero, List.set_cons_succ]
        refine wpAnyH_take (i := 13) (oi := ⟨some 31, _, _, _, _, _⟩) (v := ?_) rfl (by kernel_rfl) (by kernel_rfl) (by kernel_rfl) (fun _ _ _ h => h) (Or.inl ⟨by rfl, ?_⟩) (by assumption) ?_
        rotate_left 1
        · (intro w hSw; have hSw_ := hSw; go_simp; try with_reducible rfl)
        try simp only [Act.put, List.setIfInBounds_toArray, List.set_cons_zero, List.set_cons_succ]
        refine wpAnyH_ready (rs := [15]) (by kernel_rfl) (by simp) ?_
        refine AllReadyH.cons (o := ⟨none, _, _, _, _, _⟩) rfl (fun K hK => ?_) ?_
        rotate_left 1
        · exact AllReadyH.nil
        obtain ⟨_, _⟩ := H14.one
        have hg_ := grown_set v12 k14 0 (.slice A12 m c12)
        have hb_ := below_set v12 (w.heap.size + 2) k14 0 (.slice A12 m c12) lo14
        replace O12 := kept_ne O12 hg_ (apart O12 H14 (by decide))
        replace H14 : Holds (v12.setCell ⟨k14, 0, none⟩ (.slice A12 m c12)) k14 #[(.slice A12 m c12)] 37 := Blk.set_own H14 0 (.slice A12 m c12)
        replace S0 := HO3 _ _ S0 hb_
        go_simp
        generalize v12.setCell ⟨k14, 0, none⟩ (.slice A12 m c12) = v15 at *
        clear hg_ hb_
        refine hK.out _ _ S0.1.1 (fun hHeld => ?_)
        clear hK K
        try simp only [Act.put, List.setIfInBounds_toArray, List.set_cons_zero, List.set_cons_succ]
        refine wpAnyH_done (by kernel_rfl) ?_ _
        obtain ⟨⟨_, _⟩, _⟩ := id S0
        obtain ⟨_, _⟩ := H14.one
        go_wp2_with fail
        refine (RoomOkSpec.roomOk A12 m c12 _ r hm.out hmb (own_ptsC O12 hm.out)).mono ?_
        rintro e x4 ⟨rfl, hb_⟩
        replace H14 := H14.later hb_
        replace O12 := own_below O12 hb_
        replace S0 := HO _ _ S0 hb_
        clear hb_ QL QA QB hla hlb
        obtain ⟨_, _⟩ := H14.one
        cases q : roomB r
        · obtain ⟨rfl, rfl⟩ := HN.out (by rw [HE.out, q])
          have hR := S0.2.1
          have E_ := Blk.set_own hR 0 (.slice none 0 0)
          obtain ⟨r0_, _⟩ := Blk.Holds.one E_
          have hb4 := Lib.hid (S0.2.2.2.2.trans (below_set x4 w.heap.size (w.heap.size + 1) 0 (.slice none 0 0) (by omega)))
          obtain ⟨_, _⟩ := hR.one
          clear hR HN HY
          go_wp2_with fail
          refine bodyPost_ret (v := .tuple #[.agg #[.slice none 0 0], .bool false]) (by simp [results, Try.results18, go_sem, r0_]) rfl ⟨none, 0, rfl, World.ownsRow_nil _ _ _ _, hb4.out⟩
        obtain ⟨rfl, rfl⟩ := HY.out (by rw [HE.out, q])
        have hR := S0.2.1
        have E_ := Blk.set_own hR 0 (.slice A12 m c12)
        obtain ⟨r0_, _⟩ := Blk.Holds.one E_
        have hb4 := Lib.hid (S0.2.2.2.2.trans (below_set x4 w.heap.size (w.heap.size + 1) 0 (.slice A12 m c12) (by omega)))
        have OF := Lib.hid (own_set O12 (w.heap.size + 1) 0 (.slice A12 m c12) (by omega))
        obtain ⟨_, _⟩ := hR.one
        clear hR HN HY
        go_wp2_with fail
        refine bodyPost_ret (v := .tuple #[.agg #[.slice A12 m c12], .bool true]) (by simp [results, Try.results18, go_sem, r0_]) rfl ⟨A12, c12, by rw [hm.out], by rw [hm.out]; exact own_base OF.out (by omega), hb4.out⟩
      exact AllReadyH.nil
    refine AllReadyH.cons (o := ⟨some 6, _, _, _, _, _⟩) rfl (fun K hK => ?_) ?_
    · skip
      obtain ⟨k14, hk14⟩ : ∃ q, q = v0.heap.size := ⟨_, rfl⟩
      have lo14 : w.heap.size + 2 ≤ k14 := by rw [hk14]; exact S0.2.2.2.1
      have H14 := Blk.Holds.box v0 #[.slice none 0 0] 37 hk14
      have hb_ := below1 v0 (Obj.cells #[.slice none 0 0] 37)
      replace S0 := HO _ _ S0 hb_
      clear hb_
      go_simp
      try rw [← hk14]
      generalize v0.alloc (Obj.cells #[.slice none 0 0] 37) = v14 at *
      clear hk14
      refine hK.out _ _ S0.1.1 (fun hHeld => ?_)
      clear hK K
      try simp only [Act.put, List.setIfInBounds_toArray, List.set_cons_zero, List.set_cons_succ]
      refine wpAnyH_ready (rs := [0]) (by kernel_rfl) (by simp) ?_
      refine AllReadyH.cons (o := ⟨some 18, _, _, _, _, _⟩) rfl (fun K hK => ?_) ?_
      rotate_left 1
      · exact AllReadyH.nil
      obtain ⟨k0, hk0_⟩ : ∃ q, q = v14.heap.size := ⟨_, rfl⟩
      have E0 := own_base (own_empty v14 49 2) (b' := w.heap.size + 2) S0.2.2.2.1
      rw [← hk0_] at E0
      have hb_ := below1 v14 (Obj.cells #[] 49)
      replace H14 := H14.later hb_
      replace S0 := HO _ _ S0 hb_
      clear hb_
      go_simp
      try rw [← hk0_]
      generalize v14.alloc (Obj.cells #[] 49) = v0 at *
      clear hk0_
      refine hK.out _ _ S0.1.1 (fun hHeld => ?_)
      clear hK K
      try simp only [Act.put, List.setIfInBounds_toArray, List.set_cons_zero, List.set_cons_succ]
      refine wpAnyH_ready (rs := [5]) (by kernel_rfl) (by simp) ?_
      refine AllReadyH.cons (o := ⟨some 23, _, _, _, _, _⟩) rfl (fun K hK => ?_) ?_
      rotate_left 1
      · exact AllReadyH.nil
      refine PtsRow.step_append_pts _ (by rfl) _ _ (by rfl) (w.heap.size + 2) _ 0 [] (by rfl) E0 _ kk cap la hla (by rfl) (QA.out _ _ (S0.2.2.1.wide S0.2.2.2.2.size)) (by omega) S0.2.2.2.1 ?_
      intro q5 v5 h5 g5
      have O5 : v5.ownsRow (w.heap.size + 2) 49 2 q5 kk (cellsP la) := by simpa using h5
      have hb_ : Below (w.heap.size + 2) v0 v5 := (Below.refl _ _).grown g5 S0.2.2.2.1 (fun g hg => (E0.lt g hg).1)
      replace H14 : Holds v5 k14 #[.slice none 0 0] 37 := (g5.block _ H14.lt (fun e => apart E0 H14 (by decide) _ e.symm rfl)).trans H14
      obtain ⟨A5, c5, rfl⟩ := own_shape O5
      replace S0 := HO3 _ _ S0 hb_
      clear hb_ g5 h5 E0
      refine hK.out _ _ S0.1.1 (fun hHeld => ?_)
      clear hK K
      try simp only [Act.put, List.setIfInBounds_toArray, List.set_cons_zero, List.set_cons_succ]
      refine wpAnyH_ready (rs := [11]) (by kernel_rfl) (by simp) ?_
      refine AllReadyH.cons (o := ⟨some 29, _, _, _, _, _⟩) rfl (fun K hK => ?_) ?_
      rotate_left 1
      · exact AllReadyH.nil
      refine PtsRow.step_append_pts _ (by rfl) _ _ (by rfl) (w.heap.size + 2) _ kk la (by rfl) O5 _ (n - (kk + 1)) (cap - (kk + 1)) lb hlb (by rfl) (QB.out _ _ (S0.2.2.1.wide S0.2.2.2.2.size)) (by omega) S0.2.2.2.1 ?_
      intro q11 v11 h11 g11
      have O11 : v11.ownsRow (w.heap.size + 2) 49 2 q11 (n - 1) (cellsP (la ++ lb)) := by rw [hNc.out] at h11; exact h11
      have hb_ : Below (w.heap.size + 2) v5 v11 := (Below.refl _ _).grown g11 S0.2.2.2.1 (fun g hg => (O5.lt g hg).1)
      replace H14 : Holds v11 k14 #[.slice none 0 0] 37 := (g11.block _ H14.lt (fun e => apart O5 H14 (by decide) _ e.symm rfl)).trans H14
      obtain ⟨A11, c11, rfl⟩ := own_shape O11
      replace S0 := HO3 _ _ S0 hb_
      clear hb_ g11 h11 O5
      refine hK.out _ _ S0.1.1 (fun hHeld => ?_)
      clear hK K
      try simp only [Act.put, List.setIfInBounds_toArray, List.set_cons_zero, List.set_cons_succ]
      refine wpAnyH_ready (rs := [12]) (by kernel_rfl) (by simp) ?_
      refine AllReadyH.cons (o := ⟨some 30, _, _, _, _, _⟩) rfl (fun K hK => ?_) ?_
      rotate_left 1
      · exact AllReadyH.nil
      go_simp
      go_at_call 68
      refine (QL.out _ _ _ S0.2.2.2.1 O11).mono ?_
      rintro e v12 ⟨A12, c12, rfl, O12, hb_⟩
      replace H14 := H14.later hb_
      replace S0 := HO _ _ S0 hb_
      clear hb_ O11
      refine hK.out _ _ S0.1.1 (fun hHeld => ?_)
      clear hK K
      try simp only [Act.put, List.setIfInBounds_toArray, List.set_cons_zero, List.set_cons_succ]
      refine wpAnyH_take (i := 13) (oi := ⟨some 31, _, _, _, _, _⟩) (v := ?_) rfl (by kernel_rfl) (by kernel_rfl) (by kernel_rfl) (fun _ _ _ h => h) (Or.inl ⟨by rfl, ?_⟩) (by assumption) ?_
      rotate_left 1
      · (intro w hSw; have hSw_ := hSw; go_simp; try with_reducible rfl)
      try simp only [Act.put, List.setIfInBounds_toArray, List.set_cons_zero, List.set_cons_succ]
      refine wpAnyH_ready (rs := [15]) (by kernel_rfl) (by simp) ?_
      refine AllReadyH.cons (o := ⟨none, _, _, _, _, _⟩) rfl (fun K hK => ?_) ?_
      rotate_left 1
      · exact AllReadyH.nil
      obtain ⟨_, _⟩ := H14.one
      have hg_ := grown_set v12 k14 0 (.slice A12 m c12)
      have hb_ := below_set v12 (w.heap.size + 2) k14 0 (.slice A12 m c12) lo14
      replace O12 := kept_ne O12 hg_ (apart O12 H14 (by decide))
      replace H14 : Holds (v12.setCell ⟨k14, 0, none⟩ (.slice A12 m c12)) k14 #[(.slice A12 m c12)] 37 := Blk.set_own H14 0 (.slice A12 m c12)
      replace S0 := HO3 _ _ S0 hb_
      go_simp
      generalize v12.setCell ⟨k14, 0, none⟩ (.slice A12 m c12) = v15 at *
      clear hg_ hb_
      refine hK.out _ _ S0.1.1 (fun hHeld => ?_)
      clear hK K
      try simp only [Act.put, List.setIfInBounds_toArray, List.set_cons_zero, List.set_cons_succ]
      refine wpAnyH_done (by kernel_rfl) ?_ _
      obtain ⟨⟨_, _⟩, _⟩ := id S0
      obtain ⟨_, _⟩ := H14.one
      go_wp2_with fail
      refine (RoomOkSpec.roomOk A12 m c12 _ r hm.out hmb (own_ptsC O12 hm.out)).mono ?_
      rintro e x4 ⟨rfl, hb_⟩
      replace H14 := H14.later hb_
      replace O12 := own_below O12 hb_
      replace S0 := HO _ _ S0 hb_
      clear hb_ QL QA QB hla hlb
      obtain ⟨_, _⟩ := H14.one
      cases q : roomB r
      · obtain ⟨rfl, rfl⟩ := HN.out (by rw [HE.out, q])
        have hR := S0.2.1
        have E_ := Blk.set_own hR 0 (.slice none 0 0)
        obtain ⟨r0_, _⟩ := Blk.Holds.one E_
        have hb4 := Lib.hid (S0.2.2.2.2.trans (below_set x4 w.heap.size (w.heap.size + 1) 0 (.slice none 0 0) (by omega)))
        obtain ⟨_, _⟩ := hR.one
        clear hR HN HY
        go_wp2_with fail
        refine bodyPost_ret (v := .tuple #[.agg #[.slice none 0 0], .bool false]) (by simp [results, Try.results18, go_sem, r0_]) rfl ⟨none, 0, rfl, World.ownsRow_nil _ _ _ _, hb4.out⟩
      obtain ⟨rfl, rfl⟩ := HY.out (by rw [HE.out, q])
      have hR := S0.2.1
      have E_ := Blk.set_own hR 0 (.slice A12 m c12)
      obtain ⟨r0_, _⟩ := Blk.Holds.one E_
      have hb4 := Lib.hid (S0.2.2.2.2.trans (below_set x4 w.heap.size (w.heap.size + 1) 0 (.slice A12 m c12) (by omega)))
      have OF := Lib.hid (own_set O12 (w.heap.size + 1) 0 (.slice A12 m c12) (by omega))
      obtain ⟨_, _⟩ := hR.one
      clear hR HN HY
      go_wp2_with fail
      refine bodyPost_ret (v := .tuple #[.agg #[.slice A12 m c12], .bool true]) (by simp [results, Try.results18, go_sem, r0_]) rfl ⟨A12, c12, by rw [hm.out], by rw [hm.out]; exact own_base OF.out (by omega), hb4.out⟩
    exact AllReadyH.nil
end Go.Proofs.Ythokeedmccfalaa.CutEarSpec

