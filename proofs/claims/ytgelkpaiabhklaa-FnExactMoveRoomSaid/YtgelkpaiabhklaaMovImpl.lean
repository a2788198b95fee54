/-
  What MoveRoom does, as a contract: the room in new memory; no old cell is written.
-/
import Derived.Test.YtgelkpaiabhklaaRoomOkImpl
import Derived.Test.YtgelkpaiabhklaaMovMath
import Derived.Test.YtgelkpaiabhklaaFacts
import Derived.Test.YtgelkpaiabhklaaRoomRes
namespace Go.Proofs.Ytgelkpaiabhklaa.MovImpl
open Go.RowKit Own PointMath WallMath RoomMath Pts Blk AreaMath TurnrMath MovMath RoomRes
open PointOk (ret_bool ret_i64 below1 below2 below3)

theorem infoP : (Try.prog.info? 118).map (fun i => (i.zero, i.size, i.bytes)) = some (some (.agg #[.int .i64 0, .int .i64 0]), 2, 16) := by kernel_rfl

set_option maxRecDepth 100000 in
set_option maxHeartbeats 4000000 in
theorem plusW (dx dy ax ay X Y : Int) (u1 : IntKind.i64.wrap (dx + ax) = X) (u2 : IntKind.i64.wrap (dy + ay) = Y) (w : World) :
    Calls Try.prog 89 #[.agg #[.int .i64 dx, .int .i64 dy], .agg #[.int .i64 ax, .int .i64 ay]] w fun e w' => e = .returned (.agg #[.int .i64 X, .int .i64 Y]) ∧ Below w.heap.size w w' := by
  go_enter Try.func89, Try.ntmps89
  go_wp2_with fail
  refine bodyPost_ret (v := .agg #[.int .i64 X, .int .i64 Y]) (by simp [results, Try.results89, go_sem]) rfl ⟨rfl, ?_⟩
  exact below3 _ _ _ _

set_option maxRecDepth 100000 in
set_option maxHeartbeats 4000000 in
theorem movedBy (dx dy : Int) (hdx : -80 ≤ dx ∧ dx ≤ 80) (hdy : -80 ≤ dy ∧ dy ≤ 80) (A : Option Addr) (n cap : Nat) (w : World) (ps : List (Int × Int)) (hl : ps.length = n) (hn : n ≤ 1048576) (hok : ∀ k, k < n → okP (pt ps k).1 (pt ps k).2 = true) (hp : PtsAt w w.heap.size A ps) :
    Calls Try.prog 82 #[.agg #[.slice A n cap], .func (.func 89) #[.agg #[.int .i64 dx, .int .i64 dy]] #[]] w (GivesR 118 w (mvTo (gPlus dx dy ps) n)) := by
  obtain ⟨r, hr⟩ : ∃ r, mvTo (gPlus dx dy ps) n = r := ⟨_, rfl⟩
  have HX := Lib.hid hr
  rw [hr]
  clear hr
  obtain ⟨i0, hi, hz0, hz1, hz2⟩ := info_parts infoP
  go_enter Try.func82, Try.ntmps82
  go_wp2_with fail
  have X0 := (Pts.boxR w (.slice A n cap) 50 (k := w.heap.size) (by simp)).alloc (Obj.cells #[.slice none 0 0] 50)
  have X1 := Blk.Holds.box (w.alloc (Obj.cells #[.slice A n cap] 50)) #[.slice none 0 0] 50 (k := w.heap.size + 1) (by simp)
  have b0 := PointOk.below2 w (Obj.cells #[.slice A n cap] 50) (Obj.cells #[.slice none 0 0] 50)
  have HO : ∀ W W' : World, (Pts.BoxR W (w.heap.size) (.slice A n cap) ∧ Blk.Holds W (w.heap.size + 1) #[.slice none 0 0] 50 ∧ PtsAt W w.heap.size A ps ∧ Below w.heap.size w W) → Below W.heap.size W W' → (Pts.BoxR W' (w.heap.size) (.slice A n cap) ∧ Blk.Holds W' (w.heap.size + 1) #[.slice none 0 0] 50 ∧ PtsAt W' w.heap.size A ps ∧ Below w.heap.size w W') := fun W W' ⟨h0, h1, x0, hb⟩ h => ⟨h0.later h, h1.later h, x0.later (h.mono hb.size), hb.trans (h.mono hb.size)⟩
  have hz0_ : Hid ((((w.alloc (Obj.cells #[.slice A n cap] 50)).alloc (Obj.cells #[.slice none 0 0] 50))).heap.size = w.heap.size + 1 + 1) := Lib.hid (by simp)
  have Y0 : PtsAt (((w.alloc (Obj.cells #[.slice A n cap] 50)).alloc (Obj.cells #[.slice none 0 0] 50))) w.heap.size A ps := hp.later b0
  generalize ((w.alloc (Obj.cells #[.slice A n cap] 50)).alloc (Obj.cells #[.slice none 0 0] 50)) = w0 at X0 X1 Y0 b0 hz0_ ⊢
  have S0 := (⟨X0, X1, Y0, b0⟩ : Pts.BoxR w0 (w.heap.size) (.slice A n cap) ∧ Blk.Holds w0 (w.heap.size + 1) #[.slice none 0 0] 50 ∧ PtsAt w0 w.heap.size A ps ∧ Below w.heap.size w w0)
  clear X0 X1 Y0 b0
  obtain ⟨⟨_, _⟩, _, _, _⟩ := id S0
  have hz1_ := hz0_.out
  have HCo := Blk.Holds.box w0 #[.slice none 0 0] 50 (k := w.heap.size + 2) (by omega)
  have S1 := HO _ _ S0 (below1 w0 (Obj.cells #[.slice none 0 0] 50))
  have hsz : w.heap.size + 3 ≤ (w0.alloc (Obj.cells #[.slice none 0 0] 50)).heap.size := by simp; omega
  clear S0
  go_loopw [11] (fun q wr => ∃ (i : Nat) (v : Value), i ≤ n ∧ q = .int .i64 i ∧ Blk.Holds wr (w.heap.size + 2) #[v] 50 ∧ wr.ownsRow (w.heap.size + 3) 118 2 v i (cellsP (mvTo (gPlus dx dy ps) i)) ∧ w.heap.size + 3 ≤ wr.heap.size ∧ (Pts.BoxR wr (w.heap.size) (.slice A n cap) ∧ Blk.Holds wr (w.heap.size + 1) #[.slice none 0 0] 50 ∧ PtsAt wr w.heap.size A ps ∧ Below w.heap.size w wr))
    (fun q _ => n - (intOf q).toNat)
  case atStart => exact ⟨0, _, Nat.zero_le _, rfl, HCo, World.ownsRow_nil _ _ _ _, hsz, S1⟩
  case round =>
    clear S1 HCo hsz
    obtain ⟨i, v, hin, rfl, HCo, hown, hsz, S0⟩ := hrel
    obtain ⟨⟨_, _⟩, _, _, _⟩ := id S0
    by_cases hlt : i < n
    · have hi1 : (i : Int) < (n : Int) := by omega
      have hi0 : (0 : Int) ≤ (i : Int) := by omega
      have HG : Hid (mvTo (gPlus dx dy ps) (i + 1) = mvTo (gPlus dx dy ps) i ++ [gPlus dx dy ps i]) := Lib.hid rfl
      have p0 := pt_at (ps := ps) (k := i) (by omega)
      have o0 := okP_yes (hok i hlt)
      obtain ⟨cy, py, hcc⟩ : ∃ x y, pt ps i = (x, y) := ⟨_, _, rfl⟩
      obtain ⟨cx, hcx⟩ : ∃ x, dx + cy = x := ⟨_, rfl⟩
      obtain ⟨ck, hck⟩ : ∃ x, dy + py = x := ⟨_, rfl⟩
      have eg : gPlus dx dy ps i = (cx, ck) := by unfold gPlus; rw [hcc, ← hcx, ← hck]
      rw [hcc] at p0 o0
      rw [eg] at HG
      have un : IntKind.i64.wrap (dx + cy) = cx := by rw [IntWalk.i64_in _ (by simp only at o0; omega)]; exact hcx
      have un2 : IntKind.i64.wrap (dy + py) = ck := by rw [IntWalk.i64_in _ (by simp only at o0; omega)]; exact hck
      have QL := Lib.hid fun w => plusW dx dy cy py cx ck un un2 w
      obtain ⟨ad, eA, bA, pA⟩ := S0.2.2.1.get p0
      subst eA
      obtain ⟨Ao, co, rfl⟩ := own_shape hown
      obtain ⟨_, _⟩ := id pA
      have X3 := Blk.Holds.box wr #[.int .i64 cy, .int .i64 py] 118 (k := wr.heap.size) rfl
      have hneK : Hid (∀ g, (Value.slice Ao i co).ownBlock = some g → g < wr.heap.size) := Lib.hid (fun g hg => (hown.lt g hg).2)
      have b1_ := below1 wr (Obj.cells #[.int .i64 cy, .int .i64 py] 118)
      have S0a := HO _ _ S0 b1_
      replace hown := Lib.hid (own_below hown b1_)
      replace HCo := HCo.later b1_
      have hkb0 : w.heap.size + 3 ≤ wr.heap.size := hsz
      replace hsz := Nat.le_trans hsz b1_.size
      obtain ⟨⟨_, _⟩, _⟩ := Blk.Holds.two X3
      replace S0 := S0a
      have hkz : wr.heap.size < (wr.alloc (Obj.cells #[.int .i64 cy, .int .i64 py] 118)).heap.size := by simp
      obtain ⟨kb, hkb⟩ : ∃ K, wr.heap.size = K := ⟨_, rfl⟩
      rw [hkb] at hneK hkz hkb0
      have hkbz : w.heap.size + 3 ≤ kb := hkb0
      clear hl p0 hcc eg o0 hcx hck pA b1_ S0a un un2
      go_wp2_with fail
      try rw [hkb] at X3
      generalize wr.alloc (Obj.cells #[.int .i64 cy, .int .i64 py] 118) = v1 at *
      try rw [hkb]
      clear hkb
      have HO : ∀ W W' : World, (Pts.BoxR W (w.heap.size) (.slice (some ad) n cap) ∧ Blk.Holds W (w.heap.size + 1) #[.slice none 0 0] 50 ∧ PtsAt W w.heap.size (some ad) ps ∧ Blk.Holds W kb #[.int .i64 cy, .int .i64 py] 118 ∧ Below w.heap.size w W) → Below W.heap.size W W' → (Pts.BoxR W' (w.heap.size) (.slice (some ad) n cap) ∧ Blk.Holds W' (w.heap.size + 1) #[.slice none 0 0] 50 ∧ PtsAt W' w.heap.size (some ad) ps ∧ Blk.Holds W' kb #[.int .i64 cy, .int .i64 py] 118 ∧ Below w.heap.size w W') := fun W W' ⟨h0, h1, x0, x1, hb⟩ h => ⟨h0.later h, h1.later h, x0.later (h.mono hb.size), x1.later h, hb.trans (h.mono hb.size)⟩
      replace S0 : Pts.BoxR v1 (w.heap.size) (.slice (some ad) n cap) ∧ Blk.Holds v1 (w.heap.size + 1) #[.slice none 0 0] 50 ∧ PtsAt v1 w.heap.size (some ad) ps ∧ Blk.Holds v1 kb #[.int .i64 cy, .int .i64 py] 118 ∧ Below w.heap.size w v1 := ⟨S0.1, S0.2.1, S0.2.2.1, X3, S0.2.2.2⟩
      have HO2 : ∀ W W' : World, (Pts.BoxR W (w.heap.size) (.slice (some ad) n cap) ∧ Blk.Holds W (w.heap.size + 1) #[.slice none 0 0] 50 ∧ PtsAt W w.heap.size (some ad) ps ∧ Blk.Holds W kb #[.int .i64 cy, .int .i64 py] 118 ∧ Below w.heap.size w W) → Below (w.heap.size + 2) W W' → W'.heap[kb]? = W.heap[kb]? → (Pts.BoxR W' (w.heap.size) (.slice (some ad) n cap) ∧ Blk.Holds W' (w.heap.size + 1) #[.slice none 0 0] 50 ∧ PtsAt W' w.heap.size (some ad) ps ∧ Blk.Holds W' kb #[.int .i64 cy, .int .i64 py] 118 ∧ Below w.heap.size w W') := fun W W' ⟨h0, h1, h2, h3, hb⟩ h hk => ⟨⟨(h.cell (by simp)).trans h0.1, trivial⟩, (h.block _ (by omega)).trans h1, h2.later (h.mono (by omega)), hk.trans h3, hb.trans (h.mono (by omega))⟩
      clear X3
      have dr_ := (Below.refl v1.heap.size v1).drew
      have SD := HO _ _ S0 dr_
      have HCD := HCo.later dr_
      have hownD := own_below hown.out dr_
      have hzD : v1.drew.heap.size = v1.heap.size := rfl
      have HSOF : ∀ W : World, (Pts.BoxR W (w.heap.size) (.slice (some ad) n cap) ∧ Blk.Holds W (w.heap.size + 1) #[.slice none 0 0] 50 ∧ PtsAt W w.heap.size (some ad) ps ∧ Blk.Holds W kb #[.int .i64 cy, .int .i64 py] 118 ∧ Below w.heap.size w W) → (W.cell? ⟨kb, 0, none⟩ = some (.int .i64 cy) ∧ W.cell? ⟨kb, 1, none⟩ = some (.int .i64 py)) := fun W h => (Blk.Holds.two h.2.2.2.1).1
      have HS0_ := HSOF _ SD
      obtain ⟨_, _⟩ := HCD.one
      clear dr_ S0
      refine wp_region_held_drew (S := fun W => (W.cell? ⟨kb, 0, none⟩ = some (.int .i64 cy) ∧ W.cell? ⟨kb, 1, none⟩ = some (.int .i64 py))) (by kernel_rfl) HS0_ (fun hHeld => ?_)
      refine wpAnyH_take (i := 0) (oi := ⟨some 15, _, _, _, _, _⟩) (v := ?_) rfl (by kernel_rfl) (by kernel_rfl) (by kernel_rfl) (fun _ _ _ h => h) (Or.inl ⟨by rfl, ?_⟩) (by assumption) ?_
      rotate_left 1
      · (intro w hSw; (try obtain ⟨_, _, _⟩ := hSw); go_simp; try with_reducible rfl)
      try simp only [Act.put, List.setIfInBounds_toArray, List.set_cons_zero, List.set_cons_succ]
      refine wpAnyH_take (i := 2) (oi := ⟨some 17, _, _, _, _, _⟩) (v := ?_) rfl (by kernel_rfl) (by kernel_rfl) (by kernel_rfl) (fun _ _ _ h => h) (Or.inl ⟨by rfl, ?_⟩) (by assumption) ?_
      rotate_left 1
      · (intro w hSw; (try obtain ⟨_, _, _⟩ := hSw); go_simp; try with_reducible rfl)
      try simp only [Act.put, List.setIfInBounds_toArray, List.set_cons_zero, List.set_cons_succ]
      refine wpAnyH_take (i := 3) (oi := ⟨some 18, _, _, _, _, _⟩) (v := ?_) rfl (by kernel_rfl) (by kernel_rfl) (by kernel_rfl) (fun _ _ _ h => h) (Or.inl ⟨by rfl, ?_⟩) (by assumption) ?_
      rotate_left 1
      · (intro w hSw; (try obtain ⟨_, _, _⟩ := hSw); go_simp; try with_reducible rfl)
      try simp only [Act.put, List.setIfInBounds_toArray, List.set_cons_zero, List.set_cons_succ]
      refine wpAnyH_ready (rs := [1, 4]) (by kernel_rfl) (by simp) ?_
      refine AllReadyH.cons (o := ⟨some 16, _, _, _, _, _⟩) rfl (fun K hK => ?_) ?_
      · skip
        go_simp
        refine hK.out _ _ HS0_ (fun hHeld => ?_)
        clear hK K
        try simp only [Act.put, List.setIfInBounds_toArray, List.set_cons_zero, List.set_cons_succ]
        refine wpAnyH_ready (rs := [4]) (by kernel_rfl) (by simp) ?_
        refine AllReadyH.cons (o := ⟨some 19, _, _, _, _, _⟩) rfl (fun K hK => ?_) ?_
        rotate_left 1
        · exact AllReadyH.nil
        go_simp
        go_at_call 89; refine (QL.out _).mono ?_; rintro e wc_ ⟨rfl, hbc_⟩
        have SC_ := HO _ _ SD hbc_
        have HCC := HCD.later hbc_
        have hownC := own_below hownD hbc_
        have hzC := hbc_.size
        have HSC_ := HSOF _ SC_
        obtain ⟨_, _⟩ := HCC.one
        go_wp2_with fail
        refine hK.out _ _ HSC_ (fun hHeld => ?_)
        clear hK K
        try simp only [Act.put, List.setIfInBounds_toArray, List.set_cons_zero, List.set_cons_succ]
        refine wpAnyH_ready (rs := [5]) (by kernel_rfl) (by simp) ?_
        refine AllReadyH.cons (o := ⟨some 20, _, _, _, _, _⟩) rfl (fun K hK => ?_) ?_
        rotate_left 1
        · exact AllReadyH.nil
        have b2_ := below1 wc_ (Obj.cells #[.int .i64 cx, .int .i64 ck] 118)
        have S1_ := HO _ _ SC_ b2_
        have HC1 := HCC.later b2_
        have hown1 := own_below hownC b2_
        have HSB_ := HSOF _ S1_
        obtain ⟨_, _⟩ := HC1.one
        go_simp
        refine hK.out _ _ HSB_ (fun hHeld => ?_)
        clear hK K
        try simp only [Act.put, List.setIfInBounds_toArray, List.set_cons_zero, List.set_cons_succ]
        refine wpAnyH_ready (rs := [6]) (by kernel_rfl) (by simp) ?_
        refine AllReadyH.cons (o := ⟨some 21, _, _, _, _, _⟩) rfl (fun K hK => ?_) ?_
        rotate_left 1
        · exact AllReadyH.nil
        refine step_append_lies _ (by rfl) _ _ _ (by rfl) (w.heap.size + 3) 118 i0 _ 2 16 Try.underlying48 hi hz0 hz1 hz2 rfl (by omega) _ _ _ (by rfl) hown1 ⟨wc_.heap.size, 0, none⟩ 1 1 [.int .i64 cx, .int .i64 ck] (by rfl) (by rfl) ?c1 ?c2 (by omega) ?c3 ?c4 ?c5 _ rfl ?_
        case c1 => (intro a u ha; match a, ha with | 0, ha => (simp at ha; subst ha; simp [Addr.add]) | 1, ha => (simp at ha; subst ha; simp [Addr.add]))
        case c2 => (intro u hu; simp at hu; rcases hu with rfl | rfl <;> rfl)
        case c3 => (unfold maxLen; omega)
        case c4 => omega
        case c5 => (simp; omega)
        intro g2_ cap2_ wa_ ho_ hg_ hgo_ hlt_
        have hbg_ : Below (w.heap.size + 3) (wc_.alloc (Obj.cells #[.int .i64 cx, .int .i64 ck] 118)) wa_ := (Below.refl _ _).grown hg_ (by simp; omega) (fun g hg => (hown1.lt g hg).1)
        have HC3 : Blk.Holds wa_ (w.heap.size + 2) #[.slice Ao i co] 50 := (hbg_.block _ (by omega)).trans HC1
        have S3_ := HO2 _ _ S1_ (hbg_.mono (by omega)) (hg_.block kb (by simp; omega) (fun h => by have := hneK.out kb h.symm; omega))
        have HS3_ := HSOF _ S3_
        obtain ⟨_, _⟩ := HC3.one
        refine hK.out _ _ HS3_ (fun hHeld => ?_)
        clear hK K
        try simp only [Act.put, List.setIfInBounds_toArray, List.set_cons_zero, List.set_cons_succ]
        refine wpAnyH_take (i := 7) (oi := ⟨some 22, _, _, _, _, _⟩) (v := ?_) rfl (by kernel_rfl) (by kernel_rfl) (by kernel_rfl) (fun _ _ _ h => h) (Or.inl ⟨by rfl, ?_⟩) (by assumption) ?_
        rotate_left 1
        · (intro w hSw; (try obtain ⟨_, _, _⟩ := hSw); go_simp; try with_reducible rfl)
        try simp only [Act.put, List.setIfInBounds_toArray, List.set_cons_zero, List.set_cons_succ]
        refine wpAnyH_ready (rs := [8]) (by kernel_rfl) (by simp) ?_
        refine AllReadyH.cons (o := ⟨none, _, _, _, _, _⟩) rfl (fun K hK => ?_) ?_
        rotate_left 1
        · exact AllReadyH.nil
        have HC4 := Blk.set_own HC3 0 (Value.slice (some ⟨g2_, 0, none⟩) (i + 1) cap2_)
        have hown4 := own_set ho_ (w.heap.size + 2) 0 (Value.slice (some ⟨g2_, 0, none⟩) (i + 1) cap2_) (by omega)
        have hbs_ := below_set wa_ (w.heap.size + 2) (w.heap.size + 2) 0 (Value.slice (some ⟨g2_, 0, none⟩) (i + 1) cap2_) (Nat.le_refl _)
        have S4_ := HO2 _ _ S3_ hbs_ (Below.heap_setCell wa_ ⟨w.heap.size + 2, 0, none⟩ (Value.slice (some ⟨g2_, 0, none⟩) (i + 1) cap2_) kb (by simp; omega))
        have HS4_ := HSOF _ S4_
        go_simp
        refine hK.out _ _ HS4_ (fun hHeld => ?_)
        clear hK K
        try simp only [Act.put, List.setIfInBounds_toArray, List.set_cons_zero, List.set_cons_succ]
        have HN : Hid (Blk.Holds (wa_.setCell ⟨w.heap.size + 2, 0, none⟩ (Value.slice (some ⟨g2_, 0, none⟩) (i + 1) cap2_)) (w.heap.size + 2) #[(Value.slice (some ⟨g2_, 0, none⟩) (i + 1) cap2_)] 50 ∧ (wa_.setCell ⟨w.heap.size + 2, 0, none⟩ (Value.slice (some ⟨g2_, 0, none⟩) (i + 1) cap2_)).ownsRow (w.heap.size + 3) 118 2 (Value.slice (some ⟨g2_, 0, none⟩) (i + 1) cap2_) (i + 1) (cellsP (mvTo (gPlus dx dy ps) (i + 1))) ∧ w.heap.size + 3 ≤ (wa_.setCell ⟨w.heap.size + 2, 0, none⟩ (Value.slice (some ⟨g2_, 0, none⟩) (i + 1) cap2_)).heap.size ∧ ((fun W => (Pts.BoxR W (w.heap.size) (.slice (some ad) n cap) ∧ Blk.Holds W (w.heap.size + 1) #[.slice none 0 0] 50 ∧ PtsAt W w.heap.size (some ad) ps ∧ Below w.heap.size w W)) (wa_.setCell ⟨w.heap.size + 2, 0, none⟩ (Value.slice (some ⟨g2_, 0, none⟩) (i + 1) cap2_)))) := Lib.hid ⟨HC4, by rw [HG.out, cellsP_app]; exact hown4, by have := hbs_.size; have := hbg_.size; simp at this; omega, S4_.1, S4_.2.1, S4_.2.2.1, S4_.2.2.2.2⟩
        refine wpAnyH_done (by kernel_rfl) ?_ _
        clear HC4 HC3 HC1 HCC HCD hown4 hown1 hownC hownD ho_ hg_ hgo_ hlt_ hbs_ hbg_ S4_ S3_ S1_ SC_ SD HS4_ HS3_ HSB_ HSC_ HS0_ HSOF HG HO HO2 HCo hown QL
        go_wp2_with fail
        first
          | exact ⟨⟨i + 1, _, by omega, by go_num, HN.out.1, HN.out.2.1, HN.out.2.2.1, HN.out.2.2.2⟩, by simp [intOf]; omega⟩
          | (go_roundw <;> first | exact ⟨i + 1, _, by omega, by go_num, HN.out.1, HN.out.2.1, HN.out.2.2.1, HN.out.2.2.2⟩ | (simp [intOf]; omega))
      refine AllReadyH.cons (o := ⟨some 19, _, _, _, _, _⟩) rfl (fun K hK => ?_) ?_
      · skip
        go_simp
        go_at_call 89; refine (QL.out _).mono ?_; rintro e wc_ ⟨rfl, hbc_⟩
        have SC_ := HO _ _ SD hbc_
        have HCC := HCD.later hbc_
        have hownC := own_below hownD hbc_
        have hzC := hbc_.size
        have HSC_ := HSOF _ SC_
        obtain ⟨_, _⟩ := HCC.one
        go_wp2_with fail
        refine hK.out _ _ HSC_ (fun hHeld => ?_)
        clear hK K
        try simp only [Act.put, List.setIfInBounds_toArray, List.set_cons_zero, List.set_cons_succ]
        refine wpAnyH_ready (rs := [1, 5]) (by kernel_rfl) (by simp) ?_
        refine AllReadyH.cons (o := ⟨some 16, _, _, _, _, _⟩) rfl (fun K hK => ?_) ?_
        · skip
          go_simp
          refine hK.out _ _ HSC_ (fun hHeld => ?_)
          clear hK K
          try simp only [Act.put, List.setIfInBounds_toArray, List.set_cons_zero, List.set_cons_succ]
          refine wpAnyH_ready (rs := [5]) (by kernel_rfl) (by simp) ?_
          refine AllReadyH.cons (o := ⟨some 20, _, _, _, _, _⟩) rfl (fun K hK => ?_) ?_
          rotate_left 1
          · exact AllReadyH.nil
          have b2_ := below1 wc_ (Obj.cells #[.int .i64 cx, .int .i64 ck] 118)
          have S1_ := HO _ _ SC_ b2_
          have HC1 := HCC.later b2_
          have hown1 := own_below hownC b2_
          have HSB_ := HSOF _ S1_
          obtain ⟨_, _⟩ := HC1.one
          go_simp
          refine hK.out _ _ HSB_ (fun hHeld => ?_)
          clear hK K
          try simp only [Act.put, List.setIfInBounds_toArray, List.set_cons_zero, List.set_cons_succ]
          refine wpAnyH_ready (rs := [6]) (by kernel_rfl) (by simp) ?_
          refine AllReadyH.cons (o := ⟨some 21, _, _, _, _, _⟩) rfl (fun K hK => ?_) ?_
          rotate_left 1
          · exact AllReadyH.nil
          refine step_append_lies _ (by rfl) _ _ _ (by rfl) (w.heap.size + 3) 118 i0 _ 2 16 Try.underlying48 hi hz0 hz1 hz2 rfl (by omega) _ _ _ (by rfl) hown1 ⟨wc_.heap.size, 0, none⟩ 1 1 [.int .i64 cx, .int .i64 ck] (by rfl) (by rfl) ?c1 ?c2 (by omega) ?c3 ?c4 ?c5 _ rfl ?_
          case c1 => (intro a u ha; match a, ha with | 0, ha => (simp at ha; subst ha; simp [Addr.add]) | 1, ha => (simp at ha; subst ha; simp [Addr.add]))
          case c2 => (intro u hu; simp at hu; rcases hu with rfl | rfl <;> rfl)
          case c3 => (unfold maxLen; omega)
          case c4 => omega
          case c5 => (simp; omega)
          intro g2_ cap2_ wa_ ho_ hg_ hgo_ hlt_
          have hbg_ : Below (w.heap.size + 3) (wc_.alloc (Obj.cells #[.int .i64 cx, .int .i64 ck] 118)) wa_ := (Below.refl _ _).grown hg_ (by simp; omega) (fun g hg => (hown1.lt g hg).1)
          have HC3 : Blk.Holds wa_ (w.heap.size + 2) #[.slice Ao i co] 50 := (hbg_.block _ (by omega)).trans HC1
          have S3_ := HO2 _ _ S1_ (hbg_.mono (by omega)) (hg_.block kb (by simp; omega) (fun h => by have := hneK.out kb h.symm; omega))
          have HS3_ := HSOF _ S3_
          obtain ⟨_, _⟩ := HC3.one
          refine hK.out _ _ HS3_ (fun hHeld => ?_)
          clear hK K
          try simp only [Act.put, List.setIfInBounds_toArray, List.set_cons_zero, List.set_cons_succ]
          refine wpAnyH_take (i := 7) (oi := ⟨some 22, _, _, _, _, _⟩) (v := ?_) rfl (by kernel_rfl) (by kernel_rfl) (by kernel_rfl) (fun _ _ _ h => h) (Or.inl ⟨by rfl, ?_⟩) (by assumption) ?_
          rotate_left 1
          · (intro w hSw; (try obtain ⟨_, _, _⟩ := hSw); go_simp; try with_reducible rfl)
          try simp only [Act.put, List.setIfInBounds_toArray, List.set_cons_zero, List.set_cons_succ]
          refine wpAnyH_ready (rs := [8]) (by kernel_rfl) (by simp) ?_
          refine AllReadyH.cons (o := ⟨none, _, _, _, _, _⟩) rfl (fun K hK => ?_) ?_
          rotate_left 1
          · exact AllReadyH.nil
          have HC4 := Blk.set_own HC3 0 (Value.slice (some ⟨g2_, 0, none⟩) (i + 1) cap2_)
          have hown4 := own_set ho_ (w.heap.size + 2) 0 (Value.slice (some ⟨g2_, 0, none⟩) (i + 1) cap2_) (by omega)
          have hbs_ := below_set wa_ (w.heap.size + 2) (w.heap.size + 2) 0 (Value.slice (some ⟨g2_, 0, none⟩) (i + 1) cap2_) (Nat.le_refl _)
          have S4_ := HO2 _ _ S3_ hbs_ (Below.heap_setCell wa_ ⟨w.heap.size + 2, 0, none⟩ (Value.slice (some ⟨g2_, 0, none⟩) (i + 1) cap2_) kb (by simp; omega))
          have HS4_ := HSOF _ S4_
          go_simp
          refine hK.out _ _ HS4_ (fun hHeld => ?_)
          clear hK K
          try simp only [Act.put, List.setIfInBounds_toArray, List.set_cons_zero, List.set_cons_succ]
          have HN : Hid (Blk.Holds (wa_.setCell ⟨w.heap.size + 2, 0, none⟩ (Value.slice (some ⟨g2_, 0, none⟩) (i + 1) cap2_)) (w.heap.size + 2) #[(Value.slice (some ⟨g2_, 0, none⟩) (i + 1) cap2_)] 50 ∧ (wa_.setCell ⟨w.heap.size + 2, 0, none⟩ (Value.slice (some ⟨g2_, 0, none⟩) (i + 1) cap2_)).ownsRow (w.heap.size + 3) 118 2 (Value.slice (some ⟨g2_, 0, none⟩) (i + 1) cap2_) (i + 1) (cellsP (mvTo (gPlus dx dy ps) (i + 1))) ∧ w.heap.size + 3 ≤ (wa_.setCell ⟨w.heap.size + 2, 0, none⟩ (Value.slice (some ⟨g2_, 0, none⟩) (i + 1) cap2_)).heap.size ∧ ((fun W => (Pts.BoxR W (w.heap.size) (.slice (some ad) n cap) ∧ Blk.Holds W (w.heap.size + 1) #[.slice none 0 0] 50 ∧ PtsAt W w.heap.size (some ad) ps ∧ Below w.heap.size w W)) (wa_.setCell ⟨w.heap.size + 2, 0, none⟩ (Value.slice (some ⟨g2_, 0, none⟩) (i + 1) cap2_)))) := Lib.hid ⟨HC4, by rw [HG.out, cellsP_app]; exact hown4, by have := hbs_.size; have := hbg_.size; simp at this; omega, S4_.1, S4_.2.1, S4_.2.2.1, S4_.2.2.2.2⟩
          refine wpAnyH_done (by kernel_rfl) ?_ _
          clear HC4 HC3 HC1 HCC HCD hown4 hown1 hownC hownD ho_ hg_ hgo_ hlt_ hbs_ hbg_ S4_ S3_ S1_ SC_ SD HS4_ HS3_ HSB_ HSC_ HS0_ HSOF HG HO HO2 HCo hown QL
          go_wp2_with fail
          first
            | exact ⟨⟨i + 1, _, by omega, by go_num, HN.out.1, HN.out.2.1, HN.out.2.2.1, HN.out.2.2.2⟩, by simp [intOf]; omega⟩
            | (go_roundw <;> first | exact ⟨i + 1, _, by omega, by go_num, HN.out.1, HN.out.2.1, HN.out.2.2.1, HN.out.2.2.2⟩ | (simp [intOf]; omega))
        refine AllReadyH.cons (o := ⟨some 20, _, _, _, _, _⟩) rfl (fun K hK => ?_) ?_
        · skip
          have b2_ := below1 wc_ (Obj.cells #[.int .i64 cx, .int .i64 ck] 118)
          have S1_ := HO _ _ SC_ b2_
          have HC1 := HCC.later b2_
          have hown1 := own_below hownC b2_
          have HSB_ := HSOF _ S1_
          obtain ⟨_, _⟩ := HC1.one
          go_simp
          refine hK.out _ _ HSB_ (fun hHeld => ?_)
          clear hK K
          try simp only [Act.put, List.setIfInBounds_toArray, List.set_cons_zero, List.set_cons_succ]
          refine wpAnyH_ready (rs := [1]) (by kernel_rfl) (by simp) ?_
          refine AllReadyH.cons (o := ⟨some 16, _, _, _, _, _⟩) rfl (fun K hK => ?_) ?_
          rotate_left 1
          · exact AllReadyH.nil
          go_simp
          refine hK.out _ _ HSB_ (fun hHeld => ?_)
          clear hK K
          try simp only [Act.put, List.setIfInBounds_toArray, List.set_cons_zero, List.set_cons_succ]
          refine wpAnyH_ready (rs := [6]) (by kernel_rfl) (by simp) ?_
          refine AllReadyH.cons (o := ⟨some 21, _, _, _, _, _⟩) rfl (fun K hK => ?_) ?_
          rotate_left 1
          · exact AllReadyH.nil
          refine step_append_lies _ (by rfl) _ _ _ (by rfl) (w.heap.size + 3) 118 i0 _ 2 16 Try.underlying48 hi hz0 hz1 hz2 rfl (by omega) _ _ _ (by rfl) hown1 ⟨wc_.heap.size, 0, none⟩ 1 1 [.int .i64 cx, .int .i64 ck] (by rfl) (by rfl) ?c1 ?c2 (by omega) ?c3 ?c4 ?c5 _ rfl ?_
          case c1 => (intro a u ha; match a, ha with | 0, ha => (simp at ha; subst ha; simp [Addr.add]) | 1, ha => (simp at ha; subst ha; simp [Addr.add]))
          case c2 => (intro u hu; simp at hu; rcases hu with rfl | rfl <;> rfl)
          case c3 => (unfold maxLen; omega)
          case c4 => omega
          case c5 => (simp; omega)
          intro g2_ cap2_ wa_ ho_ hg_ hgo_ hlt_
          have hbg_ : Below (w.heap.size + 3) (wc_.alloc (Obj.cells #[.int .i64 cx, .int .i64 ck] 118)) wa_ := (Below.refl _ _).grown hg_ (by simp; omega) (fun g hg => (hown1.lt g hg).1)
          have HC3 : Blk.Holds wa_ (w.heap.size + 2) #[.slice Ao i co] 50 := (hbg_.block _ (by omega)).trans HC1
          have S3_ := HO2 _ _ S1_ (hbg_.mono (by omega)) (hg_.block kb (by simp; omega) (fun h => by have := hneK.out kb h.symm; omega))
          have HS3_ := HSOF _ S3_
          obtain ⟨_, _⟩ := HC3.one
          refine hK.out _ _ HS3_ (fun hHeld => ?_)
          clear hK K
          try simp only [Act.put, List.setIfInBounds_toArray, List.set_cons_zero, List.set_cons_succ]
          refine wpAnyH_take (i := 7) (oi := ⟨some 22, _, _, _, _, _⟩) (v := ?_) rfl (by kernel_rfl) (by kernel_rfl) (by kernel_rfl) (fun _ _ _ h => h) (Or.inl ⟨by rfl, ?_⟩) (by assumption) ?_
          rotate_left 1
          · (intro w hSw; (try obtain ⟨_, _, _⟩ := hSw); go_simp; try with_reducible rfl)
          try simp only [Act.put, List.setIfInBounds_toArray, List.set_cons_zero, List.set_cons_succ]
          refine wpAnyH_ready (rs := [8]) (by kernel_rfl) (by simp) ?_
          refine AllReadyH.cons (o := ⟨none, _, _, _, _, _⟩) rfl (fun K hK => ?_) ?_
          rotate_left 1
          · exact AllReadyH.nil
          have HC4 := Blk.set_own HC3 0 (Value.slice (some ⟨g2_, 0, none⟩) (i + 1) cap2_)
          have hown4 := own_set ho_ (w.heap.size + 2) 0 (Value.slice (some ⟨g2_, 0, none⟩) (i + 1) cap2_) (by omega)
          have hbs_ := below_set wa_ (w.heap.size + 2) (w.heap.size + 2) 0 (Value.slice (some ⟨g2_, 0, none⟩) (i + 1) cap2_) (Nat.le_refl _)
          have S4_ := HO2 _ _ S3_ hbs_ (Below.heap_setCell wa_ ⟨w.heap.size + 2, 0, none⟩ (Value.slice (some ⟨g2_, 0, none⟩) (i + 1) cap2_) kb (by simp; omega))
          have HS4_ := HSOF _ S4_
          go_simp
          refine hK.out _ _ HS4_ (fun hHeld => ?_)
          clear hK K
          try simp only [Act.put, List.setIfInBounds_toArray, List.set_cons_zero, List.set_cons_succ]
          have HN : Hid (Blk.Holds (wa_.setCell ⟨w.heap.size + 2, 0, none⟩ (Value.slice (some ⟨g2_, 0, none⟩) (i + 1) cap2_)) (w.heap.size + 2) #[(Value.slice (some ⟨g2_, 0, none⟩) (i + 1) cap2_)] 50 ∧ (wa_.setCell ⟨w.heap.size + 2, 0, none⟩ (Value.slice (some ⟨g2_, 0, none⟩) (i + 1) cap2_)).ownsRow (w.heap.size + 3) 118 2 (Value.slice (some ⟨g2_, 0, none⟩) (i + 1) cap2_) (i + 1) (cellsP (mvTo (gPlus dx dy ps) (i + 1))) ∧ w.heap.size + 3 ≤ (wa_.setCell ⟨w.heap.size + 2, 0, none⟩ (Value.slice (some ⟨g2_, 0, none⟩) (i + 1) cap2_)).heap.size ∧ ((fun W => (Pts.BoxR W (w.heap.size) (.slice (some ad) n cap) ∧ Blk.Holds W (w.heap.size + 1) #[.slice none 0 0] 50 ∧ PtsAt W w.heap.size (some ad) ps ∧ Below w.heap.size w W)) (wa_.setCell ⟨w.heap.size + 2, 0, none⟩ (Value.slice (some ⟨g2_, 0, none⟩) (i + 1) cap2_)))) := Lib.hid ⟨HC4, by rw [HG.out, cellsP_app]; exact hown4, by have := hbs_.size; have := hbg_.size; simp at this; omega, S4_.1, S4_.2.1, S4_.2.2.1, S4_.2.2.2.2⟩
          refine wpAnyH_done (by kernel_rfl) ?_ _
          clear HC4 HC3 HC1 HCC HCD hown4 hown1 hownC hownD ho_ hg_ hgo_ hlt_ hbs_ hbg_ S4_ S3_ S1_ SC_ SD HS4_ HS3_ HSB_ HSC_ HS0_ HSOF HG HO HO2 HCo hown QL
          go_wp2_with fail
          first
            | exact ⟨⟨i + 1, _, by omega, by go_num, HN.out.1, HN.out.2.1, HN.out.2.2.1, HN.out.2.2.2⟩, by simp [intOf]; omega⟩
            | (go_roundw <;> first | exact ⟨i + 1, _, by omega, by go_num, HN.out.1, HN.out.2.1, HN.out.2.2.1, HN.out.2.2.2⟩ | (simp [intOf]; omega))
        exact AllReadyH.nil
      exact AllReadyH.nil
    · obtain rfl : n = i := by omega
      have E : Hid (mvTo (gPlus dx dy ps) n = r) := HX
      obtain ⟨A1, c1, rfl⟩ := own_shape hown
      have hR := S0.2.1
      have hE := E.out
      have hlr : r.length = n := by rw [← hE, mvTo_len]
      obtain ⟨_, _⟩ := HCo.one
      obtain ⟨_, _⟩ := hR.one
      have E_ := Blk.set_own hR 0 (.slice A1 n c1)
      obtain ⟨r0_, _⟩ := Blk.Holds.one E_
      have hown4 := Lib.hid (own_set hown (w.heap.size + 1) 0 (.slice A1 n c1) (by omega))
      have hb4 := Lib.hid (S0.2.2.2.trans (below_set wr w.heap.size (w.heap.size + 1) 0 (.slice A1 n c1) (by omega)))
      rw [hE] at hown4
      clear hl HX hown
      go_wp2_with fail
      refine bodyPost_ret (v := .agg #[.slice A1 n c1]) (by simp [results, Try.results82, go_sem, r0_]) rfl ⟨A1, c1, by rw [hlr], by rw [hlr]; exact own_base hown4.out (by omega), hb4.out⟩



end Go.Proofs.Ytgelkpaiabhklaa.MovImpl

