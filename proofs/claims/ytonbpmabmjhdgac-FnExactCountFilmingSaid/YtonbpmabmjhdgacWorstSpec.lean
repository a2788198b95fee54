/-
  What WatchesAll, WorstGap and Films do, as contracts: what each answers; new memory alone is written.
-/
import Derived.Test.YtonbpmabmjhdgacRoundSpec
import Derived.Test.YtonbpmabmjhdgacTrackSpec
import Derived.Test.YtonbpmabmjhdgacFiltImpl
import Derived.Test.YtonbpmabmjhdgacFilmMath
namespace Go.Proofs.Ytonbpmabmjhdgac.WorstSpec
open Go.RowKit Own PointMath WallMath RoomMath Pts Blk AreaMath PlaceMath FloorMath LineMath CutsMath SightMath KernMath DiagMath PtofMath WalkMath Ints TrackMath 
open PointOk (ret_bool ret_i64 below1 below2 below3)
open RoundSpec (ints_own)
open FiltImpl (pts_own)

set_option maxRecDepth 100000 in
set_option maxHeartbeats 6400000 in
theorem films (A : Option Addr) (n cap : Nat) (ax ay rx ry lx ly q x y : Int) (w : World) (ps : List (Int × Int)) (hl : ps.length = n) (hn : n ≤ 1048576) (hp : PtsAt w w.heap.size A ps) :
    Calls Try.prog 25 #[.agg #[.slice A n cap], .agg #[.int .i64 ax, .int .i64 ay, .int .i64 rx, .int .i64 ry, .int .i64 lx, .int .i64 ly, .int .i64 q], .agg #[.int .i64 x, .int .i64 y]] w fun e w' => e = .returned (.bool (FilmMath.filmsB ps ax ay rx ry lx ly q x y)) ∧ Below w.heap.size w w' := by
  obtain ⟨r, hr⟩ : ∃ r, FilmMath.filmsB ps ax ay rx ry lx ly q x y = r := ⟨_, rfl⟩
  have HR := Lib.hid hr
  rw [hr]
  clear hr
  have QS : Hid (∀ w hp, _) := Lib.hid fun w hp => SeenSpec.sees A n cap ax ay x y w ps hl hn hp
  have QF : Hid (∀ w, _) := Lib.hid fun w => TrackSpec.inField ax ay rx ry lx ly q x y w
  go_enter Try.func25, Try.ntmps25
  go_wp2_with fail
  have X0 := ((Pts.boxR w (.slice A n cap) 30 (k := w.heap.size) (by simp)).alloc (Obj.cells #[.int .i64 ax, .int .i64 ay, .int .i64 rx, .int .i64 ry, .int .i64 lx, .int .i64 ly, .int .i64 q] 44)).alloc (Obj.cells #[.int .i64 x, .int .i64 y] 42)
  have X1 := (Tup7.box1 (w.alloc (Obj.cells #[.slice A n cap] 30)) ax ay rx ry lx ly q 44 (k := w.heap.size + 1) (by simp)).alloc (Obj.cells #[.int .i64 x, .int .i64 y] 42)
  have X2 := PointOk.box1 ((w.alloc (Obj.cells #[.slice A n cap] 30)).alloc (Obj.cells #[.int .i64 ax, .int .i64 ay, .int .i64 rx, .int .i64 ry, .int .i64 lx, .int .i64 ly, .int .i64 q] 44)) x y 42 (k := w.heap.size + 1 + 1) (by simp)
  have b0 := PointOk.below3 w (Obj.cells #[.slice A n cap] 30) (Obj.cells #[.int .i64 ax, .int .i64 ay, .int .i64 rx, .int .i64 ry, .int .i64 lx, .int .i64 ly, .int .i64 q] 44) (Obj.cells #[.int .i64 x, .int .i64 y] 42)
  have HO : ∀ W W' : World, (Pts.BoxR W (w.heap.size) (.slice A n cap) ∧ Tup7.Box W (w.heap.size + 1) ax ay rx ry lx ly q ∧ PointOk.Box W (w.heap.size + 1 + 1) x y ∧ PtsAt W w.heap.size A ps ∧ Below w.heap.size w W) → Below W.heap.size W W' → (Pts.BoxR W' (w.heap.size) (.slice A n cap) ∧ Tup7.Box W' (w.heap.size + 1) ax ay rx ry lx ly q ∧ PointOk.Box W' (w.heap.size + 1 + 1) x y ∧ PtsAt W' w.heap.size A ps ∧ Below w.heap.size w W') := fun W W' ⟨h0, h1, h2, x0, hb⟩ h => ⟨h0.later h, h1.later h, h2.later h, x0.later (h.mono hb.size), hb.trans (h.mono hb.size)⟩
  have hz0_ : Hid (((((w.alloc (Obj.cells #[.slice A n cap] 30)).alloc (Obj.cells #[.int .i64 ax, .int .i64 ay, .int .i64 rx, .int .i64 ry, .int .i64 lx, .int .i64 ly, .int .i64 q] 44)).alloc (Obj.cells #[.int .i64 x, .int .i64 y] 42))).heap.size = w.heap.size + 1 + 1 + 1) := Lib.hid (by simp)
  have Y0 : PtsAt ((((w.alloc (Obj.cells #[.slice A n cap] 30)).alloc (Obj.cells #[.int .i64 ax, .int .i64 ay, .int .i64 rx, .int .i64 ry, .int .i64 lx, .int .i64 ly, .int .i64 q] 44)).alloc (Obj.cells #[.int .i64 x, .int .i64 y] 42))) w.heap.size A ps := hp.later b0
  generalize (((w.alloc (Obj.cells #[.slice A n cap] 30)).alloc (Obj.cells #[.int .i64 ax, .int .i64 ay, .int .i64 rx, .int .i64 ry, .int .i64 lx, .int .i64 ly, .int .i64 q] 44)).alloc (Obj.cells #[.int .i64 x, .int .i64 y] 42)) = w0 at X0 X1 X2 Y0 b0 hz0_ ⊢
  have S0 := (⟨X0, X1, X2, Y0, b0⟩ : Pts.BoxR w0 (w.heap.size) (.slice A n cap) ∧ Tup7.Box w0 (w.heap.size + 1) ax ay rx ry lx ly q ∧ PointOk.Box w0 (w.heap.size + 1 + 1) x y ∧ PtsAt w0 w.heap.size A ps ∧ Below w.heap.size w w0)
  clear X0 X1 X2 Y0 b0
  obtain ⟨⟨_, _⟩, ⟨_, _, _, _, _, _, _⟩, ⟨_, _⟩, _, _⟩ := id S0
  refine (QF.out _).mono ?_
  rintro e w1 ⟨rfl, hb_⟩
  replace S0 := HO _ _ S0 hb_
  clear hb_
  obtain ⟨⟨_, _⟩, ⟨_, _, _, _, _, _, _⟩, ⟨_, _⟩, _, _⟩ := id S0
  cases hf : fieldB ax ay rx ry lx ly q x y
  · have E : Hid (r = false) := Lib.hid (by rw [← HR.out]; unfold FilmMath.filmsB; rw [hf]; rfl)
    clear hl HR QS
    go_wp2_with fail
    go_ret
    exact ⟨ret_bool E.out.symm, S0.2.2.2.2⟩
  have E : Hid (seesB ps ax ay x y = r) := Lib.hid (by rw [← HR.out]; unfold FilmMath.filmsB; rw [hf]; rfl)
  rw [E.out] at QS
  clear hl HR
  go_wp2_with fail
  refine (QS.out _ (S0.2.2.2.1.wide S0.2.2.2.2.size)).mono ?_
  rintro e w2 ⟨rfl, hb_⟩
  replace S0 := HO _ _ S0 hb_
  clear hb_
  obtain ⟨⟨_, _⟩, ⟨_, _, _, _, _, _, _⟩, ⟨_, _⟩, _, _⟩ := id S0
  go_wp2_with fail
  go_ret
  exact ⟨rfl, S0.2.2.2.2⟩

set_option maxRecDepth 100000 in
set_option maxHeartbeats 6400000 in
theorem worstGap (A : Option Addr) (n cap : Nat) (B : Option Addr) (m cb : Nat) (w : World) (ps : List (Int × Int)) (hl : ps.length = n) (hn : n ≤ 1048576) (hp : PtsAt w w.heap.size A ps) (qs : List (Int × Int)) (hl2 : qs.length = m) (hn2 : m ≤ 1048576) (hq : PtsAt w w.heap.size B qs) :
    Calls Try.prog 23 #[.agg #[.slice A n cap], .slice B m cb] w fun e w' => e = .returned (.int .i64 (worstI ps qs)) ∧ Below w.heap.size w w' := by
  obtain ⟨r, hr⟩ : ∃ r, worstI ps qs = r := ⟨_, rfl⟩
  have HR := Lib.hid hr
  rw [hr]
  clear hr
  go_enter Try.func23, Try.ntmps23
  go_wp2_with fail
  have X0 := Pts.boxR w (.slice A n cap) 30 (k := w.heap.size) (by simp)
  have b0 := PointOk.below1 w (Obj.cells #[.slice A n cap] 30)
  have HO : ∀ W W' : World, (Pts.BoxR W (w.heap.size) (.slice A n cap) ∧ PtsAt W w.heap.size A ps ∧ PtsAt W w.heap.size B qs ∧ Below w.heap.size w W) → Below W.heap.size W W' → (Pts.BoxR W' (w.heap.size) (.slice A n cap) ∧ PtsAt W' w.heap.size A ps ∧ PtsAt W' w.heap.size B qs ∧ Below w.heap.size w W') := fun W W' ⟨h0, x0, x1, hb⟩ h => ⟨h0.later h, x0.later (h.mono hb.size), x1.later (h.mono hb.size), hb.trans (h.mono hb.size)⟩
  have hz0_ : Hid (((w.alloc (Obj.cells #[.slice A n cap] 30))).heap.size = w.heap.size + 1) := Lib.hid (by simp)
  have Y0 : PtsAt ((w.alloc (Obj.cells #[.slice A n cap] 30))) w.heap.size A ps := hp.later b0
  have Y1 : PtsAt ((w.alloc (Obj.cells #[.slice A n cap] 30))) w.heap.size B qs := hq.later b0
  generalize (w.alloc (Obj.cells #[.slice A n cap] 30)) = w0 at X0 Y0 Y1 b0 hz0_ ⊢
  have S0 := (⟨X0, Y0, Y1, b0⟩ : Pts.BoxR w0 (w.heap.size) (.slice A n cap) ∧ PtsAt w0 w.heap.size A ps ∧ PtsAt w0 w.heap.size B qs ∧ Below w.heap.size w w0)
  clear X0 Y0 Y1 b0
  obtain ⟨⟨_, _⟩, _, _, _⟩ := id S0
  refine (WalkSpec.patrolOk A n cap B m cb _ ps hl hn (S0.2.1.wide S0.2.2.2.size) qs hl2 hn2 (S0.2.2.1.wide S0.2.2.2.size)).mono ?_
  rintro e w1 ⟨rfl, hb_⟩
  replace S0 := HO _ _ S0 hb_
  clear hb_
  obtain ⟨⟨_, _⟩, _, _, _⟩ := id S0
  cases hv : patrolB ps qs
  · have E : Hid (r = -1) := Lib.hid (by rw [← HR.out]; unfold worstI; rw [hv]; rfl)
    clear hl hl2 HR hv
    go_wp2_with fail
    go_ret
    exact ⟨ret_i64 E.out.symm, S0.2.2.2⟩
  have hall := (walk_parts (patrol_parts hv).2).1
  have HE : Hid ((if allSeen ps qs (floorL ps) then worstTo ps qs (floorL ps) (floorL ps).length else -1) = r) := Lib.hid (by rw [← HR.out]; unfold worstI; rw [hv, Bool.true_and])
  have hin : Hid (∀ k, k < (floorL ps).length → inB ps (pt (floorL ps) k).1 (pt (floorL ps) k).2 = true) := Lib.hid (fun k hk => floorL_in (pt_mem hk))
  have hle := floorL_le ps
  have QL : Hid (∀ w hp, _) := Lib.hid fun w hp => FloorSpec.floorPoints A n cap w ps hl hn hp
  unfold GivesC at QL
  clear HR hv
  generalize floorL ps = l at *
  obtain ⟨q, hq_⟩ : ∃ q, l.length = q := ⟨_, rfl⟩
  rw [hq_] at QL hle hin
  go_wp2_with fail
  refine (QL.out _ (S0.2.1.wide S0.2.2.2.size)).mono ?_
  rintro e w3 ⟨Al, cl, rfl, HL, hb_⟩
  replace S0 := HO _ _ S0 hb_
  have HP := pts_own HL
  clear hb_ QL HL
  obtain ⟨KW, hKW⟩ : ∃ K, w3.heap.size = K := ⟨_, rfl⟩
  rw [hKW] at HP
  have HO : ∀ W W' : World, (BoxR W w.heap.size (.slice A n cap) ∧ PtsAt W w.heap.size A ps ∧ PtsAt W w.heap.size B qs ∧ PtsAt W KW Al l ∧ KW ≤ W.heap.size ∧ Below w.heap.size w W) → Below W.heap.size W W' → (BoxR W' w.heap.size (.slice A n cap) ∧ PtsAt W' w.heap.size A ps ∧ PtsAt W' w.heap.size B qs ∧ PtsAt W' KW Al l ∧ KW ≤ W'.heap.size ∧ Below w.heap.size w W') := fun W W' ⟨x0, x1, x2, x3, x4, hb⟩ h => ⟨x0.later h, x1.later (h.mono hb.size), x2.later (h.mono hb.size), x3.later (h.mono x4), Nat.le_trans x4 h.size, hb.trans (h.mono hb.size)⟩
  have S1 : BoxR w3 w.heap.size (.slice A n cap) ∧ PtsAt w3 w.heap.size A ps ∧ PtsAt w3 w.heap.size B qs ∧ PtsAt w3 KW Al l ∧ KW ≤ w3.heap.size ∧ Below w.heap.size w w3 := ⟨S0.1, S0.2.1, S0.2.2.1, HP, Nat.le_of_eq hKW.symm, S0.2.2.2⟩
  clear S0 HP hKW
  have S0 := S1
  clear S1
  obtain ⟨⟨_, _⟩, _, _, _, _, _⟩ := id S0
  go_wp2_with fail
  go_loopw [5, 7] (fun v kq wr => ∃ k : Nat, k ≤ q ∧ kq = .int .i64 k ∧ v = .int .i64 (worstTo ps qs l k) ∧ Hid (∀ j, j < k → 0 ≤ gapAt ps qs (pt l j)) ∧ (BoxR wr w.heap.size (.slice A n cap) ∧ PtsAt wr w.heap.size A ps ∧ PtsAt wr w.heap.size B qs ∧ PtsAt wr KW Al l ∧ KW ≤ wr.heap.size ∧ Below w.heap.size w wr))
    (fun _ kq _ => q - (intOf kq).toNat)
  case atStart => exact ⟨0, Nat.zero_le _, rfl, rfl, Lib.hid (fun j hj => absurd hj (by omega)), S0⟩
  case round =>
    clear S0
    obtain ⟨k, hkq, rfl, rfl, hw, S0⟩ := hrel
    obtain ⟨⟨_, _⟩, _, _, _, _, _⟩ := id S0
    by_cases hlt : k < q
    rotate_left
    · obtain rfl : q = k := by omega
      have E : Hid (r = worstTo ps qs l q) := Lib.hid (by rw [← HE.out, allSeen_of (by rw [hq_]; exact hw.out), hq_]; rfl)
      clear hl hl2 HE hw hin hall
      go_wp2_with fail
      go_ret
      exact ⟨ret_i64 E.out.symm, S0.2.2.2.2.2⟩
    have hk1 : (k : Int) < (q : Int) := by omega
    have hk0 : (0 : Int) ≤ (k : Int) := by omega
    have p0 := pt_at (ps := l) (k := k) (by omega)
    have in0 := hin.out k hlt
    have HN : Hid (worstTo ps qs l (k + 1) = max (worstTo ps qs l k) (gapAt ps qs (pt l k))) := Lib.hid rfl
    have HF : Hid (gapAt ps qs (pt l k) < 0 → r = -1) := Lib.hid (fun h => by rw [← HE.out, allSeen_not (k := k) (by omega) h]; rfl)
    have HW2 : Hid (0 ≤ gapAt ps qs (pt l k) → ∀ j, j < k + 1 → 0 ≤ gapAt ps qs (pt l j)) := Lib.hid (fun h j hj => by
      rcases Nat.lt_or_ge j k with h1 | h1
      · exact hw.out j h1
      · obtain rfl : j = k := by omega
        exact h)
    obtain ⟨x, y, hx⟩ : ∃ x y, pt l k = (x, y) := ⟨_, _, rfl⟩
    rw [hx] at p0 in0 HN HF HW2
    have QS : Hid (∀ w hp hq, _) := Lib.hid fun w hp hq => RoundSpec.l22Seen A n cap B m cb x y w ps hl hn hp qs hl2 hn2 hq hall in0
    have hwi := mom_within ps qs (x, y)
    have hml := thatTo_len (fun k => seesM ps (pt qs k) (x, y)) qs.length
    replace hml : (momL ps qs (x, y)).length ≤ qs.length := hml
    rw [hl2] at hwi hml
    have HG : Hid (gapI (momL ps qs (x, y)) (m : Int) = gapAt ps qs (x, y)) := Lib.hid (by rw [← hl2]; rfl)
    have gb := gapAt_bound ps qs (x, y)
    replace gb : gapAt ps qs (x, y) = -1 ∨ 1 ≤ gapAt ps qs (x, y) := by rcases gb with h | h; exact .inl h.1; exact .inr h.1
    unfold GivesI at QS
    generalize momL ps qs (x, y) = z at *
    obtain ⟨s, hs⟩ : ∃ s, z.length = s := ⟨_, rfl⟩
    rw [hs] at QS hml
    have QG : Hid (∀ A c w hp, _) := Lib.hid fun A c w hp => RoundSpec.l22Gap A s c (m : Int) w z hs (by omega) (by omega) hwi hp
    rw [HG.out] at QG
    generalize gapAt ps qs (x, y) = g at *
    generalize worstTo ps qs l k = v at *
    obtain ⟨ad, eA, bA, pA⟩ := S0.2.2.2.1.get p0
    subst eA
    have HO : ∀ W W' : World, (BoxR W w.heap.size (.slice A n cap) ∧ PtsAt W w.heap.size A ps ∧ PtsAt W w.heap.size B qs ∧ PtAt W ad k x y ∧ PtsAt W KW (some ad) l ∧ KW ≤ W.heap.size ∧ Below w.heap.size w W) → Below W.heap.size W W' → (BoxR W' w.heap.size (.slice A n cap) ∧ PtsAt W' w.heap.size A ps ∧ PtsAt W' w.heap.size B qs ∧ PtAt W' ad k x y ∧ PtsAt W' KW (some ad) l ∧ KW ≤ W'.heap.size ∧ Below w.heap.size w W') := fun W W' ⟨x0, x1, x2, x3, x4, x5, hb⟩ h => ⟨x0.later h, x1.later (h.mono hb.size), x2.later (h.mono hb.size), x3.later bA (h.mono x5), x4.later (h.mono x5), Nat.le_trans x5 h.size, hb.trans (h.mono hb.size)⟩
    replace S0 : BoxR wr w.heap.size (.slice A n cap) ∧ PtsAt wr w.heap.size A ps ∧ PtsAt wr w.heap.size B qs ∧ PtAt wr ad k x y ∧ PtsAt wr KW (some ad) l ∧ KW ≤ wr.heap.size ∧ Below w.heap.size w wr := ⟨S0.1, S0.2.1, S0.2.2.1, pA, S0.2.2.2⟩
    clear pA p0 hx HG hwi hall hin HE hw hl
    obtain ⟨⟨_, _⟩, _, _, ⟨_, _⟩, _, _, _⟩ := id S0
    go_wp2_with fail
    have S0_ := HO _ _ S0 ((Below.refl _ _).drew)
    have HS0_ : wr.drew.cell? ⟨w.heap.size, 0, none⟩ = some (.slice A n cap) ∧ wr.drew.cell? (ad.add (k * 2)) = some (.int .i64 x) ∧ wr.drew.cell? ⟨(ad.add (k * 2)).block, (ad.add (k * 2)).off + 1, none⟩ = some (.int .i64 y) := ⟨S0_.1.1, S0_.2.2.2.1.1, S0_.2.2.2.1.2⟩
    refine wp_region_held_drew (S := fun W => W.cell? ⟨w.heap.size, 0, none⟩ = some (.slice A n cap) ∧ W.cell? (ad.add (k * 2)) = some (.int .i64 x) ∧ W.cell? ⟨(ad.add (k * 2)).block, (ad.add (k * 2)).off + 1, none⟩ = some (.int .i64 y)) (by kernel_rfl) HS0_ (fun hHeld => ?_)
    refine wpAnyH_take (i := 0) (oi := ⟨some 21, _, _, _, _, _⟩) (v := ?_) rfl (by kernel_rfl) (by kernel_rfl) (by kernel_rfl) (fun _ _ _ h => h) (Or.inl ⟨by rfl, ?_⟩) (by assumption) ?_
    rotate_left 1
    · (intro w hSw; (try dsimp only at hSw); go_simp; try with_reducible rfl)
    try simp only [Act.put, List.setIfInBounds_toArray, List.set_cons_zero, List.set_cons_succ]
    refine wpAnyH_take (i := 1) (oi := ⟨some 22, _, _, _, _, _⟩) (v := ?_) rfl (by kernel_rfl) (by kernel_rfl) (by kernel_rfl) (fun _ _ _ h => h) (Or.inl ⟨by rfl, ?_⟩) (by assumption) ?_
    rotate_left 1
    · (intro w hSw; (try dsimp only at hSw); go_simp; try with_reducible rfl)
    try simp only [Act.put, List.setIfInBounds_toArray, List.set_cons_zero, List.set_cons_succ]
    refine wpAnyH_take (i := 2) (oi := ⟨some 23, _, _, _, _, _⟩) (v := ?_) rfl (by kernel_rfl) (by kernel_rfl) (by kernel_rfl) (fun _ _ _ h => h) (Or.inl ⟨by rfl, ?_⟩) (by assumption) ?_
    rotate_left 1
    · (intro w hSw; (try dsimp only at hSw); go_simp; try with_reducible rfl)
    try simp only [Act.put, List.setIfInBounds_toArray, List.set_cons_zero, List.set_cons_succ]
    refine wpAnyH_take (i := 3) (oi := ⟨some 24, _, _, _, _, _⟩) (v := ?_) rfl (by kernel_rfl) (by kernel_rfl) (by kernel_rfl) (fun _ _ _ h => h) (Or.inl ⟨by rfl, ?_⟩) (by assumption) ?_
    rotate_left 1
    · (intro w hSw; (try dsimp only at hSw); go_simp; try with_reducible rfl)
    try simp only [Act.put, List.setIfInBounds_toArray, List.set_cons_zero, List.set_cons_succ]
    refine wpAnyH_take (i := 4) (oi := ⟨some 25, _, _, _, _, _⟩) (v := ?_) rfl (by kernel_rfl) (by kernel_rfl) (by kernel_rfl) (fun _ _ _ h => h) (Or.inl ⟨by rfl, ?_⟩) (by assumption) ?_
    rotate_left 1
    · (intro w hSw; (try dsimp only at hSw); go_simp; try with_reducible rfl)
    try simp only [Act.put, List.setIfInBounds_toArray, List.set_cons_zero, List.set_cons_succ]
    refine wpAnyH_take (i := 5) (oi := ⟨some 26, _, _, _, _, _⟩) (v := ?_) rfl (by kernel_rfl) (by kernel_rfl) (by kernel_rfl) (fun _ _ _ h => h) (Or.inl ⟨by rfl, ?_⟩) (by assumption) ?_
    rotate_left 1
    · (intro w hSw; (try dsimp only at hSw); go_simp; try with_reducible rfl)
    try simp only [Act.put, List.setIfInBounds_toArray, List.set_cons_zero, List.set_cons_succ]
    refine wpAnyH_take (i := 7) (oi := ⟨some 28, _, _, _, _, _⟩) (v := ?_) rfl (by kernel_rfl) (by kernel_rfl) (by kernel_rfl) (fun _ _ _ h => h) (Or.inl ⟨by rfl, ?_⟩) (by assumption) ?_
    rotate_left 1
    · (intro w hSw; (try dsimp only at hSw); go_simp; try with_reducible rfl)
    try simp only [Act.put, List.setIfInBounds_toArray, List.set_cons_zero, List.set_cons_succ]
    refine wpAnyH_take (i := 8) (oi := ⟨some 29, _, _, _, _, _⟩) (v := ?_) rfl (by kernel_rfl) (by kernel_rfl) (by kernel_rfl) (fun _ _ _ h => h) (Or.inl ⟨by rfl, ?_⟩) (by assumption) ?_
    rotate_left 1
    · (intro w hSw; (try dsimp only at hSw); go_simp; try with_reducible rfl)
    try simp only [Act.put, List.setIfInBounds_toArray, List.set_cons_zero, List.set_cons_succ]
    refine wpAnyH_ready (rs := [6]) (by kernel_rfl) (by simp) ?_
    refine AllReadyH.cons (o := ⟨some 27, _, _, _, _, _⟩) rfl (fun K hK => ?_) ?_
    rotate_left 1
    · exact AllReadyH.nil
    go_simp
    go_at_call 67; refine (QS.out _ (S0_.2.1.wide S0_.2.2.2.2.2.2.size) (S0_.2.2.1.wide S0_.2.2.2.2.2.2.size)).mono ?_; rintro e w3 ⟨A2, c2, rfl, H2, hb2_⟩
    have S3_ := HO _ _ S0_ hb2_
    have HI := ints_own H2 hs
    go_wp2_with fail
    refine hK.out _ _ ⟨S3_.1.1, S3_.2.2.2.1.1, S3_.2.2.2.1.2⟩ (fun hHeld => ?_)
    clear hK K
    refine wpAnyH_ready (rs := [9]) (by kernel_rfl) (by simp) ?_
    refine AllReadyH.cons (o := ⟨some 30, _, _, _, _, _⟩) rfl (fun K hK => ?_) ?_
    rotate_left 1
    · exact AllReadyH.nil
    go_simp
    go_at_call 66; refine (QG.out A2 c2 _ HI).mono ?_; rintro e w4 ⟨rfl, hb3_⟩
    have S4_ := HO _ _ S3_ hb3_
    go_wp2_with fail
    refine hK.out _ _ ⟨S4_.1.1, S4_.2.2.2.1.1, S4_.2.2.2.1.2⟩ (fun hHeld => ?_)
    clear hK K
    refine wpAnyH_take (i := 10) (oi := ⟨some 8, _, _, _, _, _⟩) (v := ?_) rfl (by kernel_rfl) (by kernel_rfl) (by kernel_rfl) (fun _ _ _ h => h) (Or.inl ⟨by rfl, ?_⟩) (by assumption) ?_
    rotate_left 1
    · (intro w hSw; (try dsimp only at hSw); go_simp; try with_reducible rfl)
    try simp only [Act.put, List.setIfInBounds_toArray, List.set_cons_zero, List.set_cons_succ]
    refine wpAnyH_done (by kernel_rfl) ?_ _
    replace S0 := S4_
    obtain ⟨⟨_, _⟩, _, _, ⟨_, _⟩, _, _, _⟩ := id S0
    clear S0_ S3_ S4_ HS0_ HI H2 QS QG hb2_ hb3_
    by_cases hg : g < 0
    · have E := Lib.hid (HF.out hg)
      clear HN HF HW2
      go_wp2_with fail
      go_ret
      exact ⟨ret_i64 E.out.symm, S0.2.2.2.2.2.2⟩
    have HW3 := Lib.hid (HW2.out (by omega))
    clear HF HW2
    go_wp2_with fail
    first
      | exact ⟨⟨k + 1, by omega, by go_num, by rw [HN.out], HW3, S0.1, S0.2.1, S0.2.2.1, S0.2.2.2.2.1, S0.2.2.2.2.2.1, S0.2.2.2.2.2.2⟩, by simp [intOf]; omega⟩
      | (go_roundw <;> first | exact ⟨k + 1, by omega, by go_num, by rw [HN.out], HW3, S0.1, S0.2.1, S0.2.2.1, S0.2.2.2.2.1, S0.2.2.2.2.2.1, S0.2.2.2.2.2.2⟩ | (simp [intOf]; omega))

set_option maxRecDepth 100000 in
set_option maxHeartbeats 6400000 in
theorem watchesAll (A : Option Addr) (n cap : Nat) (B : Option Addr) (m cb : Nat) (w : World) (ps : List (Int × Int)) (hl : ps.length = n) (hn : n ≤ 1048576) (hp : PtsAt w w.heap.size A ps) (qs : List (Int × Int)) (hl2 : qs.length = m) (hn2 : m ≤ 1048576) (hq : PtsAt w w.heap.size B qs) :
    Calls Try.prog 17 #[.agg #[.slice A n cap], .slice B m cb] w fun e w' => e = .returned (.bool (watchB ps qs)) ∧ Below w.heap.size w w' := by
  rw [worst_watch ps qs]
  have Q : Hid (∀ w hp hq, _) := Lib.hid fun w hp hq => worstGap A n cap B m cb w ps hl hn hp qs hl2 hn2 hq
  generalize worstI ps qs = g at *
  go_enter Try.func17, Try.ntmps17
  go_wp2_with fail
  have X0 := Pts.boxR w (.slice A n cap) 30 (k := w.heap.size) (by simp)
  have b0 := PointOk.below1 w (Obj.cells #[.slice A n cap] 30)
  have HO : ∀ W W' : World, (Pts.BoxR W (w.heap.size) (.slice A n cap) ∧ PtsAt W w.heap.size A ps ∧ PtsAt W w.heap.size B qs ∧ Below w.heap.size w W) → Below W.heap.size W W' → (Pts.BoxR W' (w.heap.size) (.slice A n cap) ∧ PtsAt W' w.heap.size A ps ∧ PtsAt W' w.heap.size B qs ∧ Below w.heap.size w W') := fun W W' ⟨h0, x0, x1, hb⟩ h => ⟨h0.later h, x0.later (h.mono hb.size), x1.later (h.mono hb.size), hb.trans (h.mono hb.size)⟩
  have hz0_ : Hid (((w.alloc (Obj.cells #[.slice A n cap] 30))).heap.size = w.heap.size + 1) := Lib.hid (by simp)
  have Y0 : PtsAt ((w.alloc (Obj.cells #[.slice A n cap] 30))) w.heap.size A ps := hp.later b0
  have Y1 : PtsAt ((w.alloc (Obj.cells #[.slice A n cap] 30))) w.heap.size B qs := hq.later b0
  generalize (w.alloc (Obj.cells #[.slice A n cap] 30)) = w0 at X0 Y0 Y1 b0 hz0_ ⊢
  have S0 := (⟨X0, Y0, Y1, b0⟩ : Pts.BoxR w0 (w.heap.size) (.slice A n cap) ∧ PtsAt w0 w.heap.size A ps ∧ PtsAt w0 w.heap.size B qs ∧ Below w.heap.size w w0)
  clear X0 Y0 Y1 b0
  obtain ⟨⟨_, _⟩, _, _, _⟩ := id S0
  refine (Q.out _ (S0.2.1.wide S0.2.2.2.size) (S0.2.2.1.wide S0.2.2.2.size)).mono ?_
  rintro e w1 ⟨rfl, hb_⟩
  replace S0 := HO _ _ S0 hb_
  clear hb_
  obtain ⟨⟨_, _⟩, _, _, _⟩ := id S0
  go_wp2_with fail
  go_ret
  exact ⟨rfl, S0.2.2.2⟩

end Go.Proofs.Ytonbpmabmjhdgac.WorstSpec

