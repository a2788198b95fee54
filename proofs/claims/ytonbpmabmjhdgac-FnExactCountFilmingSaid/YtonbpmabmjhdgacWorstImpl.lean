/-
  What WatchesAll, WorstGap and Films do, as contracts: what each answers; new memory alone is written.
-/
import Derived.Test.YtonbpmabmjhdgacRoundImpl
import Derived.Test.YtonbpmabmjhdgacUnImpl
import Derived.Test.YtonbpmabmjhdgacTrackImpl
import Derived.Test.YtonbpmabmjhdgacFiltImpl
import Derived.Test.YtonbpmabmjhdgacFilmMath
namespace Go.Proofs.Ytonbpmabmjhdgac.WorstImpl
open Go.RowKit Own PointMath WallMath RoomMath Pts Blk AreaMath PlaceMath FloorMath LineMath CutsMath SightMath KernMath DiagMath PtofMath WalkMath Ints TrackMath FromImpl
open PointOk (ret_bool ret_i64 below1 below2 below3)
open RoundImpl (ints_own)
open FiltImpl (pts_own)

set_option maxRecDepth 100000 in
set_option maxHeartbeats 6400000 in
theorem films (A : Option Addr) (n cap : Nat) (ax ay rx ry lx ly q x y : Int) (w : World) (ps : List (Int × Int)) (hl : ps.length = n) (hn : n ≤ 1048576) (hp : PtsAt w w.heap.size A ps) :
    Calls Try.prog 28 #[.agg #[.slice A n cap], .agg #[.int .i64 ax, .int .i64 ay, .int .i64 rx, .int .i64 ry, .int .i64 lx, .int .i64 ly, .int .i64 q], .agg #[.int .i64 x, .int .i64 y]] w fun e w' => e = .returned (.bool (FilmMath.filmsB ps ax ay rx ry lx ly q x y)) ∧ Below w.heap.size w w' := by
  obtain ⟨r, hr⟩ : ∃ r, FilmMath.filmsB ps ax ay rx ry lx ly q x y = r := ⟨_, rfl⟩
  have HR := Lib.hid hr
  rw [hr]
  clear hr
  have QS : Hid (∀ w hp, _) := Lib.hid fun w hp => ViewImpl.sees A n cap ax ay x y w ps hl hn hp
  have QF : Hid (∀ w, _) := Lib.hid fun w => TrackImpl.inField ax ay rx ry lx ly q x y w
  go_enter Try.func28, Try.ntmps28
  go_wp2_with fail
  have X0 := ((Pts.boxR w (.slice A n cap) 30 (k := w.heap.size) (by simp)).alloc (Obj.cells #[.int .i64 ax, .int .i64 ay, .int .i64 rx, .int .i64 ry, .int .i64 lx, .int .i64 ly, .int .i64 q] 44)).alloc (Obj.cells #[.int .i64 x, .int .i64 y] 42)
  have X1 := (Tup7.box1 (w.alloc (Obj.cells #[.slice A n cap] 30)) ax ay rx ry lx ly q 44 (k := w.heap.size + 1) (by simp)).alloc (Obj.cells #[.int .i64 x, .int .i64 y] 42)
  have X2 := PointOk.box1 ((w.alloc (Obj.cells #[.slice A n cap] 30)).alloc (Obj.cells #[.int .i64 ax, .int .i64 ay, .int .i64 rx, .int .i64 ry, .int .i64 lx, .int .i64 ly, .int .i64 q] 44)) x y 42 (k := w.heap.size + 1 + 1) (by simp)
  have b0 := PointOk.below3 w (Obj.cells #[.slice A n cap] 30) (Obj.cells #[.int .i64 ax, .int .i64 ay, .int .i64 rx, .int .i64 ry, .int .i64 lx, .int .i64 ly, .int .i64 q] 44) (Obj.cells #[.int .i64 x, .int .i64 y] 42)
  have HO : ∀ W W' : World, (Pts.BoxR W (w.heap.size) (.slice A n cap) ∧ Tup7.Box W (w.heap.size + 1) ax ay rx ry lx ly q ∧ PointOk.Box W (w.heap.size + 1 + 1) x y ∧ PtsAt W w.heap.size A ps ∧ Below w.heap.size w W) → Below W.heap.size W W' → (Pts.BoxR W' (w.heap.size) (.slice A n cap) ∧ Tup7.Box W' (w.heap.size + 1) ax ay rx ry lx ly q ∧ PointOk.Box W' (w.heap.size + 1 + 1) x y ∧ PtsAt W' w.heap.size A ps ∧ Below w.heap.size w W') := fun W W' ⟨h0, h1, h2, x0, hb⟩ h => ⟨h0.later h, h1.later h, h2.later h, x0.later (h.mono hb.size), hb.trans (h.mono hb.size)⟩
  have hz0_ : Hid (((((w.alloc (Obj.cells #[.slice A n cap] 30)).alloc (Obj.cells #[.int .i64 ax, .int .i64 ay, .int .i64 rx, .int .i64 ry, .int .i64 lx, .int .i64 ly, .int .i64 q] 44)).alloc (Obj.cells #[.int .i64 x, .int .i64 y] 42))).heap.size = w.heap.size + 1 + 1 + 1) := Lib.hid (by simp)
  have Y0 : PtsAt ((((w.alloc (Obj.cells #[.slice A n cap] 30)).alloc (Obj.cells #[.int .i64 ax, .int .i64 ay, .int .i64 rx, .int .i64 ry, .int .i64 lx, .int .i64 ly, .int .i64 q] 44)).alloc (Obj.cells #[.int .i64 x, .int .i64 y] 42))) w.heap.size A ps := hp.later b0
  generalize (((w.alloc (Obj.cells #[.slice A n cap] 30)).alloc (Obj.cells #[.int .i64 ax, .int .i64 ay, .int .i64 rx, .int .i64 ry, .int .i64 lx, .int .i64 ly, .int .i64 q] 44)).alloc (Obj.cells #[.int .i64 x, .int .i64 y] 42)) = w0 at X0 X1 X2 Y0 b0 hz0_ ⊢
  have S0 := (⟨X0, X1, X2, Y0, b0⟩ : Pts.BoxR w0 (w.heap.size) (.slice A n cap) ∧ Tup7.Box w0 (w.heap.size + 1) ax ay rx ry lx ly q ∧ PointOk.Box w0 (w.heap.size + 1 + 1) x y ∧ PtsAt w0 w.heap.size A ps ∧ Below w.heap.size w w0)
  clear X0 X1 X2 Y0 b0
  obtain ⟨⟨_, _⟩, ⟨_, _, _, _, _, _, _⟩, ⟨_, _⟩, _, _⟩ := id S0
  refine (QF.out _).mono ?_
  rintro e w1 ⟨rfl, hb_⟩
  replace S0 := HO _ _ S0 hb_
  clear hb_
  obtain ⟨⟨_, _⟩, ⟨_, _, _, _, _, _, _⟩, ⟨_, _⟩, _, _⟩ := id S0
  cases hf : fieldB ax ay rx ry lx ly q x y
  · have E : Hid (r = false) := Lib.hid (by rw [← HR.out]; unfold FilmMath.filmsB; rw [hf]; rfl)
    clear hl HR QS
    go_wp2_with fail
    go_ret
    exact ⟨ret_bool E.out.symm, S0.2.2.2.2⟩
  have E : Hid (seesB ps ax ay x y = r) := Lib.hid (by rw [← HR.out]; unfold FilmMath.filmsB; rw [hf]; rfl)
  rw [E.out] at QS
  clear hl HR
  go_wp2_with fail
  refine (QS.out _ (S0.2.2.2.1.wide S0.2.2.2.2.size)).mono ?_
  rintro e w2 ⟨rfl, hb_⟩
  replace S0 := HO _ _ S0 hb_
  clear hb_
  obtain ⟨⟨_, _⟩, ⟨_, _, _, _, _, _, _⟩, ⟨_, _⟩, _, _⟩ := id S0
  go_wp2_with fail
  go_ret
  exact ⟨rfl, S0.2.2.2.2⟩

set_option maxRecDepth 100000 in
set_option maxHeartbeats 6400000 in
theorem watchesAll (A : Option Addr) (n cap : Nat) (B : Option Addr) (m cb : Nat) (w : World) (ps : List (Int × Int)) (hl : ps.length = n) (hn : n ≤ 1048576) (hp : PtsAt w w.heap.size A ps) (qs : List (Int × Int)) (hl2 : qs.length = m) (hn2 : m ≤ 1048576) (hq : PtsAt w w.heap.size B qs) :
    Calls Try.prog 20 #[.agg #[.slice A n cap], .slice B m cb] w fun e w' => e = .returned (.bool (watchB ps qs)) ∧ Below w.heap.size w w' := by
  obtain ⟨r, hr⟩ : ∃ r, watchB ps qs = r := ⟨_, rfl⟩
  have HR := Lib.hid hr
  rw [hr]
  clear hr
  have Q : Hid (∀ w hp hq, _) := Lib.hid fun w hp hq => UnImpl.seesAll A n cap B m cb w ps hl hn hp qs hl2 hn2 hq
  go_enter Try.func20, Try.ntmps20
  go_wp2_with fail
  have X0 := Pts.boxR w (.slice A n cap) 30 (k := w.heap.size) (by simp)
  have b0 := PointOk.below1 w (Obj.cells #[.slice A n cap] 30)
  have HO : ∀ W W' : World, (Pts.BoxR W (w.heap.size) (.slice A n cap) ∧ PtsAt W w.heap.size A ps ∧ PtsAt W w.heap.size B qs ∧ Below w.heap.size w W) → Below W.heap.size W W' → (Pts.BoxR W' (w.heap.size) (.slice A n cap) ∧ PtsAt W' w.heap.size A ps ∧ PtsAt W' w.heap.size B qs ∧ Below w.heap.size w W') := fun W W' ⟨h0, x0, x1, hb⟩ h => ⟨h0.later h, x0.later (h.mono hb.size), x1.later (h.mono hb.size), hb.trans (h.mono hb.size)⟩
  have hz0_ : Hid (((w.alloc (Obj.cells #[.slice A n cap] 30))).heap.size = w.heap.size + 1) := Lib.hid (by simp)
  have Y0 : PtsAt ((w.alloc (Obj.cells #[.slice A n cap] 30))) w.heap.size A ps := hp.later b0
  have Y1 : PtsAt ((w.alloc (Obj.cells #[.slice A n cap] 30))) w.heap.size B qs := hq.later b0
  generalize (w.alloc (Obj.cells #[.slice A n cap] 30)) = w0 at X0 Y0 Y1 b0 hz0_ ⊢
  have S0 := (⟨X0, Y0, Y1, b0⟩ : Pts.BoxR w0 (w.heap.size) (.slice A n cap) ∧ PtsAt w0 w.heap.size A ps ∧ PtsAt w0 w.heap.size B qs ∧ Below w.heap.size w w0)
  clear X0 Y0 Y1 b0
  obtain ⟨⟨_, _⟩, _, _, _⟩ := id S0
  refine (WalkImpl.patrolOk A n cap B m cb _ ps hl hn (S0.2.1.wide S0.2.2.2.size) qs hl2 hn2 (S0.2.2.1.wide S0.2.2.2.size)).mono ?_
  rintro e w1 ⟨rfl, hb_⟩
  replace S0 := HO _ _ S0 hb_
  clear hb_
  obtain ⟨⟨_, _⟩, _, _, _⟩ := id S0
  cases hv : patrolB ps qs
  · have E : Hid (r = false) := Lib.hid (by rw [← HR.out]; unfold watchB; rw [hv]; rfl)
    clear hl hl2 HR hv
    go_wp2_with fail
    go_ret
    exact ⟨ret_bool E.out.symm, S0.2.2.2⟩
  have E : Hid (seesAllB ps qs = r) := Lib.hid (by rw [← HR.out]; unfold watchB; rw [watch_sees hv, hv]; rfl)
  rw [E.out] at Q
  clear HR hv E
  go_wp2_with fail
  refine (Q.out _ (S0.2.1.wide S0.2.2.2.size) (S0.2.2.1.wide S0.2.2.2.size)).mono ?_
  rintro e w2 ⟨rfl, hb_⟩
  replace S0 := HO _ _ S0 hb_
  clear hb_
  obtain ⟨⟨_, _⟩, _, _, _⟩ := id S0
  go_wp2_with fail
  go_ret
  exact ⟨rfl, S0.2.2.2⟩

set_option maxRecDepth 100000 in
set_option maxHeartbeats 6400000 in
theorem worstGap (A : Option Addr) (n cap : Nat) (B : Option Addr) (m cb : Nat) (w : World) (ps : List (Int × Int)) (hl : ps.length = n) (hn : n ≤ 1048576) (hp : PtsAt w w.heap.size A ps) (qs : List (Int × Int)) (hl2 : qs.length = m) (hn2 : m ≤ 1048576) (hq : PtsAt w w.heap.size B qs) :
    Calls Try.prog 24 #[.agg #[.slice A n cap], .slice B m cb] w fun e w' => e = .returned (.int .i64 (worstI ps qs)) ∧ Below w.heap.size w w' := by
  obtain ⟨r, hr⟩ : ∃ r, worstI ps qs = r := ⟨_, rfl⟩
  have HR := Lib.hid hr
  rw [hr]
  clear hr
  go_enter Try.func24, Try.ntmps24
  go_wp2_with fail
  have X0 := Pts.boxR w (.slice A n cap) 30 (k := w.heap.size) (by simp)
  have b0 := PointOk.below1 w (Obj.cells #[.slice A n cap] 30)
  have HO : ∀ W W' : World, (Pts.BoxR W (w.heap.size) (.slice A n cap) ∧ PtsAt W w.heap.size A ps ∧ PtsAt W w.heap.size B qs ∧ Below w.heap.size w W) → Below W.heap.size W W' → (Pts.BoxR W' (w.heap.size) (.slice A n cap) ∧ PtsAt W' w.heap.size A ps ∧ PtsAt W' w.heap.size B qs ∧ Below w.heap.size w W') := fun W W' ⟨h0, x0, x1, hb⟩ h => ⟨h0.later h, x0.later (h.mono hb.size), x1.later (h.mono hb.size), hb.trans (h.mono hb.size)⟩
  have hz0_ : Hid (((w.alloc (Obj.cells #[.slice A n cap] 30))).heap.size = w.heap.size + 1) := Lib.hid (by simp)
  have Y0 : PtsAt ((w.alloc (Obj.cells #[.slice A n cap] 30))) w.heap.size A ps := hp.later b0
  have Y1 : PtsAt ((w.alloc (Obj.cells #[.slice A n cap] 30))) w.heap.size B qs := hq.later b0
  generalize (w.alloc (Obj.cells #[.slice A n cap] 30)) = w0 at X0 Y0 Y1 b0 hz0_ ⊢
  have S0 := (⟨X0, Y0, Y1, b0⟩ : Pts.BoxR w0 (w.heap.size) (.slice A n cap) ∧ PtsAt w0 w.heap.size A ps ∧ PtsAt w0 w.heap.size B qs ∧ Below w.heap.size w w0)
  clear X0 Y0 Y1 b0
  obtain ⟨⟨_, _⟩, _, _, _⟩ := id S0
  refine (watchesAll A n cap B m cb _ ps hl hn (S0.2.1.wide S0.2.2.2.size) qs hl2 hn2 (S0.2.2.1.wide S0.2.2.2.size)).mono ?_
  rintro e w1 ⟨rfl, hb_⟩
  replace S0 := HO _ _ S0 hb_
  clear hb_
  obtain ⟨⟨_, _⟩, _, _, _⟩ := id S0
  cases hv : watchB ps qs
  · have E : Hid (r = -1) := Lib.hid (by
      rw [← HR.out]; unfold worstI
      unfold watchB at hv
      rw [hv]; rfl)
    clear hl hl2 HR hv
    go_wp2_with fail
    go_ret
    exact ⟨ret_i64 E.out.symm, S0.2.2.2⟩
  have hpat : patrolB ps qs = true := by unfold watchB at hv; rw [Bool.and_eq_true] at hv; exact hv.1
  have hall := (walk_parts (patrol_parts hpat).2).1
  have HE : Hid (worstTo ps qs (floorL ps) (floorL ps).length = r) := Lib.hid (by rw [← HR.out]; unfold worstI; unfold watchB at hv; rw [hv]; rfl)
  have hin : Hid (∀ k, k < (floorL ps).length → inB ps (pt (floorL ps) k).1 (pt (floorL ps) k).2 = true) := Lib.hid (fun k hk => floorL_in (pt_mem hk))
  have hle := floorL_le ps
  have hy := roomB_yes (allIn_at hall).1
  have hn10 : n ≤ 10 := by omega
  have hok := Lib.hid hy.2.1
  have QL : Hid (∀ w hp, _) := Lib.hid fun w hp => FloorImpl.floorPoints A n cap w ps hl hn hp
  unfold GivesC at QL
  clear HR hv hy hpat
  generalize floorL ps = l at *
  obtain ⟨q, hq_⟩ : ∃ q, l.length = q := ⟨_, rfl⟩
  rw [hq_] at QL hle hin HE
  go_wp2_with fail
  refine (QL.out _ (S0.2.1.wide S0.2.2.2.size)).mono ?_
  rintro e w3 ⟨Al, cl, rfl, HL, hb_⟩
  replace S0 := HO _ _ S0 hb_
  have HP := pts_own HL
  clear hb_ QL HL
  obtain ⟨KW, hKW⟩ : ∃ K, w3.heap.size = K := ⟨_, rfl⟩
  rw [hKW] at HP
  have HO : ∀ W W' : World, (BoxR W w.heap.size (.slice A n cap) ∧ PtsAt W w.heap.size A ps ∧ PtsAt W w.heap.size B qs ∧ PtsAt W KW Al l ∧ KW ≤ W.heap.size ∧ Below w.heap.size w W) → Below W.heap.size W W' → (BoxR W' w.heap.size (.slice A n cap) ∧ PtsAt W' w.heap.size A ps ∧ PtsAt W' w.heap.size B qs ∧ PtsAt W' KW Al l ∧ KW ≤ W'.heap.size ∧ Below w.heap.size w W') := fun W W' ⟨x0, x1, x2, x3, x4, hb⟩ h => ⟨x0.later h, x1.later (h.mono hb.size), x2.later (h.mono hb.size), x3.later (h.mono x4), Nat.le_trans x4 h.size, hb.trans (h.mono hb.size)⟩
  have S1 : BoxR w3 w.heap.size (.slice A n cap) ∧ PtsAt w3 w.heap.size A ps ∧ PtsAt w3 w.heap.size B qs ∧ PtsAt w3 KW Al l ∧ KW ≤ w3.heap.size ∧ Below w.heap.size w w3 := ⟨S0.1, S0.2.1, S0.2.2.1, HP, Nat.le_of_eq hKW.symm, S0.2.2.2⟩
  clear S0 HP hKW
  have S0 := S1
  clear S1
  obtain ⟨⟨_, _⟩, _, _, _, _, _⟩ := id S0
  go_wp2_with fail
  go_loopw [5, 15] (fun v kq wr => ∃ k : Nat, k ≤ q ∧ kq = .int .i64 k ∧ v = .int .i64 (worstTo ps qs l k) ∧ (BoxR wr w.heap.size (.slice A n cap) ∧ PtsAt wr w.heap.size A ps ∧ PtsAt wr w.heap.size B qs ∧ PtsAt wr KW Al l ∧ KW ≤ wr.heap.size ∧ Below w.heap.size w wr))
    (fun _ kq _ => q - (intOf kq).toNat)
  case atStart => exact ⟨0, Nat.zero_le _, rfl, rfl, S0⟩
  case round =>
    clear S0
    obtain ⟨k, hkq, rfl, rfl, S0⟩ := hrel
    obtain ⟨⟨_, _⟩, _, _, _, _, _⟩ := id S0
    by_cases hlt : k < q
    rotate_left
    · obtain rfl : q = k := by omega
      rw [HE.out]
      clear hl hl2 HE hin hall
      go_wp2_with fail
      go_ret
      exact ⟨rfl, S0.2.2.2.2.2⟩
    have hk1 : (k : Int) < (q : Int) := by omega
    have hk0 : (0 : Int) ≤ (k : Int) := by omega
    have p0 := pt_at (ps := l) (k := k) (by omega)
    have in0 := hin.out k hlt
    have HN : Hid (worstTo ps qs l (k + 1) = max (worstTo ps qs l k) (gapAt ps qs (pt l k))) := Lib.hid rfl
    obtain ⟨x, y, hx⟩ : ∃ x y, pt l k = (x, y) := ⟨_, _, rfl⟩
    rw [hx] at p0 in0 HN
    have QF : Hid (∀ w hp, _) := Lib.hid fun w hp => sightFrom A n cap x y w ps hl hn10 hok.out hp
    unfold Asks at QF
    have QA : Hid (∀ C1 C2 Ad cd w h1 h2 hq k (hk : k < m), _) := Lib.hid fun C1 C2 Ad cd w h1 h2 hq k (hk : k < m) => asks x y (pt qs k).1 (pt qs k).2 C1 C2 Ad n cd w ps hl in0 ((allIn_at hall).2 k (by omega)) h1 h2 hq
    have HM : Hid (gapI (thatTo (fun k => seesM ps (x, y) ((pt qs k).1, (pt qs k).2)) m) (m : Int) = gapAt ps qs (x, y)) := Lib.hid (by unfold gapAt; rw [mom_swap (allIn_at hall).1, hl2])
    generalize gapAt ps qs (x, y) = g at *
    generalize worstTo ps qs l k = v at *
    obtain ⟨ad, eA, bA, pA⟩ := S0.2.2.2.1.get p0
    subst eA
    have X3 := PointOk.box1 wr x y 42 (k := wr.heap.size) rfl
    obtain ⟨_, _⟩ := id pA
    have b1_ := below1 wr (Obj.cells #[.int .i64 x, .int .i64 y] 42)
    have HO : ∀ W W' : World, (BoxR W w.heap.size (.slice A n cap) ∧ PtsAt W w.heap.size A ps ∧ PtsAt W w.heap.size B qs ∧ PtsAt W KW (some ad) l ∧ KW ≤ W.heap.size ∧ Below w.heap.size w W) → Below W.heap.size W W' → (BoxR W' w.heap.size (.slice A n cap) ∧ PtsAt W' w.heap.size A ps ∧ PtsAt W' w.heap.size B qs ∧ PtsAt W' KW (some ad) l ∧ KW ≤ W'.heap.size ∧ Below w.heap.size w W') := fun W W' ⟨x0, x1, x2, x3, x4, hb⟩ h => ⟨x0.later h, x1.later (h.mono hb.size), x2.later (h.mono hb.size), x3.later (h.mono x4), Nat.le_trans x4 h.size, hb.trans (h.mono hb.size)⟩
    replace S0 := HO _ _ S0 b1_
    obtain ⟨⟨_, _⟩, _, _, _, _, _⟩ := id S0
    obtain ⟨_, _⟩ := id X3
    obtain ⟨kb, hkb⟩ : ∃ K, wr.heap.size = K := ⟨_, rfl⟩
    rw [hkb] at X3
    clear pA p0 hx hin HE b1_
    go_wp2_with fail
    generalize wr.alloc (Obj.cells #[.int .i64 x, .int .i64 y] 42) = v1 at *
    try rw [hkb]
    clear hkb
    obtain ⟨⟨_, _⟩, _, _, _, _, _⟩ := id S0
    refine (QF.out _ (S0.2.1.wide S0.2.2.2.2.2.size)).mono ?_
    rintro e w5 ⟨C1, C2, Ad, cd, rfl, h1_, h2_, hq2_, hb_⟩
    replace S0 := HO _ _ S0 hb_
    clear hb_ QF X3
    have QM := Lib.hid fun hp eF Q => RoundImpl.gapOf 117 #[.pointer (some ⟨C1, 0, none⟩), .pointer (some ⟨C2, 0, none⟩)] (fun k => seesM ps (x, y) ((pt qs k).1, (pt qs k).2)) B m cb w5 qs hl2 (by omega) hp eF Q
    rw [HM.out] at QM
    go_wp2_with fail
    refine (QM.out (S0.2.2.1.wide S0.2.2.2.2.2.size) Try.call117 (fun W k hk hb => QA.out C1 C2 Ad cd W (h1_.later hb) (h2_.later hb) ((hq2_.later hb).wide hb.size) k hk)).mono ?_
    rintro e w6 ⟨rfl, hb_⟩
    replace S0 := HO _ _ S0 hb_
    clear hb_ QM QA HM h1_ h2_ hq2_
    obtain ⟨⟨_, _⟩, _, _, _, _, _⟩ := id S0
    go_wp2_with fail
    first
      | exact ⟨⟨k + 1, by omega, by go_num, by rw [HN.out], S0.1, S0.2.1, S0.2.2.1, S0.2.2.2.1, S0.2.2.2.2.1, S0.2.2.2.2.2⟩, by simp [intOf]; omega⟩
      | (go_roundw <;> first | exact ⟨k + 1, by omega, by go_num, by rw [HN.out], S0.1, S0.2.1, S0.2.2.1, S0.2.2.2.1, S0.2.2.2.2.1, S0.2.2.2.2.2⟩ | (simp [intOf]; omega))

end Go.Proofs.Ytonbpmabmjhdgac.WorstImpl

