/-
  What SeenOn and LongestGap do, as contracts: what each answers; new memory alone is written.
-/
import Derived.Test.YtonbpmabmjhdgacWalkSpec
import Derived.Test.YtonbpmabmjhdgacGround
import Derived.Test.YtonbpmabmjhdgacLawInts
namespace Go.Proofs.Ytonbpmabmjhdgac.RoundSpec
open Go.RowKit Own PointMath WallMath RoomMath Pts Blk AreaMath PlaceMath FloorMath LineMath CutsMath SightMath KernMath DiagMath PtofMath WalkMath Ints 
open PointOk (ret_bool ret_i64 below1 below2 below3)

theorem infoI : (Try.prog.info? 3).map (fun i => (i.zero, i.size, i.bytes)) = some (some (.int .i64 0), 1, 8) := by kernel_rfl
/-- A row of numbers, as a slice of numbers in memory. -/
theorem ints_own {w : World} {b n c : Nat} {A : Option Addr} {zs : List Int} (h : w.ownsRow b 3 1 (.slice A n c) n (icells zs)) (hz : zs.length = n) : IntsAt w w.heap.size A zs := by
  intro j hj
  have hx : (icells zs)[j]? = some (.int .i64 zs[j]) := icells_at hj
  obtain ⟨g, hA, _, hg, hc, _⟩ := LawInt.own_cellN h (by omega) (j := j) (by rw [h.1]; omega) hx
  subst hA
  exact ⟨_, rfl, hg, by rw [Pts.add_head]; exact hc⟩
set_option maxRecDepth 100000 in
set_option maxHeartbeats 6400000 in
theorem l22Seen (A : Option Addr) (n cap : Nat) (B : Option Addr) (m cb : Nat) (x y : Int) (w : World) (ps : List (Int × Int)) (hl : ps.length = n) (_hn : n ≤ 1048576) (hp : PtsAt w w.heap.size A ps) (qs : List (Int × Int)) (hl2 : qs.length = m) (hn2 : m ≤ 1048576) (hq : PtsAt w w.heap.size B qs) (hall : allIn ps qs = true) (hx : inB ps x y = true) :
    Calls Try.prog 67 #[.agg #[.slice A n cap], .slice B m cb, .agg #[.int .i64 x, .int .i64 y]] w (GivesI 3 w (momL ps qs (x, y))) := by
  obtain ⟨r, hr⟩ : ∃ r, momL ps qs (x, y) = r := ⟨_, rfl⟩
  have HR := Lib.hid hr
  rw [hr]
  clear hr
  obtain ⟨f, hf⟩ : ∃ f : Nat → Bool, (fun k => seesM ps (pt qs k) (x, y)) = f := ⟨_, rfl⟩
  have HE : Hid (thatTo f m = r) := Lib.hid (by rw [← HR.out, ← hf, ← hl2]; rfl)
  have QS : Hid (∀ w hp k hk, _) := Lib.hid fun w hp k (hk : k < m) => SeenSpec.seesIn A n cap (pt qs k).1 (pt qs k).2 x y w ps hl ((allIn_at hall).2 k (by omega)) hx hp
  have HF : Hid (∀ k, seesM ps ((pt qs k).1, (pt qs k).2) (x, y) = f k) := Lib.hid (fun k => by rw [← hf])
  obtain ⟨i0, hi, hz0, hz1, hz2⟩ := info_parts infoI
  clear hf HR
  go_enter Try.func67, Try.ntmps67
  go_wp2_with fail
  have X0 := (Pts.boxR w (.slice A n cap) 30 (k := w.heap.size) (by simp)).alloc (Obj.cells #[.int .i64 x, .int .i64 y] 42)
  have X1 := PointOk.box1 (w.alloc (Obj.cells #[.slice A n cap] 30)) x y 42 (k := w.heap.size + 1) (by simp)
  have b0 := PointOk.below2 w (Obj.cells #[.slice A n cap] 30) (Obj.cells #[.int .i64 x, .int .i64 y] 42)
  have HO : ∀ W W' : World, (Pts.BoxR W (w.heap.size) (.slice A n cap) ∧ PointOk.Box W (w.heap.size + 1) x y ∧ PtsAt W w.heap.size A ps ∧ PtsAt W w.heap.size B qs ∧ Below w.heap.size w W) → Below W.heap.size W W' → (Pts.BoxR W' (w.heap.size) (.slice A n cap) ∧ PointOk.Box W' (w.heap.size + 1) x y ∧ PtsAt W' w.heap.size A ps ∧ PtsAt W' w.heap.size B qs ∧ Below w.heap.size w W') := fun W W' ⟨h0, h1, x0, x1, hb⟩ h => ⟨h0.later h, h1.later h, x0.later (h.mono hb.size), x1.later (h.mono hb.size), hb.trans (h.mono hb.size)⟩
  have hz0_ : Hid ((((w.alloc (Obj.cells #[.slice A n cap] 30)).alloc (Obj.cells #[.int .i64 x, .int .i64 y] 42))).heap.size = w.heap.size + 1 + 1) := Lib.hid (by simp)
  have Y0 : PtsAt (((w.alloc (Obj.cells #[.slice A n cap] 30)).alloc (Obj.cells #[.int .i64 x, .int .i64 y] 42))) w.heap.size A ps := hp.later b0
  have Y1 : PtsAt (((w.alloc (Obj.cells #[.slice A n cap] 30)).alloc (Obj.cells #[.int .i64 x, .int .i64 y] 42))) w.heap.size B qs := hq.later b0
  generalize ((w.alloc (Obj.cells #[.slice A n cap] 30)).alloc (Obj.cells #[.int .i64 x, .int .i64 y] 42)) = w0 at X0 X1 Y0 Y1 b0 hz0_ ⊢
  have S0 := (⟨X0, X1, Y0, Y1, b0⟩ : Pts.BoxR w0 (w.heap.size) (.slice A n cap) ∧ PointOk.Box w0 (w.heap.size + 1) x y ∧ PtsAt w0 w.heap.size A ps ∧ PtsAt w0 w.heap.size B qs ∧ Below w.heap.size w w0)
  clear X0 X1 Y0 Y1 b0
  obtain ⟨⟨_, _⟩, ⟨_, _⟩, _, _, _⟩ := id S0
  have HO2 : ∀ W W' : World, (Pts.BoxR W (w.heap.size) (.slice A n cap) ∧ PointOk.Box W (w.heap.size + 1) x y ∧ PtsAt W w.heap.size A ps ∧ PtsAt W w.heap.size B qs ∧ Below w.heap.size w W) → Below (w.heap.size + 2) W W' → (Pts.BoxR W' (w.heap.size) (.slice A n cap) ∧ PointOk.Box W' (w.heap.size + 1) x y ∧ PtsAt W' w.heap.size A ps ∧ PtsAt W' w.heap.size B qs ∧ Below w.heap.size w W') := fun W W' ⟨h0, h1, h2, h3, hb⟩ h => ⟨⟨(h.cell (by simp)).trans h0.1, trivial⟩, ⟨(h.cell (by simp)).trans h1.1, (h.cell (by simp)).trans h1.2⟩, h2.later (h.mono (by omega)), h3.later (h.mono (by omega)), hb.trans (h.mono (by omega))⟩
  have hz1_ := hz0_.out
  go_loopw [7, 8] (fun v i wr => ∃ k : Nat, k ≤ m ∧ i = .int .i64 k ∧ wr.ownsRow (w.heap.size + 2) 3 1 v (thatTo f k).length (icells (thatTo f k)) ∧ w.heap.size + 2 ≤ wr.heap.size ∧ (Pts.BoxR wr (w.heap.size) (.slice A n cap) ∧ PointOk.Box wr (w.heap.size + 1) x y ∧ PtsAt wr w.heap.size A ps ∧ PtsAt wr w.heap.size B qs ∧ Below w.heap.size w wr))
    (fun _ i _ => m - (intOf i).toNat)
  case atStart => exact ⟨0, Nat.zero_le _, rfl, by have := own_empty w0 3 1; rw [hz1_] at this; exact this, by simp; omega, HO _ _ S0 (below1 _ _)⟩
  case round =>
    clear S0
    obtain ⟨k, hkn, rfl, hown, hsz, S0⟩ := hrel
    obtain ⟨⟨_, _⟩, ⟨_, _⟩, _, _, _⟩ := id S0
    have hlen := thatTo_len f k
    by_cases hlt : k < m
    · have hk1 : (k : Int) < (m : Int) := by omega
      have hk0 : (0 : Int) ≤ (k : Int) := by omega
      have HL : Hid (thatTo f (k + 1) = if f k then thatTo f k ++ [(k : Int)] else thatTo f k) := Lib.hid rfl
      have p0 := pt_at (ps := qs) (k := k) (by omega)
      have Q : Hid (∀ w hp, _) := Lib.hid fun w hp => QS.out w hp k hlt
      rw [HF.out k] at Q
      obtain ⟨gx, gy, hg⟩ : ∃ x y, pt qs k = (x, y) := ⟨_, _, rfl⟩
      rw [hg] at p0 Q
      obtain ⟨bd, eA, bA, pA⟩ := S0.2.2.2.1.get p0
      subst eA
      obtain ⟨o, ho⟩ : ∃ o, f k = o := ⟨_, rfl⟩
      rw [ho] at Q HL
      generalize thatTo f k = l at *
      obtain ⟨q, hm⟩ : ∃ q, l.length = q := ⟨_, rfl⟩
      rw [hm] at hown hlen
      obtain ⟨Ao, co, rfl⟩ := own_shape hown
      clear p0 hg ho
      have HO : ∀ W W' : World, (Pts.BoxR W (w.heap.size) (.slice A n cap) ∧ PointOk.Box W (w.heap.size + 1) x y ∧ PtsAt W w.heap.size A ps ∧ PtsAt W w.heap.size (some bd) qs ∧ PtAt W bd k gx gy ∧ W.ownsRow (w.heap.size + 2) 3 1 (.slice Ao q co) q (icells l) ∧ w.heap.size + 2 ≤ W.heap.size ∧ Below w.heap.size w W) → Below W.heap.size W W' → (Pts.BoxR W' (w.heap.size) (.slice A n cap) ∧ PointOk.Box W' (w.heap.size + 1) x y ∧ PtsAt W' w.heap.size A ps ∧ PtsAt W' w.heap.size (some bd) qs ∧ PtAt W' bd k gx gy ∧ W'.ownsRow (w.heap.size + 2) 3 1 (.slice Ao q co) q (icells l) ∧ w.heap.size + 2 ≤ W'.heap.size ∧ Below w.heap.size w W') := fun W W' ⟨h0, h1, x0, x1, x2, x3, x4, hb⟩ h => ⟨h0.later h, h1.later h, x0.later (h.mono hb.size), x1.later (h.mono hb.size), x2.later bA (h.mono hb.size), own_below x3 h, Nat.le_trans x4 h.size, hb.trans (h.mono hb.size)⟩
      replace S0 : Pts.BoxR wr (w.heap.size) (.slice A n cap) ∧ PointOk.Box wr (w.heap.size + 1) x y ∧ PtsAt wr w.heap.size A ps ∧ PtsAt wr w.heap.size (some bd) qs ∧ PtAt wr bd k gx gy ∧ wr.ownsRow (w.heap.size + 2) 3 1 (.slice Ao q co) q (icells l) ∧ w.heap.size + 2 ≤ wr.heap.size ∧ Below w.heap.size w wr := ⟨S0.1, S0.2.1, S0.2.2.1, S0.2.2.2.1, pA, hown, hsz, S0.2.2.2.2⟩
      clear pA hown hsz QS HF HE
      obtain ⟨⟨_, _⟩, ⟨_, _⟩, _, _, ⟨_, _⟩, _, _, _⟩ := id S0
      go_wp2_with fail
      refine Settle.region (fun W => Pts.BoxR W (w.heap.size) (.slice A n cap) ∧ PointOk.Box W (w.heap.size + 1) x y ∧ PtsAt W w.heap.size A ps ∧ PtsAt W w.heap.size (some bd) qs ∧ PtAt W bd k gx gy ∧ W.ownsRow (w.heap.size + 2) 3 1 (.slice Ao q co) q (icells l) ∧ w.heap.size + 2 ≤ W.heap.size ∧ Below w.heap.size w W) (by kernel_rfl) (by kernel_rfl) (by kernel_rfl) (by kernel_rfl) (HO _ _ S0 ((Below.refl _ _).drew)) ?_
      clear S0
      repeat (first
        | (refine Settle.Settles.off (by rfl) ?_; simp only [Act.put, List.setIfInBounds_toArray, List.set_cons_zero, List.set_cons_succ])
        | (refine Settle.Settles.quiet (v := ?_) (by rfl) ?_ ?_
           rotate_left
           · (intro W hS; obtain ⟨⟨_, _⟩, ⟨_, _⟩, _, _, ⟨_, _⟩, _, _, _⟩ := hS; go_simp; with_reducible rfl)
           simp only [Act.put, List.setIfInBounds_toArray, List.set_cons_zero, List.set_cons_succ])
        | (refine Settle.Settles.call (v := ?_) (f := ?_) (args := ?_) (by rfl) ?_ ?_ ?_
           rotate_left 3
           · (intro W; go_simp; refine ⟨?_, ?_⟩ <;> with_reducible rfl)
           · (intro W hS; first | (go_at_call 77; (with_reducible refine (Q.out _ (hS.2.2.1.wide hS.2.2.2.2.2.2.2.size)).mono ?_); rintro e W1 ⟨rfl, hb⟩; refine ⟨?_, HO _ _ hS hb⟩; with_reducible rfl))
           simp only [Act.put, List.setIfInBounds_toArray, List.set_cons_zero, List.set_cons_succ]))
      refine Settle.Settles.nil ?_
      intro wr S0
      obtain ⟨⟨_, _⟩, ⟨_, _⟩, _, _, ⟨_, _⟩, _, _, _⟩ := id S0
      have hown := S0.2.2.2.2.2.1
      have hsz := S0.2.2.2.2.2.2.1
      cases o
      · have HL2 : Hid (thatTo f (k + 1) = l) := Lib.hid (by rw [HL.out]; rfl)
        replace hown := Lib.hid hown
        clear HL
        go_wp2_with fail
        first
          | exact ⟨⟨k + 1, by omega, by go_num, by rw [HL2.out, hm]; exact hown.out, hsz, S0.1, S0.2.1, S0.2.2.1, S0.2.2.2.1, S0.2.2.2.2.2.2.2⟩, by simp [intOf]; omega⟩
          | (go_roundw <;> first | exact ⟨k + 1, by omega, by go_num, by rw [HL2.out, hm]; exact hown.out, hsz, S0.1, S0.2.1, S0.2.2.1, S0.2.2.2.1, S0.2.2.2.2.2.2.2⟩ | (simp [intOf]; omega))
      · have HL2 : Hid (thatTo f (k + 1) = l ++ [(k : Int)]) := Lib.hid (by rw [HL.out]; rfl)
        clear HL Q
        go_wp2_with (at_builtin; refine wpList_append_own _ rfl _ _ 72 rfl (w.heap.size + 2) 3 i0 (.int .i64 0) 1 8 Try.underlying72 hi hz0 hz1 hz2 rfl (by decide) _ _ _ rfl (hown.alloc _) ⟨wr.heap.size, 0, none⟩ 1 1 [.int .i64 (k : Int)] rfl rfl ?c1 ?c2 ?c3 ?c4 ?c5 ?_)
        case c1 => (intro j u hj; match j, hj with | 0, hj => (simp at hj; subst hj; simp [Addr.add]))
        case c2 => (intro u hu; simp at hu; subst hu; rfl)
        case c3 => (unfold maxLen; omega)
        case c4 => omega
        case c5 => (simp; omega)
        intro v1_ wa_ ho_ hg_ _
        have HN : Hid (wa_.ownsRow (w.heap.size + 2) 3 1 v1_ (thatTo f (k + 1)).length (icells (thatTo f (k + 1))) ∧ w.heap.size + 2 ≤ wa_.heap.size ∧ (Pts.BoxR wa_ (w.heap.size) (.slice A n cap) ∧ PointOk.Box wa_ (w.heap.size + 1) x y ∧ PtsAt wa_ w.heap.size A ps ∧ PtsAt wa_ w.heap.size (some bd) qs ∧ Below w.heap.size w wa_)) := Lib.hid (by
          have hb0 : Below (w.heap.size + 2) wr (wr.alloc (Obj.cells #[.int .i64 (k : Int)] 3)) := (below1 _ _).mono hsz
          have hb1 := hb0.grown hg_ (by simp; omega) (fun g hg => (hown.lt g hg).1)
          rw [HL2.out, icells_snoc, List.length_append, hm]
          exact ⟨ho_, Nat.le_trans hsz hb1.size, HO2 _ _ ⟨S0.1, S0.2.1, S0.2.2.1, S0.2.2.2.1, S0.2.2.2.2.2.2.2⟩ hb1⟩)
        clear ho_ hg_ hown HL2 S0
        go_wp2_with fail
        first
          | exact ⟨⟨k + 1, by omega, by go_num, HN.out.1, HN.out.2.1, HN.out.2.2⟩, by simp [intOf]; omega⟩
          | (go_roundw <;> first | exact ⟨k + 1, by omega, by go_num, HN.out.1, HN.out.2.1, HN.out.2.2⟩ | (simp [intOf]; omega))
    · obtain rfl : m = k := by omega
      rw [HE.out] at hown
      have hown2 := Lib.hid hown
      obtain ⟨A1, c1, rfl⟩ := own_shape hown
      clear hl hl2 hown hlen HE QS HF
      go_wp2_with fail
      go_ret
      exact ⟨A1, c1, rfl, own_base hown2.out (by omega), S0.2.2.2.2⟩

set_option maxRecDepth 100000 in
set_option maxHeartbeats 6400000 in
theorem l22Gap (A : Option Addr) (n c : Nat) (g : Int) (w : World) (l : List Int) (hl : l.length = n) (_hn : n ≤ 1048576) (hg : 0 ≤ g ∧ g ≤ 1048576) (hw : Within l g) (hp : IntsAt w w.heap.size A l) :
    Calls Try.prog 66 #[.slice A n c, .int .i64 g] w fun e w' => e = .returned (.int .i64 (gapI l g)) ∧ Below w.heap.size w w' := by
  obtain ⟨r, hr⟩ : ∃ r, gapI l g = r := ⟨_, rfl⟩
  have HR := Lib.hid hr
  rw [hr]
  clear hr
  by_cases h0 : n = 0
  · subst h0
    have E : Hid (r = -1) := Lib.hid (by rw [← HR.out]; unfold gapI; rw [hl]; rfl)
    go_enter Try.func66, Try.ntmps66
    go_wp2_with fail
    go_ret
    exact ⟨ret_i64 E.out.symm, Below.refl _ _⟩
  have HE : Hid (gapTo l g n = r) := Lib.hid (by rw [← HR.out]; unfold gapI; rw [hl, if_neg h0])
  have hn0 : ¬ ((n : Int) = 0) := by omega
  have g0n : 0 < n := by omega
  have hn1 : (0 : Int) < (n : Int) := by omega
  obtain ⟨j, hj⟩ : ∃ j, n - 1 = j := ⟨_, rfl⟩
  have uj : IntKind.i64.wrap ((n : Int) - 1) = (j : Int) := by rw [IntWalk.i64_in _ (by omega)]; omega
  have hj1 : (j : Int) < (n : Int) := by omega
  have hj0 : (0 : Int) ≤ (j : Int) := by omega
  have b0 := hw 0 (by omega)
  have b1 := hw j (by omega)
  have p0 := at0_at (zs := l) (k := 0) (by omega)
  have p1 := at0_at (zs := l) (k := j) (by omega)
  have HG1 : Hid (gapTo l g 1 = at0 l 0 + g - at0 l j) := Lib.hid (by rw [← hj, ← hl]; rfl)
  have HW := Lib.hid hw
  clear HR hw
  generalize at0 l 0 = a at *
  generalize at0 l j = z at *
  obtain ⟨ad, eA, bA, pA⟩ := hp.get p0
  subst eA
  obtain ⟨ad2, eB, _, pB⟩ := hp.get p1
  injection eB with eB
  subst eB
  replace pA := here pA
  have u1 : IntKind.i64.wrap (a + g) = a + g := IntWalk.i64_in _ (by omega)
  have u2 : IntKind.i64.wrap (a + g - z) = a + g - z := IntWalk.i64_in _ (by omega)
  have HO : ∀ W W' : World, (IntsAt W w.heap.size (some ad) l ∧ IntHere W ad a ∧ IntAt W ad j z ∧ Below w.heap.size w W) → Below W.heap.size W W' → (IntsAt W' w.heap.size (some ad) l ∧ IntHere W' ad a ∧ IntAt W' ad j z ∧ Below w.heap.size w W') := fun W W' ⟨x0, x1, x2, hb⟩ h => ⟨x0.later (h.mono hb.size), x1.later bA (h.mono hb.size), x2.later bA (h.mono hb.size), hb.trans (h.mono hb.size)⟩
  have S0 : IntsAt w w.heap.size (some ad) l ∧ IntHere w ad a ∧ IntAt w ad j z ∧ Below w.heap.size w w := ⟨hp, pA, pB, Below.refl _ _⟩
  clear hp pA pB p0 p1
  obtain ⟨_, ⟨_, _⟩, ⟨_, _⟩, _⟩ := id S0
  go_enter Try.func66, Try.ntmps66
  go_wp2_with fail
  refine Settle.region (fun W => IntsAt W w.heap.size (some ad) l ∧ IntHere W ad a ∧ IntAt W ad j z ∧ Below w.heap.size w W) (by kernel_rfl) (by kernel_rfl) (by kernel_rfl) (by kernel_rfl) (HO _ _ S0 ((Below.refl _ _).drew)) ?_
  clear S0
  repeat (first
    | (refine Settle.Settles.off (by rfl) ?_; simp only [Act.put, List.setIfInBounds_toArray, List.set_cons_zero, List.set_cons_succ])
    | (refine Settle.Settles.quiet (v := ?_) (by rfl) ?_ ?_
       rotate_left
       · (intro W hS; obtain ⟨_, ⟨_, _⟩, ⟨_, _⟩, _⟩ := hS; go_simp; with_reducible rfl)
       simp only [Act.put, List.setIfInBounds_toArray, List.set_cons_zero, List.set_cons_succ])
    | (refine Settle.Settles.call (v := ?_) (f := ?_) (args := ?_) (by rfl) ?_ ?_ ?_
       rotate_left 3
       · (intro W; go_simp; refine ⟨?_, ?_⟩ <;> with_reducible rfl)
       · (intro W hS; fail)
       simp only [Act.put, List.setIfInBounds_toArray, List.set_cons_zero, List.set_cons_succ]))
  refine Settle.Settles.nil ?_
  intro wr S0
  obtain ⟨_, ⟨_, _⟩, ⟨_, _⟩, _⟩ := id S0
  go_wp2_with fail
  replace S0 := (show IntsAt wr w.heap.size (some ad) l ∧ Below w.heap.size w wr from ⟨S0.1, S0.2.2.2⟩)
  clear u1 u2 b0 b1 uj hj1 hj0
  have HO : ∀ W W' : World, (IntsAt W w.heap.size (some ad) l ∧ Below w.heap.size w W) → Below W.heap.size W W' → (IntsAt W' w.heap.size (some ad) l ∧ Below w.heap.size w W') := fun W W' ⟨x0, hb⟩ h => ⟨x0.later (h.mono hb.size), hb.trans (h.mono hb.size)⟩
  go_loopw [5, 6] (fun v q wr => ∃ k : Nat, 1 ≤ k ∧ k ≤ n ∧ q = .int .i64 k ∧ v = .int .i64 (gapTo l g k) ∧ (IntsAt wr w.heap.size (some ad) l ∧ Below w.heap.size w wr))
    (fun _ q _ => n - (intOf q).toNat)
  case atStart => exact ⟨1, Nat.le_refl _, by omega, rfl, by rw [HG1.out], S0⟩
  case round =>
    clear S0
    obtain ⟨k, hk, hkn, rfl, rfl, S0⟩ := hrel
    by_cases hlt : k < n
    rotate_left
    · obtain rfl : n = k := by omega
      rw [HE.out]
      clear hl HE HG1 HW
      go_wp2_with fail
      go_ret
      exact ⟨rfl, S0.2⟩
    have hk1 : (k : Int) < (n : Int) := by omega
    have hk0 : (0 : Int) ≤ (k : Int) := by omega
    obtain ⟨i, hik⟩ : ∃ i, k - 1 = i := ⟨_, rfl⟩
    have ui : IntKind.i64.wrap ((k : Int) - 1) = (i : Int) := by rw [IntWalk.i64_in _ (by omega)]; omega
    have hi1 : (i : Int) < (n : Int) := by omega
    have hi0 : (0 : Int) ≤ (i : Int) := by omega
    have b2 := HW.out k (by omega)
    have b3 := HW.out i (by omega)
    have p0 := at0_at (zs := l) (k := k) (by omega)
    have p1 := at0_at (zs := l) (k := i) (by omega)
    have HN : Hid (gapTo l g (k + 1) = max (gapTo l g k) (at0 l k - at0 l i)) := Lib.hid (by
      show (if k = 0 then _ else max (gapTo l g k) (at0 l k - at0 l (k - 1))) = _
      rw [if_neg (by omega), hik])
    generalize at0 l k = x at *
    generalize at0 l i = y at *
    generalize gapTo l g k = v at *
    obtain ⟨_, eA, _, pA⟩ := S0.1.get p0
    injection eA with eA
    subst eA
    obtain ⟨_, eB, _, pB⟩ := S0.1.get p1
    injection eB with eB
    subst eB
    have u1 : IntKind.i64.wrap (x - y) = x - y := IntWalk.i64_in _ (by omega)
    have HO : ∀ W W' : World, (IntsAt W w.heap.size (some ad) l ∧ IntAt W ad k x ∧ IntAt W ad i y ∧ Below w.heap.size w W) → Below W.heap.size W W' → (IntsAt W' w.heap.size (some ad) l ∧ IntAt W' ad k x ∧ IntAt W' ad i y ∧ Below w.heap.size w W') := fun W W' ⟨x0, x1, x2, hb⟩ h => ⟨x0.later (h.mono hb.size), x1.later bA (h.mono hb.size), x2.later bA (h.mono hb.size), hb.trans (h.mono hb.size)⟩
    replace S0 : IntsAt wr w.heap.size (some ad) l ∧ IntAt wr ad k x ∧ IntAt wr ad i y ∧ Below w.heap.size w wr := ⟨S0.1, pA, pB, S0.2⟩
    clear pA pB p0 p1 HE HG1 HW hl
    obtain ⟨_, ⟨_, _⟩, ⟨_, _⟩, _⟩ := id S0
    go_wp2_with fail
    refine Settle.region (fun W => IntsAt W w.heap.size (some ad) l ∧ IntAt W ad k x ∧ IntAt W ad i y ∧ Below w.heap.size w W) (by kernel_rfl) (by kernel_rfl) (by kernel_rfl) (by kernel_rfl) (HO _ _ S0 ((Below.refl _ _).drew)) ?_
    clear S0
    repeat (first
      | (refine Settle.Settles.off (by rfl) ?_; simp only [Act.put, List.setIfInBounds_toArray, List.set_cons_zero, List.set_cons_succ])
      | (refine Settle.Settles.quiet (v := ?_) (by rfl) ?_ ?_
         rotate_left
         · (intro W hS; obtain ⟨_, ⟨_, _⟩, ⟨_, _⟩, _⟩ := hS; go_simp; with_reducible rfl)
         simp only [Act.put, List.setIfInBounds_toArray, List.set_cons_zero, List.set_cons_succ])
      | (refine Settle.Settles.call (v := ?_) (f := ?_) (args := ?_) (by rfl) ?_ ?_ ?_
         rotate_left 3
         · (intro W; go_simp; refine ⟨?_, ?_⟩ <;> with_reducible rfl)
         · (intro W hS; fail)
         simp only [Act.put, List.setIfInBounds_toArray, List.set_cons_zero, List.set_cons_succ]))
    refine Settle.Settles.nil ?_
    intro wr S0
    obtain ⟨_, ⟨_, _⟩, ⟨_, _⟩, _⟩ := id S0
    go_wp2_with fail
    first
      | exact ⟨⟨k + 1, by omega, by omega, by go_num, by rw [HN.out], S0.1, S0.2.2.2⟩, by simp [intOf]; omega⟩
      | (go_roundw <;> first | exact ⟨k + 1, by omega, by omega, by go_num, by rw [HN.out], S0.1, S0.2.2.2⟩ | (simp [intOf]; omega))

end Go.Proofs.Ytonbpmabmjhdgac.RoundSpec

