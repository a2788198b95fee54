/-
  What the model's AreApart does, as a contract: what it answers; new memory alone is written.
-/
import Derived.Test.YtaphdannaaiidaaBlockSpec
import Derived.Test.YtaphdannaaiidaaFloorSpec
import Derived.Test.YtaphdannaaiidaaApartMath
import Derived.Test.YtaphdannaaiidaaLawInt
namespace Go.Proofs.Ytaphdannaaiidaa.ApartSpec
open Go.RowKit Own PointMath WallMath RoomMath Pts Blk AreaMath PlaceMath FloorMath ApartMath
open PointOk (ret_bool ret_i64 below1 below2 below3)

theorem pts_of_own {w : World} {b e n c : Nat} {A : Option Addr} {ps : List (Int × Int)} (h : w.ownsRow b e 2 (.slice A n c) n (cellsP ps)) : PtsAt w w.heap.size A ps := by
  obtain ⟨A2, c2, e2, _, hp⟩ := LawInt.own_pts h
  injection e2 with e2 e3 e4
  subst e2
  exact hp

set_option maxRecDepth 100000 in
set_option maxHeartbeats 1600000 in
theorem free (B : Option Addr) (m cb : Nat) (F : Option Addr) (k0 cf : Nat) (w : World) (qs : List (Int × Int)) (hl2 : qs.length = m) (hn2 : m ≤ 1048576) (hs2 : smAll qs) (hq : PtsAt w w.heap.size B qs) (l : List (Int × Int)) (hk : l.length = k0) (hk0 : k0 ≤ 1048576) (hsl : smAll l) (hF : PtsAt w w.heap.size F l) :
    Calls Try.prog 64 #[.agg #[.slice B m cb], .slice F k0 cf] w fun e w' => e = .returned (.bool (!reachB qs l)) ∧ Below w.heap.size w w' := by
  obtain ⟨r, hr⟩ : ∃ r, (!reachB qs l) = r := ⟨_, rfl⟩
  have HR := Lib.hid hr
  rw [hr]
  clear hr
  go_enter Try.func64, Try.ntmps64
  go_wp2_with fail
  have X0 := Pts.boxR w (.slice B m cb) 33 (k := w.heap.size) (by simp)
  have b0 := PointOk.below1 w (Obj.cells #[.slice B m cb] 33)
  have HO : ∀ W W' : World, (Pts.BoxR W (w.heap.size) (.slice B m cb) ∧ PtsAt W w.heap.size B qs ∧ PtsAt W w.heap.size F l ∧ Below w.heap.size w W) → Below W.heap.size W W' → (Pts.BoxR W' (w.heap.size) (.slice B m cb) ∧ PtsAt W' w.heap.size B qs ∧ PtsAt W' w.heap.size F l ∧ Below w.heap.size w W') := fun W W' ⟨h0, x0, x1, hb⟩ h => ⟨h0.later h, x0.later (h.mono hb.size), x1.later (h.mono hb.size), hb.trans (h.mono hb.size)⟩
  have hz0_ : Hid (((w.alloc (Obj.cells #[.slice B m cb] 33))).heap.size = w.heap.size + 1) := Lib.hid (by simp)
  have Y0 : PtsAt ((w.alloc (Obj.cells #[.slice B m cb] 33))) w.heap.size B qs := hq.later b0
  have Y1 : PtsAt ((w.alloc (Obj.cells #[.slice B m cb] 33))) w.heap.size F l := hF.later b0
  generalize (w.alloc (Obj.cells #[.slice B m cb] 33)) = w0 at X0 Y0 Y1 b0 hz0_ ⊢
  have S0 := (⟨X0, Y0, Y1, b0⟩ : Pts.BoxR w0 (w.heap.size) (.slice B m cb) ∧ PtsAt w0 w.heap.size B qs ∧ PtsAt w0 w.heap.size F l ∧ Below w.heap.size w w0)
  clear X0 Y0 Y1 b0
  obtain ⟨⟨_, _⟩, _, _, _⟩ := id S0
  go_loopw [5] (fun i wr => ∃ k : Nat, k ≤ k0 ∧ i = .int .i64 k ∧ Hid (∀ j, j < k → placeM qs (pt l j) ≠ 2) ∧ (Pts.BoxR wr (w.heap.size) (.slice B m cb) ∧ PtsAt wr w.heap.size B qs ∧ PtsAt wr w.heap.size F l ∧ Below w.heap.size w wr))
    (fun i _ => k0 - (intOf i).toNat)
  case atStart => exact ⟨0, Nat.zero_le _, rfl, Lib.hid (fun j hj => absurd hj (by omega)), S0⟩
  case round =>
    clear S0
    obtain ⟨k, hkn, rfl, hno, S0⟩ := hrel
    obtain ⟨⟨_, _⟩, _, _, _⟩ := id S0
    by_cases hlt : k < k0
    · have hk1 : (k : Int) < (k0 : Int) := by omega
      have hk0' : (0 : Int) ≤ (k : Int) := by omega
      have p1 := pt_at (ps := l) (k := k) (by omega)
      have sp := hsl k (by omega)
      obtain ⟨x, y, hx⟩ : ∃ x y, pt l k = (x, y) := ⟨_, _, rfl⟩
      have HK : Hid (placeM qs (pt l k) = placeM qs (x, y)) := Lib.hid (by rw [hx])
      rw [hx] at p1 sp
      obtain ⟨ad, eA, bA, pA⟩ := S0.2.2.1.get p1
      subst eA
      have Q : Hid (∀ w hq, _) := Lib.hid fun w hq => PlaceSpec.holds B m cb x y w qs hl2 hn2 hs2 sp hq
      have hq3 := placeM_cases qs (x, y)
      generalize placeM qs (x, y) = v at *
      obtain ⟨u, hu⟩ : ∃ u, v - 1 = u := ⟨_, rfl⟩
      rw [hu] at Q
      clear p1 hx sp
      have HO : ∀ W W' : World, (Pts.BoxR W (w.heap.size) (.slice B m cb) ∧ PtsAt W w.heap.size B qs ∧ PtsAt W w.heap.size (some ad) l ∧ PtAt W ad k x y ∧ Below w.heap.size w W) → Below W.heap.size W W' → (Pts.BoxR W' (w.heap.size) (.slice B m cb) ∧ PtsAt W' w.heap.size B qs ∧ PtsAt W' w.heap.size (some ad) l ∧ PtAt W' ad k x y ∧ Below w.heap.size w W') := fun W W' ⟨h0, x0, x1, x2, hb⟩ h => ⟨h0.later h, x0.later (h.mono hb.size), x1.later (h.mono hb.size), x2.later bA (h.mono hb.size), hb.trans (h.mono hb.size)⟩
      replace S0 : Pts.BoxR wr (w.heap.size) (.slice B m cb) ∧ PtsAt wr w.heap.size B qs ∧ PtsAt wr w.heap.size (some ad) l ∧ PtAt wr ad k x y ∧ Below w.heap.size w wr := ⟨S0.1, S0.2.1, S0.2.2.1, pA, S0.2.2.2⟩
      clear pA
      obtain ⟨⟨_, _⟩, _, _, ⟨_, _⟩, _⟩ := id S0
      go_wp2_with fail
      refine Settle.region (fun W => Pts.BoxR W (w.heap.size) (.slice B m cb) ∧ PtsAt W w.heap.size B qs ∧ PtsAt W w.heap.size (some ad) l ∧ PtAt W ad k x y ∧ Below w.heap.size w W) (by kernel_rfl) (by kernel_rfl) (by kernel_rfl) (by kernel_rfl) (HO _ _ S0 ((Below.refl _ _).drew)) ?_
      clear S0
      repeat (first
        | (refine Settle.Settles.off (by rfl) ?_; simp only [Act.put, List.setIfInBounds_toArray, List.set_cons_zero, List.set_cons_succ])
        | (refine Settle.Settles.quiet (v := ?_) (by rfl) ?_ ?_
           rotate_left
           · (intro W hS; obtain ⟨⟨_, _⟩, _, _, ⟨_, _⟩, _⟩ := hS; go_simp; with_reducible rfl)
           simp only [Act.put, List.setIfInBounds_toArray, List.set_cons_zero, List.set_cons_succ])
        | (refine Settle.Settles.call (v := ?_) (f := ?_) (args := ?_) (by rfl) ?_ ?_ ?_
           rotate_left 3
           · (intro W; go_simp; refine ⟨?_, ?_⟩ <;> with_reducible rfl)
           · (intro W hS; first | (go_at_call 94; (with_reducible refine (Q.out _ (hS.2.1.wide hS.2.2.2.2.size)).mono ?_); rintro e W1 ⟨rfl, hb⟩; refine ⟨?_, HO _ _ hS hb⟩; with_reducible rfl))
           simp only [Act.put, List.setIfInBounds_toArray, List.set_cons_zero, List.set_cons_succ]))
      refine Settle.Settles.nil ?_
      intro wr S0
      obtain ⟨⟨_, _⟩, _, _, ⟨_, _⟩, _⟩ := id S0
      by_cases h2 : v = 2
      · have hu0 : 0 < u := by omega
        have E : Hid (r = false) := Lib.hid (by rw [← HR.out, reach_at (k := k) (by omega) (by rw [HK.out]; exact h2)]; rfl)
        clear HR hno HK hu hq3 h2 hk hl2
        go_wp2_with fail
        go_ret
        exact ⟨ret_bool E.out.symm, S0.2.2.2.2⟩
      · have hu0 : ¬ 0 < u := by omega
        have hno2 : Hid (∀ j, j < k + 1 → placeM qs (pt l j) ≠ 2) := Lib.hid (by
          intro j hj
          rcases Nat.lt_or_ge j k with h | h
          · exact hno.out j h
          · obtain rfl : j = k := by omega
            rw [HK.out]; exact h2)
        clear HR hno HK hu hq3 h2 hk hl2
        go_wp2_with fail
        first
          | exact ⟨⟨k + 1, by omega, by go_num, hno2, S0.1, S0.2.1, S0.2.2.1, S0.2.2.2.2⟩, by simp [intOf]; omega⟩
          | (go_roundw <;> first | exact ⟨k + 1, by omega, by go_num, hno2, S0.1, S0.2.1, S0.2.2.1, S0.2.2.2.2⟩ | (simp [intOf]; omega))
    · obtain rfl : k0 = k := by omega
      have E : Hid (r = true) := Lib.hid (by rw [← HR.out, reach_of (by rw [hk]; exact hno.out)]; rfl)
      clear hk hl2 HR hno
      go_wp2_with fail
      go_ret
      exact ⟨ret_bool E.out.symm, S0.2.2.2⟩

set_option maxRecDepth 100000 in
set_option maxHeartbeats 4000000 in
theorem areApart (A : Option Addr) (n ca : Nat) (B : Option Addr) (m cb : Nat) (w : World) (ps : List (Int × Int)) (hl : ps.length = n) (hn : n ≤ 1048576) (hp : PtsAt w w.heap.size A ps) (qs : List (Int × Int)) (hl2 : qs.length = m) (hn2 : m ≤ 1048576) (hq : PtsAt w w.heap.size B qs) :
    Calls Try.prog 24 #[.agg #[.slice A n ca], .agg #[.slice B m cb]] w fun e w' => e = .returned (.bool (apartB ps qs)) ∧ Below w.heap.size w w' := by
  obtain ⟨r, hr⟩ : ∃ r, apartB ps qs = r := ⟨_, rfl⟩
  have HR := Lib.hid hr
  rw [hr]
  clear hr
  go_enter Try.func24, Try.ntmps24
  go_wp2_with fail
  have X0 := (Pts.boxR w (.slice A n ca) 33 (k := w.heap.size) (by simp)).alloc (Obj.cells #[.slice B m cb] 33)
  have X1 := Pts.boxR (w.alloc (Obj.cells #[.slice A n ca] 33)) (.slice B m cb) 33 (k := w.heap.size + 1) (by simp)
  have b0 := PointOk.below2 w (Obj.cells #[.slice A n ca] 33) (Obj.cells #[.slice B m cb] 33)
  have HO : ∀ W W' : World, (Pts.BoxR W (w.heap.size) (.slice A n ca) ∧ Pts.BoxR W (w.heap.size + 1) (.slice B m cb) ∧ PtsAt W w.heap.size A ps ∧ PtsAt W w.heap.size B qs ∧ Below w.heap.size w W) → Below W.heap.size W W' → (Pts.BoxR W' (w.heap.size) (.slice A n ca) ∧ Pts.BoxR W' (w.heap.size + 1) (.slice B m cb) ∧ PtsAt W' w.heap.size A ps ∧ PtsAt W' w.heap.size B qs ∧ Below w.heap.size w W') := fun W W' ⟨h0, h1, x0, x1, hb⟩ h => ⟨h0.later h, h1.later h, x0.later (h.mono hb.size), x1.later (h.mono hb.size), hb.trans (h.mono hb.size)⟩
  have hz0_ : Hid ((((w.alloc (Obj.cells #[.slice A n ca] 33)).alloc (Obj.cells #[.slice B m cb] 33))).heap.size = w.heap.size + 1 + 1) := Lib.hid (by simp)
  have Y0 : PtsAt (((w.alloc (Obj.cells #[.slice A n ca] 33)).alloc (Obj.cells #[.slice B m cb] 33))) w.heap.size A ps := hp.later b0
  have Y1 : PtsAt (((w.alloc (Obj.cells #[.slice A n ca] 33)).alloc (Obj.cells #[.slice B m cb] 33))) w.heap.size B qs := hq.later b0
  generalize ((w.alloc (Obj.cells #[.slice A n ca] 33)).alloc (Obj.cells #[.slice B m cb] 33)) = w0 at X0 X1 Y0 Y1 b0 hz0_ ⊢
  have S0 := (⟨X0, X1, Y0, Y1, b0⟩ : Pts.BoxR w0 (w.heap.size) (.slice A n ca) ∧ Pts.BoxR w0 (w.heap.size + 1) (.slice B m cb) ∧ PtsAt w0 w.heap.size A ps ∧ PtsAt w0 w.heap.size B qs ∧ Below w.heap.size w w0)
  clear X0 X1 Y0 Y1 b0
  obtain ⟨⟨_, _⟩, ⟨_, _⟩, _, _, _⟩ := id S0
  refine (RoomOkSpec.roomOk A n ca _ ps hl hn (S0.2.2.1.wide S0.2.2.2.2.size)).mono ?_
  rintro e w1 ⟨rfl, hb_⟩
  replace S0 := HO _ _ S0 hb_
  clear hb_
  obtain ⟨⟨_, _⟩, ⟨_, _⟩, _, _, _⟩ := id S0
  cases hr : roomB ps
  · have E : Hid (r = false) := Lib.hid (by rw [← HR.out]; unfold apartB; rw [hr]; rfl)
    clear hl hl2 HR
    go_wp2_with fail
    go_ret
    exact ⟨ret_bool E.out.symm, S0.2.2.2.2⟩
  go_wp2_with fail
  refine (RoomOkSpec.roomOk B m cb _ qs hl2 hn2 (S0.2.2.2.1.wide S0.2.2.2.2.size)).mono ?_
  rintro e w2 ⟨rfl, hb_⟩
  replace S0 := HO _ _ S0 hb_
  clear hb_
  obtain ⟨⟨_, _⟩, ⟨_, _⟩, _, _, _⟩ := id S0
  cases hr2 : roomB qs
  · have E : Hid (r = false) := Lib.hid (by rw [← HR.out]; unfold apartB; rw [hr2]; simp)
    clear hl hl2 HR
    go_wp2_with fail
    go_ret
    exact ⟨ret_bool E.out.symm, S0.2.2.2.2⟩
  have HE : Hid (r = (!hitsB ps qs && !reachB qs (floorL ps) && !reachB ps (floorL qs))) := Lib.hid (by rw [← HR.out]; unfold apartB; rw [hr, hr2]; rfl)
  clear HR
  replace hr := Lib.hid hr
  replace hr2 := Lib.hid hr2
  go_wp2_with fail
  go_loopw [5] (fun i wr => ∃ k : Nat, k ≤ n ∧ i = .int .i64 k ∧ Hid (∀ j, j < k → hitB ps qs j = false) ∧ (Pts.BoxR wr (w.heap.size) (.slice A n ca) ∧ Pts.BoxR wr (w.heap.size + 1) (.slice B m cb) ∧ PtsAt wr w.heap.size A ps ∧ PtsAt wr w.heap.size B qs ∧ Below w.heap.size w wr))
    (fun i _ => n - (intOf i).toNat)
  case atStart => exact ⟨0, Nat.zero_le _, rfl, Lib.hid (fun j hj => absurd hj (by omega)), S0⟩
  case round =>
    clear S0
    obtain ⟨i, hin, rfl, hno, S0⟩ := hrel
    obtain ⟨⟨_, _⟩, ⟨_, _⟩, _, _, _⟩ := id S0
    by_cases hlt : i < n
    · have hk1 : (i : Int) < (n : Int) := by omega
      go_wp2_with fail
      go_loopw [6] (fun j wr => ∃ k : Nat, k ≤ m ∧ j = .int .i64 k ∧ Hid (∀ j, j < k → cutK qs (pt ps i) (pt ps ((i + 1) % ps.length)) j = false) ∧ (Pts.BoxR wr (w.heap.size) (.slice A n ca) ∧ Pts.BoxR wr (w.heap.size + 1) (.slice B m cb) ∧ PtsAt wr w.heap.size A ps ∧ PtsAt wr w.heap.size B qs ∧ Below w.heap.size w wr))
        (fun j _ => m - (intOf j).toNat)
      case atStart => exact ⟨0, Nat.zero_le _, rfl, Lib.hid (fun j hj => absurd hj (by omega)), S0⟩
      case round =>
        clear S0
        obtain ⟨k, hkm, rfl, hcut, S0⟩ := hrel
        obtain ⟨⟨_, _⟩, ⟨_, _⟩, _, _, _⟩ := id S0
        by_cases hkt : k < m
        · have hk2 : (k : Int) < (m : Int) := by omega
          have QA : Hid (∀ w hp, _) := Lib.hid fun w hp => WallOfSpec.wallOf A n ca (i : Int) w ps hl hn hp
          have QB : Hid (∀ w hp, _) := Lib.hid fun w hp => WallOfSpec.wallOf B m cb (k : Int) w qs hl2 hn2 hp
          rw [wallI_at hr.out (by omega)] at QA
          rw [wallI_at hr2.out (by omega)] at QB
          have hw1 := corner_wall hr.out (k := i) (by omega)
          have hw2 := corner_wall hr2.out (k := k) (by omega)
          have HK : Hid (cutK qs (pt ps i) (pt ps ((i + 1) % ps.length)) k = cutP (pt qs k) (pt qs ((k + 1) % qs.length)) (pt ps i) (pt ps ((i + 1) % ps.length))) := Lib.hid rfl
          have HIT : Hid (cutK qs (pt ps i) (pt ps ((i + 1) % ps.length)) k = true → hitB ps qs i = true) := Lib.hid (fun h => hit_at (k := k) (by omega) h)
          generalize pt ps i = a at *
          generalize pt ps ((i + 1) % ps.length) = b at *
          generalize pt qs k = c at *
          generalize pt qs ((k + 1) % qs.length) = d at *
          have QH : Hid (∀ w, _) := Lib.hid fun w => WallSpec.doCross a.1 a.2 b.1 b.2 c.1 c.2 d.1 d.2 w
          obtain ⟨o, hoo⟩ : ∃ o, cutW c.1 c.2 d.1 d.2 a.1 a.2 b.1 b.2 = o := ⟨_, rfl⟩
          rw [crossB_cut hw1 hw2, cutW_comm, hoo] at QH
          replace HK : Hid (cutK qs a b k = o) := Lib.hid (by rw [HK.out, ← hoo]; rfl)
          clear hoo hw1 hw2
          go_wp2_with fail
          refine Settle.region (fun W => Pts.BoxR W (w.heap.size) (.slice A n ca) ∧ Pts.BoxR W (w.heap.size + 1) (.slice B m cb) ∧ PtsAt W w.heap.size A ps ∧ PtsAt W w.heap.size B qs ∧ Below w.heap.size w W) (by kernel_rfl) (by kernel_rfl) (by kernel_rfl) (by kernel_rfl) (HO _ _ S0 ((Below.refl _ _).drew)) ?_
          clear S0
          repeat (first
            | (refine Settle.Settles.off (by rfl) ?_; simp only [Act.put, List.setIfInBounds_toArray, List.set_cons_zero, List.set_cons_succ])
            | (refine Settle.Settles.quiet (v := ?_) (by rfl) ?_ ?_
               rotate_left
               · (intro W hS; obtain ⟨⟨_, _⟩, ⟨_, _⟩, _, _, _⟩ := hS; go_simp; with_reducible rfl)
               simp only [Act.put, List.setIfInBounds_toArray, List.set_cons_zero, List.set_cons_succ])
            | (refine Settle.Settles.call (v := ?_) (f := ?_) (args := ?_) (by rfl) ?_ ?_ ?_
               rotate_left 3
               · (intro W; go_simp; refine ⟨?_, ?_⟩ <;> with_reducible rfl)
               · (intro W hS; first | (go_at_call 16; (with_reducible refine (QA.out _ (hS.2.2.1.wide hS.2.2.2.2.size)).mono ?_); rintro e W1 ⟨rfl, hb⟩; refine ⟨?_, HO _ _ hS hb⟩; with_reducible rfl) | (go_at_call 16; (with_reducible refine (QB.out _ (hS.2.2.2.1.wide hS.2.2.2.2.size)).mono ?_); rintro e W1 ⟨rfl, hb⟩; refine ⟨?_, HO _ _ hS hb⟩; with_reducible rfl) | (go_at_call 63; (with_reducible refine (QH.out _).mono ?_); rintro e W1 ⟨rfl, hb⟩; refine ⟨?_, HO _ _ hS hb⟩; with_reducible rfl))
               simp only [Act.put, List.setIfInBounds_toArray, List.set_cons_zero, List.set_cons_succ]))
          refine Settle.Settles.nil ?_
          intro wr S0
          obtain ⟨⟨_, _⟩, ⟨_, _⟩, _, _, _⟩ := id S0
          cases o
          · have hcut2 : Hid (∀ j, j < k + 1 → cutK qs a b j = false) := Lib.hid (by
              intro j hj
              rcases Nat.lt_or_ge j k with h | h
              · exact hcut.out j h
              · obtain rfl : j = k := by omega
                exact HK.out)
            clear hl hl2 HE hno HK hcut hr hr2 HIT
            go_wp2_with fail
            first
              | exact ⟨⟨k + 1, by omega, by go_num, hcut2, S0⟩, by simp [intOf]; omega⟩
              | (go_roundw <;> first | exact ⟨k + 1, by omega, by go_num, hcut2, S0⟩ | (simp [intOf]; omega))
          · have E : Hid (r = false) := Lib.hid (by rw [HE.out, hits_at (i := i) (by omega) (HIT.out HK.out)]; rfl)
            clear hl hl2 HE hno HK hcut hr hr2 HIT
            go_wp2_with fail
            go_ret
            exact ⟨ret_bool E.out.symm, S0.2.2.2.2⟩
        · obtain rfl : m = k := by omega
          have hno2 : Hid (∀ j, j < i + 1 → hitB ps qs j = false) := Lib.hid (by
            intro j hj
            rcases Nat.lt_or_ge j i with h | h
            · exact hno.out j h
            · obtain rfl : j = i := by omega
              exact hit_of (by rw [hl2]; exact hcut.out))
          clear hl hl2 HE hno hcut hr hr2
          go_wp2_with fail
          first
            | exact ⟨⟨i + 1, by omega, by go_num, hno2, S0⟩, by simp [intOf]; omega⟩
            | (go_roundw <;> first | exact ⟨i + 1, by omega, by go_num, hno2, S0⟩ | (simp [intOf]; omega))
    · obtain rfl : n = i := by omega
      have E : Hid (r = (!reachB ps (floorL qs) && !reachB qs (floorL ps))) := Lib.hid (by rw [HE.out, hits_of (by rw [hl]; exact hno.out)]; simp [Bool.and_comm])
      have hs := smAll_of (roomB_yes hr.out).2.1
      have hs2 := smAll_of (roomB_yes hr2.out).2.1
      have F1 : Hid (∀ w hp, _) := Lib.hid fun w hp => FloorSpec.floorPoints B m cb w qs hl2 hn2 hp
      have F2 : Hid (∀ w hp, _) := Lib.hid fun w hp => FloorSpec.floorPoints A n ca w ps hl hn hp
      have G1 : Hid (∀ (F : Option Addr) (k0 cf : Nat) (w : World) hp (hk : (floorL qs).length = k0) hk0 hsl hF, _) := Lib.hid fun F k0 cf w hp hk hk0 hsl hF => free A n ca F k0 cf w ps hl hn hs hp (floorL qs) hk hk0 hsl hF
      have G2 : Hid (∀ (F : Option Addr) (k0 cf : Nat) (w : World) hp (hk : (floorL ps).length = k0) hk0 hsl hF, _) := Lib.hid fun F k0 cf w hp hk hk0 hsl hF => free B m cb F k0 cf w qs hl2 hn2 hs2 hp (floorL ps) hk hk0 hsl hF
      have s1 := Lib.hid (floorL_small qs)
      have s2 := Lib.hid (floorL_small ps)
      have l1 := floorL_le qs
      have l2 := floorL_le ps
      generalize floorL ps = fp at *
      generalize floorL qs = fq at *
      generalize reachB ps fq = x1 at *
      generalize reachB qs fp = x2 at *
      clear hl hl2 HE hno hr hr2 hs hs2 hin hlt
      unfold GivesC at F1 F2
      go_wp2_with fail
      cases x1
      · skip
        have S0_ := HO _ _ S0 ((Below.refl _ _).drew)
        have HS0_ : wr.drew.cell? ⟨w.heap.size, 0, none⟩ = some (.slice A n ca) ∧ wr.drew.cell? ⟨w.heap.size + 1, 0, none⟩ = some (.slice B m cb) := (by obtain ⟨⟨_, _⟩, ⟨_, _⟩, _, _, _⟩ := id S0_; exact ⟨by assumption, by assumption⟩)
        go_region_held3 (fun W => W.cell? ⟨w.heap.size, 0, none⟩ = some (.slice A n ca) ∧ W.cell? ⟨w.heap.size + 1, 0, none⟩ = some (.slice B m cb)) (first | exact HS0_ | assumption) (first | (go_at_call 65; (with_reducible refine (F1.out _ (S0_.2.2.2.1.wide S0_.2.2.2.2.size)).mono ?_); rintro e w3 ⟨A9, c9, rfl, O9, hb0_⟩; have S1_ := HO _ _ S0_ hb0_; have O9_1 := O9; have HS1_ : w3.cell? ⟨w.heap.size, 0, none⟩ = some (.slice A n ca) ∧ w3.cell? ⟨w.heap.size + 1, 0, none⟩ = some (.slice B m cb) := (by obtain ⟨⟨_, _⟩, ⟨_, _⟩, _, _, _⟩ := id S1_; exact ⟨by assumption, by assumption⟩)) | (go_at_call 64; (with_reducible refine (G1.out A9 fq.length c9 _ (S1_.2.2.1.wide S1_.2.2.2.2.size) rfl l1 s1.out (pts_of_own O9_1)).mono ?_); rintro e w4 ⟨rfl, hb1_⟩; have S2_ := HO _ _ S1_ hb1_; have O9_2 := own_below O9_1 hb1_; have HS2_ : w4.cell? ⟨w.heap.size, 0, none⟩ = some (.slice A n ca) ∧ w4.cell? ⟨w.heap.size + 1, 0, none⟩ = some (.slice B m cb) := (by obtain ⟨⟨_, _⟩, ⟨_, _⟩, _, _, _⟩ := id S2_; exact ⟨by assumption, by assumption⟩)) | (go_at_call 65; (with_reducible refine (F2.out _ (S2_.2.2.1.wide S2_.2.2.2.2.size)).mono ?_); rintro e w5 ⟨A8, c8, rfl, O8, hb2_⟩; have S3_ := HO _ _ S2_ hb2_; have O9_3 := own_below O9_2 hb2_; have O8_3 := O8; have HS3_ : w5.cell? ⟨w.heap.size, 0, none⟩ = some (.slice A n ca) ∧ w5.cell? ⟨w.heap.size + 1, 0, none⟩ = some (.slice B m cb) := (by obtain ⟨⟨_, _⟩, ⟨_, _⟩, _, _, _⟩ := id S3_; exact ⟨by assumption, by assumption⟩)) | (go_at_call 64; (with_reducible refine (G2.out A8 fp.length c8 _ (S3_.2.2.2.1.wide S3_.2.2.2.2.size) rfl l2 s2.out (pts_of_own O8_3)).mono ?_); rintro e w6 ⟨rfl, hb3_⟩; have S4_ := HO _ _ S3_ hb3_; have O9_4 := own_below O9_3 hb3_; have O8_4 := own_below O8_3 hb3_; have HS4_ : w6.cell? ⟨w.heap.size, 0, none⟩ = some (.slice A n ca) ∧ w6.cell? ⟨w.heap.size + 1, 0, none⟩ = some (.slice B m cb) := (by obtain ⟨⟨_, _⟩, ⟨_, _⟩, _, _, _⟩ := id S4_; exact ⟨by assumption, by assumption⟩)))
        replace S0 := S4_
        have O9 := O9_4
        have O8 := O8_4
        obtain ⟨⟨_, _⟩, ⟨_, _⟩, _, _, _⟩ := id S0
        go_wp2_with fail
        go_ret
        exact ⟨ret_bool (by rw [E.out]; simp), S0.2.2.2.2⟩
      · skip
        have S0_ := HO _ _ S0 ((Below.refl _ _).drew)
        have HS0_ : wr.drew.cell? ⟨w.heap.size, 0, none⟩ = some (.slice A n ca) ∧ wr.drew.cell? ⟨w.heap.size + 1, 0, none⟩ = some (.slice B m cb) := (by obtain ⟨⟨_, _⟩, ⟨_, _⟩, _, _, _⟩ := id S0_; exact ⟨by assumption, by assumption⟩)
        refine wp_region_held_drew (S := fun W => W.cell? ⟨w.heap.size, 0, none⟩ = some (.slice A n ca) ∧ W.cell? ⟨w.heap.size + 1, 0, none⟩ = some (.slice B m cb)) (by kernel_rfl) HS0_ (fun hHeld => ?_)
        refine wpAnyH_take (i := 0) (oi := ⟨some 36, _, _, _, _, _⟩) (v := ?_) rfl (by kernel_rfl) (by kernel_rfl) (by kernel_rfl) (fun _ _ _ h => h) (Or.inl ⟨by rfl, ?_⟩) (by assumption) ?_
        rotate_left 1
        · (intro w hSw; (try dsimp only at hSw); go_simp; try with_reducible rfl)
        try simp only [Act.put, List.setIfInBounds_toArray, List.set_cons_zero, List.set_cons_succ]
        refine wpAnyH_take (i := 1) (oi := ⟨some 37, _, _, _, _, _⟩) (v := ?_) rfl (by kernel_rfl) (by kernel_rfl) (by kernel_rfl) (fun _ _ _ h => h) (Or.inl ⟨by rfl, ?_⟩) (by assumption) ?_
        rotate_left 1
        · (intro w hSw; (try dsimp only at hSw); go_simp; try with_reducible rfl)
        try simp only [Act.put, List.setIfInBounds_toArray, List.set_cons_zero, List.set_cons_succ]
        refine wpAnyH_ready (rs := [2]) (by kernel_rfl) (by simp) ?_
        refine AllReadyH.cons (o := ⟨some 38, _, _, _, _, _⟩) rfl (fun K hK => ?_) ?_
        rotate_left 1
        · exact AllReadyH.nil
        go_simp
        go_at_call 65; refine (F1.out _ (S0_.2.2.2.1.wide S0_.2.2.2.2.size)).mono ?_; rintro e w3 ⟨A9, c9, rfl, O9, hb0_⟩
        have S1_ := HO _ _ S0_ hb0_
        have HS1_ : w3.cell? ⟨w.heap.size, 0, none⟩ = some (.slice A n ca) ∧ w3.cell? ⟨w.heap.size + 1, 0, none⟩ = some (.slice B m cb) := (by obtain ⟨⟨_, _⟩, ⟨_, _⟩, _, _, _⟩ := id S1_; exact ⟨by assumption, by assumption⟩)
        go_wp2_with fail
        refine hK.out _ _ HS1_ (fun hHeld => ?_)
        clear hK K
        refine wpAnyH_ready (rs := [3]) (by kernel_rfl) (by simp) ?_
        refine AllReadyH.cons (o := ⟨some 39, _, _, _, _, _⟩) rfl (fun K hK => ?_) ?_
        rotate_left 1
        · exact AllReadyH.nil
        go_simp
        go_at_call 64; refine (G1.out A9 fq.length c9 _ (S1_.2.2.1.wide S1_.2.2.2.2.size) rfl l1 s1.out (pts_of_own O9)).mono ?_; rintro e w4 ⟨rfl, hb1_⟩
        have S2_ := HO _ _ S1_ hb1_
        have HS2_ : w4.cell? ⟨w.heap.size, 0, none⟩ = some (.slice A n ca) ∧ w4.cell? ⟨w.heap.size + 1, 0, none⟩ = some (.slice B m cb) := (by obtain ⟨⟨_, _⟩, ⟨_, _⟩, _, _, _⟩ := id S2_; exact ⟨by assumption, by assumption⟩)
        go_wp2_with fail
        refine hK.out _ _ HS2_ (fun hHeld => ?_)
        clear hK K
        refine wpAnyH_take (i := 4) (oi := ⟨some 40, _, _, _, _, _⟩) (v := ?_) rfl (by kernel_rfl) (by kernel_rfl) (by kernel_rfl) (fun _ _ _ h => h) (Or.inl ⟨by rfl, ?_⟩) (by assumption) ?_
        rotate_left 1
        · (intro w hSw; (try dsimp only at hSw); go_simp; try with_reducible rfl)
        try simp only [Act.put, List.setIfInBounds_toArray, List.set_cons_zero, List.set_cons_succ]
        refine wpAnyH_take (i := 5) (oi := ⟨some 41, _, _, _, _, _⟩) (v := undef) rfl (by kernel_rfl) (by kernel_rfl) (by kernel_rfl) (fun _ _ _ h => h) (Or.inr ⟨by rfl, rfl⟩) (by assumption) ?_
        try simp only [Act.put, List.setIfInBounds_toArray, List.set_cons_zero, List.set_cons_succ]
        refine wpAnyH_take (i := 6) (oi := ⟨some 42, _, _, _, _, _⟩) (v := undef) rfl (by kernel_rfl) (by kernel_rfl) (by kernel_rfl) (fun _ _ _ h => h) (Or.inr ⟨by rfl, rfl⟩) (by assumption) ?_
        try simp only [Act.put, List.setIfInBounds_toArray, List.set_cons_zero, List.set_cons_succ]
        refine wpAnyH_take (i := 7) (oi := ⟨some 43, _, _, _, _, _⟩) (v := undef) rfl (by kernel_rfl) (by kernel_rfl) (by kernel_rfl) (fun _ _ _ h => h) (Or.inr ⟨by rfl, rfl⟩) (by assumption) ?_
        try simp only [Act.put, List.setIfInBounds_toArray, List.set_cons_zero, List.set_cons_succ]
        refine wpAnyH_take (i := 8) (oi := ⟨some 44, _, _, _, _, _⟩) (v := undef) rfl (by kernel_rfl) (by kernel_rfl) (by kernel_rfl) (fun _ _ _ h => h) (Or.inr ⟨by rfl, rfl⟩) (by assumption) ?_
        try simp only [Act.put, List.setIfInBounds_toArray, List.set_cons_zero, List.set_cons_succ]
        refine wpAnyH_take (i := 9) (oi := ⟨some 45, _, _, _, _, _⟩) (v := ?_) rfl (by kernel_rfl) (by kernel_rfl) (by kernel_rfl) (fun _ _ _ h => h) (Or.inl ⟨by rfl, ?_⟩) (by assumption) ?_
        rotate_left 1
        · (intro w hSw; (try dsimp only at hSw); go_simp; try with_reducible rfl)
        try simp only [Act.put, List.setIfInBounds_toArray, List.set_cons_zero, List.set_cons_succ]
        refine wpAnyH_take (i := 10) (oi := ⟨some 4, _, _, _, _, _⟩) (v := ?_) rfl (by kernel_rfl) (by kernel_rfl) (by kernel_rfl) (fun _ _ _ h => h) (Or.inl ⟨by rfl, ?_⟩) (by assumption) ?_
        rotate_left 1
        · (intro w hSw; (try dsimp only at hSw); go_simp; try with_reducible rfl)
        try simp only [Act.put, List.setIfInBounds_toArray, List.set_cons_zero, List.set_cons_succ]
        refine wpAnyH_done (by kernel_rfl) ?_ _
        go_wp2_with fail
        go_ret
        exact ⟨ret_bool (by rw [E.out]; simp), S2_.2.2.2.2⟩

end Go.Proofs.Ytaphdannaaiidaa.ApartSpec

