/-
  What SameRoom does, as a contract: what it answers; new memory alone is written.
-/
import Derived.Test.YtonbpmabmjhdgabRoomOkSpec
import Derived.Test.YtonbpmabmjhdgabSameMath

namespace Go.Proofs.Ytonbpmabmjhdgab.SameSpec
open Go.RowKit Own PointMath WallMath RoomMath Pts Blk AreaMath StartMath SameMath 
open PointOk (ret_bool ret_i64 below1 below2 below3)

set_option maxRecDepth 100000 in
set_option maxHeartbeats 6400000 in
theorem sameRoom (A : Option Addr) (n cap : Nat) (B : Option Addr) (m cb : Nat) (w : World) (ps : List (Int × Int)) (hl : ps.length = n) (hn : n ≤ 1048576) (hp : PtsAt w w.heap.size A ps) (qs : List (Int × Int)) (hl2 : qs.length = m) (hn2 : m ≤ 1048576) (hq : PtsAt w w.heap.size B qs) (_hc : n ≤ cap) :
    Calls Try.prog 37 #[.agg #[.slice A n cap], .agg #[.slice B m cb]] w fun e w' => e = .returned (.int .i64 (sameI ps qs)) ∧ Below w.heap.size w w' := by
  obtain ⟨r, hr⟩ : ∃ r, sameI ps qs = r := ⟨_, rfl⟩
  have HR := Lib.hid hr
  rw [hr]
  clear hr
  go_enter Try.func37, Try.ntmps37
  go_wp2_with fail
  have X0 := (Pts.boxR w (.slice A n cap) 34 (k := w.heap.size) (by simp)).alloc (Obj.cells #[.slice B m cb] 34)
  have X1 := Pts.boxR (w.alloc (Obj.cells #[.slice A n cap] 34)) (.slice B m cb) 34 (k := w.heap.size + 1) (by simp)
  have b0 := PointOk.below2 w (Obj.cells #[.slice A n cap] 34) (Obj.cells #[.slice B m cb] 34)
  have HO : ∀ W W' : World, (Pts.BoxR W (w.heap.size) (.slice A n cap) ∧ Pts.BoxR W (w.heap.size + 1) (.slice B m cb) ∧ PtsAt W w.heap.size A ps ∧ PtsAt W w.heap.size B qs ∧ Below w.heap.size w W) → Below W.heap.size W W' → (Pts.BoxR W' (w.heap.size) (.slice A n cap) ∧ Pts.BoxR W' (w.heap.size + 1) (.slice B m cb) ∧ PtsAt W' w.heap.size A ps ∧ PtsAt W' w.heap.size B qs ∧ Below w.heap.size w W') := fun W W' ⟨h0, h1, x0, x1, hb⟩ h => ⟨h0.later h, h1.later h, x0.later (h.mono hb.size), x1.later (h.mono hb.size), hb.trans (h.mono hb.size)⟩
  have hz0_ : Hid ((((w.alloc (Obj.cells #[.slice A n cap] 34)).alloc (Obj.cells #[.slice B m cb] 34))).heap.size = w.heap.size + 1 + 1) := Lib.hid (by simp)
  have Y0 : PtsAt (((w.alloc (Obj.cells #[.slice A n cap] 34)).alloc (Obj.cells #[.slice B m cb] 34))) w.heap.size A ps := hp.later b0
  have Y1 : PtsAt (((w.alloc (Obj.cells #[.slice A n cap] 34)).alloc (Obj.cells #[.slice B m cb] 34))) w.heap.size B qs := hq.later b0
  generalize ((w.alloc (Obj.cells #[.slice A n cap] 34)).alloc (Obj.cells #[.slice B m cb] 34)) = w0 at X0 X1 Y0 Y1 b0 hz0_ ⊢
  have S0 := (⟨X0, X1, Y0, Y1, b0⟩ : Pts.BoxR w0 (w.heap.size) (.slice A n cap) ∧ Pts.BoxR w0 (w.heap.size + 1) (.slice B m cb) ∧ PtsAt w0 w.heap.size A ps ∧ PtsAt w0 w.heap.size B qs ∧ Below w.heap.size w w0)
  clear X0 X1 Y0 Y1 b0
  obtain ⟨⟨_, _⟩, ⟨_, _⟩, _, _, _⟩ := id S0
  refine (RoomOkSpec.roomOk A n cap _ ps hl hn (S0.2.2.1.wide S0.2.2.2.2.size)).mono ?_
  rintro e w1 ⟨rfl, hb_⟩
  replace S0 := HO _ _ S0 hb_
  clear hb_
  obtain ⟨⟨_, _⟩, ⟨_, _⟩, _, _, _⟩ := id S0
  cases h1 : roomB ps
  · have E : Hid (r = -1) := Lib.hid (by rw [← HR.out]; exact sameI_no (.inl h1))
    clear hl hl2 HR
    go_wp2_with fail
    go_ret
    exact ⟨ret_i64 E.out.symm, S0.2.2.2.2⟩
  go_wp2_with fail
  refine (RoomOkSpec.roomOk B m cb _ qs hl2 hn2 (S0.2.2.2.1.wide S0.2.2.2.2.size)).mono ?_
  rintro e w2 ⟨rfl, hb_⟩
  replace S0 := HO _ _ S0 hb_
  clear hb_
  obtain ⟨⟨_, _⟩, ⟨_, _⟩, _, _, _⟩ := id S0
  cases h2 : roomB qs
  · have E : Hid (r = -1) := Lib.hid (by rw [← HR.out]; exact sameI_no (.inr h2))
    clear hl hl2 HR
    go_wp2_with fail
    go_ret
    exact ⟨ret_i64 E.out.symm, S0.2.2.2.2⟩
  have hy := (roomB_yes h1).1
  rw [hl] at hy
  by_cases hnm : n = m
  rotate_left
  · have E : Hid (r = -1) := Lib.hid (by rw [← HR.out]; exact sameI_none h1 h2 (fun k hk => rot_len (by omega) (by omega)))
    have hnm2 : ¬ ((n : Int) = (m : Int)) := by omega
    clear hl hl2 HR
    go_wp2_with fail
    go_ret
    exact ⟨ret_i64 E.out.symm, S0.2.2.2.2⟩
  subst hnm
  go_wp2_with fail
  go_loopw [6] (fun q wr => ∃ k : Nat, k ≤ n ∧ q = .int .i64 k ∧ Hid (∀ j, j < k → rotB ps qs j = false) ∧ (Pts.BoxR wr (w.heap.size) (.slice A n cap) ∧ Pts.BoxR wr (w.heap.size + 1) (.slice B n cb) ∧ PtsAt wr w.heap.size A ps ∧ PtsAt wr w.heap.size B qs ∧ Below w.heap.size w wr))
    (fun q _ => n - (intOf q).toNat)
  case atStart => exact ⟨0, Nat.zero_le _, rfl, Lib.hid (fun j hj => absurd hj (by omega)), S0⟩
  case round =>
    clear S0
    obtain ⟨k, hk, rfl, hno, S0⟩ := hrel
    obtain ⟨⟨_, _⟩, ⟨_, _⟩, _, _, _⟩ := id S0
    by_cases hlt : k < n
    rotate_left
    · obtain rfl : n = k := by omega
      have E : Hid (r = -1) := Lib.hid (by rw [← HR.out]; exact sameI_none h1 h2 (by rw [hl]; exact hno.out))
      clear hl hl2 HR hno h1 h2
      go_wp2_with fail
      go_ret
      exact ⟨ret_i64 E.out.symm, S0.2.2.2.2⟩
    have hk1 : (k : Int) < (n : Int) := by omega
    have hk0 : (0 : Int) ≤ (k : Int) := by omega
    have HT : Hid (likeTo ps qs k n = true → r = (k : Int)) := Lib.hid (fun h => by
      rw [← HR.out]
      rw [← hl, like_rot (by omega) (by omega)] at h
      exact sameI_at h1 h2 (by omega) h hno.out)
    have HF : Hid (likeTo ps qs k n = false → ∀ j, j < k + 1 → rotB ps qs j = false) := Lib.hid (fun h j hj => by
      rw [← hl, like_rot (by omega) (by omega)] at h
      rcases Nat.lt_or_ge j k with h3 | h3
      · exact hno.out j h3
      · obtain rfl : j = k := by omega
        exact h)
    clear HR hno h1 h2
    go_wp2_with fail
    go_loopw [7, 8] (fun v q wr => ∃ i : Nat, i ≤ n ∧ q = .int .i64 i ∧ v = .bool (likeTo ps qs k i) ∧ (Pts.BoxR wr (w.heap.size) (.slice A n cap) ∧ Pts.BoxR wr (w.heap.size + 1) (.slice B n cb) ∧ PtsAt wr w.heap.size A ps ∧ PtsAt wr w.heap.size B qs ∧ Below w.heap.size w wr))
      (fun _ q _ => n - (intOf q).toNat)
    case atStart => exact ⟨0, Nat.zero_le _, rfl, rfl, S0⟩
    case round =>
      clear S0
      obtain ⟨i, hi, rfl, rfl, S0⟩ := hrel
      obtain ⟨⟨_, _⟩, ⟨_, _⟩, _, _, _⟩ := id S0
      by_cases hlt2 : i < n
      rotate_left
      · obtain rfl : n = i := by omega
        cases hs : likeTo ps qs k n
        · have HN := Lib.hid (HF.out hs)
          clear HT HF hl hl2 hs
          go_wp2_with fail
          first
            | exact ⟨⟨k + 1, by omega, by go_num, HN, S0⟩, by simp [intOf]; omega⟩
            | (go_roundw <;> first | exact ⟨k + 1, by omega, by go_num, HN, S0⟩ | (simp [intOf]; omega))
        · have E := Lib.hid (HT.out hs)
          clear HT HF hl hl2 hs
          go_wp2_with fail
          go_ret
          exact ⟨ret_i64 E.out.symm, S0.2.2.2.2⟩
      have hi1 : (i : Int) < (n : Int) := by omega
      have hi0 : (0 : Int) ≤ (i : Int) := by omega
      have HL : Hid (likeTo ps qs k (i + 1) = (likeTo ps qs k i && decide (pt ps ((k + i) % n) = pt qs i))) := Lib.hid (by rw [← hl]; rfl)
      cases hs : likeTo ps qs k i
      · have HL2 : Hid (likeTo ps qs k (i + 1) = false) := Lib.hid (by rw [HL.out, hs]; rfl)
        clear HL hs
        go_wp2_with fail
        refine Settle.region (fun W => Pts.BoxR W (w.heap.size) (.slice A n cap) ∧ Pts.BoxR W (w.heap.size + 1) (.slice B n cb) ∧ PtsAt W w.heap.size A ps ∧ PtsAt W w.heap.size B qs ∧ Below w.heap.size w W) (by kernel_rfl) (by kernel_rfl) (by kernel_rfl) (by kernel_rfl) (HO _ _ S0 ((Below.refl _ _).drew)) ?_
        clear S0
        repeat (first
          | (refine Settle.Settles.off (by rfl) ?_; simp only [Act.put, List.setIfInBounds_toArray, List.set_cons_zero, List.set_cons_succ])
          | (refine Settle.Settles.quiet (v := ?_) (by rfl) ?_ ?_
             rotate_left
             · (intro W hS; obtain ⟨⟨_, _⟩, ⟨_, _⟩, _, _, _⟩ := hS; go_simp; with_reducible rfl)
             simp only [Act.put, List.setIfInBounds_toArray, List.set_cons_zero, List.set_cons_succ])
          | (refine Settle.Settles.call (v := ?_) (f := ?_) (args := ?_) (by rfl) ?_ ?_ ?_
             rotate_left 3
             · (intro W; go_simp; refine ⟨?_, ?_⟩ <;> with_reducible rfl)
             · (intro W hS; fail)
             simp only [Act.put, List.setIfInBounds_toArray, List.set_cons_zero, List.set_cons_succ]))
        refine Settle.Settles.nil ?_
        intro wr S0
        obtain ⟨⟨_, _⟩, ⟨_, _⟩, _, _, _⟩ := id S0
        go_wp2_with fail
        first
          | exact ⟨⟨i + 1, by omega, by go_num, by rw [HL2.out], S0⟩, by simp [intOf]; omega⟩
          | (go_roundw <;> first | exact ⟨i + 1, by omega, by go_num, by rw [HL2.out], S0⟩ | (simp [intOf]; omega))
      have hm : (k + i) % n < n := Nat.mod_lt _ (by omega)
      have p0 := pt_at (ps := ps) (k := (k + i) % n) (by omega)
      have p1 := pt_at (ps := qs) (k := i) (by omega)
      have e1t : ((k : Int) + (i : Int)).tmod (n : Int) = (((k + i) % n : Nat) : Int) := by rw [Int.tmod_eq_emod_of_nonneg (by omega), Int.natCast_emod, Int.natCast_add]
      have e1 : ((k : Int) + (i : Int)) % (n : Int) = (((k + i) % n : Nat) : Int) := by rw [Int.natCast_emod, Int.natCast_add]
      generalize (k + i) % n = t at *
      obtain ⟨ax, ay, ha⟩ : ∃ x y, pt ps t = (x, y) := ⟨_, _, rfl⟩
      obtain ⟨bx, bY, hb⟩ : ∃ x y, pt qs i = (x, y) := ⟨_, _, rfl⟩
      rw [ha] at p0 HL
      rw [hb] at p1 HL
      have ht1 : (t : Int) < (n : Int) := by omega
      have ht0 : (0 : Int) ≤ (t : Int) := by omega
      have hn0 : ¬ ((n : Int) = 0) := by omega
      have hn1 : ¬ (n = 0) := by omega
      have uq : IntKind.i64.wrap ((k : Int) + (i : Int)) = (k : Int) + (i : Int) := IntWalk.i64_in _ (by omega)
      obtain ⟨ad, eA, bA, pA⟩ := S0.2.2.1.get p0
      subst eA
      obtain ⟨bd, eB, bB, pB⟩ := S0.2.2.2.1.get p1
      subst eB
      clear p0 p1 ha hb HT HF hl hl2
      by_cases f1 : ax = bx
      · subst f1
        by_cases f2 : ay = bY
        · subst f2
          have HL2 : Hid (likeTo ps qs k (i + 1) = true) := Lib.hid (by rw [HL.out, hs]; simp)
          clear HL hs
          have HO : ∀ W W' : World, (BoxR W w.heap.size (.slice (some ad) n cap) ∧ BoxR W (w.heap.size + 1) (.slice (some bd) n cb) ∧ PtsAt W w.heap.size (some ad) ps ∧ PtsAt W w.heap.size (some bd) qs ∧ PtAt W ad t ax ay ∧ PtAt W bd i ax ay ∧ Below w.heap.size w W) → Below W.heap.size W W' → (BoxR W' w.heap.size (.slice (some ad) n cap) ∧ BoxR W' (w.heap.size + 1) (.slice (some bd) n cb) ∧ PtsAt W' w.heap.size (some ad) ps ∧ PtsAt W' w.heap.size (some bd) qs ∧ PtAt W' ad t ax ay ∧ PtAt W' bd i ax ay ∧ Below w.heap.size w W') := fun W W' ⟨x0, x1, x2, x3, x4, x5, hb⟩ h => ⟨x0.later h, x1.later h, x2.later (h.mono hb.size), x3.later (h.mono hb.size), x4.later bA (h.mono hb.size), x5.later bB (h.mono hb.size), hb.trans (h.mono hb.size)⟩
          replace S0 : BoxR wr w.heap.size (.slice (some ad) n cap) ∧ BoxR wr (w.heap.size + 1) (.slice (some bd) n cb) ∧ PtsAt wr w.heap.size (some ad) ps ∧ PtsAt wr w.heap.size (some bd) qs ∧ PtAt wr ad t ax ay ∧ PtAt wr bd i ax ay ∧ Below w.heap.size w wr := ⟨S0.1, S0.2.1, S0.2.2.1, S0.2.2.2.1, pA, pB, S0.2.2.2.2⟩
          clear pA pB
          obtain ⟨⟨_, _⟩, ⟨_, _⟩, _, _, ⟨_, _⟩, ⟨_, _⟩, _⟩ := id S0
          go_wp2_with fail
          refine Settle.region (fun W => BoxR W w.heap.size (.slice (some ad) n cap) ∧ BoxR W (w.heap.size + 1) (.slice (some bd) n cb) ∧ PtsAt W w.heap.size (some ad) ps ∧ PtsAt W w.heap.size (some bd) qs ∧ PtAt W ad t ax ay ∧ PtAt W bd i ax ay ∧ Below w.heap.size w W) (by kernel_rfl) (by kernel_rfl) (by kernel_rfl) (by kernel_rfl) (HO _ _ S0 ((Below.refl _ _).drew)) ?_
          clear S0
          repeat (first
            | (refine Settle.Settles.off (by rfl) ?_; simp only [Act.put, List.setIfInBounds_toArray, List.set_cons_zero, List.set_cons_succ])
            | (refine Settle.Settles.quiet (v := ?_) (by rfl) ?_ ?_
               rotate_left
               · (intro W hS; obtain ⟨⟨_, _⟩, ⟨_, _⟩, _, _, ⟨_, _⟩, ⟨_, _⟩, _⟩ := hS; go_simp; with_reducible rfl)
               simp only [Act.put, List.setIfInBounds_toArray, List.set_cons_zero, List.set_cons_succ])
            | (refine Settle.Settles.call (v := ?_) (f := ?_) (args := ?_) (by rfl) ?_ ?_ ?_
               rotate_left 3
               · (intro W; go_simp; refine ⟨?_, ?_⟩ <;> with_reducible rfl)
               · (intro W hS; fail)
               simp only [Act.put, List.setIfInBounds_toArray, List.set_cons_zero, List.set_cons_succ]))
          refine Settle.Settles.nil ?_
          intro wr S0
          obtain ⟨⟨_, _⟩, ⟨_, _⟩, _, _, ⟨_, _⟩, ⟨_, _⟩, _⟩ := id S0
          go_wp2_with fail
          first
            | exact ⟨⟨i + 1, by omega, by go_num, by rw [HL2.out], S0.1, S0.2.1, S0.2.2.1, S0.2.2.2.1, S0.2.2.2.2.2.2⟩, by simp [intOf]; omega⟩
            | (go_roundw <;> first | exact ⟨i + 1, by omega, by go_num, by rw [HL2.out], S0.1, S0.2.1, S0.2.2.1, S0.2.2.2.1, S0.2.2.2.2.2.2⟩ | (simp [intOf]; omega))
        · have HL2 : Hid (likeTo ps qs k (i + 1) = false) := Lib.hid (by rw [HL.out, hs]; simp [f2])
          have g2 : ¬ bY = ay := fun h => f2 h.symm
          clear HL hs
          have HO : ∀ W W' : World, (BoxR W w.heap.size (.slice (some ad) n cap) ∧ BoxR W (w.heap.size + 1) (.slice (some bd) n cb) ∧ PtsAt W w.heap.size (some ad) ps ∧ PtsAt W w.heap.size (some bd) qs ∧ PtAt W ad t ax ay ∧ PtAt W bd i ax bY ∧ Below w.heap.size w W) → Below W.heap.size W W' → (BoxR W' w.heap.size (.slice (some ad) n cap) ∧ BoxR W' (w.heap.size + 1) (.slice (some bd) n cb) ∧ PtsAt W' w.heap.size (some ad) ps ∧ PtsAt W' w.heap.size (some bd) qs ∧ PtAt W' ad t ax ay ∧ PtAt W' bd i ax bY ∧ Below w.heap.size w W') := fun W W' ⟨x0, x1, x2, x3, x4, x5, hb⟩ h => ⟨x0.later h, x1.later h, x2.later (h.mono hb.size), x3.later (h.mono hb.size), x4.later bA (h.mono hb.size), x5.later bB (h.mono hb.size), hb.trans (h.mono hb.size)⟩
          replace S0 : BoxR wr w.heap.size (.slice (some ad) n cap) ∧ BoxR wr (w.heap.size + 1) (.slice (some bd) n cb) ∧ PtsAt wr w.heap.size (some ad) ps ∧ PtsAt wr w.heap.size (some bd) qs ∧ PtAt wr ad t ax ay ∧ PtAt wr bd i ax bY ∧ Below w.heap.size w wr := ⟨S0.1, S0.2.1, S0.2.2.1, S0.2.2.2.1, pA, pB, S0.2.2.2.2⟩
          clear pA pB
          obtain ⟨⟨_, _⟩, ⟨_, _⟩, _, _, ⟨_, _⟩, ⟨_, _⟩, _⟩ := id S0
          go_wp2_with fail
          refine Settle.region (fun W => BoxR W w.heap.size (.slice (some ad) n cap) ∧ BoxR W (w.heap.size + 1) (.slice (some bd) n cb) ∧ PtsAt W w.heap.size (some ad) ps ∧ PtsAt W w.heap.size (some bd) qs ∧ PtAt W ad t ax ay ∧ PtAt W bd i ax bY ∧ Below w.heap.size w W) (by kernel_rfl) (by kernel_rfl) (by kernel_rfl) (by kernel_rfl) (HO _ _ S0 ((Below.refl _ _).drew)) ?_
          clear S0
          repeat (first
            | (refine Settle.Settles.off (by rfl) ?_; simp only [Act.put, List.setIfInBounds_toArray, List.set_cons_zero, List.set_cons_succ])
            | (refine Settle.Settles.quiet (v := ?_) (by rfl) ?_ ?_
               rotate_left
               · (intro W hS; obtain ⟨⟨_, _⟩, ⟨_, _⟩, _, _, ⟨_, _⟩, ⟨_, _⟩, _⟩ := hS; go_simp; with_reducible rfl)
               simp only [Act.put, List.setIfInBounds_toArray, List.set_cons_zero, List.set_cons_succ])
            | (refine Settle.Settles.call (v := ?_) (f := ?_) (args := ?_) (by rfl) ?_ ?_ ?_
               rotate_left 3
               · (intro W; go_simp; refine ⟨?_, ?_⟩ <;> with_reducible rfl)
               · (intro W hS; fail)
               simp only [Act.put, List.setIfInBounds_toArray, List.set_cons_zero, List.set_cons_succ]))
          refine Settle.Settles.nil ?_
          intro wr S0
          obtain ⟨⟨_, _⟩, ⟨_, _⟩, _, _, ⟨_, _⟩, ⟨_, _⟩, _⟩ := id S0
          go_wp2_with fail
          first
            | exact ⟨⟨i + 1, by omega, by go_num, by rw [HL2.out], S0.1, S0.2.1, S0.2.2.1, S0.2.2.2.1, S0.2.2.2.2.2.2⟩, by simp [intOf]; omega⟩
            | (go_roundw <;> first | exact ⟨i + 1, by omega, by go_num, by rw [HL2.out], S0.1, S0.2.1, S0.2.2.1, S0.2.2.2.1, S0.2.2.2.2.2.2⟩ | (simp [intOf]; omega))
      · have HL2 : Hid (likeTo ps qs k (i + 1) = false) := Lib.hid (by rw [HL.out, hs]; simp [f1])
        have g1 : ¬ bx = ax := fun h => f1 h.symm
        clear HL hs
        have HO : ∀ W W' : World, (BoxR W w.heap.size (.slice (some ad) n cap) ∧ BoxR W (w.heap.size + 1) (.slice (some bd) n cb) ∧ PtsAt W w.heap.size (some ad) ps ∧ PtsAt W w.heap.size (some bd) qs ∧ PtAt W ad t ax ay ∧ PtAt W bd i bx bY ∧ Below w.heap.size w W) → Below W.heap.size W W' → (BoxR W' w.heap.size (.slice (some ad) n cap) ∧ BoxR W' (w.heap.size + 1) (.slice (some bd) n cb) ∧ PtsAt W' w.heap.size (some ad) ps ∧ PtsAt W' w.heap.size (some bd) qs ∧ PtAt W' ad t ax ay ∧ PtAt W' bd i bx bY ∧ Below w.heap.size w W') := fun W W' ⟨x0, x1, x2, x3, x4, x5, hb⟩ h => ⟨x0.later h, x1.later h, x2.later (h.mono hb.size), x3.later (h.mono hb.size), x4.later bA (h.mono hb.size), x5.later bB (h.mono hb.size), hb.trans (h.mono hb.size)⟩
        replace S0 : BoxR wr w.heap.size (.slice (some ad) n cap) ∧ BoxR wr (w.heap.size + 1) (.slice (some bd) n cb) ∧ PtsAt wr w.heap.size (some ad) ps ∧ PtsAt wr w.heap.size (some bd) qs ∧ PtAt wr ad t ax ay ∧ PtAt wr bd i bx bY ∧ Below w.heap.size w wr := ⟨S0.1, S0.2.1, S0.2.2.1, S0.2.2.2.1, pA, pB, S0.2.2.2.2⟩
        clear pA pB
        obtain ⟨⟨_, _⟩, ⟨_, _⟩, _, _, ⟨_, _⟩, ⟨_, _⟩, _⟩ := id S0
        go_wp2_with fail
        refine Settle.region (fun W => BoxR W w.heap.size (.slice (some ad) n cap) ∧ BoxR W (w.heap.size + 1) (.slice (some bd) n cb) ∧ PtsAt W w.heap.size (some ad) ps ∧ PtsAt W w.heap.size (some bd) qs ∧ PtAt W ad t ax ay ∧ PtAt W bd i bx bY ∧ Below w.heap.size w W) (by kernel_rfl) (by kernel_rfl) (by kernel_rfl) (by kernel_rfl) (HO _ _ S0 ((Below.refl _ _).drew)) ?_
        clear S0
        repeat (first
          | (refine Settle.Settles.off (by rfl) ?_; simp only [Act.put, List.setIfInBounds_toArray, List.set_cons_zero, List.set_cons_succ])
          | (refine Settle.Settles.quiet (v := ?_) (by rfl) ?_ ?_
             rotate_left
             · (intro W hS; obtain ⟨⟨_, _⟩, ⟨_, _⟩, _, _, ⟨_, _⟩, ⟨_, _⟩, _⟩ := hS; go_simp; with_reducible rfl)
             simp only [Act.put, List.setIfInBounds_toArray, List.set_cons_zero, List.set_cons_succ])
          | (refine Settle.Settles.call (v := ?_) (f := ?_) (args := ?_) (by rfl) ?_ ?_ ?_
             rotate_left 3
             · (intro W; go_simp; refine ⟨?_, ?_⟩ <;> with_reducible rfl)
             · (intro W hS; fail)
             simp only [Act.put, List.setIfInBounds_toArray, List.set_cons_zero, List.set_cons_succ]))
        refine Settle.Settles.nil ?_
        intro wr S0
        obtain ⟨⟨_, _⟩, ⟨_, _⟩, _, _, ⟨_, _⟩, ⟨_, _⟩, _⟩ := id S0
        go_wp2_with fail
        first
          | exact ⟨⟨i + 1, by omega, by go_num, by rw [HL2.out], S0.1, S0.2.1, S0.2.2.1, S0.2.2.2.1, S0.2.2.2.2.2.2⟩, by simp [intOf]; omega⟩
          | (go_roundw <;> first | exact ⟨i + 1, by omega, by go_num, by rw [HL2.out], S0.1, S0.2.1, S0.2.2.1, S0.2.2.2.1, S0.2.2.2.2.2.2⟩ | (simp [intOf]; omega))

end Go.Proofs.Ytonbpmabmjhdgab.SameSpec

