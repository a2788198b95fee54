/-
  What SameRoom does, as a contract: what it answers; new memory alone is written.
-/
import Derived.Test.YtonbpmabmjhdgabStartImpl
import Derived.Test.YtonbpmabmjhdgabSameMath
import Derived.Test.YtonbpmabmjhdgabFiltImpl
import Derived.Test.YtonbpmabmjhdgabRoomOkImpl
namespace Go.Proofs.Ytonbpmabmjhdgab.SameImpl
open Go.RowKit Own PointMath WallMath RoomMath Pts Blk AreaMath StartMath SameMath RoomRes
open PointOk (ret_bool ret_i64 below1 below2 below3)

set_option maxRecDepth 100000 in
set_option maxHeartbeats 6400000 in
theorem equalPts (A : Option Addr) (n cap : Nat) (B : Option Addr) (m cb : Nat) (w : World) (ps : List (Int × Int)) (hl : ps.length = n) (hn : n ≤ 1048576) (hp : PtsAt w w.heap.size A ps) (qs : List (Int × Int)) (hl2 : qs.length = m) (hn2 : m ≤ 1048576) (hq : PtsAt w w.heap.size B qs) :
    Calls Try.prog 72 #[.slice A n cap, .slice B m cb] w fun e w' => e = .returned (.bool (decide (ps = qs))) ∧ Below w.heap.size w w' := by
  obtain ⟨r, hr⟩ : ∃ r, decide (ps = qs) = r := ⟨_, rfl⟩
  have HR := Lib.hid hr
  rw [hr]
  clear hr
  by_cases hnm : n = m
  rotate_left
  · have E : Hid (r = false) := Lib.hid (by rw [← HR.out]; exact decide_eq_false (fun h => hnm (by rw [← hl, ← hl2, h])))
    have hnm2 : ¬ ((n : Int) = (m : Int)) := by omega
    clear hl hl2 HR hp hq
    go_enter Try.func72, Try.ntmps72
    go_wp2_with fail
    go_ret
    exact ⟨ret_bool E.out.symm, Below.refl _ _⟩
  subst hnm
  go_enter Try.func72, Try.ntmps72
  go_wp2_with fail
  have HO : ∀ W W' : World, (PtsAt W w.heap.size A ps ∧ PtsAt W w.heap.size B qs ∧ Below w.heap.size w W) → Below W.heap.size W W' → (PtsAt W' w.heap.size A ps ∧ PtsAt W' w.heap.size B qs ∧ Below w.heap.size w W') := fun W W' ⟨x0, x1, hb⟩ h => ⟨x0.later (h.mono hb.size), x1.later (h.mono hb.size), hb.trans (h.mono hb.size)⟩
  have S0 : PtsAt w w.heap.size A ps ∧ PtsAt w w.heap.size B qs ∧ Below w.heap.size w w := ⟨hp, hq, Below.refl _ _⟩
  clear hp hq
  go_loopw [13] (fun q wr => ∃ k : Nat, k ≤ n ∧ q = .int .i64 k ∧ Hid (∀ j, j < k → pt ps j = pt qs j) ∧ (PtsAt wr w.heap.size A ps ∧ PtsAt wr w.heap.size B qs ∧ Below w.heap.size w wr))
    (fun q _ => n - (intOf q).toNat)
  case atStart => exact ⟨0, Nat.zero_le _, rfl, Lib.hid (fun j hj => absurd hj (by omega)), S0⟩
  case round =>
    clear S0
    obtain ⟨i, hi, rfl, hw, S0⟩ := hrel
    by_cases hlt2 : i < n
    rotate_left
    · obtain rfl : n = i := by omega
      have E : Hid (r = true) := Lib.hid (by
        rw [← HR.out]
        apply decide_eq_true
        apply List.ext_getElem?
        intro j
        rcases Nat.lt_or_ge j n with h | h
        · rw [pt_at (by omega), pt_at (by omega), hw.out j h]
        · rw [List.getElem?_eq_none (by omega), List.getElem?_eq_none (by omega)])
      clear hl hl2 HR hw
      go_wp2_with fail
      go_ret
      exact ⟨ret_bool E.out.symm, S0.2.2⟩
    have hi1 : (i : Int) < (n : Int) := by omega
    have hi0 : (0 : Int) ≤ (i : Int) := by omega
    have p0 := pt_at (ps := ps) (k := i) (by omega)
    have p1 := pt_at (ps := qs) (k := i) (by omega)
    have HN : Hid (pt ps i = pt qs i → ∀ j, j < i + 1 → pt ps j = pt qs j) := Lib.hid (fun h j hj => by
      rcases Nat.lt_or_ge j i with h1 | h1
      · exact hw.out j h1
      · obtain rfl : j = i := by omega
        exact h)
    have HF : Hid (pt ps i ≠ pt qs i → r = false) := Lib.hid (fun h => by
      rw [← HR.out]
      exact decide_eq_false (fun e => h (by rw [e])))
    obtain ⟨ax, ay, ha⟩ : ∃ x y, pt ps i = (x, y) := ⟨_, _, rfl⟩
    obtain ⟨bx, bY, hb⟩ : ∃ x y, pt qs i = (x, y) := ⟨_, _, rfl⟩
    rw [ha, hb] at HN HF
    rw [ha] at p0
    rw [hb] at p1
    obtain ⟨ad, eA, bA, pA⟩ := S0.1.get p0
    subst eA
    obtain ⟨bd, eB, bB, pB⟩ := S0.2.1.get p1
    subst eB
    clear p0 p1 ha hb hl hl2 HR hw
    by_cases f1 : ax = bx
    · subst f1
      by_cases f2 : ay = bY
      · subst f2
        have HN2 := Lib.hid (HN.out rfl)
        clear HN HF
        have HO : ∀ W W' : World, (PtsAt W w.heap.size (some ad) ps ∧ PtsAt W w.heap.size (some bd) qs ∧ PtAt W ad i ax ay ∧ PtAt W bd i ax ay ∧ Below w.heap.size w W) → Below W.heap.size W W' → (PtsAt W' w.heap.size (some ad) ps ∧ PtsAt W' w.heap.size (some bd) qs ∧ PtAt W' ad i ax ay ∧ PtAt W' bd i ax ay ∧ Below w.heap.size w W') := fun W W' ⟨x0, x1, x2, x3, hb⟩ h => ⟨x0.later (h.mono hb.size), x1.later (h.mono hb.size), x2.later bA (h.mono hb.size), x3.later bB (h.mono hb.size), hb.trans (h.mono hb.size)⟩
        replace S0 : PtsAt wr w.heap.size (some ad) ps ∧ PtsAt wr w.heap.size (some bd) qs ∧ PtAt wr ad i ax ay ∧ PtAt wr bd i ax ay ∧ Below w.heap.size w wr := ⟨S0.1, S0.2.1, pA, pB, S0.2.2⟩
        clear pA pB
        obtain ⟨_, _, ⟨_, _⟩, ⟨_, _⟩, _⟩ := id S0
        go_wp2_with fail
        refine Settle.region (fun W => PtsAt W w.heap.size (some ad) ps ∧ PtsAt W w.heap.size (some bd) qs ∧ PtAt W ad i ax ay ∧ PtAt W bd i ax ay ∧ Below w.heap.size w W) (by kernel_rfl) (by kernel_rfl) (by kernel_rfl) (by kernel_rfl) (HO _ _ S0 ((Below.refl _ _).drew)) ?_
        clear S0
        repeat (first
          | (refine Settle.Settles.off (by rfl) ?_; simp only [Act.put, List.setIfInBounds_toArray, List.set_cons_zero, List.set_cons_succ])
          | (refine Settle.Settles.quiet (v := ?_) (by rfl) ?_ ?_
             rotate_left
             · (intro W hS; obtain ⟨_, _, ⟨_, _⟩, ⟨_, _⟩, _⟩ := hS; go_simp; with_reducible rfl)
             simp only [Act.put, List.setIfInBounds_toArray, List.set_cons_zero, List.set_cons_succ])
          | (refine Settle.Settles.call (v := ?_) (f := ?_) (args := ?_) (by rfl) ?_ ?_ ?_
             rotate_left 3
             · (intro W; go_simp; refine ⟨?_, ?_⟩ <;> with_reducible rfl)
             · (intro W hS; fail)
             simp only [Act.put, List.setIfInBounds_toArray, List.set_cons_zero, List.set_cons_succ]))
        refine Settle.Settles.nil ?_
        intro wr S0
        obtain ⟨_, _, ⟨_, _⟩, ⟨_, _⟩, _⟩ := id S0
        go_wp2_with fail
        first
          | exact ⟨⟨i + 1, by omega, by go_num, HN2, S0.1, S0.2.1, S0.2.2.2.2⟩, by simp [intOf]; omega⟩
          | (go_roundw <;> first | exact ⟨i + 1, by omega, by go_num, HN2, S0.1, S0.2.1, S0.2.2.2.2⟩ | (simp [intOf]; omega))
      · have E := Lib.hid (HF.out (by simp [f2]))
        have g2 : ¬ bY = ay := fun h => f2 h.symm
        clear HN HF
        have HO : ∀ W W' : World, (PtsAt W w.heap.size (some ad) ps ∧ PtsAt W w.heap.size (some bd) qs ∧ PtAt W ad i ax ay ∧ PtAt W bd i ax bY ∧ Below w.heap.size w W) → Below W.heap.size W W' → (PtsAt W' w.heap.size (some ad) ps ∧ PtsAt W' w.heap.size (some bd) qs ∧ PtAt W' ad i ax ay ∧ PtAt W' bd i ax bY ∧ Below w.heap.size w W') := fun W W' ⟨x0, x1, x2, x3, hb⟩ h => ⟨x0.later (h.mono hb.size), x1.later (h.mono hb.size), x2.later bA (h.mono hb.size), x3.later bB (h.mono hb.size), hb.trans (h.mono hb.size)⟩
        replace S0 : PtsAt wr w.heap.size (some ad) ps ∧ PtsAt wr w.heap.size (some bd) qs ∧ PtAt wr ad i ax ay ∧ PtAt wr bd i ax bY ∧ Below w.heap.size w wr := ⟨S0.1, S0.2.1, pA, pB, S0.2.2⟩
        clear pA pB
        obtain ⟨_, _, ⟨_, _⟩, ⟨_, _⟩, _⟩ := id S0
        go_wp2_with fail
        refine Settle.region (fun W => PtsAt W w.heap.size (some ad) ps ∧ PtsAt W w.heap.size (some bd) qs ∧ PtAt W ad i ax ay ∧ PtAt W bd i ax bY ∧ Below w.heap.size w W) (by kernel_rfl) (by kernel_rfl) (by kernel_rfl) (by kernel_rfl) (HO _ _ S0 ((Below.refl _ _).drew)) ?_
        clear S0
        repeat (first
          | (refine Settle.Settles.off (by rfl) ?_; simp only [Act.put, List.setIfInBounds_toArray, List.set_cons_zero, List.set_cons_succ])
          | (refine Settle.Settles.quiet (v := ?_) (by rfl) ?_ ?_
             rotate_left
             · (intro W hS; obtain ⟨_, _, ⟨_, _⟩, ⟨_, _⟩, _⟩ := hS; go_simp; with_reducible rfl)
             simp only [Act.put, List.setIfInBounds_toArray, List.set_cons_zero, List.set_cons_succ])
          | (refine Settle.Settles.call (v := ?_) (f := ?_) (args := ?_) (by rfl) ?_ ?_ ?_
             rotate_left 3
             · (intro W; go_simp; refine ⟨?_, ?_⟩ <;> with_reducible rfl)
             · (intro W hS; fail)
             simp only [Act.put, List.setIfInBounds_toArray, List.set_cons_zero, List.set_cons_succ]))
        refine Settle.Settles.nil ?_
        intro wr S0
        obtain ⟨_, _, ⟨_, _⟩, ⟨_, _⟩, _⟩ := id S0
        go_wp2_with fail
        go_ret
        exact ⟨ret_bool E.out.symm, S0.2.2.2.2⟩
    · have E := Lib.hid (HF.out (by simp [f1]))
      have g1 : ¬ bx = ax := fun h => f1 h.symm
      clear HN HF
      have HO : ∀ W W' : World, (PtsAt W w.heap.size (some ad) ps ∧ PtsAt W w.heap.size (some bd) qs ∧ PtAt W ad i ax ay ∧ PtAt W bd i bx bY ∧ Below w.heap.size w W) → Below W.heap.size W W' → (PtsAt W' w.heap.size (some ad) ps ∧ PtsAt W' w.heap.size (some bd) qs ∧ PtAt W' ad i ax ay ∧ PtAt W' bd i bx bY ∧ Below w.heap.size w W') := fun W W' ⟨x0, x1, x2, x3, hb⟩ h => ⟨x0.later (h.mono hb.size), x1.later (h.mono hb.size), x2.later bA (h.mono hb.size), x3.later bB (h.mono hb.size), hb.trans (h.mono hb.size)⟩
      replace S0 : PtsAt wr w.heap.size (some ad) ps ∧ PtsAt wr w.heap.size (some bd) qs ∧ PtAt wr ad i ax ay ∧ PtAt wr bd i bx bY ∧ Below w.heap.size w wr := ⟨S0.1, S0.2.1, pA, pB, S0.2.2⟩
      clear pA pB
      obtain ⟨_, _, ⟨_, _⟩, ⟨_, _⟩, _⟩ := id S0
      go_wp2_with fail
      refine Settle.region (fun W => PtsAt W w.heap.size (some ad) ps ∧ PtsAt W w.heap.size (some bd) qs ∧ PtAt W ad i ax ay ∧ PtAt W bd i bx bY ∧ Below w.heap.size w W) (by kernel_rfl) (by kernel_rfl) (by kernel_rfl) (by kernel_rfl) (HO _ _ S0 ((Below.refl _ _).drew)) ?_
      clear S0
      repeat (first
        | (refine Settle.Settles.off (by rfl) ?_; simp only [Act.put, List.setIfInBounds_toArray, List.set_cons_zero, List.set_cons_succ])
        | (refine Settle.Settles.quiet (v := ?_) (by rfl) ?_ ?_
           rotate_left
           · (intro W hS; obtain ⟨_, _, ⟨_, _⟩, ⟨_, _⟩, _⟩ := hS; go_simp; with_reducible rfl)
           simp only [Act.put, List.setIfInBounds_toArray, List.set_cons_zero, List.set_cons_succ])
        | (refine Settle.Settles.call (v := ?_) (f := ?_) (args := ?_) (by rfl) ?_ ?_ ?_
           rotate_left 3
           · (intro W; go_simp; refine ⟨?_, ?_⟩ <;> with_reducible rfl)
           · (intro W hS; fail)
           simp only [Act.put, List.setIfInBounds_toArray, List.set_cons_zero, List.set_cons_succ]))
      refine Settle.Settles.nil ?_
      intro wr S0
      obtain ⟨_, _, ⟨_, _⟩, ⟨_, _⟩, _⟩ := id S0
      go_wp2_with fail
      go_ret
      exact ⟨ret_bool E.out.symm, S0.2.2.2.2⟩

set_option maxRecDepth 100000 in
set_option maxHeartbeats 6400000 in
theorem sameRoom (A : Option Addr) (n cap : Nat) (B : Option Addr) (m cb : Nat) (w : World) (ps : List (Int × Int)) (hl : ps.length = n) (hn : n ≤ 1048576) (hp : PtsAt w w.heap.size A ps) (qs : List (Int × Int)) (hl2 : qs.length = m) (hn2 : m ≤ 1048576) (hq : PtsAt w w.heap.size B qs) (_hc : n ≤ cap) :
    Calls Try.prog 38 #[.agg #[.slice A n cap], .agg #[.slice B m cb]] w fun e w' => e = .returned (.int .i64 (sameI ps qs)) ∧ Below w.heap.size w w' := by
  obtain ⟨r, hr⟩ : ∃ r, sameI ps qs = r := ⟨_, rfl⟩
  have HR := Lib.hid hr
  rw [hr]
  clear hr
  go_enter Try.func38, Try.ntmps38
  go_wp2_with fail
  have X0 := (Pts.boxR w (.slice A n cap) 34 (k := w.heap.size) (by simp)).alloc (Obj.cells #[.slice B m cb] 34)
  have X1 := Pts.boxR (w.alloc (Obj.cells #[.slice A n cap] 34)) (.slice B m cb) 34 (k := w.heap.size + 1) (by simp)
  have b0 := PointOk.below2 w (Obj.cells #[.slice A n cap] 34) (Obj.cells #[.slice B m cb] 34)
  have HO : ∀ W W' : World, (Pts.BoxR W (w.heap.size) (.slice A n cap) ∧ Pts.BoxR W (w.heap.size + 1) (.slice B m cb) ∧ PtsAt W w.heap.size A ps ∧ PtsAt W w.heap.size B qs ∧ Below w.heap.size w W) → Below W.heap.size W W' → (Pts.BoxR W' (w.heap.size) (.slice A n cap) ∧ Pts.BoxR W' (w.heap.size + 1) (.slice B m cb) ∧ PtsAt W' w.heap.size A ps ∧ PtsAt W' w.heap.size B qs ∧ Below w.heap.size w W') := fun W W' ⟨h0, h1, x0, x1, hb⟩ h => ⟨h0.later h, h1.later h, x0.later (h.mono hb.size), x1.later (h.mono hb.size), hb.trans (h.mono hb.size)⟩
  have hz0_ : Hid ((((w.alloc (Obj.cells #[.slice A n cap] 34)).alloc (Obj.cells #[.slice B m cb] 34))).heap.size = w.heap.size + 1 + 1) := Lib.hid (by simp)
  have Y0 : PtsAt (((w.alloc (Obj.cells #[.slice A n cap] 34)).alloc (Obj.cells #[.slice B m cb] 34))) w.heap.size A ps := hp.later b0
  have Y1 : PtsAt (((w.alloc (Obj.cells #[.slice A n cap] 34)).alloc (Obj.cells #[.slice B m cb] 34))) w.heap.size B qs := hq.later b0
  generalize ((w.alloc (Obj.cells #[.slice A n cap] 34)).alloc (Obj.cells #[.slice B m cb] 34)) = w0 at X0 X1 Y0 Y1 b0 hz0_ ⊢
  have S0 := (⟨X0, X1, Y0, Y1, b0⟩ : Pts.BoxR w0 (w.heap.size) (.slice A n cap) ∧ Pts.BoxR w0 (w.heap.size + 1) (.slice B m cb) ∧ PtsAt w0 w.heap.size A ps ∧ PtsAt w0 w.heap.size B qs ∧ Below w.heap.size w w0)
  clear X0 X1 Y0 Y1 b0
  obtain ⟨⟨_, _⟩, ⟨_, _⟩, _, _, _⟩ := id S0
  refine (RoomOkImpl.roomOk A n cap _ ps hl hn (S0.2.2.1.wide S0.2.2.2.2.size)).mono ?_
  rintro e w1 ⟨rfl, hb_⟩
  replace S0 := HO _ _ S0 hb_
  clear hb_
  obtain ⟨⟨_, _⟩, ⟨_, _⟩, _, _, _⟩ := id S0
  cases h1 : roomB ps
  · have E : Hid (r = -1) := Lib.hid (by rw [← HR.out]; exact sameI_no (.inl h1))
    clear hl hl2 HR
    go_wp2_with fail
    go_ret
    exact ⟨ret_i64 E.out.symm, S0.2.2.2.2⟩
  go_wp2_with fail
  refine (RoomOkImpl.roomOk B m cb _ qs hl2 hn2 (S0.2.2.2.1.wide S0.2.2.2.2.size)).mono ?_
  rintro e w2 ⟨rfl, hb_⟩
  replace S0 := HO _ _ S0 hb_
  clear hb_
  obtain ⟨⟨_, _⟩, ⟨_, _⟩, _, _, _⟩ := id S0
  cases h2 : roomB qs
  · have E : Hid (r = -1) := Lib.hid (by rw [← HR.out]; exact sameI_no (.inr h2))
    clear hl hl2 HR
    go_wp2_with fail
    go_ret
    exact ⟨ret_i64 E.out.symm, S0.2.2.2.2⟩
  have hy := (roomB_yes h1).1
  rw [hl] at hy
  have hfd : ∀ (v : Value) (w : World), (Instr.field 34 (.agg #[v]) 0).run Try.prog w = .ok v w := fun _ _ => rfl
  go_wp2_with fail
  go_loopw [17] (fun q wr => ∃ k : Nat, k ≤ n ∧ q = .int .i64 k ∧ Hid (∀ j, j < k → rotB ps qs j = false) ∧ (Pts.BoxR wr (w.heap.size) (.slice A n cap) ∧ Pts.BoxR wr (w.heap.size + 1) (.slice B m cb) ∧ PtsAt wr w.heap.size A ps ∧ PtsAt wr w.heap.size B qs ∧ Below w.heap.size w wr))
    (fun q _ => n - (intOf q).toNat)
  case atStart => exact ⟨0, Nat.zero_le _, rfl, Lib.hid (fun j hj => absurd hj (by omega)), S0⟩
  case round =>
    clear S0
    obtain ⟨k, hk, rfl, hno, S0⟩ := hrel
    obtain ⟨⟨_, _⟩, ⟨_, _⟩, _, _, _⟩ := id S0
    by_cases hlt : k < n
    rotate_left
    · obtain rfl : n = k := by omega
      have E : Hid (r = -1) := Lib.hid (by rw [← HR.out]; exact sameI_none h1 h2 (by rw [hl]; exact hno.out))
      clear hl hl2 HR hno h1 h2
      go_wp2_with fail
      go_ret
      exact ⟨ret_i64 E.out.symm, S0.2.2.2.2⟩
    have hk1 : (k : Int) < (n : Int) := by omega
    have hk0 : (0 : Int) ≤ (k : Int) := by omega
    have HT : Hid (rotB ps qs k = true → r = (k : Int)) := Lib.hid (fun h => by rw [← HR.out]; exact sameI_at h1 h2 (by omega) h hno.out)
    have HF : Hid (rotB ps qs k = false → ∀ j, j < k + 1 → rotB ps qs j = false) := Lib.hid (fun h j hj => by
      rcases Nat.lt_or_ge j k with h3 | h3
      · exact hno.out j h3
      · obtain rfl : j = k := by omega
        exact h)
    have QT : Hid (∀ w hp, _) := Lib.hid fun w hp => StartImpl.startAt A n cap (k : Int) w ps hl hn _hc hp
    rw [startL_yes h1 (by omega)] at QT
    have hlr : (ps.drop k ++ ps.take k).length = n := by simp; omega
    have HB : Hid (rotB ps qs k = decide (ps.drop k ++ ps.take k = qs)) := Lib.hid rfl
    unfold GivesR at QT
    generalize ps.drop k ++ ps.take k = l at *
    have QE : Hid (∀ A1 c1 w hp hq, _) := Lib.hid fun A1 c1 w hp hq => equalPts A1 n c1 B m cb w l hlr hn hp qs hl2 hn2 hq
    rw [← HB.out] at QE
    rw [hlr] at QT
    clear HR hno h1 h2 HB
    generalize rotB ps qs k = s at *
    go_wp2_with fail
    have S0_ := HO _ _ S0 ((Below.refl _ _).drew)
    have HS0_ : wr.drew.cell? ⟨w.heap.size, 0, none⟩ = some (.slice A n cap) ∧ wr.drew.cell? ⟨w.heap.size + 1, 0, none⟩ = some (.slice B m cb) := ⟨S0_.1.1, S0_.2.1.1⟩
    refine wp_region_held_drew (S := fun W => W.cell? ⟨w.heap.size, 0, none⟩ = some (.slice A n cap) ∧ W.cell? ⟨w.heap.size + 1, 0, none⟩ = some (.slice B m cb)) (by kernel_rfl) HS0_ (fun hHeld => ?_)
    refine wpAnyH_take (i := 0) (oi := ⟨some 20, _, _, _, _, _⟩) (v := ?_) rfl (by kernel_rfl) (by kernel_rfl) (by kernel_rfl) (fun _ _ _ h => h) (Or.inl ⟨by rfl, ?_⟩) (by assumption) ?_
    rotate_left 1
    · (intro w hSw; (try dsimp only at hSw); go_simp; try with_reducible rfl)
    try simp only [Act.put, List.setIfInBounds_toArray, List.set_cons_zero, List.set_cons_succ]
    refine wpAnyH_take (i := 1) (oi := ⟨some 21, _, _, _, _, _⟩) (v := ?_) rfl (by kernel_rfl) (by kernel_rfl) (by kernel_rfl) (fun _ _ _ h => h) (Or.inl ⟨by rfl, ?_⟩) (by assumption) ?_
    rotate_left 1
    · (intro w hSw; (try dsimp only at hSw); go_simp; try with_reducible rfl)
    try simp only [Act.put, List.setIfInBounds_toArray, List.set_cons_zero, List.set_cons_succ]
    refine wpAnyH_take (i := 4) (oi := ⟨some 24, _, _, _, _, _⟩) (v := ?_) rfl (by kernel_rfl) (by kernel_rfl) (by kernel_rfl) (fun _ _ _ h => h) (Or.inl ⟨by rfl, ?_⟩) (by assumption) ?_
    rotate_left 1
    · (intro w hSw; (try dsimp only at hSw); go_simp; try with_reducible rfl)
    try simp only [Act.put, List.setIfInBounds_toArray, List.set_cons_zero, List.set_cons_succ]
    refine wpAnyH_take (i := 5) (oi := ⟨some 25, _, _, _, _, _⟩) (v := ?_) rfl (by kernel_rfl) (by kernel_rfl) (by kernel_rfl) (fun _ _ _ h => h) (Or.inl ⟨by rfl, ?_⟩) (by assumption) ?_
    rotate_left 1
    · (intro w hSw; (try dsimp only at hSw); go_simp; try with_reducible rfl)
    try simp only [Act.put, List.setIfInBounds_toArray, List.set_cons_zero, List.set_cons_succ]
    refine wpAnyH_ready (rs := [2]) (by kernel_rfl) (by simp) ?_
    refine AllReadyH.cons (o := ⟨some 22, _, _, _, _, _⟩) rfl (fun K hK => ?_) ?_
    rotate_left 1
    · exact AllReadyH.nil
    go_simp
    go_at_call 73; refine (QT.out _ (S0_.2.2.1.wide S0_.2.2.2.2.size)).mono ?_; rintro e w3 ⟨A1, c1, rfl, H1_, hb2_⟩
    have S3_ := HO _ _ S0_ hb2_
    have PL := FiltImpl.pts_own H1_
    go_wp2_with fail
    refine hK.out _ _ ⟨S3_.1.1, S3_.2.1.1⟩ (fun hHeld => ?_)
    clear hK K
    refine wpAnyH_take (i := 3) (oi := ⟨some 23, _, _, _, _, _⟩) (v := ?_) rfl (by kernel_rfl) (by kernel_rfl) (by kernel_rfl) (fun _ _ _ h => h) (Or.inl ⟨by rfl, ?_⟩) (by assumption) ?_
    rotate_left 1
    · (intro w hSw; (try dsimp only at hSw); go_simp; try with_reducible rfl)
    try simp only [Act.put, List.setIfInBounds_toArray, List.set_cons_zero, List.set_cons_succ]
    refine wpAnyH_ready (rs := [6]) (by kernel_rfl) (by simp) ?_
    refine AllReadyH.cons (o := ⟨some 26, _, _, _, _, _⟩) rfl (fun K hK => ?_) ?_
    rotate_left 1
    · exact AllReadyH.nil
    go_simp
    go_at_call 72; refine (QE.out A1 c1 _ PL (S3_.2.2.2.1.wide S3_.2.2.2.2.size)).mono ?_; rintro e w4 ⟨rfl, hb3_⟩
    have S4_ := HO _ _ S3_ hb3_
    go_wp2_with fail
    refine hK.out _ _ ⟨S4_.1.1, S4_.2.1.1⟩ (fun hHeld => ?_)
    clear hK K
    refine wpAnyH_done (by kernel_rfl) ?_ _
    replace S0 := S4_
    obtain ⟨⟨_, _⟩, ⟨_, _⟩, _, _, _⟩ := id S0
    clear S0_ S3_ S4_ HS0_ H1_ PL QT QE hb2_ hb3_
    cases s
    · have HN := Lib.hid (HF.out rfl)
      clear HT HF hl hl2
      go_wp2_with fail
      first
        | exact ⟨⟨k + 1, by omega, by go_num, HN, S0⟩, by simp [intOf]; omega⟩
        | (go_roundw <;> first | exact ⟨k + 1, by omega, by go_num, HN, S0⟩ | (simp [intOf]; omega))
    · have E := Lib.hid (HT.out rfl)
      clear HT HF hl hl2
      go_wp2_with fail
      go_ret
      exact ⟨ret_i64 E.out.symm, S0.2.2.2.2⟩

end Go.Proofs.Ytonbpmabmjhdgab.SameImpl

