/-
  What the model's AreColors does, as a contract: its answer; new memory alone is written.
-/
import Derived.Test.YtkcodmafakjkfaaGreatTreeModel
import Derived.Test.YtkcodmafakjkfaaGreatAreColMath
namespace Go.Proofs.YtkcodmafakjkfaaGreat.AreColSpec
open Go.RowKit Own PointMath WallMath RoomMath Pts Blk AreaMath PlaceMath FloorMath LineMath CutsMath SightMath DiagMath TriMath TrisMath TreeMath Ints Tup3 TriRow TrisModel TreeSpec AreColMath
open PointOk (ret_bool ret_i64 below1 below2 below3)

theorem at_q {zs : List Int} {k : Nat} (h : k < zs.length) : zs[k]? = some (zs.getD k 0) := by
  rw [List.getD_eq_getElem?_getD, List.getElem?_eq_getElem h]; rfl
theorem wrong_in (z : Int) : decide (0 ≤ z ∧ z ≤ 2) = !wrongC z := by
  unfold wrongC
  by_cases h1 : z < 0
  · rw [decide_eq_true h1, decide_eq_false (show ¬ (0 ≤ z ∧ z ≤ 2) by omega)]; rfl
  · by_cases h2 : 3 ≤ z
    · rw [decide_eq_false h1, decide_eq_true h2, decide_eq_false (show ¬ (0 ≤ z ∧ z ≤ 2) by omega)]; rfl
    · rw [decide_eq_false h1, decide_eq_false h2, decide_eq_true (show (0 ≤ z ∧ z ≤ 2) by omega)]; rfl

set_option maxRecDepth 100000 in
set_option maxHeartbeats 12800000 in
theorem areCol (A : Option Addr) (n cap : Nat) (B : Option Addr) (m cb : Nat) (w : World) (ps : List (Int × Int)) (hl : ps.length = n) (hn : n ≤ 1048576) (hp : PtsAt w w.heap.size A ps) (qs : List Int) (hlq : qs.length = m) (hm : m ≤ 1048576) (hq : IntsAt w w.heap.size B qs) :
    Calls Tryz.prog 36 #[.agg #[.slice A n cap], .slice B m cb] w fun e w' => e = .returned (.bool (areColB ps qs)) ∧ Below w.heap.size w w' := by
  obtain ⟨r, hr⟩ : ∃ r, areColB ps qs = r := ⟨_, rfl⟩
  have HR := Lib.hid hr
  rw [hr]
  clear hr
  have HE : Hid (r = (!decide ((trisL ps).length = 0) && decide (m = n) && okC qs && !(List.range (trisL ps).length).any (badF ps qs))) := Lib.hid (by rw [← HR.out, ← hl, ← hlq]; rfl)
  have HI : Hid (∀ k, k < (trisL ps).length → ∃ x y z : Nat, tt (trisL ps) k = ((x : Int), (y : Int), (z : Int)) ∧ x < y ∧ y < z ∧ z < n) := Lib.hid (fun k hk => by rw [← hl]; exact tris_in hk)
  have HB : Hid (∀ k, badF ps qs k = badT qs (tt (trisL ps) k).1 (tt (trisL ps) k).2.1 (tt (trisL ps) k).2.2) := Lib.hid (fun _ => rfl)
  have HO1 : Hid ((∀ k, k < m → wrongC (qs.getD k 0) = false) → okC qs = true) := Lib.hid (fun h => by
    unfold okC; rw [hlq, List.any_eq_false.2 (fun k hk => by rw [h k (List.mem_range.1 hk)]; simp)]; rfl)
  have HO0 : Hid (∀ k, k < m → wrongC (qs.getD k 0) = true → okC qs = false) := Lib.hid (fun k hk h => by
    unfold okC; rw [hlq, List.any_eq_true.2 ⟨k, List.mem_range.2 hk, h⟩]; rfl)
  have QT : Hid (∀ W h, _) := Lib.hid fun W h => trianglesOf A n cap W ps hl hn h
  have hle := TrisLand.trisL_le ps
  unfold GivesC at QT
  generalize badF ps qs = f at *
  generalize trisL ps = L at *
  obtain ⟨q, hLq⟩ : ∃ q, L.length = q := ⟨_, rfl⟩
  rw [hLq] at QT HE HI hle
  generalize okC qs = oc at *
  clear HR
  go_enter Tryz.func36, Tryz.ntmps36
  go_wp2_with fail
  have X0 := Pts.boxR w (.slice A n cap) 30 (k := w.heap.size) (by simp)
  have b0 := PointOk.below1 w (Obj.cells #[.slice A n cap] 30)
  have HO : ∀ W W' : World, (Pts.BoxR W (w.heap.size) (.slice A n cap) ∧ PtsAt W w.heap.size A ps ∧ IntsAt W w.heap.size B qs ∧ Below w.heap.size w W) → Below W.heap.size W W' → (Pts.BoxR W' (w.heap.size) (.slice A n cap) ∧ PtsAt W' w.heap.size A ps ∧ IntsAt W' w.heap.size B qs ∧ Below w.heap.size w W') := fun W W' ⟨h0, x0, x1, hb⟩ h => ⟨h0.later h, x0.later (h.mono hb.size), x1.later (h.mono hb.size), hb.trans (h.mono hb.size)⟩
  have hz0_ : Hid (((w.alloc (Obj.cells #[.slice A n cap] 30))).heap.size = w.heap.size + 1) := Lib.hid (by simp)
  have Y0 : PtsAt ((w.alloc (Obj.cells #[.slice A n cap] 30))) w.heap.size A ps := hp.later b0
  have Y1 : IntsAt ((w.alloc (Obj.cells #[.slice A n cap] 30))) w.heap.size B qs := hq.later b0
  generalize (w.alloc (Obj.cells #[.slice A n cap] 30)) = w0 at X0 Y0 Y1 b0 hz0_ ⊢
  have S0 := (⟨X0, Y0, Y1, b0⟩ : Pts.BoxR w0 (w.heap.size) (.slice A n cap) ∧ PtsAt w0 w.heap.size A ps ∧ IntsAt w0 w.heap.size B qs ∧ Below w.heap.size w w0)
  clear X0 Y0 Y1 b0
  obtain ⟨⟨_, _⟩, _, _, _⟩ := id S0
  refine (QT.out _ (S0.2.1.wide S0.2.2.2.size)).mono ?_
  rintro e w2 ⟨A2, c2, rfl, h4, hb_⟩
  replace S0 := HO _ _ S0 hb_
  have T2 := ts_own h4
  clear hb_ QT h4
  obtain ⟨⟨_, _⟩, _, _, _⟩ := id S0
  by_cases c0 : q = 0
  · subst c0
    have E : Hid (r = false) := Lib.hid (by rw [HE.out]; rfl)
    clear HE HI HB HO0 HO1 hl hlq hLq T2
    go_wp2_with fail
    go_ret
    exact ⟨ret_bool E.out.symm, S0.2.2.2⟩
  have q0 : ((q : Int) == 0) = false := by simp; omega
  have q0n : (q == 0) = false := by simp; omega
  by_cases c1 : m = n
  rotate_left
  · have E : Hid (r = false) := Lib.hid (by rw [HE.out, decide_eq_false c1]; simp)
    have g1 : ((m : Int) != (n : Int)) = true := by rw [bne_iff_ne]; omega
    have g1n : (m != n) = true := by rw [bne_iff_ne]; exact c1
    clear HE HI HB HO0 HO1 hl hlq hLq T2
    go_wp2_with fail
    go_ret
    exact ⟨ret_bool E.out.symm, S0.2.2.2⟩
  subst c1
  have HO : ∀ W W' : World, (IntsAt W w.heap.size B qs ∧ (TsAt W w2.heap.size A2 L ∧ Below w2.heap.size w2 W) ∧ Below w.heap.size w W) → Below W.heap.size W W' → (IntsAt W' w.heap.size B qs ∧ (TsAt W' w2.heap.size A2 L ∧ Below w2.heap.size w2 W') ∧ Below w.heap.size w W') := fun W W' ⟨x0, x1, hb⟩ h => ⟨x0.later (h.mono hb.size), ⟨x1.1.later (h.mono x1.2.size), x1.2.trans (h.mono x1.2.size)⟩, hb.trans (h.mono hb.size)⟩
  have S1 : IntsAt w2 w.heap.size B qs ∧ (TsAt w2 w2.heap.size A2 L ∧ Below w2.heap.size w2 w2) ∧ Below w.heap.size w w2 := ⟨S0.2.2.1, ⟨T2, Below.refl _ _⟩, S0.2.2.2⟩
  go_wp2_with fail
  clear S0 T2
  have S0 := S1
  clear S1
  go_loopw [6] (fun v wr => ∃ k : Nat, k ≤ m ∧ v = .int .i64 k ∧ Hid (∀ j, j < k → wrongC (qs.getD j 0) = false) ∧ (IntsAt wr w.heap.size B qs ∧ (TsAt wr w2.heap.size A2 L ∧ Below w2.heap.size w2 wr) ∧ Below w.heap.size w wr))
    (fun v _ => m - (intOf v).toNat)
  case atStart => exact ⟨0, Nat.zero_le _, rfl, Lib.hid (fun t ht => absurd ht (by omega)), S0⟩
  case round =>
    clear S0
    obtain ⟨k, hk, rfl, hno, S0⟩ := hrel
    by_cases hlt : k < m
    · have k0 : (0 : Int) ≤ (k : Int) := by omega
      have k1 : (k : Int) < (m : Int) := by omega
      have p0 := at_q (zs := qs) (k := k) (by omega)
      have HK := Lib.hid (fun h => HO0.out k hlt h)
      have HW : Hid (wrongC (qs.getD k 0) = false → ∀ j, j < k + 1 → wrongC (qs.getD j 0) = false) := Lib.hid (fun h j hj => by
        rcases Nat.lt_or_ge j k with h1 | h1
        · exact hno.out j h1
        · obtain rfl : j = k := by omega
          exact h)
      generalize qs.getD k 0 = x at *
      have Q1 : Hid (∀ w, _) := Lib.hid fun w => PointOk.l01In x 0 2 w
      rw [wrong_in] at Q1
      obtain ⟨ad, eA, bA, pA⟩ := S0.1.get p0
      subst eA
      obtain ⟨_, _⟩ := id pA
      clear p0 hno HO0 HO1 HI HB
      cases hx : wrongC x
      · have h2 := Lib.hid (HW.out hx)
        rw [hx] at Q1
        clear HW HK hl hlq hLq
        go_wp2_with fail
        refine (Q1.out _).mono ?_
        rintro e w_ ⟨rfl, rfl⟩
        go_wp2_with fail
        first
          | exact ⟨⟨k + 1, by omega, by go_num, h2, S0⟩, by simp [intOf]; omega⟩
          | (go_roundw <;> first | exact ⟨k + 1, by omega, by go_num, h2, S0⟩ | (simp [intOf]; omega))
      · have E : Hid (r = false) := Lib.hid (by rw [HE.out, HK.out hx, Bool.and_false]; rfl)
        rw [hx] at Q1
        clear HW HK hl hlq hLq HE
        go_wp2_with fail
        refine (Q1.out _).mono ?_
        rintro e w_ ⟨rfl, rfl⟩
        go_wp2_with fail
        go_ret
        exact ⟨ret_bool E.out.symm, S0.2.2⟩
    obtain rfl : k = m := by omega
    have E : Hid ((!(List.range q).any f) = r) := Lib.hid (by rw [HE.out, decide_eq_false c0, HO1.out hno.out]; simp)
    have HA : Hid ((∀ j, j < q → f j = false) → r = true) := Lib.hid (fun h => by rw [← E.out, List.any_eq_false.2 (fun k hk => by rw [h k (List.mem_range.1 hk)]; simp)]; rfl)
    have HA0 : Hid (∀ j, j < q → f j = true → r = false) := Lib.hid (fun j hj h => by rw [← E.out, List.any_eq_true.2 ⟨j, List.mem_range.2 hj, h⟩]; rfl)
    clear HE HO0 HO1 hno E
    go_wp2_with fail
    go_loopw [7] (fun v wr => ∃ i : Nat, i ≤ q ∧ v = .int .i64 i ∧ Hid (∀ j, j < i → f j = false) ∧ (IntsAt wr w.heap.size B qs ∧ (TsAt wr w2.heap.size A2 L ∧ Below w2.heap.size w2 wr) ∧ Below w.heap.size w wr))
      (fun v _ => q - (intOf v).toNat)
    case atStart => exact ⟨0, Nat.zero_le _, rfl, Lib.hid (fun t ht => absurd ht (by omega)), S0⟩
    case round =>
      clear S0
      obtain ⟨i, hi, rfl, hno, S0⟩ := hrel
      by_cases hlt : i < q
      rotate_left
      · obtain rfl : i = q := by omega
        have E := Lib.hid (HA.out hno.out)
        clear HA HA0 hno HI HB hl hlq hLq
        go_wp2_with fail
        go_ret
        exact ⟨ret_bool E.out.symm, S0.2.2⟩
      have i0 : (0 : Int) ≤ (i : Int) := by omega
      have i1 : (i : Int) < (q : Int) := by omega
      have qi := tt_at (ps := L) (k := i) (by omega)
      obtain ⟨x, y, z, ez, h1, h2, h3⟩ := HI.out i hlt
      have hbi := HB.out i
      rw [ez] at qi hbi
      have HK := Lib.hid (fun h => HA0.out i hlt h)
      have HW : Hid (f i = false → ∀ j, j < i + 1 → f j = false) := Lib.hid (fun h j hj => by
        rcases Nat.lt_or_ge j i with h1 | h1
        · exact hno.out j h1
        · obtain rfl : j = i := by omega
          exact h)
      have p0 := at_q (zs := qs) (k := x) (by omega)
      have p1 := at_q (zs := qs) (k := y) (by omega)
      have p2 := at_q (zs := qs) (k := z) (by omega)
      have HF : Hid (f i = (decide (qs.getD x 0 = qs.getD y 0) || decide (qs.getD y 0 = qs.getD z 0) || decide (qs.getD x 0 = qs.getD z 0))) := Lib.hid (by rw [hbi]; rfl)
      generalize qs.getD x 0 = a at *
      generalize qs.getD y 0 = b at *
      generalize qs.getD z 0 = c at *
      generalize f i = fi at *
      obtain ⟨ad, eA, bA, pA⟩ := S0.1.get p0
      obtain ⟨ad2, eA2, _, pB⟩ := S0.1.get p1
      rw [eA] at eA2
      injection eA2 with eA2
      subst eA2
      obtain ⟨ad2, eA2, _, pC⟩ := S0.1.get p2
      rw [eA] at eA2
      injection eA2 with eA2
      subst eA2
      subst eA
      obtain ⟨td, eT, bT, pT⟩ := S0.2.1.1.get qi
      subst eT
      have x0 : (0 : Int) ≤ (x : Int) := by omega
      have x1 : (x : Int) < (k : Int) := by omega
      have y0 : (0 : Int) ≤ (y : Int) := by omega
      have y1 : (y : Int) < (k : Int) := by omega
      have z0 : (0 : Int) ≤ (z : Int) := by omega
      have z1 : (z : Int) < (k : Int) := by omega
      clear p0 p1 p2 qi ez hbi hno HA HA0 HI HB
      have HO : ∀ W W' : World, (IntsAt W w.heap.size (some ad) qs ∧ (TsAt W w2.heap.size (some td) L ∧ Below w2.heap.size w2 W) ∧ IntAt W ad x a ∧ IntAt W ad y b ∧ IntAt W ad z c ∧ (TAt W td i (x : Int) (y : Int) (z : Int) ∧ w2.heap.size ≤ W.heap.size) ∧ Below w.heap.size w W) → Below W.heap.size W W' → (IntsAt W' w.heap.size (some ad) qs ∧ (TsAt W' w2.heap.size (some td) L ∧ Below w2.heap.size w2 W') ∧ IntAt W' ad x a ∧ IntAt W' ad y b ∧ IntAt W' ad z c ∧ (TAt W' td i (x : Int) (y : Int) (z : Int) ∧ w2.heap.size ≤ W'.heap.size) ∧ Below w.heap.size w W') := fun W W' ⟨x0, x1, x2, x3, x4, x5, hb⟩ h => ⟨x0.later (h.mono hb.size), ⟨x1.1.later (h.mono x1.2.size), x1.2.trans (h.mono x1.2.size)⟩, x2.later bA (h.mono hb.size), x3.later bA (h.mono hb.size), x4.later bA (h.mono hb.size), ⟨x5.1.later bT (h.mono x5.2), Nat.le_trans x5.2 h.size⟩, hb.trans (h.mono hb.size)⟩
      have S1 : IntsAt wr w.heap.size (some ad) qs ∧ (TsAt wr w2.heap.size (some td) L ∧ Below w2.heap.size w2 wr) ∧ IntAt wr ad x a ∧ IntAt wr ad y b ∧ IntAt wr ad z c ∧ (TAt wr td i (x : Int) (y : Int) (z : Int) ∧ w2.heap.size ≤ wr.heap.size) ∧ Below w.heap.size w wr := ⟨S0.1, S0.2.1, pA, pB, pC, ⟨pT, S0.2.1.2.size⟩, S0.2.2⟩
      clear S0 pA pB pC pT
      have S0 := S1
      clear S1
      obtain ⟨_, _, ⟨_, _⟩, ⟨_, _⟩, ⟨_, _⟩, ⟨⟨_, _, _⟩, _⟩, _⟩ := id S0
      by_cases e1 : a = b
      · have g1 : (a == b) = true := by simpa using e1
        have E : Hid (r = false) := Lib.hid (HK.out (by rw [HF.out, decide_eq_true e1]; rfl))
        clear HK HW HF e1 hl hlq hLq
        go_wp2_with fail
        refine Settle.region (fun W => IntsAt W w.heap.size (some ad) qs ∧ (TsAt W w2.heap.size (some td) L ∧ Below w2.heap.size w2 W) ∧ IntAt W ad x a ∧ IntAt W ad y b ∧ IntAt W ad z c ∧ (TAt W td i (x : Int) (y : Int) (z : Int) ∧ w2.heap.size ≤ W.heap.size) ∧ Below w.heap.size w W) (by kernel_rfl) (by kernel_rfl) (by kernel_rfl) (by kernel_rfl) (HO _ _ S0 ((Below.refl _ _).drew)) ?_
        clear S0
        repeat (first
          | (refine Settle.Settles.off (by rfl) ?_; simp only [Act.put, List.setIfInBounds_toArray, List.set_cons_zero, List.set_cons_succ])
          | (refine Settle.Settles.quiet (v := ?_) (by rfl) ?_ ?_
             rotate_left
             · (intro W hS; obtain ⟨_, _, ⟨_, _⟩, ⟨_, _⟩, ⟨_, _⟩, ⟨⟨_, _, _⟩, _⟩, _⟩ := hS; go_simp; with_reducible rfl)
             simp only [Act.put, List.setIfInBounds_toArray, List.set_cons_zero, List.set_cons_succ])
          | (refine Settle.Settles.call (v := ?_) (f := ?_) (args := ?_) (by rfl) ?_ ?_ ?_
             rotate_left 3
             · (intro W; go_simp; refine ⟨?_, ?_⟩ <;> with_reducible rfl)
             · (intro W hS; fail)
             simp only [Act.put, List.setIfInBounds_toArray, List.set_cons_zero, List.set_cons_succ]))
        refine Settle.Settles.nil ?_
        intro wr S0
        obtain ⟨_, _, ⟨_, _⟩, ⟨_, _⟩, ⟨_, _⟩, ⟨⟨_, _, _⟩, _⟩, _⟩ := id S0
        go_wp2_with fail
        go_ret
        exact ⟨ret_bool E.out.symm, S0.2.2.2.2.2.2⟩
      have g1 : (a == b) = false := by simpa using e1
      by_cases e2 : b = c
      · have g2 : (b == c) = true := by simpa using e2
        have E : Hid (r = false) := Lib.hid (HK.out (by rw [HF.out, decide_eq_true e2]; simp))
        clear HK HW HF e1 e2 hl hlq hLq
        go_wp2_with fail
        refine Settle.region (fun W => IntsAt W w.heap.size (some ad) qs ∧ (TsAt W w2.heap.size (some td) L ∧ Below w2.heap.size w2 W) ∧ IntAt W ad x a ∧ IntAt W ad y b ∧ IntAt W ad z c ∧ (TAt W td i (x : Int) (y : Int) (z : Int) ∧ w2.heap.size ≤ W.heap.size) ∧ Below w.heap.size w W) (by kernel_rfl) (by kernel_rfl) (by kernel_rfl) (by kernel_rfl) (HO _ _ S0 ((Below.refl _ _).drew)) ?_
        clear S0
        repeat (first
          | (refine Settle.Settles.off (by rfl) ?_; simp only [Act.put, List.setIfInBounds_toArray, List.set_cons_zero, List.set_cons_succ])
          | (refine Settle.Settles.quiet (v := ?_) (by rfl) ?_ ?_
             rotate_left
             · (intro W hS; obtain ⟨_, _, ⟨_, _⟩, ⟨_, _⟩, ⟨_, _⟩, ⟨⟨_, _, _⟩, _⟩, _⟩ := hS; go_simp; with_reducible rfl)
             simp only [Act.put, List.setIfInBounds_toArray, List.set_cons_zero, List.set_cons_succ])
          | (refine Settle.Settles.call (v := ?_) (f := ?_) (args := ?_) (by rfl) ?_ ?_ ?_
             rotate_left 3
             · (intro W; go_simp; refine ⟨?_, ?_⟩ <;> with_reducible rfl)
             · (intro W hS; fail)
             simp only [Act.put, List.setIfInBounds_toArray, List.set_cons_zero, List.set_cons_succ]))
        refine Settle.Settles.nil ?_
        intro wr S0
        obtain ⟨_, _, ⟨_, _⟩, ⟨_, _⟩, ⟨_, _⟩, ⟨⟨_, _, _⟩, _⟩, _⟩ := id S0
        go_wp2_with fail
        go_ret
        exact ⟨ret_bool E.out.symm, S0.2.2.2.2.2.2⟩
      have g2 : (b == c) = false := by simpa using e2
      by_cases e3 : a = c
      · have g3 : (a == c) = true := by simpa using e3
        have E : Hid (r = false) := Lib.hid (HK.out (by rw [HF.out, decide_eq_true e3]; simp))
        clear HK HW HF e1 e2 e3 hl hlq hLq
        go_wp2_with fail
        refine Settle.region (fun W => IntsAt W w.heap.size (some ad) qs ∧ (TsAt W w2.heap.size (some td) L ∧ Below w2.heap.size w2 W) ∧ IntAt W ad x a ∧ IntAt W ad y b ∧ IntAt W ad z c ∧ (TAt W td i (x : Int) (y : Int) (z : Int) ∧ w2.heap.size ≤ W.heap.size) ∧ Below w.heap.size w W) (by kernel_rfl) (by kernel_rfl) (by kernel_rfl) (by kernel_rfl) (HO _ _ S0 ((Below.refl _ _).drew)) ?_
        clear S0
        repeat (first
          | (refine Settle.Settles.off (by rfl) ?_; simp only [Act.put, List.setIfInBounds_toArray, List.set_cons_zero, List.set_cons_succ])
          | (refine Settle.Settles.quiet (v := ?_) (by rfl) ?_ ?_
             rotate_left
             · (intro W hS; obtain ⟨_, _, ⟨_, _⟩, ⟨_, _⟩, ⟨_, _⟩, ⟨⟨_, _, _⟩, _⟩, _⟩ := hS; go_simp; with_reducible rfl)
             simp only [Act.put, List.setIfInBounds_toArray, List.set_cons_zero, List.set_cons_succ])
          | (refine Settle.Settles.call (v := ?_) (f := ?_) (args := ?_) (by rfl) ?_ ?_ ?_
             rotate_left 3
             · (intro W; go_simp; refine ⟨?_, ?_⟩ <;> with_reducible rfl)
             · (intro W hS; fail)
             simp only [Act.put, List.setIfInBounds_toArray, List.set_cons_zero, List.set_cons_succ]))
        refine Settle.Settles.nil ?_
        intro wr S0
        obtain ⟨_, _, ⟨_, _⟩, ⟨_, _⟩, ⟨_, _⟩, ⟨⟨_, _, _⟩, _⟩, _⟩ := id S0
        go_wp2_with fail
        go_ret
        exact ⟨ret_bool E.out.symm, S0.2.2.2.2.2.2⟩
      have g3 : (a == c) = false := by simpa using e3
      have h9 := Lib.hid (HW.out (by rw [HF.out, decide_eq_false e1, decide_eq_false e2, decide_eq_false e3]; rfl))
      clear HK HW HF e1 e2 e3 hl hlq hLq
      go_wp2_with fail
      refine Settle.region (fun W => IntsAt W w.heap.size (some ad) qs ∧ (TsAt W w2.heap.size (some td) L ∧ Below w2.heap.size w2 W) ∧ IntAt W ad x a ∧ IntAt W ad y b ∧ IntAt W ad z c ∧ (TAt W td i (x : Int) (y : Int) (z : Int) ∧ w2.heap.size ≤ W.heap.size) ∧ Below w.heap.size w W) (by kernel_rfl) (by kernel_rfl) (by kernel_rfl) (by kernel_rfl) (HO _ _ S0 ((Below.refl _ _).drew)) ?_
      clear S0
      repeat (first
        | (refine Settle.Settles.off (by rfl) ?_; simp only [Act.put, List.setIfInBounds_toArray, List.set_cons_zero, List.set_cons_succ])
        | (refine Settle.Settles.quiet (v := ?_) (by rfl) ?_ ?_
           rotate_left
           · (intro W hS; obtain ⟨_, _, ⟨_, _⟩, ⟨_, _⟩, ⟨_, _⟩, ⟨⟨_, _, _⟩, _⟩, _⟩ := hS; go_simp; with_reducible rfl)
           simp only [Act.put, List.setIfInBounds_toArray, List.set_cons_zero, List.set_cons_succ])
        | (refine Settle.Settles.call (v := ?_) (f := ?_) (args := ?_) (by rfl) ?_ ?_ ?_
           rotate_left 3
           · (intro W; go_simp; refine ⟨?_, ?_⟩ <;> with_reducible rfl)
           · (intro W hS; fail)
           simp only [Act.put, List.setIfInBounds_toArray, List.set_cons_zero, List.set_cons_succ]))
      refine Settle.Settles.nil ?_
      intro wr S0
      obtain ⟨_, _, ⟨_, _⟩, ⟨_, _⟩, ⟨_, _⟩, ⟨⟨_, _, _⟩, _⟩, _⟩ := id S0
      go_wp2_with fail
      first
        | exact ⟨⟨i + 1, by omega, by go_num, h9, S0.1, S0.2.1, S0.2.2.2.2.2.2⟩, by simp [intOf]; omega⟩
        | (go_roundw <;> first | exact ⟨i + 1, by omega, by go_num, h9, S0.1, S0.2.1, S0.2.2.2.2.2.2⟩ | (simp [intOf]; omega))
end Go.Proofs.YtkcodmafakjkfaaGreat.AreColSpec

