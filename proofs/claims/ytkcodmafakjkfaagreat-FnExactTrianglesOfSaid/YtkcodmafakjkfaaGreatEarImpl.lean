/-
  How the landed code finds the next ear among the corners that are left, as contracts: what each function answers; no old cell is written.
-/
import Derived.Test.YtkcodmafakjkfaaGreatTrisImpl
namespace Go.Proofs.YtkcodmafakjkfaaGreat.EarImpl
open Go.RowKit Own PointMath WallMath RoomMath Pts Blk AreaMath PlaceMath FloorMath LineMath CutsMath SightMath DiagMath TriMath SuspMath TrisMath TreeMath Ints TrisImpl
open PointOk (ret_bool ret_i64 below1 below2 below3)

set_option maxRecDepth 100000 in
set_option maxHeartbeats 1600000 in
theorem has (a b c x : Int) (w : World) :
    Calls Tryz.prog 99 #[.agg #[.int .i64 a, .int .i64 b, .int .i64 c], .int .i64 x] w fun e w' => e = .returned (.bool (hasT (a, b, c) x)) ∧ Below w.heap.size w w' := by
  obtain ⟨r, hr⟩ : ∃ r, hasT (a, b, c) x = r := ⟨_, rfl⟩
  have HR := Lib.hid hr
  rw [hr]
  clear hr
  have HE : Hid (r = (decide (x = a) || decide (x = b) || decide (x = c))) := Lib.hid (by rw [← HR.out]; rfl)
  clear HR
  by_cases h1 : x = a
  · have E : Hid (r = true) := Lib.hid (by rw [HE.out, decide_eq_true h1]; rfl)
    have g1 : (x == a) = true := by simpa using h1
    clear HE h1
    go_enter Tryz.func99, Tryz.ntmps99
    go_wp2_with fail
    have X0 := Box3.box1 w a b c 65 (k := w.heap.size) (by simp)
    have b0 := PointOk.below1 w (Obj.cells #[.int .i64 a, .int .i64 b, .int .i64 c] 65)
    have HO : ∀ W W' : World, (Box3.Box W (w.heap.size) a b c ∧ Below w.heap.size w W) → Below W.heap.size W W' → (Box3.Box W' (w.heap.size) a b c ∧ Below w.heap.size w W') := fun W W' ⟨h0, hb⟩ h => ⟨h0.later h, hb.trans (h.mono hb.size)⟩
    have hz0_ : Hid (((w.alloc (Obj.cells #[.int .i64 a, .int .i64 b, .int .i64 c] 65))).heap.size = w.heap.size + 1) := Lib.hid (by simp)
    generalize (w.alloc (Obj.cells #[.int .i64 a, .int .i64 b, .int .i64 c] 65)) = w0 at X0 b0 hz0_ ⊢
    have S0 := (⟨X0, b0⟩ : Box3.Box w0 (w.heap.size) a b c ∧ Below w.heap.size w w0)
    clear X0 b0
    obtain ⟨⟨_, _, _⟩, _⟩ := id S0
    go_ret
    exact ⟨ret_bool E.out.symm, S0.2⟩
  have g1 : (x == a) = false := by simpa using h1
  by_cases h2 : x = b
  · have E : Hid (r = true) := Lib.hid (by rw [HE.out, decide_eq_true h2]; simp)
    have g2 : (x == b) = true := by simpa using h2
    clear HE h1 h2
    go_enter Tryz.func99, Tryz.ntmps99
    go_wp2_with fail
    have X0 := Box3.box1 w a b c 65 (k := w.heap.size) (by simp)
    have b0 := PointOk.below1 w (Obj.cells #[.int .i64 a, .int .i64 b, .int .i64 c] 65)
    have HO : ∀ W W' : World, (Box3.Box W (w.heap.size) a b c ∧ Below w.heap.size w W) → Below W.heap.size W W' → (Box3.Box W' (w.heap.size) a b c ∧ Below w.heap.size w W') := fun W W' ⟨h0, hb⟩ h => ⟨h0.later h, hb.trans (h.mono hb.size)⟩
    have hz0_ : Hid (((w.alloc (Obj.cells #[.int .i64 a, .int .i64 b, .int .i64 c] 65))).heap.size = w.heap.size + 1) := Lib.hid (by simp)
    generalize (w.alloc (Obj.cells #[.int .i64 a, .int .i64 b, .int .i64 c] 65)) = w0 at X0 b0 hz0_ ⊢
    have S0 := (⟨X0, b0⟩ : Box3.Box w0 (w.heap.size) a b c ∧ Below w.heap.size w w0)
    clear X0 b0
    obtain ⟨⟨_, _, _⟩, _⟩ := id S0
    go_ret
    exact ⟨ret_bool E.out.symm, S0.2⟩
  have g2 : (x == b) = false := by simpa using h2
  by_cases h3 : x = c
  · have E : Hid (r = true) := Lib.hid (by rw [HE.out, decide_eq_true h3]; simp)
    have g3 : (x == c) = true := by simpa using h3
    clear HE h1 h2 h3
    go_enter Tryz.func99, Tryz.ntmps99
    go_wp2_with fail
    have X0 := Box3.box1 w a b c 65 (k := w.heap.size) (by simp)
    have b0 := PointOk.below1 w (Obj.cells #[.int .i64 a, .int .i64 b, .int .i64 c] 65)
    have HO : ∀ W W' : World, (Box3.Box W (w.heap.size) a b c ∧ Below w.heap.size w W) → Below W.heap.size W W' → (Box3.Box W' (w.heap.size) a b c ∧ Below w.heap.size w W') := fun W W' ⟨h0, hb⟩ h => ⟨h0.later h, hb.trans (h.mono hb.size)⟩
    have hz0_ : Hid (((w.alloc (Obj.cells #[.int .i64 a, .int .i64 b, .int .i64 c] 65))).heap.size = w.heap.size + 1) := Lib.hid (by simp)
    generalize (w.alloc (Obj.cells #[.int .i64 a, .int .i64 b, .int .i64 c] 65)) = w0 at X0 b0 hz0_ ⊢
    have S0 := (⟨X0, b0⟩ : Box3.Box w0 (w.heap.size) a b c ∧ Below w.heap.size w w0)
    clear X0 b0
    obtain ⟨⟨_, _, _⟩, _⟩ := id S0
    go_ret
    exact ⟨ret_bool E.out.symm, S0.2⟩
  have g3 : (x == c) = false := by simpa using h3
  have E : Hid (r = false) := Lib.hid (by rw [HE.out, decide_eq_false h1, decide_eq_false h2, decide_eq_false h3]; rfl)
  clear HE h1 h2 h3
  go_enter Tryz.func99, Tryz.ntmps99
  go_wp2_with fail
  have X0 := Box3.box1 w a b c 65 (k := w.heap.size) (by simp)
  have b0 := PointOk.below1 w (Obj.cells #[.int .i64 a, .int .i64 b, .int .i64 c] 65)
  have HO : ∀ W W' : World, (Box3.Box W (w.heap.size) a b c ∧ Below w.heap.size w W) → Below W.heap.size W W' → (Box3.Box W' (w.heap.size) a b c ∧ Below w.heap.size w W') := fun W W' ⟨h0, hb⟩ h => ⟨h0.later h, hb.trans (h.mono hb.size)⟩
  have hz0_ : Hid (((w.alloc (Obj.cells #[.int .i64 a, .int .i64 b, .int .i64 c] 65))).heap.size = w.heap.size + 1) := Lib.hid (by simp)
  generalize (w.alloc (Obj.cells #[.int .i64 a, .int .i64 b, .int .i64 c] 65)) = w0 at X0 b0 hz0_ ⊢
  have S0 := (⟨X0, b0⟩ : Box3.Box w0 (w.heap.size) a b c ∧ Below w.heap.size w w0)
  clear X0 b0
  obtain ⟨⟨_, _, _⟩, _⟩ := id S0
  go_ret
  exact ⟨ret_bool E.out.symm, S0.2⟩

set_option maxRecDepth 100000 in
set_option maxHeartbeats 6400000 in
theorem earAmong (A : Option Addr) (n cap : Nat) (B : Option Addr) (m cb : Nat) (w : World) (ps : List (Int × Int)) (hl : ps.length = n) (_hn : n ≤ 1048576) (hr : roomB ps = true) (hp : PtsAt w w.heap.size A ps)
    (l : List Nat) (hlm : l.length = m) (h3 : 3 < m) (hm : m ≤ 1048576) (ha : Asc n l) (hq : IntsAt w w.heap.size B (li l)) :
    Calls Tryz.prog 62 #[.agg #[.slice A n cap], .slice B m cb] w fun e w' => e = .returned (.int .i64 (earAt ps l)) ∧ Below w.heap.size w w' := by
  obtain ⟨r, hr⟩ : ∃ r, earAt ps l = r := ⟨_, rfl⟩
  have HR := Lib.hid hr
  rw [hr]
  clear hr
  have HA : Hid (∀ k, k < m → earM ps l k = true → (∀ j, j < k → earM ps l j = false) → r = (k : Int)) := Lib.hid (fun k hk h1 h2 => by rw [← HR.out]; unfold earAt; rw [hlm]; exact firstI_at hk h1 h2)
  have HN : Hid ((∀ k, k < m → earM ps l k = false) → r = -1) := Lib.hid (fun h => by rw [← HR.out]; unfold earAt; rw [hlm]; exact firstI_none h)
  have hok := Lib.hid (roomB_yes hr).2.1
  have ha := Lib.hid ha
  clear HR
  go_enter Tryz.func62, Tryz.ntmps62
  go_wp2_with fail
  have X0 := Pts.boxR w (.slice A n cap) 30 (k := w.heap.size) (by simp)
  have b0 := PointOk.below1 w (Obj.cells #[.slice A n cap] 30)
  have HO : ∀ W W' : World, (Pts.BoxR W (w.heap.size) (.slice A n cap) ∧ PtsAt W w.heap.size A ps ∧ IntsAt W w.heap.size B (li l) ∧ Below w.heap.size w W) → Below W.heap.size W W' → (Pts.BoxR W' (w.heap.size) (.slice A n cap) ∧ PtsAt W' w.heap.size A ps ∧ IntsAt W' w.heap.size B (li l) ∧ Below w.heap.size w W') := fun W W' ⟨h0, x0, x1, hb⟩ h => ⟨h0.later h, x0.later (h.mono hb.size), x1.later (h.mono hb.size), hb.trans (h.mono hb.size)⟩
  have hz0_ : Hid (((w.alloc (Obj.cells #[.slice A n cap] 30))).heap.size = w.heap.size + 1) := Lib.hid (by simp)
  have Y0 : PtsAt ((w.alloc (Obj.cells #[.slice A n cap] 30))) w.heap.size A ps := hp.later b0
  have Y1 : IntsAt ((w.alloc (Obj.cells #[.slice A n cap] 30))) w.heap.size B (li l) := hq.later b0
  generalize (w.alloc (Obj.cells #[.slice A n cap] 30)) = w0 at X0 Y0 Y1 b0 hz0_ ⊢
  have S0 := (⟨X0, Y0, Y1, b0⟩ : Pts.BoxR w0 (w.heap.size) (.slice A n cap) ∧ PtsAt w0 w.heap.size A ps ∧ IntsAt w0 w.heap.size B (li l) ∧ Below w.heap.size w w0)
  clear X0 Y0 Y1 b0
  obtain ⟨⟨_, _⟩, _, _, _⟩ := id S0
  go_step3
  go_wp2_with fail
  go_step3
  go_wp2_with fail
  go_loopw [13] (fun q wr => ∃ k : Nat, k ≤ m ∧ q = .int .i64 k ∧ Hid (∀ j, j < k → earM ps l j = false) ∧ (Pts.BoxR wr (w.heap.size) (.slice A n cap) ∧ PtsAt wr w.heap.size A ps ∧ IntsAt wr w.heap.size B (li l) ∧ Below w.heap.size w wr))
    (fun q _ => m - (intOf q).toNat)
  case atStart => exact ⟨0, Nat.zero_le _, rfl, Lib.hid (fun t ht => absurd ht (by omega)), S0⟩
  case round =>
    clear S0
    obtain ⟨k, hk, rfl, hno, S0⟩ := hrel
    obtain ⟨⟨_, _⟩, _, _, _⟩ := id S0
    by_cases hlt : k < m
    rotate_left
    · obtain rfl : k = m := by omega
      have E := Lib.hid (HN.out hno.out)
      clear HN HA hno hok hl hlm ha
      go_wp2_with fail
      rw [Exit.noGoto_ret]
      go_ret
      exact ⟨ret_i64 E.out.symm, S0.2.2.2⟩
    obtain ⟨a, b, c, et, hab, hbc, hcn, hr3⟩ := rot ha.out (by omega) (show k < l.length by omega)
    have he := ear_eq (ps := ps) (l := l) (by rw [hl]; exact ha.out) (by omega) (show k < l.length by omega) hr3
    have QT : Hid (∀ W h, _) := Lib.hid fun W h => triangleAt n B m cb k W l hlm (by omega) hm hlt ha.out h
    rw [et] at QT
    have hp1 : pvN m k < m := Nat.mod_lt _ (by omega)
    have hn1 : nxN m k < m := Nat.mod_lt _ (by omega)
    have xi : pvx l k < n := by unfold pvx; exact ha.out.2 _ (by rw [hlm]; exact hp1)
    have xj : nxx l k < n := by unfold nxx; exact ha.out.2 _ (by rw [hlm]; exact hn1)
    have p0 : (li l)[pvN m k]? = some ((pvx l k : Nat) : Int) := by unfold pvx; rw [hlm]; exact li_at (by omega)
    have p2 : (li l)[nxN m k]? = some ((nxx l k : Nat) : Int) := by unfold nxx; rw [hlm]; exact li_at (by omega)
    have QA : Hid (∀ w, _) := Lib.hid fun w => indexAroundI B m cb ((k : Int) - 1) (by omega) hm w
    have QB : Hid (∀ w, _) := Lib.hid fun w => indexAroundI B m cb ((k : Int) + 1) (by omega) hm w
    rw [pv_ix (by omega) hlt] at QA
    rw [nx_ix (by omega)] at QB
    have QD : Hid (∀ W h, _) := Lib.hid fun W h => DiagImpl.diag A n cap (pvx l k) (nxx l k) W ps hl hr xi xj h
    have QC : Hid (∀ W h, _) := Lib.hid fun W h => TriImpl.cornersIn A n cap a b c W ps hl (by omega) (by omega) (by omega) h
    have oa := okAll_at hok.out (k := a) (by omega)
    have ob := okAll_at hok.out (k := b) (by omega)
    have oc := okAll_at hok.out (k := c) (by omega)
    have hoks : okAll [pt ps a, pt ps b, pt ps c] = true := by simp [okAll, oa, ob, oc]
    have QN : Hid (∀ (A3 : Option Addr) (c3 : Nat) (W : World) h, _) := Lib.hid fun A3 c3 W h => RoomOkImpl.bendAt A3 3 c3 1 W [pt ps a, pt ps b, pt ps c] rfl (by omega) (by omega) hoks h
    rw [bend_three] at QN
    unfold earI at he
    rw [hlm] at he
    have HI : Hid (∀ q, q < m → inAny ps l a b c q = false → earM ps l k = false) := Lib.hid (fun q hq h => by
      rw [he, show (List.range m).all (inAny ps l a b c) = false from List.all_eq_false.2 ⟨q, List.mem_range.2 hq, by rw [h]; simp⟩, Bool.and_false])
    have HJ : Hid (diagM ps (pvx l k) (nxx l k) = true → 0 < turnP (pt ps a) (pt ps b) (pt ps c) → (∀ q, q < m → inAny ps l a b c q = true) → earM ps l k = true) := Lib.hid (fun h1 h2 h4 => by
      rw [he, h1, decide_eq_true h2, show (List.range m).all (inAny ps l a b c) = true from List.all_eq_true.2 (fun q hq => h4 q (List.mem_range.1 hq))]; rfl)
    have HD : Hid (diagM ps (pvx l k) (nxx l k) = false → earM ps l k = false) := Lib.hid (fun h => by rw [he, h]; rfl)
    have HT : Hid (¬ 0 < turnP (pt ps a) (pt ps b) (pt ps c) → earM ps l k = false) := Lib.hid (fun h => by rw [he, decide_eq_false h, Bool.and_false, Bool.false_and])
    have HW : Hid (earM ps l k = false → ∀ j, j < k + 1 → earM ps l j = false) := Lib.hid (fun h j hj => by
      rcases Nat.lt_or_ge j k with h1 | h1
      · exact hno.out j h1
      · obtain rfl : j = k := by omega
        exact h)
    have HAk := Lib.hid (fun h => HA.out k hlt h hno.out)
    generalize earM ps l k = ek at *
    obtain ⟨d, hd⟩ : ∃ d, diagM ps (pvx l k) (nxx l k) = d := ⟨_, rfl⟩
    rw [hd] at QD HJ HD
    obtain ⟨t, ht⟩ : ∃ t, turnP (pt ps a) (pt ps b) (pt ps c) = t := ⟨_, rfl⟩
    rw [ht] at QN HJ HT
    generalize pvx l k = i at *
    generalize nxx l k = j at *
    generalize pvN m k = pi at *
    generalize nxN m k = pj at *
    obtain ⟨bd, eB, bB, pA⟩ := S0.2.2.1.get p0
    obtain ⟨bd2, eB2, _, pC⟩ := S0.2.2.1.get p2
    rw [eB] at eB2
    injection eB2 with eB2
    subst eB2
    subst eB
    have hk1 : (k : Int) < (m : Int) := by omega
    have hk0 : (0 : Int) ≤ (k : Int) := by omega
    have hi1 : (pi : Int) < (m : Int) := by omega
    have hi0 : (0 : Int) ≤ (pi : Int) := by omega
    have hj1 : (pj : Int) < (m : Int) := by omega
    have hj0 : (0 : Int) ≤ (pj : Int) := by omega
    have u1 : IntKind.i64.wrap ((k : Int) - 1) = (k : Int) - 1 := IntWalk.i64_in _ (by omega)
    have u2 : IntKind.i64.wrap ((k : Int) + 1) = (k : Int) + 1 := IntWalk.i64_in _ (by omega)
    clear hd ht he p0 p2 hoks oa ob oc hno HA HN et hr3
    have HO : ∀ W W' : World, (Pts.BoxR W w.heap.size (.slice A n cap) ∧ PtsAt W w.heap.size A ps ∧ IntsAt W w.heap.size (some bd) (li l) ∧ IntAt W bd pi (i : Int) ∧ IntAt W bd pj (j : Int) ∧ Below w.heap.size w W) → Below W.heap.size W W' → (Pts.BoxR W' w.heap.size (.slice A n cap) ∧ PtsAt W' w.heap.size A ps ∧ IntsAt W' w.heap.size (some bd) (li l) ∧ IntAt W' bd pi (i : Int) ∧ IntAt W' bd pj (j : Int) ∧ Below w.heap.size w W') := fun W W' ⟨x0, x1, x2, x3, x4, hb⟩ h => ⟨x0.later h, x1.later (h.mono hb.size), x2.later (h.mono hb.size), x3.later bB (h.mono hb.size), x4.later bB (h.mono hb.size), hb.trans (h.mono hb.size)⟩
    replace S0 : Pts.BoxR wr w.heap.size (.slice A n cap) ∧ PtsAt wr w.heap.size A ps ∧ IntsAt wr w.heap.size (some bd) (li l) ∧ IntAt wr bd pi (i : Int) ∧ IntAt wr bd pj (j : Int) ∧ Below w.heap.size w wr := ⟨S0.1, S0.2.1, S0.2.2.1, pA, pC, S0.2.2.2⟩
    clear pA pC
    obtain ⟨⟨_, _⟩, _, _, ⟨_, _⟩, ⟨_, _⟩, _⟩ := id S0
    go_wp2_with fail
    refine (QT.out _ (S0.2.2.1.wide S0.2.2.2.2.2.size)).mono ?_
    rintro e w1 ⟨rfl, hb_⟩
    replace S0 := HO _ _ S0 hb_
    clear hb_ QT
    have X := Box3.box1 w1 (a : Int) (b : Int) (c : Int) 65 (k := w1.heap.size) rfl
    have S1 := HO _ _ S0 (below1 w1 (Obj.cells #[.int .i64 (a : Int), .int .i64 (b : Int), .int .i64 (c : Int)] 65))
    clear S0
    have hkb := PointOk.below1 w1 (Obj.cells #[.int .i64 (a : Int), .int .i64 (b : Int), .int .i64 (c : Int)] 65)
    clear hkb
    go_wp2_with fail
    generalize w1.alloc (Obj.cells #[.int .i64 (a : Int), .int .i64 (b : Int), .int .i64 (c : Int)] 65) = w2 at *
    generalize w1.heap.size = kb at *
    have S0 := S1
    clear S1
    have HO : ∀ W W' : World, (Pts.BoxR W w.heap.size (.slice A n cap) ∧ PtsAt W w.heap.size A ps ∧ IntsAt W w.heap.size (some bd) (li l) ∧ IntAt W bd pi (i : Int) ∧ IntAt W bd pj (j : Int) ∧ Box3.Box W kb (a : Int) (b : Int) (c : Int) ∧ Below w.heap.size w W) → Below W.heap.size W W' → (Pts.BoxR W' w.heap.size (.slice A n cap) ∧ PtsAt W' w.heap.size A ps ∧ IntsAt W' w.heap.size (some bd) (li l) ∧ IntAt W' bd pi (i : Int) ∧ IntAt W' bd pj (j : Int) ∧ Box3.Box W' kb (a : Int) (b : Int) (c : Int) ∧ Below w.heap.size w W') := fun W W' ⟨x0, x1, x2, x3, x4, x5, hb⟩ h => ⟨x0.later h, x1.later (h.mono hb.size), x2.later (h.mono hb.size), x3.later bB (h.mono hb.size), x4.later bB (h.mono hb.size), x5.later h, hb.trans (h.mono hb.size)⟩
    replace S0 : Pts.BoxR w2 w.heap.size (.slice A n cap) ∧ PtsAt w2 w.heap.size A ps ∧ IntsAt w2 w.heap.size (some bd) (li l) ∧ IntAt w2 bd pi (i : Int) ∧ IntAt w2 bd pj (j : Int) ∧ Box3.Box w2 kb (a : Int) (b : Int) (c : Int) ∧ Below w.heap.size w w2 := ⟨S0.1, S0.2.1, S0.2.2.1, S0.2.2.2.1, S0.2.2.2.2.1, X, S0.2.2.2.2.2⟩
    clear X
    obtain ⟨⟨_, _⟩, _, _, ⟨_, _⟩, ⟨_, _⟩, ⟨_, _, _⟩, _⟩ := id S0
    refine Settle.region (fun W => Pts.BoxR W w.heap.size (.slice A n cap) ∧ PtsAt W w.heap.size A ps ∧ IntsAt W w.heap.size (some bd) (li l) ∧ IntAt W bd pi (i : Int) ∧ IntAt W bd pj (j : Int) ∧ Box3.Box W kb (a : Int) (b : Int) (c : Int) ∧ Below w.heap.size w W) (by kernel_rfl) (by kernel_rfl) (by kernel_rfl) (by kernel_rfl) (HO _ _ S0 ((Below.refl _ _).drew)) ?_
    clear S0
    repeat (first
      | (refine Settle.Settles.off (by rfl) ?_; simp only [Act.put, List.setIfInBounds_toArray, List.set_cons_zero, List.set_cons_succ])
      | (refine Settle.Settles.quiet (v := ?_) (by rfl) ?_ ?_
         rotate_left
         · (intro W hS; obtain ⟨⟨_, _⟩, _, _, ⟨_, _⟩, ⟨_, _⟩, ⟨_, _, _⟩, _⟩ := hS; go_simp; with_reducible rfl)
         simp only [Act.put, List.setIfInBounds_toArray, List.set_cons_zero, List.set_cons_succ])
      | (refine Settle.Settles.call (v := ?_) (f := ?_) (args := ?_) (by rfl) ?_ ?_ ?_
         rotate_left 3
         · (intro W; go_simp; refine ⟨?_, ?_⟩ <;> with_reducible rfl)
         · (intro W hS; first | (go_at_call 95; (with_reducible refine (QA.out _).mono ?_); rintro e W1 ⟨rfl, rfl⟩; refine ⟨?_, hS⟩; with_reducible rfl) | (go_at_call 95; (with_reducible refine (QB.out _).mono ?_); rintro e W1 ⟨rfl, rfl⟩; refine ⟨?_, hS⟩; with_reducible rfl))
         simp only [Act.put, List.setIfInBounds_toArray, List.set_cons_zero, List.set_cons_succ]))
    refine Settle.Settles.nil ?_
    intro wr S0
    obtain ⟨⟨_, _⟩, _, _, ⟨_, _⟩, ⟨_, _⟩, ⟨_, _, _⟩, _⟩ := id S0
    go_wp2_with fail
    refine (QD.out _ (S0.2.1.wide S0.2.2.2.2.2.2.size)).mono ?_
    rintro e w3 ⟨rfl, hb_⟩
    replace S0 := HO _ _ S0 hb_
    clear hb_ QD QA QB
    obtain ⟨⟨_, _⟩, _, _, ⟨_, _⟩, ⟨_, _⟩, ⟨_, _, _⟩, _⟩ := id S0
    cases d
    · have hno2 := Lib.hid (HW.out (HD.out (by first | rfl | trivial)))
      clear HW HD HJ HT HI HAk hl hlm
      go_wp2_with fail
      first
        | exact ⟨⟨k + 1, by omega, by go_num, hno2, S0.1, S0.2.1, S0.2.2.1, S0.2.2.2.2.2.2⟩, by simp [intOf]; omega⟩
        | (go_roundw <;> first | exact ⟨k + 1, by omega, by go_num, hno2, S0.1, S0.2.1, S0.2.2.1, S0.2.2.2.2.2.2⟩ | (simp [intOf]; omega))
    clear HD
    unfold GivesC at QC
    go_wp2_with fail
    refine (QC.out _ (S0.2.1.wide S0.2.2.2.2.2.2.size)).mono ?_
    rintro e w4 ⟨A3, c3, rfl, hown, hb_⟩
    replace S0 := HO _ _ S0 hb_
    have hq3 := TriImpl.pts_own hown
    clear hb_ QC hown
    obtain ⟨⟨_, _⟩, _, _, ⟨_, _⟩, ⟨_, _⟩, ⟨_, _, _⟩, _⟩ := id S0
    go_wp2_with fail
    refine (QN.out A3 c3 _ hq3).mono ?_
    rintro e w5 ⟨rfl, hb_⟩
    replace S0 := HO _ _ S0 hb_
    clear hb_ QN hq3
    obtain ⟨⟨_, _⟩, _, _, ⟨_, _⟩, ⟨_, _⟩, ⟨_, _, _⟩, _⟩ := id S0
    by_cases h0 : 0 < t
    rotate_left
    · have hno2 := Lib.hid (HW.out (HT.out (by omega)))
      have g0 : t ≤ 0 := by omega
      clear HW HJ HT HI HAk hl hlm
      go_wp2_with fail
      first
        | exact ⟨⟨k + 1, by omega, by go_num, hno2, S0.1, S0.2.1, S0.2.2.1, S0.2.2.2.2.2.2⟩, by simp [intOf]; omega⟩
        | (go_roundw <;> first | exact ⟨k + 1, by omega, by go_num, hno2, S0.1, S0.2.1, S0.2.2.1, S0.2.2.2.2.2.2⟩ | (simp [intOf]; omega))
    have g0 : ¬ t ≤ 0 := by omega
    replace HJ := Lib.hid (fun h => HAk.out (HJ.out (by first | rfl | trivial) h0 h))
    have HI2 : Hid (∀ q, q < m → inAny ps l a b c q = false → ∀ j, j < k + 1 → earM ps l j = false) := Lib.hid (fun q hq h => HW.out (HI.out q hq h))
    clear HT HAk HW HI h0
    go_wp2_with fail
    go_loopw [47] (fun q wr => ∃ s : Nat, s ≤ m ∧ q = .int .i64 s ∧ Hid (∀ j, j < s → inAny ps l a b c j = true) ∧ (Pts.BoxR wr w.heap.size (.slice A n cap) ∧ PtsAt wr w.heap.size A ps ∧ IntsAt wr w.heap.size (some bd) (li l) ∧ IntAt wr bd pi (i : Int) ∧ IntAt wr bd pj (j : Int) ∧ Box3.Box wr kb (a : Int) (b : Int) (c : Int) ∧ Below w.heap.size w wr))
      (fun q _ => m - (intOf q).toNat)
    case atStart => exact ⟨0, Nat.zero_le _, rfl, Lib.hid (fun t ht => absurd ht (by omega)), S0⟩
    case round =>
      clear S0
      obtain ⟨s, hs, rfl, hin, S0⟩ := hrel
      obtain ⟨⟨_, _⟩, _, _, ⟨_, _⟩, ⟨_, _⟩, ⟨_, _, _⟩, _⟩ := id S0
      by_cases hst : s < m
      rotate_left
      · obtain rfl : s = m := by omega
        have E := Lib.hid (HJ.out hin.out)
        clear HJ HI2 hin hl hlm hok
        go_wp2_with fail
        rw [Exit.noGoto_ret]
        go_ret
        exact ⟨ret_i64 E.out.symm, S0.2.2.2.2.2.2⟩
      have q0 := li_at (l := l) (k := s) (by omega)
      have xs : ix l s < n := ha.out.2 _ (by omega)
      have pp := pt_at (ps := ps) (k := ix l s) (by omega)
      have op := okAll_at hok.out (k := ix l s) (by omega)
      have HF : Hid (inAny ps l a b c s = (hasT ((a : Int), (b : Int), (c : Int)) ((ix l s : Nat) : Int) || !triIn (pt ps a) (pt ps b) (pt ps c) (pt ps (ix l s)))) := Lib.hid (by
        unfold inAny hasT
        simp only [Int.natCast_inj])
      have HS1 : Hid (inAny ps l a b c s = true → ∀ j, j < s + 1 → inAny ps l a b c j = true) := Lib.hid (fun h j hj => by
        rcases Nat.lt_or_ge j s with h1 | h1
        · exact hin.out j h1
        · obtain rfl : j = s := by omega
          exact h)
      replace HI2 := Lib.hid (fun h => HI2.out s hst h)
      have QH : Hid (∀ w, _) := Lib.hid fun w => has (a : Int) (b : Int) (c : Int) ((ix l s : Nat) : Int) w
      generalize ix l s = x at *
      obtain ⟨px, py, hx⟩ : ∃ u v, pt ps x = (u, v) := ⟨_, _, rfl⟩
      rw [hx] at pp op HF
      have QL : Hid (∀ W h, _) := Lib.hid fun W h => TriImpl.holds A n cap a b c px py W ps hl (by omega) (by omega) (by omega) hok.out op h
      generalize inAny ps l a b c s = iv at *
      generalize hasT ((a : Int), (b : Int), (c : Int)) (x : Int) = hb at *
      generalize triIn (pt ps a) (pt ps b) (pt ps c) (px, py) = tr at *
      obtain ⟨ad, eA, bA, pX⟩ := S0.2.1.get pp
      subst eA
      obtain ⟨bd3, eB3, _, pQ⟩ := S0.2.2.1.get q0
      injection eB3 with eB3
      subst eB3
      have hs1 : (s : Int) < (m : Int) := by omega
      have hs0 : (0 : Int) ≤ (s : Int) := by omega
      have hx1 : (x : Int) < (n : Int) := by omega
      have hx0 : (0 : Int) ≤ (x : Int) := by omega
      clear q0 pp op hx hin
      have HO : ∀ W W' : World, (Pts.BoxR W w.heap.size (.slice (some ad) n cap) ∧ PtsAt W w.heap.size (some ad) ps ∧ IntsAt W w.heap.size (some bd) (li l) ∧ IntAt W bd pi (i : Int) ∧ IntAt W bd pj (j : Int) ∧ Box3.Box W kb (a : Int) (b : Int) (c : Int) ∧ IntAt W bd s (x : Int) ∧ PtAt W ad x px py ∧ Below w.heap.size w W) → Below W.heap.size W W' → (Pts.BoxR W' w.heap.size (.slice (some ad) n cap) ∧ PtsAt W' w.heap.size (some ad) ps ∧ IntsAt W' w.heap.size (some bd) (li l) ∧ IntAt W' bd pi (i : Int) ∧ IntAt W' bd pj (j : Int) ∧ Box3.Box W' kb (a : Int) (b : Int) (c : Int) ∧ IntAt W' bd s (x : Int) ∧ PtAt W' ad x px py ∧ Below w.heap.size w W') := fun W W' ⟨x0, x1, x2, x3, x4, x5, x6, x7, hb⟩ h => ⟨x0.later h, x1.later (h.mono hb.size), x2.later (h.mono hb.size), x3.later bB (h.mono hb.size), x4.later bB (h.mono hb.size), x5.later h, x6.later bB (h.mono hb.size), x7.later bA (h.mono hb.size), hb.trans (h.mono hb.size)⟩
      rename World => wi
      replace S0 : Pts.BoxR wi w.heap.size (.slice (some ad) n cap) ∧ PtsAt wi w.heap.size (some ad) ps ∧ IntsAt wi w.heap.size (some bd) (li l) ∧ IntAt wi bd pi (i : Int) ∧ IntAt wi bd pj (j : Int) ∧ Box3.Box wi kb (a : Int) (b : Int) (c : Int) ∧ IntAt wi bd s (x : Int) ∧ PtAt wi ad x px py ∧ Below w.heap.size w wi := ⟨S0.1, S0.2.1, S0.2.2.1, S0.2.2.2.1, S0.2.2.2.2.1, S0.2.2.2.2.2.1, pQ, pX, S0.2.2.2.2.2.2⟩
      clear pQ pX
      obtain ⟨⟨_, _⟩, _, _, ⟨_, _⟩, ⟨_, _⟩, ⟨_, _, _⟩, ⟨_, _⟩, ⟨_, _⟩, _⟩ := id S0
      cases hb
      · cases tr
        · have hin2 := Lib.hid (HS1.out HF.out)
          clear HS1 HF HI2 HJ hl hlm
          go_wp2_with fail
          refine Settle.region (fun W => Pts.BoxR W w.heap.size (.slice (some ad) n cap) ∧ PtsAt W w.heap.size (some ad) ps ∧ IntsAt W w.heap.size (some bd) (li l) ∧ IntAt W bd pi (i : Int) ∧ IntAt W bd pj (j : Int) ∧ Box3.Box W kb (a : Int) (b : Int) (c : Int) ∧ IntAt W bd s (x : Int) ∧ PtAt W ad x px py ∧ Below w.heap.size w W) (by kernel_rfl) (by kernel_rfl) (by kernel_rfl) (by kernel_rfl) (HO _ _ S0 ((Below.refl _ _).drew)) ?_
          clear S0
          repeat (first
            | (refine Settle.Settles.off (by rfl) ?_; simp only [Act.put, List.setIfInBounds_toArray, List.set_cons_zero, List.set_cons_succ])
            | (refine Settle.Settles.quiet (v := ?_) (by rfl) ?_ ?_
               rotate_left
               · (intro W hS; obtain ⟨⟨_, _⟩, _, _, ⟨_, _⟩, ⟨_, _⟩, ⟨_, _, _⟩, ⟨_, _⟩, ⟨_, _⟩, _⟩ := hS; go_simp; with_reducible rfl)
               simp only [Act.put, List.setIfInBounds_toArray, List.set_cons_zero, List.set_cons_succ])
            | (refine Settle.Settles.call (v := ?_) (f := ?_) (args := ?_) (by rfl) ?_ ?_ ?_
               rotate_left 3
               · (intro W; go_simp; refine ⟨?_, ?_⟩ <;> with_reducible rfl)
               · (intro W hS; first | (go_at_call 99; (with_reducible refine (QH.out _).mono ?_); rintro e W1 ⟨rfl, hb⟩; refine ⟨?_, HO _ _ hS hb⟩; with_reducible rfl) | (go_at_call 100; (with_reducible refine (QL.out _ (hS.2.1.wide hS.2.2.2.2.2.2.2.2.size)).mono ?_); rintro e W1 ⟨rfl, hb⟩; refine ⟨?_, HO _ _ hS hb⟩; with_reducible rfl))
               simp only [Act.put, List.setIfInBounds_toArray, List.set_cons_zero, List.set_cons_succ]))
          refine Settle.Settles.nil ?_
          intro wr S0
          obtain ⟨⟨_, _⟩, _, _, ⟨_, _⟩, ⟨_, _⟩, ⟨_, _, _⟩, ⟨_, _⟩, ⟨_, _⟩, _⟩ := id S0
          go_wp2_with fail
          first
            | exact ⟨⟨s + 1, by omega, by go_num, hin2, S0.1, S0.2.1, S0.2.2.1, S0.2.2.2.1, S0.2.2.2.2.1, S0.2.2.2.2.2.1, S0.2.2.2.2.2.2.2.2⟩, by simp [intOf]; omega⟩
            | (go_roundw <;> first | exact ⟨s + 1, by omega, by go_num, hin2, S0.1, S0.2.1, S0.2.2.1, S0.2.2.2.1, S0.2.2.2.2.1, S0.2.2.2.2.2.1, S0.2.2.2.2.2.2.2.2⟩ | (simp [intOf]; omega))
        · have hno2 := Lib.hid (HI2.out HF.out)
          clear HS1 HF HI2 HJ hl hlm
          go_wp2_with fail
          refine Settle.region (fun W => Pts.BoxR W w.heap.size (.slice (some ad) n cap) ∧ PtsAt W w.heap.size (some ad) ps ∧ IntsAt W w.heap.size (some bd) (li l) ∧ IntAt W bd pi (i : Int) ∧ IntAt W bd pj (j : Int) ∧ Box3.Box W kb (a : Int) (b : Int) (c : Int) ∧ IntAt W bd s (x : Int) ∧ PtAt W ad x px py ∧ Below w.heap.size w W) (by kernel_rfl) (by kernel_rfl) (by kernel_rfl) (by kernel_rfl) (HO _ _ S0 ((Below.refl _ _).drew)) ?_
          clear S0
          repeat (first
            | (refine Settle.Settles.off (by rfl) ?_; simp only [Act.put, List.setIfInBounds_toArray, List.set_cons_zero, List.set_cons_succ])
            | (refine Settle.Settles.quiet (v := ?_) (by rfl) ?_ ?_
               rotate_left
               · (intro W hS; obtain ⟨⟨_, _⟩, _, _, ⟨_, _⟩, ⟨_, _⟩, ⟨_, _, _⟩, ⟨_, _⟩, ⟨_, _⟩, _⟩ := hS; go_simp; with_reducible rfl)
               simp only [Act.put, List.setIfInBounds_toArray, List.set_cons_zero, List.set_cons_succ])
            | (refine Settle.Settles.call (v := ?_) (f := ?_) (args := ?_) (by rfl) ?_ ?_ ?_
               rotate_left 3
               · (intro W; go_simp; refine ⟨?_, ?_⟩ <;> with_reducible rfl)
               · (intro W hS; first | (go_at_call 99; (with_reducible refine (QH.out _).mono ?_); rintro e W1 ⟨rfl, hb⟩; refine ⟨?_, HO _ _ hS hb⟩; with_reducible rfl) | (go_at_call 100; (with_reducible refine (QL.out _ (hS.2.1.wide hS.2.2.2.2.2.2.2.2.size)).mono ?_); rintro e W1 ⟨rfl, hb⟩; refine ⟨?_, HO _ _ hS hb⟩; with_reducible rfl))
               simp only [Act.put, List.setIfInBounds_toArray, List.set_cons_zero, List.set_cons_succ]))
          refine Settle.Settles.nil ?_
          intro wr S0
          obtain ⟨⟨_, _⟩, _, _, ⟨_, _⟩, ⟨_, _⟩, ⟨_, _, _⟩, ⟨_, _⟩, ⟨_, _⟩, _⟩ := id S0
          go_wp2_with fail
          first
            | exact ⟨⟨k + 1, by omega, by go_num, hno2, S0.1, S0.2.1, S0.2.2.1, S0.2.2.2.2.2.2.2.2⟩, by simp [intOf]; omega⟩
            | (go_roundw <;> first | exact ⟨k + 1, by omega, by go_num, hno2, S0.1, S0.2.1, S0.2.2.1, S0.2.2.2.2.2.2.2.2⟩ | (simp [intOf]; omega))
      · have hin2 := Lib.hid (HS1.out HF.out)
        clear HS1 HF HI2 HJ hl hlm QL
        go_wp2_with fail
        refine Settle.region (fun W => Pts.BoxR W w.heap.size (.slice (some ad) n cap) ∧ PtsAt W w.heap.size (some ad) ps ∧ IntsAt W w.heap.size (some bd) (li l) ∧ IntAt W bd pi (i : Int) ∧ IntAt W bd pj (j : Int) ∧ Box3.Box W kb (a : Int) (b : Int) (c : Int) ∧ IntAt W bd s (x : Int) ∧ PtAt W ad x px py ∧ Below w.heap.size w W) (by kernel_rfl) (by kernel_rfl) (by kernel_rfl) (by kernel_rfl) (HO _ _ S0 ((Below.refl _ _).drew)) ?_
        clear S0
        repeat (first
          | (refine Settle.Settles.off (by rfl) ?_; simp only [Act.put, List.setIfInBounds_toArray, List.set_cons_zero, List.set_cons_succ])
          | (refine Settle.Settles.quiet (v := ?_) (by rfl) ?_ ?_
             rotate_left
             · (intro W hS; obtain ⟨⟨_, _⟩, _, _, ⟨_, _⟩, ⟨_, _⟩, ⟨_, _, _⟩, ⟨_, _⟩, ⟨_, _⟩, _⟩ := hS; go_simp; with_reducible rfl)
             simp only [Act.put, List.setIfInBounds_toArray, List.set_cons_zero, List.set_cons_succ])
          | (refine Settle.Settles.call (v := ?_) (f := ?_) (args := ?_) (by rfl) ?_ ?_ ?_
             rotate_left 3
             · (intro W; go_simp; refine ⟨?_, ?_⟩ <;> with_reducible rfl)
             · (intro W hS; first | (go_at_call 99; (with_reducible refine (QH.out _).mono ?_); rintro e W1 ⟨rfl, hb⟩; refine ⟨?_, HO _ _ hS hb⟩; with_reducible rfl))
             simp only [Act.put, List.setIfInBounds_toArray, List.set_cons_zero, List.set_cons_succ]))
        refine Settle.Settles.nil ?_
        intro wr S0
        obtain ⟨⟨_, _⟩, _, _, ⟨_, _⟩, ⟨_, _⟩, ⟨_, _, _⟩, ⟨_, _⟩, ⟨_, _⟩, _⟩ := id S0
        go_wp2_with fail
        first
          | exact ⟨⟨s + 1, by omega, by go_num, hin2, S0.1, S0.2.1, S0.2.2.1, S0.2.2.2.1, S0.2.2.2.2.1, S0.2.2.2.2.2.1, S0.2.2.2.2.2.2.2.2⟩, by simp [intOf]; omega⟩
          | (go_roundw <;> first | exact ⟨s + 1, by omega, by go_num, hin2, S0.1, S0.2.1, S0.2.2.1, S0.2.2.2.1, S0.2.2.2.2.1, S0.2.2.2.2.2.1, S0.2.2.2.2.2.2.2.2⟩ | (simp [intOf]; omega))
end Go.Proofs.YtkcodmafakjkfaaGreat.EarImpl

