/-
  What the landed functions on corners do, as contracts: what each answers; new memory alone is written.
-/
import Derived.Test.YtkohfbffmljmcaaWallOfImpl
import Derived.Test.YtkohfbffmljmcaaAreaMath
import Derived.Test.YtkohfbffmljmcaaOwn
namespace Go.Proofs.Ytkohfbffmljmcaa.CornerImpl
open Go.RowKit Own PointMath WallMath RoomMath Pts Blk AreaMath
open PointOk (ret_bool ret_i64 below1 below2 below3)

set_option maxRecDepth 100000 in
set_option maxHeartbeats 800000 in
theorem kindOf (A : Option Addr) (n cap k : Nat) (w : World) (ps : List (Int × Int)) (hl : ps.length = n) (h3 : 3 ≤ n ∧ n ≤ 10) (hk : k < n) (hok : okAll ps = true) (hp : PtsAt w w.heap.size A ps) :
    Calls Try.prog 70 #[.slice A n cap, .int .i64 (k : Int)] w fun e w' => e = .returned (.int .i64 (if reflB ps k then 1 else 0)) ∧ Below w.heap.size w w' := by
  have Q : Hid (∀ w hp, _) := Lib.hid fun w hp => RoomOkImpl.bendAt A n cap k w ps hl h3 hk hok hp
  obtain ⟨t, ht⟩ : ∃ t, bendBack ps k = t := ⟨_, rfl⟩
  have E : Hid (reflB ps k = decide (t < 0)) := Lib.hid (by unfold reflB; rw [ht])
  rw [ht] at Q
  rw [E.out]
  clear ht E hl hok
  by_cases h0 : t < 0
  · rw [show decide (t < 0) = true from decide_eq_true h0]
    go_enter Try.func70, Try.ntmps70
    go_wp2_with fail
    refine (Q.out _ hp).mono ?_
    rintro e w1 ⟨rfl, hb⟩
    go_wp2_with fail
    go_ret
    exact ⟨rfl, hb⟩
  · rw [show decide (t < 0) = false from decide_eq_false h0]
    go_enter Try.func70, Try.ntmps70
    go_wp2_with fail
    refine (Q.out _ hp).mono ?_
    rintro e w1 ⟨rfl, hb⟩
    go_wp2_with fail
    go_ret
    exact ⟨rfl, hb⟩

set_option maxRecDepth 100000 in
set_option maxHeartbeats 800000 in
theorem isReflex (A : Option Addr) (n cap : Nat) (k : Int) (w : World) (ps : List (Int × Int)) (hl : ps.length = n) (hn : n ≤ 1048576) (hp : PtsAt w w.heap.size A ps) :
    Calls Try.prog 39 #[.agg #[.slice A n cap], .int .i64 k] w fun e w' => e = .returned (.bool (reflexB ps k)) ∧ Below w.heap.size w w' := by
  obtain ⟨r, hr⟩ : ∃ r, reflexB ps k = r := ⟨_, rfl⟩
  have HR := Lib.hid hr
  rw [hr]
  clear hr
  go_enter Try.func39, Try.ntmps39
  go_wp2_with fail
  have X0 := Pts.boxR w (.slice A n cap) 29 (k := w.heap.size) (by simp)
  have b0 := PointOk.below1 w (Obj.cells #[.slice A n cap] 29)
  have HO : ∀ W W' : World, (Pts.BoxR W (w.heap.size) (.slice A n cap) ∧ PtsAt W w.heap.size A ps ∧ Below w.heap.size w W) → Below W.heap.size W W' → (Pts.BoxR W' (w.heap.size) (.slice A n cap) ∧ PtsAt W' w.heap.size A ps ∧ Below w.heap.size w W') := fun W W' ⟨h0, x0, hb⟩ h => ⟨h0.later h, x0.later (h.mono hb.size), hb.trans (h.mono hb.size)⟩
  have hz0_ : Hid (((w.alloc (Obj.cells #[.slice A n cap] 29))).heap.size = w.heap.size + 1) := Lib.hid (by simp)
  have Y0 : PtsAt ((w.alloc (Obj.cells #[.slice A n cap] 29))) w.heap.size A ps := hp.later b0
  generalize (w.alloc (Obj.cells #[.slice A n cap] 29)) = w0 at X0 Y0 b0 hz0_ ⊢
  have S0 := (⟨X0, Y0, b0⟩ : Pts.BoxR w0 (w.heap.size) (.slice A n cap) ∧ PtsAt w0 w.heap.size A ps ∧ Below w.heap.size w w0)
  clear X0 Y0 b0
  obtain ⟨⟨_, _⟩, _, _⟩ := id S0
  refine (WallOfImpl.hasCorner A n cap k _).mono ?_
  rintro e w1 ⟨rfl, hb_⟩
  replace S0 := HO _ _ S0 hb_
  clear hb_
  obtain ⟨⟨_, _⟩, _, _⟩ := id S0
  by_cases hk : 0 ≤ k ∧ k < (n : Int)
  rotate_left
  · have E : Hid (r = false) := Lib.hid (by rw [← HR.out]; unfold reflexB; rw [hl, show decide (0 ≤ k ∧ k < (n : Int)) = false from decide_eq_false hk]; simp)
    rw [show decide (0 ≤ k ∧ k < (n : Int)) = false from decide_eq_false hk]
    clear hl HR hk
    go_wp2_with fail
    go_ret
    exact ⟨ret_bool E.out.symm, S0.2.2⟩
  rw [show decide (0 ≤ k ∧ k < (n : Int)) = true from decide_eq_true hk]
  go_wp2_with fail
  refine (RoomOkImpl.roomOk A n cap _ ps hl hn (S0.2.1.wide S0.2.2.size)).mono ?_
  rintro e w2 ⟨rfl, hb_⟩
  replace S0 := HO _ _ S0 hb_
  clear hb_
  obtain ⟨⟨_, _⟩, _, _⟩ := id S0
  cases hr : roomB ps
  · have E : Hid (r = false) := Lib.hid (by rw [← HR.out]; unfold reflexB; rw [hr]; rfl)
    clear hl HR
    go_wp2_with fail
    go_ret
    exact ⟨ret_bool E.out.symm, S0.2.2⟩
  obtain ⟨h3, hok, _, _⟩ := roomB_yes hr
  obtain ⟨kk, rfl⟩ := Int.eq_ofNat_of_zero_le hk.1
  have E : Hid (reflB ps kk = r) := Lib.hid (by rw [← HR.out]; unfold reflexB; rw [hr, hl, show decide (0 ≤ (kk : Int) ∧ (kk : Int) < (n : Int)) = true from decide_eq_true hk]; simp)
  have Q : Hid (∀ w hp, _) := Lib.hid fun w hp => kindOf A n cap kk w ps hl (by omega) (by omega) hok hp
  rw [E.out] at Q
  clear hl HR hk hr hok E
  cases r
  all_goals go_wp2_with fail
  all_goals refine (Q.out _ (S0.2.1.wide S0.2.2.size)).mono ?_
  all_goals rintro e w9 ⟨rfl, hb_⟩
  all_goals replace S0 := HO _ _ S0 hb_
  all_goals go_wp2_with fail
  all_goals go_ret
  all_goals exact ⟨rfl, S0.2.2⟩

theorem isLower (px py qx qy : Int) (w : World) :
    Calls Try.prog 71 #[.agg #[.int .i64 px, .int .i64 py], .agg #[.int .i64 qx, .int .i64 qy]] w fun e w' => e = .returned (.bool (lowB (px, py) (qx, qy))) ∧ Below w.heap.size w w' := by
  obtain ⟨r, hr⟩ : ∃ r, Hid (lowB (px, py) (qx, qy) = r) := ⟨_, Lib.hid rfl⟩
  rw [hr.out]
  by_cases h1 : py < qy
  · have E : Hid (r = true) := Lib.hid (by rw [← hr.out]; simp [lowB, h1])
    clear hr
    go_enter Try.func71, Try.ntmps71
    go_wp2_with fail
    have X0 := (PointOk.box1 w px py 34 (k := w.heap.size) (by simp)).alloc (Obj.cells #[.int .i64 qx, .int .i64 qy] 34)
    have X1 := PointOk.box1 (w.alloc (Obj.cells #[.int .i64 px, .int .i64 py] 34)) qx qy 34 (k := w.heap.size + 1) (by simp)
    have b0 := PointOk.below2 w (Obj.cells #[.int .i64 px, .int .i64 py] 34) (Obj.cells #[.int .i64 qx, .int .i64 qy] 34)
    have HO : ∀ W W' : World, (PointOk.Box W (w.heap.size) px py ∧ PointOk.Box W (w.heap.size + 1) qx qy ∧ Below w.heap.size w W) → Below W.heap.size W W' → (PointOk.Box W' (w.heap.size) px py ∧ PointOk.Box W' (w.heap.size + 1) qx qy ∧ Below w.heap.size w W') := fun W W' ⟨h0, h1, hb⟩ h => ⟨h0.later h, h1.later h, hb.trans (h.mono hb.size)⟩
    have hz0_ : Hid ((((w.alloc (Obj.cells #[.int .i64 px, .int .i64 py] 34)).alloc (Obj.cells #[.int .i64 qx, .int .i64 qy] 34))).heap.size = w.heap.size + 1 + 1) := Lib.hid (by simp)
    generalize ((w.alloc (Obj.cells #[.int .i64 px, .int .i64 py] 34)).alloc (Obj.cells #[.int .i64 qx, .int .i64 qy] 34)) = w0 at X0 X1 b0 hz0_ ⊢
    have S0 := (⟨X0, X1, b0⟩ : PointOk.Box w0 (w.heap.size) px py ∧ PointOk.Box w0 (w.heap.size + 1) qx qy ∧ Below w.heap.size w w0)
    clear X0 X1 b0
    obtain ⟨⟨_, _⟩, ⟨_, _⟩, _⟩ := id S0
    go_wp2_with fail
    go_ret
    exact ⟨ret_bool (by rw [E.out]), S0.2.2⟩
  · by_cases h2 : py = qy
    · subst h2
      have E : Hid (r = decide (px < qx)) := Lib.hid (by rw [← hr.out]; simp [lowB])
      clear hr
      go_enter Try.func71, Try.ntmps71
      go_wp2_with fail
      have X0 := (PointOk.box1 w px py 34 (k := w.heap.size) (by simp)).alloc (Obj.cells #[.int .i64 qx, .int .i64 py] 34)
      have X1 := PointOk.box1 (w.alloc (Obj.cells #[.int .i64 px, .int .i64 py] 34)) qx py 34 (k := w.heap.size + 1) (by simp)
      have b0 := PointOk.below2 w (Obj.cells #[.int .i64 px, .int .i64 py] 34) (Obj.cells #[.int .i64 qx, .int .i64 py] 34)
      have HO : ∀ W W' : World, (PointOk.Box W (w.heap.size) px py ∧ PointOk.Box W (w.heap.size + 1) qx py ∧ Below w.heap.size w W) → Below W.heap.size W W' → (PointOk.Box W' (w.heap.size) px py ∧ PointOk.Box W' (w.heap.size + 1) qx py ∧ Below w.heap.size w W') := fun W W' ⟨h0, h1, hb⟩ h => ⟨h0.later h, h1.later h, hb.trans (h.mono hb.size)⟩
      have hz0_ : Hid ((((w.alloc (Obj.cells #[.int .i64 px, .int .i64 py] 34)).alloc (Obj.cells #[.int .i64 qx, .int .i64 py] 34))).heap.size = w.heap.size + 1 + 1) := Lib.hid (by simp)
      generalize ((w.alloc (Obj.cells #[.int .i64 px, .int .i64 py] 34)).alloc (Obj.cells #[.int .i64 qx, .int .i64 py] 34)) = w0 at X0 X1 b0 hz0_ ⊢
      have S0 := (⟨X0, X1, b0⟩ : PointOk.Box w0 (w.heap.size) px py ∧ PointOk.Box w0 (w.heap.size + 1) qx py ∧ Below w.heap.size w w0)
      clear X0 X1 b0
      obtain ⟨⟨_, _⟩, ⟨_, _⟩, _⟩ := id S0
      go_wp2_with fail
      go_ret
      exact ⟨ret_bool (by rw [E.out]), S0.2.2⟩
    · have h3 : (py == qy) = false := beq_eq_false_iff_ne.2 h2
      have E : Hid (r = false) := Lib.hid (by rw [← hr.out]; simp [lowB, h1, h2])
      clear hr
      go_enter Try.func71, Try.ntmps71
      go_wp2_with fail
      have X0 := (PointOk.box1 w px py 34 (k := w.heap.size) (by simp)).alloc (Obj.cells #[.int .i64 qx, .int .i64 qy] 34)
      have X1 := PointOk.box1 (w.alloc (Obj.cells #[.int .i64 px, .int .i64 py] 34)) qx qy 34 (k := w.heap.size + 1) (by simp)
      have b0 := PointOk.below2 w (Obj.cells #[.int .i64 px, .int .i64 py] 34) (Obj.cells #[.int .i64 qx, .int .i64 qy] 34)
      have HO : ∀ W W' : World, (PointOk.Box W (w.heap.size) px py ∧ PointOk.Box W (w.heap.size + 1) qx qy ∧ Below w.heap.size w W) → Below W.heap.size W W' → (PointOk.Box W' (w.heap.size) px py ∧ PointOk.Box W' (w.heap.size + 1) qx qy ∧ Below w.heap.size w W') := fun W W' ⟨h0, h1, hb⟩ h => ⟨h0.later h, h1.later h, hb.trans (h.mono hb.size)⟩
      have hz0_ : Hid ((((w.alloc (Obj.cells #[.int .i64 px, .int .i64 py] 34)).alloc (Obj.cells #[.int .i64 qx, .int .i64 qy] 34))).heap.size = w.heap.size + 1 + 1) := Lib.hid (by simp)
      generalize ((w.alloc (Obj.cells #[.int .i64 px, .int .i64 py] 34)).alloc (Obj.cells #[.int .i64 qx, .int .i64 qy] 34)) = w0 at X0 X1 b0 hz0_ ⊢
      have S0 := (⟨X0, X1, b0⟩ : PointOk.Box w0 (w.heap.size) px py ∧ PointOk.Box w0 (w.heap.size + 1) qx qy ∧ Below w.heap.size w w0)
      clear X0 X1 b0
      obtain ⟨⟨_, _⟩, ⟨_, _⟩, _⟩ := id S0
      go_wp2_with fail
      go_ret
      exact ⟨ret_bool (by rw [E.out]), S0.2.2⟩

set_option maxRecDepth 100000 in
set_option maxHeartbeats 1600000 in
theorem lowest (A : Option Addr) (n cap : Nat) (w : World) (ps : List (Int × Int)) (hl : ps.length = n) (hn : n ≤ 1048576) (hp : PtsAt w w.heap.size A ps) :
    Calls Try.prog 50 #[.agg #[.slice A n cap]] w fun e w' => e = .returned (.int .i64 (lowestI ps)) ∧ Below w.heap.size w w' := by
  obtain ⟨r, hr⟩ : ∃ r, lowestI ps = r := ⟨_, rfl⟩
  have HR := Lib.hid hr
  rw [hr]
  clear hr
  go_enter Try.func50, Try.ntmps50
  go_wp2_with fail
  have X0 := Pts.boxR w (.slice A n cap) 29 (k := w.heap.size) (by simp)
  have b0 := PointOk.below1 w (Obj.cells #[.slice A n cap] 29)
  have HO : ∀ W W' : World, (Pts.BoxR W (w.heap.size) (.slice A n cap) ∧ PtsAt W w.heap.size A ps ∧ Below w.heap.size w W) → Below W.heap.size W W' → (Pts.BoxR W' (w.heap.size) (.slice A n cap) ∧ PtsAt W' w.heap.size A ps ∧ Below w.heap.size w W') := fun W W' ⟨h0, x0, hb⟩ h => ⟨h0.later h, x0.later (h.mono hb.size), hb.trans (h.mono hb.size)⟩
  have hz0_ : Hid (((w.alloc (Obj.cells #[.slice A n cap] 29))).heap.size = w.heap.size + 1) := Lib.hid (by simp)
  have Y0 : PtsAt ((w.alloc (Obj.cells #[.slice A n cap] 29))) w.heap.size A ps := hp.later b0
  generalize (w.alloc (Obj.cells #[.slice A n cap] 29)) = w0 at X0 Y0 b0 hz0_ ⊢
  have S0 := (⟨X0, Y0, b0⟩ : Pts.BoxR w0 (w.heap.size) (.slice A n cap) ∧ PtsAt w0 w.heap.size A ps ∧ Below w.heap.size w w0)
  clear X0 Y0 b0
  obtain ⟨⟨_, _⟩, _, _⟩ := id S0
  refine (RoomOkImpl.roomOk A n cap _ ps hl hn (S0.2.1.wide S0.2.2.size)).mono ?_
  rintro e w1 ⟨rfl, hb_⟩
  replace S0 := HO _ _ S0 hb_
  clear hb_
  obtain ⟨⟨_, _⟩, _, _⟩ := id S0
  cases hr : roomB ps
  · have E : Hid (r = -1) := Lib.hid (by rw [← HR.out]; unfold lowestI; rw [hr]; rfl)
    clear hl HR
    go_wp2_with fail
    go_ret
    exact ⟨ret_i64 E.out.symm, S0.2.2⟩
  have h3 := (roomB_yes hr).1
  rw [hl] at h3
  replace HR : Hid ((lowTo ps n : Int) = r) := Lib.hid (by rw [← HR.out]; unfold lowestI; rw [hr, hl]; rfl)
  clear hr
  go_wp2_with fail
  go_loopw [3, 12] (fun s i wr => ∃ k : Nat, k ≤ n ∧ i = .int .i64 k ∧ s = .int .i64 (lowTo ps k : Int) ∧ (Pts.BoxR wr (w.heap.size) (.slice A n cap) ∧ PtsAt wr w.heap.size A ps ∧ Below w.heap.size w wr))
    (fun _ i _ => n - (intOf i).toNat)
  case atStart => exact ⟨0, Nat.zero_le _, rfl, rfl, S0⟩
  case round =>
    clear S0
    obtain ⟨k, hkn, rfl, rfl, S0⟩ := hrel
    obtain ⟨⟨_, _⟩, _, _⟩ := id S0
    by_cases hlt : k < n
    · have hk1 : (k : Int) < (n : Int) := by omega
      have hk0 : (0 : Int) ≤ (k : Int) := by omega
      have hml := lowTo_lt ps k
      have HL : Hid (lowTo ps (k + 1) = if lowB (pt ps k) (pt ps (lowTo ps k)) then k else lowTo ps k) := Lib.hid rfl
      generalize lowTo ps k = m at *
      have p0 := pt_at (ps := ps) (k := k) (by omega)
      have p1 := pt_at (ps := ps) (k := m) (by omega)
      obtain ⟨ax, ay, ha⟩ : ∃ x y, pt ps k = (x, y) := ⟨_, _, rfl⟩
      obtain ⟨bx, bY, hb⟩ : ∃ x y, pt ps m = (x, y) := ⟨_, _, rfl⟩
      rw [ha] at p0 HL
      rw [hb] at p1 HL
      obtain ⟨ad, eA, bA, pA⟩ := S0.2.1.get p0
      obtain ⟨ad2, eA2, _, pB⟩ := S0.2.1.get p1
      rw [eA] at eA2
      injection eA2 with eA2
      subst eA2
      subst eA
      have hm1 : (m : Int) < (n : Int) := by omega
      have hm0 : (0 : Int) ≤ (m : Int) := by omega
      have uk : IntKind.i64.wrap ((k : Int) + 1) = (k : Int) + 1 := IntWalk.i64_in _ (by omega)
      have QL : Hid (∀ w, _) := Lib.hid fun w => isLower ax ay bx bY w
      obtain ⟨b, hb2⟩ : ∃ b, lowB (ax, ay) (bx, bY) = b := ⟨_, rfl⟩
      rw [hb2] at QL HL
      have hb_ := below1 wr (Obj.cells #[.int .i64 ax, .int .i64 ay] 34)
      have X := PointOk.box1 wr ax ay 34 (k := wr.heap.size) rfl
      obtain ⟨_, _⟩ := id pA
      clear ha hb p0 p1 hb2 hl HR
      have HO : ∀ W W' : World, (Pts.BoxR W (w.heap.size) (.slice (some ad) n cap) ∧ PtsAt W w.heap.size (some ad) ps ∧ PtAt W ad m bx bY ∧ Below w.heap.size w W) → Below W.heap.size W W' → (Pts.BoxR W' (w.heap.size) (.slice (some ad) n cap) ∧ PtsAt W' w.heap.size (some ad) ps ∧ PtAt W' ad m bx bY ∧ Below w.heap.size w W') := fun W W' ⟨h0, x0, x1, hb⟩ h => ⟨h0.later h, x0.later (h.mono hb.size), x1.later bA (h.mono hb.size), hb.trans (h.mono hb.size)⟩
      replace S0 : Pts.BoxR wr (w.heap.size) (.slice (some ad) n cap) ∧ PtsAt wr w.heap.size (some ad) ps ∧ PtAt wr ad m bx bY ∧ Below w.heap.size w wr := ⟨S0.1, S0.2.1, pB, S0.2.2⟩
      replace S0 := HO _ _ S0 hb_
      clear hb_ pA pB
      obtain ⟨K_, hK_⟩ : ∃ K, wr.heap.size = K := ⟨_, rfl⟩
      rw [hK_] at X
      replace hK_ := Lib.hid hK_
      go_wp2_with fail
      generalize wr.alloc (Obj.cells #[.int .i64 ax, .int .i64 ay] 34) = W9 at *
      rw [hK_.out]
      have HO : ∀ W W' : World, (Pts.BoxR W (w.heap.size) (.slice (some ad) n cap) ∧ PtsAt W w.heap.size (some ad) ps ∧ PtAt W ad m bx bY ∧ PointOk.Box W K_ ax ay ∧ Below w.heap.size w W) → Below W.heap.size W W' → (Pts.BoxR W' (w.heap.size) (.slice (some ad) n cap) ∧ PtsAt W' w.heap.size (some ad) ps ∧ PtAt W' ad m bx bY ∧ PointOk.Box W' K_ ax ay ∧ Below w.heap.size w W') := fun W W' ⟨h0, x0, x1, x2, hb⟩ h => ⟨h0.later h, x0.later (h.mono hb.size), x1.later bA (h.mono hb.size), x2.later h, hb.trans (h.mono hb.size)⟩
      replace S0 : Pts.BoxR W9 (w.heap.size) (.slice (some ad) n cap) ∧ PtsAt W9 w.heap.size (some ad) ps ∧ PtAt W9 ad m bx bY ∧ PointOk.Box W9 K_ ax ay ∧ Below w.heap.size w W9 := ⟨S0.1, S0.2.1, S0.2.2.1, X, S0.2.2.2⟩
      clear X
      obtain ⟨⟨_, _⟩, _, ⟨_, _⟩, ⟨_, _⟩, _⟩ := id S0
      refine Settle.region (fun W => Pts.BoxR W (w.heap.size) (.slice (some ad) n cap) ∧ PtsAt W w.heap.size (some ad) ps ∧ PtAt W ad m bx bY ∧ PointOk.Box W K_ ax ay ∧ Below w.heap.size w W) (by kernel_rfl) (by kernel_rfl) (by kernel_rfl) (by kernel_rfl) (HO _ _ S0 ((Below.refl _ _).drew)) ?_
      clear S0
      repeat (first
        | (refine Settle.Settles.off (by rfl) ?_; simp only [Act.put, List.setIfInBounds_toArray, List.set_cons_zero, List.set_cons_succ])
        | (refine Settle.Settles.quiet (v := ?_) (by rfl) ?_ ?_
           rotate_left
           · (intro W hS; obtain ⟨⟨_, _⟩, _, ⟨_, _⟩, ⟨_, _⟩, _⟩ := hS; go_simp; with_reducible rfl)
           simp only [Act.put, List.setIfInBounds_toArray, List.set_cons_zero, List.set_cons_succ])
        | (refine Settle.Settles.call (v := ?_) (f := ?_) (args := ?_) (by rfl) ?_ ?_ ?_
           rotate_left 3
           · (intro W; go_simp; refine ⟨?_, ?_⟩ <;> with_reducible rfl)
           · (intro W hS; first | (go_at_call 71; (with_reducible refine (QL.out _).mono ?_); rintro e W1 ⟨rfl, hb⟩; refine ⟨?_, HO _ _ hS hb⟩; with_reducible rfl))
           simp only [Act.put, List.setIfInBounds_toArray, List.set_cons_zero, List.set_cons_succ]))
      refine Settle.Settles.nil ?_
      intro wr S0
      obtain ⟨⟨_, _⟩, _, ⟨_, _⟩, ⟨_, _⟩, _⟩ := id S0
      cases b
      · have HL2 : Hid (lowTo ps (k + 1) = m) := Lib.hid (by rw [HL.out]; rfl)
        clear HL
        go_wp2_with fail
        first
          | exact ⟨⟨k + 1, by omega, by go_num, by rw [HL2.out], S0.1, S0.2.1, S0.2.2.2.2⟩, by simp [intOf]; omega⟩
          | (go_roundw <;> first | exact ⟨k + 1, by omega, by go_num, by rw [HL2.out], S0.1, S0.2.1, S0.2.2.2.2⟩ | (simp [intOf]; omega))
      · have HL2 : Hid (lowTo ps (k + 1) = k) := Lib.hid (by rw [HL.out]; rfl)
        clear HL
        go_wp2_with fail
        first
          | exact ⟨⟨k + 1, by omega, by go_num, by rw [HL2.out], S0.1, S0.2.1, S0.2.2.2.2⟩, by simp [intOf]; omega⟩
          | (go_roundw <;> first | exact ⟨k + 1, by omega, by go_num, by rw [HL2.out], S0.1, S0.2.1, S0.2.2.2.2⟩ | (simp [intOf]; omega))
    · obtain rfl : n = k := by omega
      generalize (lowTo ps n : Int) = s at *
      clear hl
      go_wp2_with fail
      go_ret
      exact ⟨ret_i64 HR.out, S0.2.2⟩

theorem infoI : (Try.prog.info? 3).map (fun i => (i.zero, i.size, i.bytes)) = some (some (.int .i64 0), 1, 8) := by kernel_rfl

set_option maxRecDepth 100000 in
set_option maxHeartbeats 1600000 in
theorem reflexCorners (A : Option Addr) (n cap : Nat) (w : World) (ps : List (Int × Int)) (hl : ps.length = n) (hn : n ≤ 1048576) (hp : PtsAt w w.heap.size A ps) :
    Calls Try.prog 41 #[.agg #[.slice A n cap]] w (GivesI 3 w (reflL ps)) := by
  obtain ⟨r, hr⟩ : ∃ r, reflL ps = r := ⟨_, rfl⟩
  have HR := Lib.hid hr
  rw [hr]
  clear hr
  obtain ⟨i0, hi, hz0, hz1, hz2⟩ := info_parts infoI
  go_enter Try.func41, Try.ntmps41
  go_wp2_with fail
  have X0 := Pts.boxR w (.slice A n cap) 29 (k := w.heap.size) (by simp)
  have b0 := PointOk.below1 w (Obj.cells #[.slice A n cap] 29)
  have HO : ∀ W W' : World, (Pts.BoxR W (w.heap.size) (.slice A n cap) ∧ PtsAt W w.heap.size A ps ∧ Below w.heap.size w W) → Below W.heap.size W W' → (Pts.BoxR W' (w.heap.size) (.slice A n cap) ∧ PtsAt W' w.heap.size A ps ∧ Below w.heap.size w W') := fun W W' ⟨h0, x0, hb⟩ h => ⟨h0.later h, x0.later (h.mono hb.size), hb.trans (h.mono hb.size)⟩
  have hz0_ : Hid (((w.alloc (Obj.cells #[.slice A n cap] 29))).heap.size = w.heap.size + 1) := Lib.hid (by simp)
  have Y0 : PtsAt ((w.alloc (Obj.cells #[.slice A n cap] 29))) w.heap.size A ps := hp.later b0
  generalize (w.alloc (Obj.cells #[.slice A n cap] 29)) = w0 at X0 Y0 b0 hz0_ ⊢
  have S0 := (⟨X0, Y0, b0⟩ : Pts.BoxR w0 (w.heap.size) (.slice A n cap) ∧ PtsAt w0 w.heap.size A ps ∧ Below w.heap.size w w0)
  clear X0 Y0 b0
  obtain ⟨⟨_, _⟩, _, _⟩ := id S0
  refine (RoomOkImpl.roomOk A n cap _ ps hl hn (S0.2.1.wide S0.2.2.size)).mono ?_
  rintro e w1 ⟨rfl, hb_⟩
  replace S0 := HO _ _ S0 hb_
  clear hb_
  obtain ⟨⟨_, _⟩, _, _⟩ := id S0
  cases hr : roomB ps
  · have E : Hid (r = []) := Lib.hid (by rw [← HR.out]; unfold reflL; rw [hr]; rfl)
    clear hl HR
    go_wp2_with fail
    go_ret
    exact ⟨none, 0, by rw [E.out]; rfl, by rw [E.out]; exact World.ownsRow_nil _ _ _ _, S0.2.2⟩
  obtain ⟨h3, hok, _, _⟩ := roomB_yes hr
  rw [hl] at h3
  replace HR : Hid (reflTo ps n = r) := Lib.hid (by rw [← HR.out]; unfold reflL; rw [hr, hl]; rfl)
  have HO2 : ∀ W W' : World, (Pts.BoxR W (w.heap.size) (.slice A n cap) ∧ PtsAt W w.heap.size A ps ∧ Below w.heap.size w W) → Below (w.heap.size + 1) W W' → (Pts.BoxR W' (w.heap.size) (.slice A n cap) ∧ PtsAt W' w.heap.size A ps ∧ Below w.heap.size w W') := fun W W' ⟨h0, h1, hb⟩ h => ⟨⟨(h.cell (by simp)).trans h0.1, trivial⟩, h1.later (h.mono (by omega)), hb.trans (h.mono (by omega))⟩
  clear hr
  go_wp2_with fail
  go_loopw [3, 11] (fun v i wr => ∃ k : Nat, k ≤ n ∧ i = .int .i64 k ∧ wr.ownsRow (w.heap.size + 1) 3 1 v (reflTo ps k).length (icells (reflTo ps k)) ∧ w.heap.size + 1 ≤ wr.heap.size ∧ (Pts.BoxR wr (w.heap.size) (.slice A n cap) ∧ PtsAt wr w.heap.size A ps ∧ Below w.heap.size w wr))
    (fun _ i _ => n - (intOf i).toNat)
  case atStart => exact ⟨0, Nat.zero_le _, rfl, World.ownsRow_nil _ _ _ _, World.block_lt_of_cell? _ _ S0.1.1, S0⟩
  case round =>
    clear S0
    obtain ⟨k, hkn, rfl, hown, hsz, S0⟩ := hrel
    obtain ⟨⟨_, _⟩, _, _⟩ := id S0
    by_cases hlt : k < n
    · have hk1 : (k : Int) < (n : Int) := by omega
      have QK : Hid (∀ w hp, _) := Lib.hid fun w hp => kindOf A n cap k w ps hl h3 hlt hok hp
      have hlen := reflTo_len ps k
      have HL : Hid (reflTo ps (k + 1) = if reflB ps k then reflTo ps k ++ [(k : Int)] else reflTo ps k) := Lib.hid rfl
      generalize reflTo ps k = l at *
      obtain ⟨m, hm⟩ : ∃ m, l.length = m := ⟨_, rfl⟩
      rw [hm] at hown hlen
      replace hown := Lib.hid hown
      generalize reflB ps k = b at *
      clear hl hok HR
      go_wp2_with fail
      refine (QK.out _ (S0.2.1.wide S0.2.2.size)).mono ?_
      rintro e w2 ⟨rfl, hb_⟩
      replace S0 := HO _ _ S0 hb_
      replace hown := Lib.hid (own_below hown.out hb_)
      replace hsz := Nat.le_trans hsz hb_.size
      clear hb_ QK
      obtain ⟨⟨_, _⟩, _, _⟩ := id S0
      cases b
      · have HL2 : Hid (reflTo ps (k + 1) = l) := Lib.hid (by rw [HL.out]; rfl)
        clear HL
        go_wp2_with fail
        first
          | exact ⟨⟨k + 1, by omega, by go_num, by rw [HL2.out, hm]; exact hown.out, hsz, S0⟩, by simp [intOf]; omega⟩
          | (go_roundw <;> first | exact ⟨k + 1, by omega, by go_num, by rw [HL2.out, hm]; exact hown.out, hsz, S0⟩ | (simp [intOf]; omega))
      · have HL2 : Hid (reflTo ps (k + 1) = l ++ [(k : Int)]) := Lib.hid (by rw [HL.out]; rfl)
        have hown2 := hown.out
        clear HL
        go_wp2_with (at_builtin; refine wpList_append_own _ rfl _ _ 50 rfl (w.heap.size + 1) 3 i0 (.int .i64 0) 1 8 Try.underlying50 hi hz0 hz1 hz2 rfl (by decide) _ _ _ rfl (hown2.alloc _) ⟨w2.heap.size, 0, none⟩ 1 1 [.int .i64 (k : Int)] rfl rfl ?c1 ?c2 ?c3 ?c4 ?c5 ?_)
        case c1 => (intro j u hj; match j, hj with | 0, hj => (simp at hj; subst hj; simp [Addr.add]))
        case c2 => (intro u hu; simp at hu; subst hu; rfl)
        case c3 => (unfold maxLen; omega)
        case c4 => omega
        case c5 => (simp; omega)
        intro v1_ wa_ ho_ hg_ _
        have HN : Hid (wa_.ownsRow (w.heap.size + 1) 3 1 v1_ (reflTo ps (k + 1)).length (icells (reflTo ps (k + 1))) ∧ w.heap.size + 1 ≤ wa_.heap.size ∧ (Pts.BoxR wa_ (w.heap.size) (.slice A n cap) ∧ PtsAt wa_ w.heap.size A ps ∧ Below w.heap.size w wa_)) := Lib.hid (by
          have hb0 : Below (w.heap.size + 1) w2 (w2.alloc (Obj.cells #[.int .i64 (k : Int)] 3)) := (below1 _ _).mono hsz
          have hb1 := hb0.grown hg_ (by simp; omega) (fun g hg => (hown2.lt g hg).1)
          rw [HL2.out, icells_snoc, List.length_append, hm]
          exact ⟨ho_, Nat.le_trans hsz hb1.size, HO2 _ _ S0 hb1⟩)
        clear ho_ hg_ hown hown2 HL2 S0
        go_wp2_with fail
        first
          | exact ⟨⟨k + 1, by omega, by go_num, HN.out.1, HN.out.2.1, HN.out.2.2⟩, by simp [intOf]; omega⟩
          | (go_roundw <;> first | exact ⟨k + 1, by omega, by go_num, HN.out.1, HN.out.2.1, HN.out.2.2⟩ | (simp [intOf]; omega))
    · obtain rfl : n = k := by omega
      rw [HR.out] at hown
      have hown2 := Lib.hid hown
      obtain ⟨A1, c1, rfl⟩ := own_shape hown
      clear hl hown
      go_wp2_with fail
      go_ret
      exact ⟨A1, c1, rfl, own_base hown2.out (by omega), S0.2.2⟩

set_option maxRecDepth 100000 in
set_option maxHeartbeats 800000 in
theorem isConvex (A : Option Addr) (n cap : Nat) (w : World) (ps : List (Int × Int)) (hl : ps.length = n) (hn : n ≤ 1048576) (hp : PtsAt w w.heap.size A ps) :
    Calls Try.prog 46 #[.agg #[.slice A n cap]] w fun e w' => e = .returned (.bool (convexB ps)) ∧ Below w.heap.size w w' := by
  obtain ⟨r, hr⟩ : ∃ r, convexB ps = r := ⟨_, rfl⟩
  have HR := Lib.hid hr
  rw [hr]
  clear hr
  go_enter Try.func46, Try.ntmps46
  go_wp2_with fail
  have X0 := Pts.boxR w (.slice A n cap) 29 (k := w.heap.size) (by simp)
  have b0 := PointOk.below1 w (Obj.cells #[.slice A n cap] 29)
  have HO : ∀ W W' : World, (Pts.BoxR W (w.heap.size) (.slice A n cap) ∧ PtsAt W w.heap.size A ps ∧ Below w.heap.size w W) → Below W.heap.size W W' → (Pts.BoxR W' (w.heap.size) (.slice A n cap) ∧ PtsAt W' w.heap.size A ps ∧ Below w.heap.size w W') := fun W W' ⟨h0, x0, hb⟩ h => ⟨h0.later h, x0.later (h.mono hb.size), hb.trans (h.mono hb.size)⟩
  have hz0_ : Hid (((w.alloc (Obj.cells #[.slice A n cap] 29))).heap.size = w.heap.size + 1) := Lib.hid (by simp)
  have Y0 : PtsAt ((w.alloc (Obj.cells #[.slice A n cap] 29))) w.heap.size A ps := hp.later b0
  generalize (w.alloc (Obj.cells #[.slice A n cap] 29)) = w0 at X0 Y0 b0 hz0_ ⊢
  have S0 := (⟨X0, Y0, b0⟩ : Pts.BoxR w0 (w.heap.size) (.slice A n cap) ∧ PtsAt w0 w.heap.size A ps ∧ Below w.heap.size w w0)
  clear X0 Y0 b0
  obtain ⟨⟨_, _⟩, _, _⟩ := id S0
  refine (RoomOkImpl.roomOk A n cap _ ps hl hn (S0.2.1.wide S0.2.2.size)).mono ?_
  rintro e w1 ⟨rfl, hb_⟩
  replace S0 := HO _ _ S0 hb_
  clear hb_
  obtain ⟨⟨_, _⟩, _, _⟩ := id S0
  cases hr : roomB ps
  · have E : Hid (r = false) := Lib.hid (by rw [← HR.out]; unfold convexB; rw [hr]; rfl)
    clear hl HR
    go_wp2_with fail
    go_ret
    exact ⟨ret_bool E.out.symm, S0.2.2⟩
  have E : Hid (r = decide ((reflL ps).length = 0)) := Lib.hid (by rw [← HR.out]; unfold convexB; rw [hr]; rfl)
  have Q : Hid (∀ w hp, _) := Lib.hid fun w hp => reflexCorners A n cap w ps hl hn hp
  generalize reflL ps = l at *
  clear hl HR hr
  go_wp2_with fail
  refine (Q.out _ (S0.2.1.wide S0.2.2.size)).mono ?_
  rintro e w2 ⟨A2, c2, rfl, hown, hb_⟩
  replace S0 := HO _ _ S0 hb_
  clear hb_ Q hown
  by_cases h0 : l.length = 0
  · rw [h0]
    go_wp2_with fail
    go_ret
    exact ⟨ret_bool (by rw [E.out, h0]; rfl), S0.2.2⟩
  · have h1 : ((l.length : Int) == 0) = false := beq_eq_false_iff_ne.2 (by omega)
    have E2 : Hid (r = false) := Lib.hid (by rw [E.out]; exact decide_eq_false h0)
    generalize l.length = m at *
    go_wp2_with fail
    go_ret
    exact ⟨ret_bool (by rw [E2.out]), S0.2.2⟩

set_option maxRecDepth 100000 in
set_option maxHeartbeats 800000 in
theorem turnSum (A : Option Addr) (n cap : Nat) (w : World) (ps : List (Int × Int)) (hl : ps.length = n) (hn : n ≤ 1048576) (hp : PtsAt w w.heap.size A ps) :
    Calls Try.prog 48 #[.agg #[.slice A n cap]] w fun e w' => e = .returned (.int .i64 (turnSumI ps)) ∧ Below w.heap.size w w' := by
  obtain ⟨r, hr⟩ : ∃ r, turnSumI ps = r := ⟨_, rfl⟩
  have HR := Lib.hid hr
  rw [hr]
  clear hr
  go_enter Try.func48, Try.ntmps48
  go_wp2_with fail
  have X0 := Pts.boxR w (.slice A n cap) 29 (k := w.heap.size) (by simp)
  have b0 := PointOk.below1 w (Obj.cells #[.slice A n cap] 29)
  have HO : ∀ W W' : World, (Pts.BoxR W (w.heap.size) (.slice A n cap) ∧ PtsAt W w.heap.size A ps ∧ Below w.heap.size w W) → Below W.heap.size W W' → (Pts.BoxR W' (w.heap.size) (.slice A n cap) ∧ PtsAt W' w.heap.size A ps ∧ Below w.heap.size w W') := fun W W' ⟨h0, x0, hb⟩ h => ⟨h0.later h, x0.later (h.mono hb.size), hb.trans (h.mono hb.size)⟩
  have hz0_ : Hid (((w.alloc (Obj.cells #[.slice A n cap] 29))).heap.size = w.heap.size + 1) := Lib.hid (by simp)
  have Y0 : PtsAt ((w.alloc (Obj.cells #[.slice A n cap] 29))) w.heap.size A ps := hp.later b0
  generalize (w.alloc (Obj.cells #[.slice A n cap] 29)) = w0 at X0 Y0 b0 hz0_ ⊢
  have S0 := (⟨X0, Y0, b0⟩ : Pts.BoxR w0 (w.heap.size) (.slice A n cap) ∧ PtsAt w0 w.heap.size A ps ∧ Below w.heap.size w w0)
  clear X0 Y0 b0
  obtain ⟨⟨_, _⟩, _, _⟩ := id S0
  refine (RoomOkImpl.roomOk A n cap _ ps hl hn (S0.2.1.wide S0.2.2.size)).mono ?_
  rintro e w1 ⟨rfl, hb_⟩
  replace S0 := HO _ _ S0 hb_
  clear hb_
  obtain ⟨⟨_, _⟩, _, _⟩ := id S0
  cases hr : roomB ps
  · have E : Hid (r = 0) := Lib.hid (by rw [← HR.out]; unfold turnSumI; rw [hr]; rfl)
    clear hl HR
    go_wp2_with fail
    go_ret
    exact ⟨ret_i64 E.out.symm, S0.2.2⟩
  have h3 := (roomB_yes hr).1
  rw [hl] at h3
  have hm := reflTo_len ps n
  have E : Hid (r = (n : Int) - 2 * ((reflL ps).length : Int)) := Lib.hid (by rw [← HR.out]; unfold turnSumI; rw [hr, hl]; rfl)
  have Q : Hid (∀ w hp, _) := Lib.hid fun w hp => reflexCorners A n cap w ps hl hn hp
  rw [show reflTo ps n = reflL ps by unfold reflL; rw [hr, hl]; rfl] at hm
  generalize reflL ps = l at *
  obtain ⟨m, hlm⟩ : ∃ m, l.length = m := ⟨_, rfl⟩
  unfold GivesI at Q
  rw [hlm] at Q hm E
  have u1 : IntKind.i64.wrap (2 * (m : Int)) = 2 * (m : Int) := IntWalk.i64_in _ (by omega)
  have u2 : IntKind.i64.wrap ((n : Int) - 2 * (m : Int)) = (n : Int) - 2 * (m : Int) := IntWalk.i64_in _ (by omega)
  clear hl HR hr
  go_wp2_with fail
  have S0_ := HO _ _ S0 ((Below.refl _ _).drew)
  have HS0_ : w1.drew.cell? ⟨w.heap.size, 0, none⟩ = some (.slice A n cap) := by obtain ⟨⟨_, _⟩, _, _⟩ := id S0_; exact by assumption
  go_region_held3 (fun W => W.cell? ⟨w.heap.size, 0, none⟩ = some (.slice A n cap)) (first | exact HS0_ | assumption) (first | (go_at_call 41; refine (Q.out _ (S0_.2.1.wide S0_.2.2.size)).mono ?_; rintro e w2 ⟨A9, c9, rfl, hown9, hb0_⟩; have S1_ := HO _ _ S0_ hb0_; have HS1_ : w2.cell? ⟨w.heap.size, 0, none⟩ = some (.slice A n cap) := by obtain ⟨⟨_, _⟩, _, _⟩ := id S1_; exact by assumption))
  replace S0 := S1_
  obtain ⟨⟨_, _⟩, _, _⟩ := id S0
  go_wp2_with fail
  go_ret
  exact ⟨ret_i64 (by rw [E.out]), S0.2.2⟩

end Go.Proofs.Ytkohfbffmljmcaa.CornerImpl

