/-
  What the landed LowestCorner does, as a contract: what it answers; new memory alone is written.
-/
import Derived.Test.YtgelkpaiabhklaaRoomImpl
import Derived.Test.YtgelkpaiabhklaaRoomOkImpl
import Derived.Test.YtgelkpaiabhklaaLowMath
import Derived.Test.YtgelkpaiabhklaaRoomRes
import Derived.Test.YtgelkpaiabhklaaGround
namespace Go.Proofs.Ytgelkpaiabhklaa.LowImpl
open Go.RowKit Own PointMath WallMath RoomMath Pts Blk AreaMath RoomRes LowMath
open PointOk (ret_bool ret_i64 below1 below2 below3)

theorem isLower (px py qx qy : Int) (w : World) :
    Calls Try.prog 133 #[.agg #[.int .i64 px, .int .i64 py], .agg #[.int .i64 qx, .int .i64 qy]] w fun e w' => e = .returned (.bool (lowB (px, py) (qx, qy))) ∧ Below w.heap.size w w' := by
  obtain ⟨r, hr⟩ : ∃ r, Hid (lowB (px, py) (qx, qy) = r) := ⟨_, Lib.hid rfl⟩
  rw [hr.out]
  by_cases h1 : py < qy
  · have E : Hid (r = true) := Lib.hid (by rw [← hr.out]; simp [lowB, h1])
    clear hr
    go_enter Try.func133, Try.ntmps133
    go_wp2_with fail
    have X0 := (PointOk.box1 w px py 118 (k := w.heap.size) (by simp)).alloc (Obj.cells #[.int .i64 qx, .int .i64 qy] 118)
    have X1 := PointOk.box1 (w.alloc (Obj.cells #[.int .i64 px, .int .i64 py] 118)) qx qy 118 (k := w.heap.size + 1) (by simp)
    have b0 := PointOk.below2 w (Obj.cells #[.int .i64 px, .int .i64 py] 118) (Obj.cells #[.int .i64 qx, .int .i64 qy] 118)
    have HO : ∀ W W' : World, (PointOk.Box W (w.heap.size) px py ∧ PointOk.Box W (w.heap.size + 1) qx qy ∧ Below w.heap.size w W) → Below W.heap.size W W' → (PointOk.Box W' (w.heap.size) px py ∧ PointOk.Box W' (w.heap.size + 1) qx qy ∧ Below w.heap.size w W') := fun W W' ⟨h0, h1, hb⟩ h => ⟨h0.later h, h1.later h, hb.trans (h.mono hb.size)⟩
    have hz0_ : Hid ((((w.alloc (Obj.cells #[.int .i64 px, .int .i64 py] 118)).alloc (Obj.cells #[.int .i64 qx, .int .i64 qy] 118))).heap.size = w.heap.size + 1 + 1) := Lib.hid (by simp)
    generalize ((w.alloc (Obj.cells #[.int .i64 px, .int .i64 py] 118)).alloc (Obj.cells #[.int .i64 qx, .int .i64 qy] 118)) = w0 at X0 X1 b0 hz0_ ⊢
    have S0 := (⟨X0, X1, b0⟩ : PointOk.Box w0 (w.heap.size) px py ∧ PointOk.Box w0 (w.heap.size + 1) qx qy ∧ Below w.heap.size w w0)
    clear X0 X1 b0
    obtain ⟨⟨_, _⟩, ⟨_, _⟩, _⟩ := id S0
    go_wp2_with fail
    go_ret
    exact ⟨ret_bool (by rw [E.out]), S0.2.2⟩
  · by_cases h2 : py = qy
    · subst h2
      have E : Hid (r = decide (px < qx)) := Lib.hid (by rw [← hr.out]; simp [lowB])
      clear hr
      go_enter Try.func133, Try.ntmps133
      go_wp2_with fail
      have X0 := (PointOk.box1 w px py 118 (k := w.heap.size) (by simp)).alloc (Obj.cells #[.int .i64 qx, .int .i64 py] 118)
      have X1 := PointOk.box1 (w.alloc (Obj.cells #[.int .i64 px, .int .i64 py] 118)) qx py 118 (k := w.heap.size + 1) (by simp)
      have b0 := PointOk.below2 w (Obj.cells #[.int .i64 px, .int .i64 py] 118) (Obj.cells #[.int .i64 qx, .int .i64 py] 118)
      have HO : ∀ W W' : World, (PointOk.Box W (w.heap.size) px py ∧ PointOk.Box W (w.heap.size + 1) qx py ∧ Below w.heap.size w W) → Below W.heap.size W W' → (PointOk.Box W' (w.heap.size) px py ∧ PointOk.Box W' (w.heap.size + 1) qx py ∧ Below w.heap.size w W') := fun W W' ⟨h0, h1, hb⟩ h => ⟨h0.later h, h1.later h, hb.trans (h.mono hb.size)⟩
      have hz0_ : Hid ((((w.alloc (Obj.cells #[.int .i64 px, .int .i64 py] 118)).alloc (Obj.cells #[.int .i64 qx, .int .i64 py] 118))).heap.size = w.heap.size + 1 + 1) := Lib.hid (by simp)
      generalize ((w.alloc (Obj.cells #[.int .i64 px, .int .i64 py] 118)).alloc (Obj.cells #[.int .i64 qx, .int .i64 py] 118)) = w0 at X0 X1 b0 hz0_ ⊢
      have S0 := (⟨X0, X1, b0⟩ : PointOk.Box w0 (w.heap.size) px py ∧ PointOk.Box w0 (w.heap.size + 1) qx py ∧ Below w.heap.size w w0)
      clear X0 X1 b0
      obtain ⟨⟨_, _⟩, ⟨_, _⟩, _⟩ := id S0
      go_wp2_with fail
      go_ret
      exact ⟨ret_bool (by rw [E.out]), S0.2.2⟩
    · have h3 : (py == qy) = false := beq_eq_false_iff_ne.2 h2
      have E : Hid (r = false) := Lib.hid (by rw [← hr.out]; simp [lowB, h1, h2])
      clear hr
      go_enter Try.func133, Try.ntmps133
      go_wp2_with fail
      have X0 := (PointOk.box1 w px py 118 (k := w.heap.size) (by simp)).alloc (Obj.cells #[.int .i64 qx, .int .i64 qy] 118)
      have X1 := PointOk.box1 (w.alloc (Obj.cells #[.int .i64 px, .int .i64 py] 118)) qx qy 118 (k := w.heap.size + 1) (by simp)
      have b0 := PointOk.below2 w (Obj.cells #[.int .i64 px, .int .i64 py] 118) (Obj.cells #[.int .i64 qx, .int .i64 qy] 118)
      have HO : ∀ W W' : World, (PointOk.Box W (w.heap.size) px py ∧ PointOk.Box W (w.heap.size + 1) qx qy ∧ Below w.heap.size w W) → Below W.heap.size W W' → (PointOk.Box W' (w.heap.size) px py ∧ PointOk.Box W' (w.heap.size + 1) qx qy ∧ Below w.heap.size w W') := fun W W' ⟨h0, h1, hb⟩ h => ⟨h0.later h, h1.later h, hb.trans (h.mono hb.size)⟩
      have hz0_ : Hid ((((w.alloc (Obj.cells #[.int .i64 px, .int .i64 py] 118)).alloc (Obj.cells #[.int .i64 qx, .int .i64 qy] 118))).heap.size = w.heap.size + 1 + 1) := Lib.hid (by simp)
      generalize ((w.alloc (Obj.cells #[.int .i64 px, .int .i64 py] 118)).alloc (Obj.cells #[.int .i64 qx, .int .i64 qy] 118)) = w0 at X0 X1 b0 hz0_ ⊢
      have S0 := (⟨X0, X1, b0⟩ : PointOk.Box w0 (w.heap.size) px py ∧ PointOk.Box w0 (w.heap.size + 1) qx qy ∧ Below w.heap.size w w0)
      clear X0 X1 b0
      obtain ⟨⟨_, _⟩, ⟨_, _⟩, _⟩ := id S0
      go_wp2_with fail
      go_ret
      exact ⟨ret_bool (by rw [E.out]), S0.2.2⟩


set_option maxRecDepth 100000 in
set_option maxHeartbeats 1600000 in
theorem lowestOf (A : Option Addr) (n cap : Nat) (w : World) (ps : List (Int × Int)) (hl : ps.length = n) (h1 : 1 ≤ n) (hn : n ≤ 1048576) (x y : Int) (hxy : pt ps (lowTo ps n) = (x, y)) (hp : PtsAt w w.heap.size A ps) :
    Calls Try.prog 80 #[.slice A n cap] w fun e w' => e = .returned (.agg #[.int .i64 x, .int .i64 y]) ∧ Below w.heap.size w w' := by
  have HX := Lib.hid hxy
  clear hxy
  have p0 := pt_at (ps := ps) (k := 0) (by omega)
  obtain ⟨a0, q0, h0⟩ : ∃ x y, pt ps 0 = (x, y) := ⟨_, _, rfl⟩
  rw [h0] at p0
  obtain ⟨ad, eA, bA, pA⟩ := hp.get p0
  subst eA
  have hn1 : (0 : Int) < (n : Int) := by omega
  have z0_ : w.cell? ad = some (.int .i64 a0) := pA.1
  have z1_ : w.cell? ⟨ad.block, ad.off + 1, none⟩ = some (.int .i64 q0) := pA.2
  go_enter Try.func80, Try.ntmps80
  go_wp2_with fail
  have X0 := Blk.Holds.box w #[.int .i64 0, .int .i64 0] 118 (k := w.heap.size) (by simp)
  have b0 := PointOk.below1 w (Obj.cells #[.int .i64 0, .int .i64 0] 118)
  have HO : ∀ W W' : World, (Blk.Holds W (w.heap.size) #[.int .i64 0, .int .i64 0] 118 ∧ PtsAt W w.heap.size (some ad) ps ∧ PtAt W ad 0 a0 q0 ∧ w.heap.size + 1 ≤ W.heap.size ∧ Below w.heap.size w W) → Below W.heap.size W W' → (Blk.Holds W' (w.heap.size) #[.int .i64 0, .int .i64 0] 118 ∧ PtsAt W' w.heap.size (some ad) ps ∧ PtAt W' ad 0 a0 q0 ∧ w.heap.size + 1 ≤ W'.heap.size ∧ Below w.heap.size w W') := fun W W' ⟨h0, x0, x1, x2, hb⟩ h => ⟨h0.later h, x0.later (h.mono hb.size), x1.later bA (h.mono hb.size), Nat.le_trans x2 h.size, hb.trans (h.mono hb.size)⟩
  have hz0_ : Hid (((w.alloc (Obj.cells #[.int .i64 0, .int .i64 0] 118))).heap.size = w.heap.size + 1) := Lib.hid (by simp)
  have Y0 : PtsAt ((w.alloc (Obj.cells #[.int .i64 0, .int .i64 0] 118))) w.heap.size (some ad) ps := hp.later b0
  have Y1 : PtAt ((w.alloc (Obj.cells #[.int .i64 0, .int .i64 0] 118))) ad 0 a0 q0 := pA.later bA b0
  have Y2 : w.heap.size + 1 ≤ ((w.alloc (Obj.cells #[.int .i64 0, .int .i64 0] 118))).heap.size := by simp
  generalize (w.alloc (Obj.cells #[.int .i64 0, .int .i64 0] 118)) = w0 at X0 Y0 Y1 Y2 b0 hz0_ ⊢
  have S0 := (⟨X0, Y0, Y1, Y2, b0⟩ : Blk.Holds w0 (w.heap.size) #[.int .i64 0, .int .i64 0] 118 ∧ PtsAt w0 w.heap.size (some ad) ps ∧ PtAt w0 ad 0 a0 q0 ∧ w.heap.size + 1 ≤ w0.heap.size ∧ Below w.heap.size w w0)
  clear X0 Y0 Y1 Y2 b0
  obtain ⟨_, _, ⟨_, _⟩, _, _⟩ := id S0
  have HO2 : ∀ W W' : World, (Blk.Holds W (w.heap.size) #[.int .i64 0, .int .i64 0] 118 ∧ PtsAt W w.heap.size (some ad) ps ∧ PtAt W ad 0 a0 q0 ∧ w.heap.size + 1 ≤ W.heap.size ∧ Below w.heap.size w W) → Below (w.heap.size + 1) W W' → (Blk.Holds W' (w.heap.size) #[.int .i64 0, .int .i64 0] 118 ∧ PtsAt W' w.heap.size (some ad) ps ∧ PtAt W' ad 0 a0 q0 ∧ w.heap.size + 1 ≤ W'.heap.size ∧ Below w.heap.size w W') := fun W W' ⟨h0, x0, x1, x2, hb⟩ h => ⟨(h.block _ (by omega)).trans h0, x0.later (h.mono (by omega)), x1.later bA (h.mono (by omega)), Nat.le_trans x2 h.size, hb.trans (h.mono (by omega))⟩
  have HB := Blk.Holds.box w0 #[.int .i64 a0, .int .i64 q0] 118 (k := w.heap.size + 1) hz0_.out.symm
  have hks : w.heap.size + 1 ≤ w.heap.size + 1 := Nat.le_refl _
  replace S0 := HO _ _ S0 (below1 w0 (Obj.cells #[.int .i64 a0, .int .i64 q0] 118))
  generalize w0.alloc (Obj.cells #[.int .i64 a0, .int .i64 q0] 118) = w6 at *
  clear pA p0 hz0_ z0_ z1_
  obtain ⟨kb, hkb⟩ : ∃ kb, kb = w.heap.size + 1 := ⟨_, rfl⟩
  rw [← hkb] at HB ⊢
  replace hks : w.heap.size + 1 ≤ kb := by omega
  clear hkb
  go_loopw [11] (fun i wr => ∃ (k : Nat) (x1 y1 : Int), k ≤ n ∧ i = .int .i64 k ∧ Hid (pt ps (lowTo ps k) = (x1, y1)) ∧ Blk.Holds wr kb #[.int .i64 x1, .int .i64 y1] 118 ∧ (Blk.Holds wr (w.heap.size) #[.int .i64 0, .int .i64 0] 118 ∧ PtsAt wr w.heap.size (some ad) ps ∧ PtAt wr ad 0 a0 q0 ∧ w.heap.size + 1 ≤ wr.heap.size ∧ Below w.heap.size w wr))
    (fun i _ => n - (intOf i).toNat)
  case atStart => exact ⟨0, a0, q0, Nat.zero_le _, rfl, Lib.hid h0, HB, S0⟩
  case round =>
    clear S0 HB h0
    obtain ⟨k, x1, y1, hkn, rfl, HP, HB, S0⟩ := hrel
    obtain ⟨_, _, ⟨_, _⟩, _, _⟩ := id S0
    obtain ⟨c0_, c1_⟩ := HB.two
    by_cases hlt : k < n
    · have hk1 : (k : Int) < (n : Int) := by omega
      have hk0 : (0 : Int) ≤ (k : Int) := by omega
      have p1 := pt_at (ps := ps) (k := k) (by omega)
      obtain ⟨ax, ay, ha⟩ : ∃ x y, pt ps k = (x, y) := ⟨_, _, rfl⟩
      have HL : Hid (pt ps (lowTo ps (k + 1)) = if lowB (ax, ay) (x1, y1) then (ax, ay) else (x1, y1)) := Lib.hid (by
        show pt ps (if lowB (pt ps k) (pt ps (lowTo ps k)) then k else lowTo ps k) = _
        rw [HP.out, ha]
        split
        · exact ha
        · exact HP.out)
      rw [ha] at p1
      obtain ⟨ad2, eA2, _, pK⟩ := S0.2.1.get p1
      injection eA2 with eA2
      subst eA2
      have uk : IntKind.i64.wrap ((k : Int) + 1) = (k : Int) + 1 := IntWalk.i64_in _ (by omega)
      have QL : Hid (∀ w, _) := Lib.hid fun w => isLower ax ay x1 y1 w
      obtain ⟨b, hb2⟩ : ∃ b, lowB (ax, ay) (x1, y1) = b := ⟨_, rfl⟩
      rw [hb2] at QL HL
      have hb_ := below1 wr (Obj.cells #[.int .i64 ax, .int .i64 ay] 118)
      have X := Blk.Holds.box wr #[.int .i64 ax, .int .i64 ay] 118 (k := wr.heap.size) rfl
      have hkk : kb < wr.heap.size := HB.lt
      obtain ⟨_, _⟩ := id pK
      replace S0 := HO _ _ S0 hb_
      replace HB := HB.later hb_
      clear hb_ ha p1 hb2 hl hp HX HP c0_ c1_
      obtain ⟨c0_, c1_⟩ := HB.two
      obtain ⟨d0_, d1_⟩ := X.two
      go_wp2_with fail
      generalize wr.alloc (Obj.cells #[.int .i64 ax, .int .i64 ay] 118) = W9 at *
      generalize wr.heap.size = K_ at *
      refine (QL.out _).mono ?_
      rintro e W8 ⟨rfl, hb_⟩
      replace S0 := HO _ _ S0 hb_
      replace HB := HB.later hb_
      replace X := X.later hb_
      clear hb_ c0_ c1_ d0_ d1_ QL
      obtain ⟨_, _, ⟨_, _⟩, _, _⟩ := id S0
      obtain ⟨c0_, c1_⟩ := HB.two
      obtain ⟨d0_, d1_⟩ := X.two
      cases b
      · have HL2 : Hid (pt ps (lowTo ps (k + 1)) = (x1, y1)) := Lib.hid (by rw [HL.out]; rfl)
        clear HL
        go_wp2_with fail
        first
          | exact ⟨⟨k + 1, x1, y1, by omega, by go_num, HL2, HB, S0⟩, by simp [intOf]; omega⟩
          | (go_roundw <;> first | exact ⟨k + 1, x1, y1, by omega, by go_num, HL2, HB, S0⟩ | (simp [intOf]; omega))
      · have HL2 : Hid (pt ps (lowTo ps (k + 1)) = (ax, ay)) := Lib.hid (by rw [HL.out]; rfl)
        clear HL
        have E_ : Hid (Blk.Holds _ kb #[.int .i64 ax, .int .i64 ay] 118) := Lib.hid (Blk.set_own (Blk.set_own HB 0 (.int .i64 ax)) 1 (.int .i64 ay))
        have S2 := Lib.hid (HO2 _ _ S0 ((below_set W8 (w.heap.size + 1) kb 0 (.int .i64 ax) hks).trans (below_set _ (w.heap.size + 1) kb 1 (.int .i64 ay) hks)))
        go_wp2_with fail
        first
          | exact ⟨⟨k + 1, ax, ay, by omega, by go_num, HL2, E_.out, S2.out⟩, by simp [intOf]; omega⟩
          | (go_roundw <;> first | exact ⟨k + 1, ax, ay, by omega, by go_num, HL2, E_.out, S2.out⟩ | (simp [intOf]; omega))
    · obtain rfl : n = k := by omega
      have E : Hid ((x1, y1) = (x, y)) := Lib.hid (HP.out.symm.trans HX.out)
      have hR := S0.1
      have E_ : Blk.Holds _ w.heap.size #[.int .i64 x1, .int .i64 y1] 118 := Blk.set_own (Blk.set_own hR 0 (.int .i64 x1)) 1 (.int .i64 y1)
      obtain ⟨r0_, _⟩ := E_.two
      obtain ⟨_, _⟩ := hR.two
      have hb4 := Lib.hid (S0.2.2.2.2.trans ((below_set wr w.heap.size w.heap.size 0 (.int .i64 x1) (Nat.le_refl _)).trans (below_set _ w.heap.size w.heap.size 1 (.int .i64 y1) (Nat.le_refl _))))
      clear hl hp HX HP hR
      go_wp2_with fail
      refine bodyPost_ret (v := .agg #[.int .i64 x1, .int .i64 y1]) (by simp [results, Try.results80, go_sem, r0_]) rfl ⟨by have := E.out; cases this; rfl, hb4.out⟩

set_option maxRecDepth 100000 in
set_option maxHeartbeats 1600000 in
theorem lowest (A : Option Addr) (n cap : Nat) (w : World) (ps : List (Int × Int)) (hl : ps.length = n) (hn : n ≤ 1048576) (hp : PtsAt w w.heap.size A ps) :
    Calls Try.prog 28 #[.agg #[.slice A n cap]] w fun e w' => e = .returned (.int .i64 (lowestI ps)) ∧ Below w.heap.size w w' := by
  obtain ⟨r, hr⟩ : ∃ r, lowestI ps = r := ⟨_, rfl⟩
  have HR := Lib.hid hr
  rw [hr]
  clear hr
  go_enter Try.func28, Try.ntmps28
  go_wp2_with fail
  have X0 := Pts.boxR w (.slice A n cap) 50 (k := w.heap.size) (by simp)
  have b0 := PointOk.below1 w (Obj.cells #[.slice A n cap] 50)
  have HO : ∀ W W' : World, (Pts.BoxR W (w.heap.size) (.slice A n cap) ∧ PtsAt W w.heap.size A ps ∧ Below w.heap.size w W) → Below W.heap.size W W' → (Pts.BoxR W' (w.heap.size) (.slice A n cap) ∧ PtsAt W' w.heap.size A ps ∧ Below w.heap.size w W') := fun W W' ⟨h0, x0, hb⟩ h => ⟨h0.later h, x0.later (h.mono hb.size), hb.trans (h.mono hb.size)⟩
  have hz0_ : Hid (((w.alloc (Obj.cells #[.slice A n cap] 50))).heap.size = w.heap.size + 1) := Lib.hid (by simp)
  have Y0 : PtsAt ((w.alloc (Obj.cells #[.slice A n cap] 50))) w.heap.size A ps := hp.later b0
  generalize (w.alloc (Obj.cells #[.slice A n cap] 50)) = w0 at X0 Y0 b0 hz0_ ⊢
  have S0 := (⟨X0, Y0, b0⟩ : Pts.BoxR w0 (w.heap.size) (.slice A n cap) ∧ PtsAt w0 w.heap.size A ps ∧ Below w.heap.size w w0)
  clear X0 Y0 b0
  obtain ⟨⟨_, _⟩, _, _⟩ := id S0
  refine (RoomOkImpl.roomOk A n cap _ ps hl hn (S0.2.1.wide S0.2.2.size)).mono ?_
  rintro e w1 ⟨rfl, hb_⟩
  replace S0 := HO _ _ S0 hb_
  clear hb_
  obtain ⟨⟨_, _⟩, _, _⟩ := id S0
  cases hr : roomB ps
  · have E : Hid (r = -1) := Lib.hid (by rw [← HR.out]; unfold lowestI; rw [hr]; rfl)
    clear hl HR
    go_wp2_with fail
    go_ret
    exact ⟨ret_i64 E.out.symm, S0.2.2⟩
  have h3 := (roomB_yes hr).1
  rw [hl] at h3
  replace HR : Hid ((lowTo ps n : Int) = r) := Lib.hid (by rw [← HR.out]; unfold lowestI; rw [hr, hl]; rfl)
  obtain ⟨x, y, hxy⟩ : ∃ x y, pt ps (lowTo ps n) = (x, y) := ⟨_, _, rfl⟩
  have QA : Hid (∀ w hp, _) := Lib.hid fun w hp => lowestOf A n cap w ps hl (by omega) hn x y hxy hp
  have QB : Hid (∀ w hp, _) := Lib.hid fun w hp => RoomImpl.isCorner A n cap x y w ps hl hn hp
  rw [find_low hl (by omega) hxy, HR.out] at QB
  clear hr hl hxy h3 HR
  go_wp2_with fail
  refine Settle.region (fun W => Pts.BoxR W (w.heap.size) (.slice A n cap) ∧ PtsAt W w.heap.size A ps ∧ Below w.heap.size w W) (by kernel_rfl) (by kernel_rfl) (by kernel_rfl) (by kernel_rfl) (HO _ _ S0 ((Below.refl _ _).drew)) ?_
  clear S0
  repeat (first
    | (refine Settle.Settles.off (by rfl) ?_; simp only [Act.put, List.setIfInBounds_toArray, List.set_cons_zero, List.set_cons_succ])
    | (refine Settle.Settles.quiet (v := ?_) (by rfl) ?_ ?_
       rotate_left
       · (intro W hS; obtain ⟨⟨_, _⟩, _, _⟩ := hS; go_simp; with_reducible rfl)
       simp only [Act.put, List.setIfInBounds_toArray, List.set_cons_zero, List.set_cons_succ])
    | (refine Settle.Settles.call (v := ?_) (f := ?_) (args := ?_) (by rfl) ?_ ?_ ?_
       rotate_left 3
       · (intro W; go_simp; refine ⟨?_, ?_⟩ <;> with_reducible rfl)
       · (intro W hS; first | (go_at_call 80; (with_reducible refine (QA.out _ (hS.2.1.wide hS.2.2.size)).mono ?_); rintro e W1 ⟨rfl, hb⟩; refine ⟨?_, HO _ _ hS hb⟩; with_reducible rfl) | (go_at_call 79; (with_reducible refine (QB.out _ (hS.2.1.wide hS.2.2.size)).mono ?_); rintro e W1 ⟨rfl, hb⟩; refine ⟨?_, HO _ _ hS hb⟩; with_reducible rfl))
       simp only [Act.put, List.setIfInBounds_toArray, List.set_cons_zero, List.set_cons_succ]))
  refine Settle.Settles.nil ?_
  intro wr S0
  obtain ⟨⟨_, _⟩, _, _⟩ := id S0
  go_wp2_with fail
  go_ret
  exact ⟨rfl, S0.2.2⟩

end Go.Proofs.Ytgelkpaiabhklaa.LowImpl

