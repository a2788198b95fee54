/-
  What the landed AreApart does, as a contract: what it answers; new memory alone is written.
-/
import Derived.Test.YtaphdannaaiidaaBlockImpl
import Derived.Test.YtaphdannaaiidaaFloorImpl
import Derived.Test.YtaphdannaaiidaaApartMath
import Derived.Test.YtaphdannaaiidaaLawInt
namespace Go.Proofs.Ytaphdannaaiidaa.ApartImpl
open Go.RowKit Own PointMath WallMath RoomMath Pts Blk AreaMath PlaceMath FloorMath ApartMath
open PointOk (ret_bool ret_i64 below1 below2 below3)

set_option maxRecDepth 100000 in
set_option maxHeartbeats 1600000 in
theorem hits (A : Option Addr) (n ca : Nat) (B : Option Addr) (m cb : Nat) (w : World) (ps : List (Int × Int)) (hl : ps.length = n) (hn : n ≤ 1048576) (hs : smAll ps) (hp : PtsAt w w.heap.size A ps) (qs : List (Int × Int)) (hl2 : qs.length = m) (hn2 : m ≤ 1048576) (hs2 : smAll qs) (hq : PtsAt w w.heap.size B qs) :
    Calls Try.prog 66 #[.agg #[.slice A n ca], .agg #[.slice B m cb]] w fun e w' => e = .returned (.bool (hitsB ps qs)) ∧ Below w.heap.size w w' := by
  obtain ⟨r, hr⟩ : ∃ r, hitsB ps qs = r := ⟨_, rfl⟩
  have HR := Lib.hid hr
  rw [hr]
  clear hr
  go_enter Try.func66, Try.ntmps66
  go_wp2_with fail
  have X0 := (Pts.boxR w (.slice A n ca) 33 (k := w.heap.size) (by simp)).alloc (Obj.cells #[.slice B m cb] 33)
  have X1 := Pts.boxR (w.alloc (Obj.cells #[.slice A n ca] 33)) (.slice B m cb) 33 (k := w.heap.size + 1) (by simp)
  have b0 := PointOk.below2 w (Obj.cells #[.slice A n ca] 33) (Obj.cells #[.slice B m cb] 33)
  have HO : ∀ W W' : World, (Pts.BoxR W (w.heap.size) (.slice A n ca) ∧ Pts.BoxR W (w.heap.size + 1) (.slice B m cb) ∧ PtsAt W w.heap.size A ps ∧ PtsAt W w.heap.size B qs ∧ Below w.heap.size w W) → Below W.heap.size W W' → (Pts.BoxR W' (w.heap.size) (.slice A n ca) ∧ Pts.BoxR W' (w.heap.size + 1) (.slice B m cb) ∧ PtsAt W' w.heap.size A ps ∧ PtsAt W' w.heap.size B qs ∧ Below w.heap.size w W') := fun W W' ⟨h0, h1, x0, x1, hb⟩ h => ⟨h0.later h, h1.later h, x0.later (h.mono hb.size), x1.later (h.mono hb.size), hb.trans (h.mono hb.size)⟩
  have hz0_ : Hid ((((w.alloc (Obj.cells #[.slice A n ca] 33)).alloc (Obj.cells #[.slice B m cb] 33))).heap.size = w.heap.size + 1 + 1) := Lib.hid (by simp)
  have Y0 : PtsAt (((w.alloc (Obj.cells #[.slice A n ca] 33)).alloc (Obj.cells #[.slice B m cb] 33))) w.heap.size A ps := hp.later b0
  have Y1 : PtsAt (((w.alloc (Obj.cells #[.slice A n ca] 33)).alloc (Obj.cells #[.slice B m cb] 33))) w.heap.size B qs := hq.later b0
  generalize ((w.alloc (Obj.cells #[.slice A n ca] 33)).alloc (Obj.cells #[.slice B m cb] 33)) = w0 at X0 X1 Y0 Y1 b0 hz0_ ⊢
  have S0 := (⟨X0, X1, Y0, Y1, b0⟩ : Pts.BoxR w0 (w.heap.size) (.slice A n ca) ∧ Pts.BoxR w0 (w.heap.size + 1) (.slice B m cb) ∧ PtsAt w0 w.heap.size A ps ∧ PtsAt w0 w.heap.size B qs ∧ Below w.heap.size w w0)
  clear X0 X1 Y0 Y1 b0
  obtain ⟨⟨_, _⟩, ⟨_, _⟩, _, _, _⟩ := id S0
  go_loopw [9] (fun i wr => ∃ k : Nat, k ≤ n ∧ i = .int .i64 k ∧ Hid (∀ j, j < k → hitB ps qs j = false) ∧ (Pts.BoxR wr (w.heap.size) (.slice A n ca) ∧ Pts.BoxR wr (w.heap.size + 1) (.slice B m cb) ∧ PtsAt wr w.heap.size A ps ∧ PtsAt wr w.heap.size B qs ∧ Below w.heap.size w wr))
    (fun i _ => n - (intOf i).toNat)
  case atStart => exact ⟨0, Nat.zero_le _, rfl, Lib.hid (fun j hj => absurd hj (by omega)), S0⟩
  case round =>
    clear S0
    obtain ⟨k, hkn, rfl, hno, S0⟩ := hrel
    obtain ⟨⟨_, _⟩, ⟨_, _⟩, _, _, _⟩ := id S0
    by_cases hlt : k < n
    · have hk1 : (k : Int) < (n : Int) := by omega
      have QW : Hid (∀ w hp, _) := Lib.hid fun w hp => RoomOkImpl.wallBehind A n ca k w ps hl hn hlt hp
      have s0 := hs k (by omega)
      have s1 := hs ((k + 1) % n) (by rw [hl]; exact Nat.mod_lt _ (by omega))
      have HK : Hid (hitB ps qs k = decide (0 ≤ crossM qs (pt ps k) (pt ps ((k + 1) % n)))) := Lib.hid (by rw [← crossM_hit, hl])
      generalize pt ps k = a at *
      generalize pt ps ((k + 1) % n) = b at *
      have QC : Hid (∀ w hp, _) := Lib.hid fun w hp => BlockImpl.crossedWall B m cb a.1 a.2 b.1 b.2 w qs hl2 hn2 hs2 s0 s1 hp
      obtain ⟨v, hv⟩ : ∃ v, crossM qs (a.1, a.2) (b.1, b.2) = v := ⟨_, rfl⟩
      rw [hv] at QC
      replace HK : Hid (hitB ps qs k = decide (0 ≤ v)) := Lib.hid (by rw [HK.out, ← hv])
      clear hv s0 s1
      go_wp2_with fail
      refine Settle.region (fun W => Pts.BoxR W (w.heap.size) (.slice A n ca) ∧ Pts.BoxR W (w.heap.size + 1) (.slice B m cb) ∧ PtsAt W w.heap.size A ps ∧ PtsAt W w.heap.size B qs ∧ Below w.heap.size w W) (by kernel_rfl) (by kernel_rfl) (by kernel_rfl) (by kernel_rfl) (HO _ _ S0 ((Below.refl _ _).drew)) ?_
      clear S0
      repeat (first
        | (refine Settle.Settles.off (by rfl) ?_; simp only [Act.put, List.setIfInBounds_toArray, List.set_cons_zero, List.set_cons_succ])
        | (refine Settle.Settles.quiet (v := ?_) (by rfl) ?_ ?_
           rotate_left
           · (intro W hS; obtain ⟨⟨_, _⟩, ⟨_, _⟩, _, _, _⟩ := hS; go_simp; with_reducible rfl)
           simp only [Act.put, List.setIfInBounds_toArray, List.set_cons_zero, List.set_cons_succ])
        | (refine Settle.Settles.call (v := ?_) (f := ?_) (args := ?_) (by rfl) ?_ ?_ ?_
           rotate_left 3
           · (intro W; go_simp; refine ⟨?_, ?_⟩ <;> with_reducible rfl)
           · (intro W hS; first | (go_at_call 57; (with_reducible refine (QW.out _ (hS.2.2.1.wide hS.2.2.2.2.size)).mono ?_); rintro e W1 ⟨rfl, hb⟩; refine ⟨?_, HO _ _ hS hb⟩; with_reducible rfl) | (go_at_call 74; (with_reducible refine (QC.out _ (hS.2.2.2.1.wide hS.2.2.2.2.size)).mono ?_); rintro e W1 ⟨rfl, hb⟩; refine ⟨?_, HO _ _ hS hb⟩; with_reducible rfl))
           simp only [Act.put, List.setIfInBounds_toArray, List.set_cons_zero, List.set_cons_succ]))
      refine Settle.Settles.nil ?_
      intro wr S0
      obtain ⟨⟨_, _⟩, ⟨_, _⟩, _, _, _⟩ := id S0
      by_cases h0 : 0 ≤ v
      · have E : Hid (r = true) := Lib.hid (by rw [← HR.out]; exact hits_at (i := k) (by omega) (by rw [HK.out]; exact decide_eq_true h0))
        clear hl hl2 HR hno HK
        go_wp2_with fail
        go_ret
        exact ⟨ret_bool E.out.symm, S0.2.2.2.2⟩
      · have hno2 : Hid (∀ j, j < k + 1 → hitB ps qs j = false) := Lib.hid (by
          intro j hj
          rcases Nat.lt_or_ge j k with h | h
          · exact hno.out j h
          · obtain rfl : j = k := by omega
            rw [HK.out]; exact decide_eq_false h0)
        clear hl hl2 HR hno HK
        go_wp2_with fail
        first
          | exact ⟨⟨k + 1, by omega, by go_num, hno2, S0⟩, by simp [intOf]; omega⟩
          | (go_roundw <;> first | exact ⟨k + 1, by omega, by go_num, hno2, S0⟩ | (simp [intOf]; omega))
    · obtain rfl : n = k := by omega
      have E : Hid (r = false) := Lib.hid (by rw [← HR.out]; exact hits_of (by rw [hl]; exact hno.out))
      clear hl hl2 HR hno
      go_wp2_with fail
      go_ret
      exact ⟨ret_bool E.out.symm, S0.2.2.2.2⟩

set_option maxRecDepth 100000 in
set_option maxHeartbeats 800000 in
/-- The closure that asks whether a point is inside the room that lies at block C. -/
theorem inside (x y : Int) (C : Nat) (B : Option Addr) (m cb : Nat) (w : World) (qs : List (Int × Int)) (hl2 : qs.length = m) (hn2 : m ≤ 1048576) (hs2 : smAll qs) (sp : smP x y) (hC : Pts.BoxR w C (.slice B m cb)) (hq : PtsAt w w.heap.size B qs) :
    Calls Try.prog 96 #[.agg #[.int .i64 x, .int .i64 y], .pointer (some ⟨C, 0, none⟩)] w fun e w' => e = .returned (.bool (decide (placeM qs (x, y) = 2))) ∧ Below w.heap.size w w' := by
  have Q : Hid (∀ w hp, _) := Lib.hid fun w hp => PlaceImpl.placeOf B m cb x y w qs hl2 hn2 hs2 sp hp
  generalize placeM qs (x, y) = v at *
  have ho := below1 w (Obj.cells #[.int .i64 x, .int .i64 y] 27)
  have X := PointOk.box1 w x y 27 (k := w.heap.size) rfl
  obtain ⟨_, _⟩ := id X
  obtain ⟨_, _⟩ := id hC
  obtain ⟨_, _⟩ := hC.later ho
  have hq2 := (hq.later ho).wide ho.size
  clear hl2 hs2 X hC hq
  by_cases h : v = 2
  · subst h
    go_enter Try.func96, Try.ntmps96
    go_wp2_with fail
    refine (Q.out _ hq2).mono ?_
    rintro e w2 ⟨rfl, hb⟩
    have hb2 := Lib.hid (ho.trans (hb.mono ho.size))
    clear ho hb hq2
    go_wp2_with fail
    go_ret
    exact ⟨ret_bool (by first | rfl | simp), hb2.out⟩
  · have h1 : (v == 2) = false := beq_eq_false_iff_ne.2 h
    rw [decide_eq_false h]
    go_enter Try.func96, Try.ntmps96
    go_wp2_with fail
    refine (Q.out _ hq2).mono ?_
    rintro e w2 ⟨rfl, hb⟩
    have hb2 := Lib.hid (ho.trans (hb.mono ho.size))
    clear ho hb hq2
    go_wp2_with fail
    go_ret
    exact ⟨ret_bool (by first | rfl | simp [h]), hb2.out⟩

set_option maxRecDepth 100000 in
set_option maxHeartbeats 1600000 in
/-- slices.IndexFunc over points, as the landed code reaches it: the least index of a point inside, or -1. -/
theorem indexFunc (F : Option Addr) (k0 cf C : Nat) (B : Option Addr) (m cb : Nat) (w : World) (l : List (Int × Int)) (hk : l.length = k0) (hk0 : k0 ≤ 1048576) (hsl : smAll l) (qs : List (Int × Int)) (hl2 : qs.length = m) (hn2 : m ≤ 1048576) (hs2 : smAll qs)
    (hC : Pts.BoxR w C (.slice B m cb)) (hCb : C < w.heap.size) (hq : PtsAt w w.heap.size B qs) (hF : PtsAt w w.heap.size F l) :
    Calls Try.prog 114 #[.slice F k0 cf, .func (.func 96) #[] #[.pointer (some ⟨C, 0, none⟩)]] w fun e w' => e = .returned (.int .i64 (firstI k0 (fun j => decide (placeM qs (pt l j) = 2)))) ∧ Below w.heap.size w w' := by
  obtain ⟨r, hr⟩ : ∃ r, firstI k0 (fun j => decide (placeM qs (pt l j) = 2)) = r := ⟨_, rfl⟩
  have HR := Lib.hid hr
  rw [hr]
  clear hr
  go_enter Try.func114, Try.ntmps114
  go_wp2_with fail
  have HO : ∀ W W' : World, (Pts.BoxR W C (.slice B m cb) ∧ PtsAt W w.heap.size B qs ∧ PtsAt W w.heap.size F l ∧ Below w.heap.size w W) → Below W.heap.size W W' → (Pts.BoxR W' C (.slice B m cb) ∧ PtsAt W' w.heap.size B qs ∧ PtsAt W' w.heap.size F l ∧ Below w.heap.size w W') := fun W W' ⟨x0, x1, x2, hb⟩ h => ⟨⟨((h.mono hb.size).cell hCb).trans (x0).1, trivial⟩, x1.later (h.mono hb.size), x2.later (h.mono hb.size), hb.trans (h.mono hb.size)⟩
  have S0 : Pts.BoxR w C (.slice B m cb) ∧ PtsAt w w.heap.size B qs ∧ PtsAt w w.heap.size F l ∧ Below w.heap.size w w := ⟨hC, hq, hF, Below.refl _ _⟩
  clear hC hq hF
  go_loopw [8] (fun i wr => ∃ k : Nat, k ≤ k0 ∧ i = .int .i64 k ∧ Hid (∀ j, j < k → decide (placeM qs (pt l j) = 2) = false) ∧ (Pts.BoxR wr C (.slice B m cb) ∧ PtsAt wr w.heap.size B qs ∧ PtsAt wr w.heap.size F l ∧ Below w.heap.size w wr))
    (fun i _ => k0 - (intOf i).toNat)
  case atStart => exact ⟨0, Nat.zero_le _, rfl, Lib.hid (fun j hj => absurd hj (by omega)), S0⟩
  case round =>
    clear S0
    obtain ⟨k, hkn, rfl, hno, S0⟩ := hrel
    obtain ⟨⟨_, _⟩, _, _, _⟩ := id S0
    by_cases hlt : k < k0
    · have hk1 : (k : Int) < (k0 : Int) := by omega
      have hk0' : (0 : Int) ≤ (k : Int) := by omega
      have p1 := pt_at (ps := l) (k := k) (by omega)
      have sp := hsl k (by omega)
      obtain ⟨x, y, hx⟩ : ∃ x y, pt l k = (x, y) := ⟨_, _, rfl⟩
      have HK : Hid (decide (placeM qs (pt l k) = 2) = decide (placeM qs (x, y) = 2)) := Lib.hid (by rw [hx])
      rw [hx] at p1 sp
      obtain ⟨ad, eA, bA, pA⟩ := S0.2.2.1.get p1
      subst eA
      obtain ⟨_, _⟩ := pA
      have QI : Hid (∀ w hC hq, _) := Lib.hid fun w hC hq => inside x y C B m cb w qs hl2 hn2 hs2 sp hC hq
      obtain ⟨o, ho⟩ : ∃ o, decide (placeM qs (x, y) = 2) = o := ⟨_, rfl⟩
      rw [ho] at QI HK
      have QI2 := QI.out wr S0.1 (S0.2.1.wide S0.2.2.2.size)
      clear p1 hx ho sp QI
      go_wp2_with (go_at_call 96; refine QI2.mono ?_; rintro e w2 ⟨rfl, hb_⟩; cases o)
      · have hno2 : Hid (∀ j, j < k + 1 → decide (placeM qs (pt l j) = 2) = false) := Lib.hid (by
          intro j hj
          rcases Nat.lt_or_ge j k with h | h
          · exact hno.out j h
          · obtain rfl : j = k := by omega
            exact HK.out)
        replace S0 := HO _ _ S0 hb_
        exact ⟨⟨k + 1, by omega, by go_num, hno2, S0⟩, by simp [intOf]; omega⟩
      · have E : Hid ((k : Int) = r) := Lib.hid (by rw [← HR.out]; exact (firstI_at hlt HK.out hno.out).symm)
        replace S0 := HO _ _ S0 hb_
        clear hk hl2 HR hno HK hb_
        go_ret
        exact ⟨ret_i64 E.out, S0.2.2.2⟩
    · obtain rfl : k0 = k := by omega
      have E : Hid (r = -1) := Lib.hid (by rw [← HR.out]; exact firstI_none hno.out)
      clear hk hl2 HR hno
      go_wp2_with fail
      go_ret
      exact ⟨ret_i64 E.out.symm, S0.2.2.2⟩

set_option maxRecDepth 100000 in
set_option maxHeartbeats 800000 in
/-- slices.ContainsFunc over points, as the landed code reaches it: is a point inside? -/
theorem containsFunc (F : Option Addr) (k0 cf C : Nat) (B : Option Addr) (m cb : Nat) (w : World) (l : List (Int × Int)) (hk : l.length = k0) (hk0 : k0 ≤ 1048576) (hsl : smAll l) (qs : List (Int × Int)) (hl2 : qs.length = m) (hn2 : m ≤ 1048576) (hs2 : smAll qs)
    (hC : Pts.BoxR w C (.slice B m cb)) (hCb : C < w.heap.size) (hq : PtsAt w w.heap.size B qs) (hF : PtsAt w w.heap.size F l) :
    Calls Try.prog 95 #[.slice F k0 cf, .func (.func 96) #[] #[.pointer (some ⟨C, 0, none⟩)]] w fun e w' => e = .returned (.bool (reachB qs l)) ∧ Below w.heap.size w w' := by
  have Q := Lib.hid (indexFunc F k0 cf C B m cb w l hk hk0 hsl qs hl2 hn2 hs2 hC hCb hq hF)
  rw [reachB_any, hk, ← firstI_ge]
  generalize firstI k0 (fun j => decide (placeM qs (pt l j) = 2)) = v at *
  clear hk hsl hl2 hs2 hC hq hF
  go_enter Try.func95, Try.ntmps95
  go_wp2_with fail
  refine Q.out.mono ?_
  rintro e w2 ⟨rfl, hb⟩
  go_wp2_with fail
  go_ret
  exact ⟨rfl, hb⟩

set_option maxRecDepth 100000 in
set_option maxHeartbeats 1600000 in
theorem reaches (A : Option Addr) (n ca : Nat) (B : Option Addr) (m cb : Nat) (w : World) (ps : List (Int × Int)) (hl : ps.length = n) (hn : n ≤ 1048576) (hp : PtsAt w w.heap.size A ps) (qs : List (Int × Int)) (hl2 : qs.length = m) (hn2 : m ≤ 1048576) (hs2 : smAll qs) (hq : PtsAt w w.heap.size B qs) :
    Calls Try.prog 67 #[.agg #[.slice A n ca], .agg #[.slice B m cb]] w fun e w' => e = .returned (.bool (reachB qs (floorL ps))) ∧ Below w.heap.size w w' := by
  have QF : Hid (∀ w hp, _) := Lib.hid fun w hp => FloorImpl.floorPoints A n ca w ps hl hn hp
  have hsl := Lib.hid (floorL_small ps)
  have hle := floorL_le ps
  generalize floorL ps = l at *
  obtain ⟨r, hr⟩ : ∃ r, reachB qs l = r := ⟨_, rfl⟩
  have HR := Lib.hid hr
  rw [hr]
  clear hr
  go_enter Try.func67, Try.ntmps67
  go_wp2_with fail
  have X0 := (Pts.boxR w (.slice A n ca) 33 (k := w.heap.size) (by simp)).alloc (Obj.cells #[.slice B m cb] 33)
  have X1 := Pts.boxR (w.alloc (Obj.cells #[.slice A n ca] 33)) (.slice B m cb) 33 (k := w.heap.size + 1) (by simp)
  have b0 := PointOk.below2 w (Obj.cells #[.slice A n ca] 33) (Obj.cells #[.slice B m cb] 33)
  have HO : ∀ W W' : World, (Pts.BoxR W (w.heap.size) (.slice A n ca) ∧ Pts.BoxR W (w.heap.size + 1) (.slice B m cb) ∧ PtsAt W w.heap.size A ps ∧ PtsAt W w.heap.size B qs ∧ w.heap.size + 2 ≤ W.heap.size ∧ Below w.heap.size w W) → Below W.heap.size W W' → (Pts.BoxR W' (w.heap.size) (.slice A n ca) ∧ Pts.BoxR W' (w.heap.size + 1) (.slice B m cb) ∧ PtsAt W' w.heap.size A ps ∧ PtsAt W' w.heap.size B qs ∧ w.heap.size + 2 ≤ W'.heap.size ∧ Below w.heap.size w W') := fun W W' ⟨h0, h1, x0, x1, x2, hb⟩ h => ⟨h0.later h, h1.later h, x0.later (h.mono hb.size), x1.later (h.mono hb.size), Nat.le_trans x2 h.size, hb.trans (h.mono hb.size)⟩
  have hz0_ : Hid ((((w.alloc (Obj.cells #[.slice A n ca] 33)).alloc (Obj.cells #[.slice B m cb] 33))).heap.size = w.heap.size + 1 + 1) := Lib.hid (by simp)
  have Y0 : PtsAt (((w.alloc (Obj.cells #[.slice A n ca] 33)).alloc (Obj.cells #[.slice B m cb] 33))) w.heap.size A ps := hp.later b0
  have Y1 : PtsAt (((w.alloc (Obj.cells #[.slice A n ca] 33)).alloc (Obj.cells #[.slice B m cb] 33))) w.heap.size B qs := hq.later b0
  have Y2 : w.heap.size + 2 ≤ (((w.alloc (Obj.cells #[.slice A n ca] 33)).alloc (Obj.cells #[.slice B m cb] 33))).heap.size := by simp
  generalize ((w.alloc (Obj.cells #[.slice A n ca] 33)).alloc (Obj.cells #[.slice B m cb] 33)) = w0 at X0 X1 Y0 Y1 Y2 b0 hz0_ ⊢
  have S0 := (⟨X0, X1, Y0, Y1, Y2, b0⟩ : Pts.BoxR w0 (w.heap.size) (.slice A n ca) ∧ Pts.BoxR w0 (w.heap.size + 1) (.slice B m cb) ∧ PtsAt w0 w.heap.size A ps ∧ PtsAt w0 w.heap.size B qs ∧ w.heap.size + 2 ≤ w0.heap.size ∧ Below w.heap.size w w0)
  clear X0 X1 Y0 Y1 Y2 b0
  obtain ⟨⟨_, _⟩, ⟨_, _⟩, _, _, _, _⟩ := id S0
  refine (QF.out _ (S0.2.2.1.wide S0.2.2.2.2.2.size)).mono ?_
  rintro e w1 ⟨A2, c2, rfl, hown, hb_⟩
  replace S0 := HO _ _ S0 hb_
  clear hb_ QF
  obtain ⟨⟨_, _⟩, ⟨_, _⟩, _, _, _, _⟩ := id S0
  obtain ⟨A3, c3, e3, hl3, hF⟩ := LawInt.own_pts hown
  injection e3 with e3 e4 e5
  subst e3 e5
  obtain ⟨k0, hk0⟩ : ∃ k, l.length = k := ⟨_, rfl⟩
  rw [hk0] at hle hown ⊢
  have hC : Pts.BoxR w1 (w.heap.size + 1) (.slice B m cb) := S0.2.1
  have QI := Lib.hid (containsFunc A2 k0 c2 (w.heap.size + 1) B m cb w1 l hk0 hle hsl.out qs hl2 hn2 hs2 hC (by have := S0.2.2.2.2.1; omega) (S0.2.2.2.1.wide S0.2.2.2.2.2.size) hF)
  rw [HR.out] at QI
  clear hown hF hl3 hl hl2 HR hs2 hC hsl hk0
  go_wp2_with fail
  refine QI.out.mono ?_
  rintro e w2 ⟨rfl, hb_⟩
  replace S0 := HO _ _ S0 hb_
  go_wp2_with fail
  go_ret
  exact ⟨rfl, S0.2.2.2.2.2⟩

set_option maxRecDepth 100000 in
set_option maxHeartbeats 1600000 in
theorem areApart (A : Option Addr) (n ca : Nat) (B : Option Addr) (m cb : Nat) (w : World) (ps : List (Int × Int)) (hl : ps.length = n) (hn : n ≤ 1048576) (hp : PtsAt w w.heap.size A ps) (qs : List (Int × Int)) (hl2 : qs.length = m) (hn2 : m ≤ 1048576) (hq : PtsAt w w.heap.size B qs) :
    Calls Try.prog 25 #[.agg #[.slice A n ca], .agg #[.slice B m cb]] w fun e w' => e = .returned (.bool (apartB ps qs)) ∧ Below w.heap.size w w' := by
  obtain ⟨r, hr⟩ : ∃ r, apartB ps qs = r := ⟨_, rfl⟩
  have HR := Lib.hid hr
  rw [hr]
  clear hr
  go_enter Try.func25, Try.ntmps25
  go_wp2_with fail
  have X0 := (Pts.boxR w (.slice A n ca) 33 (k := w.heap.size) (by simp)).alloc (Obj.cells #[.slice B m cb] 33)
  have X1 := Pts.boxR (w.alloc (Obj.cells #[.slice A n ca] 33)) (.slice B m cb) 33 (k := w.heap.size + 1) (by simp)
  have b0 := PointOk.below2 w (Obj.cells #[.slice A n ca] 33) (Obj.cells #[.slice B m cb] 33)
  have HO : ∀ W W' : World, (Pts.BoxR W (w.heap.size) (.slice A n ca) ∧ Pts.BoxR W (w.heap.size + 1) (.slice B m cb) ∧ PtsAt W w.heap.size A ps ∧ PtsAt W w.heap.size B qs ∧ Below w.heap.size w W) → Below W.heap.size W W' → (Pts.BoxR W' (w.heap.size) (.slice A n ca) ∧ Pts.BoxR W' (w.heap.size + 1) (.slice B m cb) ∧ PtsAt W' w.heap.size A ps ∧ PtsAt W' w.heap.size B qs ∧ Below w.heap.size w W') := fun W W' ⟨h0, h1, x0, x1, hb⟩ h => ⟨h0.later h, h1.later h, x0.later (h.mono hb.size), x1.later (h.mono hb.size), hb.trans (h.mono hb.size)⟩
  have hz0_ : Hid ((((w.alloc (Obj.cells #[.slice A n ca] 33)).alloc (Obj.cells #[.slice B m cb] 33))).heap.size = w.heap.size + 1 + 1) := Lib.hid (by simp)
  have Y0 : PtsAt (((w.alloc (Obj.cells #[.slice A n ca] 33)).alloc (Obj.cells #[.slice B m cb] 33))) w.heap.size A ps := hp.later b0
  have Y1 : PtsAt (((w.alloc (Obj.cells #[.slice A n ca] 33)).alloc (Obj.cells #[.slice B m cb] 33))) w.heap.size B qs := hq.later b0
  generalize ((w.alloc (Obj.cells #[.slice A n ca] 33)).alloc (Obj.cells #[.slice B m cb] 33)) = w0 at X0 X1 Y0 Y1 b0 hz0_ ⊢
  have S0 := (⟨X0, X1, Y0, Y1, b0⟩ : Pts.BoxR w0 (w.heap.size) (.slice A n ca) ∧ Pts.BoxR w0 (w.heap.size + 1) (.slice B m cb) ∧ PtsAt w0 w.heap.size A ps ∧ PtsAt w0 w.heap.size B qs ∧ Below w.heap.size w w0)
  clear X0 X1 Y0 Y1 b0
  obtain ⟨⟨_, _⟩, ⟨_, _⟩, _, _, _⟩ := id S0
  refine (RoomOkImpl.roomOk A n ca _ ps hl hn (S0.2.2.1.wide S0.2.2.2.2.size)).mono ?_
  rintro e w1 ⟨rfl, hb_⟩
  replace S0 := HO _ _ S0 hb_
  clear hb_
  obtain ⟨⟨_, _⟩, ⟨_, _⟩, _, _, _⟩ := id S0
  cases hr : roomB ps
  · have E : Hid (r = false) := Lib.hid (by rw [← HR.out]; unfold apartB; rw [hr]; rfl)
    clear hl hl2 HR
    go_wp2_with fail
    go_ret
    exact ⟨ret_bool E.out.symm, S0.2.2.2.2⟩
  go_wp2_with fail
  refine (RoomOkImpl.roomOk B m cb _ qs hl2 hn2 (S0.2.2.2.1.wide S0.2.2.2.2.size)).mono ?_
  rintro e w2 ⟨rfl, hb_⟩
  replace S0 := HO _ _ S0 hb_
  clear hb_
  obtain ⟨⟨_, _⟩, ⟨_, _⟩, _, _, _⟩ := id S0
  cases hr2 : roomB qs
  · have E : Hid (r = false) := Lib.hid (by rw [← HR.out]; unfold apartB; rw [hr2]; simp)
    clear hl hl2 HR
    go_wp2_with fail
    go_ret
    exact ⟨ret_bool E.out.symm, S0.2.2.2.2⟩
  have hs := smAll_of (roomB_yes hr).2.1
  have hs2 := smAll_of (roomB_yes hr2).2.1
  have Q1 : Hid (∀ w hp hq, _) := Lib.hid fun w hp hq => hits A n ca B m cb w ps hl hn hs hp qs hl2 hn2 hs2 hq
  have Q2 : Hid (∀ w hp hq, _) := Lib.hid fun w hp hq => reaches A n ca B m cb w ps hl hn hp qs hl2 hn2 hs2 hq
  have Q3 : Hid (∀ w hp hq, _) := Lib.hid fun w hp hq => reaches B m cb A n ca w qs hl2 hn2 hp ps hl hn hs hq
  have E : Hid (r = (!hitsB ps qs && !reachB qs (floorL ps) && !reachB ps (floorL qs))) := Lib.hid (by rw [← HR.out]; unfold apartB; rw [hr, hr2]; rfl)
  generalize hitsB ps qs = x1 at *
  generalize reachB qs (floorL ps) = x2 at *
  generalize reachB ps (floorL qs) = x3 at *
  clear hr hr2 hl hl2 HR hs hs2
  go_wp2_with fail
  refine (Q1.out _ (S0.2.2.1.wide S0.2.2.2.2.size) (S0.2.2.2.1.wide S0.2.2.2.2.size)).mono ?_
  rintro e w3 ⟨rfl, hb_⟩
  replace S0 := HO _ _ S0 hb_
  clear hb_
  obtain ⟨⟨_, _⟩, ⟨_, _⟩, _, _, _⟩ := id S0
  cases x1
  rotate_left
  · skip
    go_wp2_with fail
    go_ret
    exact ⟨ret_bool (by rw [E.out]; rfl), S0.2.2.2.2⟩
  go_wp2_with fail
  refine (Q2.out _ (S0.2.2.1.wide S0.2.2.2.2.size) (S0.2.2.2.1.wide S0.2.2.2.2.size)).mono ?_
  rintro e w4 ⟨rfl, hb_⟩
  replace S0 := HO _ _ S0 hb_
  clear hb_
  obtain ⟨⟨_, _⟩, ⟨_, _⟩, _, _, _⟩ := id S0
  cases x2
  rotate_left
  · skip
    go_wp2_with fail
    go_ret
    exact ⟨ret_bool (by rw [E.out]; rfl), S0.2.2.2.2⟩
  go_wp2_with fail
  refine (Q3.out _ (S0.2.2.2.1.wide S0.2.2.2.2.size) (S0.2.2.1.wide S0.2.2.2.2.size)).mono ?_
  rintro e w5 ⟨rfl, hb_⟩
  replace S0 := HO _ _ S0 hb_
  clear hb_
  obtain ⟨⟨_, _⟩, ⟨_, _⟩, _, _, _⟩ := id S0
  go_wp2_with fail
  go_ret
  exact ⟨ret_bool (by rw [E.out]; simp), S0.2.2.2.2⟩

end Go.Proofs.Ytaphdannaaiidaa.ApartImpl

