/-
  What the landed test on rooms does, as contracts: what it and its parts answer; new memory alone is written.
-/
import Derived.Test.YthokeedmccfalaaGround
import Derived.Test.YthokeedmccfalaaFacts
import Derived.Test.YthokeedmccfalaaRoomImpl
import Derived.Test.YthokeedmccfalaaWallImpl
namespace Go.Proofs.Ythokeedmccfalaa.RoomOkImpl
open Go.RowKit PointMath WallMath RoomMath Pts Blk
open PointOk (ret_bool ret_i64 below1 below2 below3)

set_option maxRecDepth 100000 in
set_option maxHeartbeats 800000 in
theorem arePointsOk (A : Option Addr) (n cap : Nat) (w : World) (ps : List (Int × Int)) (hl : ps.length = n) (hn : n ≤ 1048576) (hp : PtsAt w w.heap.size A ps) :
    Calls Try.prog 121 #[.slice A n cap] w fun e w' => e = .returned (.bool (okAll ps)) ∧ Below w.heap.size w w' := by
  obtain ⟨r, hr⟩ : ∃ r, okAll ps = r := ⟨_, rfl⟩
  have HR := Lib.hid hr
  rw [hr]
  clear hr
  go_enter Try.func121, Try.ntmps121
  go_wp2_with fail
  have HO : ∀ W W' : World, (PtsAt W w.heap.size A ps ∧ Below w.heap.size w W) → Below W.heap.size W W' → (PtsAt W' w.heap.size A ps ∧ Below w.heap.size w W') := fun W W' ⟨x0, hb⟩ h => ⟨x0.later (h.mono hb.size), hb.trans (h.mono hb.size)⟩
  have S0 : PtsAt w w.heap.size A ps ∧ Below w.heap.size w w := ⟨hp, Below.refl _ _⟩
  clear hp
  go_loopw [7] (fun i wr => ∃ k : Nat, k ≤ n ∧ i = .int .i64 k ∧ Hid (∀ j, j < k → okP (pt ps j).1 (pt ps j).2 = true) ∧ (PtsAt wr w.heap.size A ps ∧ Below w.heap.size w wr))
    (fun i _ => n - (intOf i).toNat)
  case atStart => exact ⟨0, Nat.zero_le _, rfl, Lib.hid (fun j hj => absurd hj (by omega)), S0⟩
  case round =>
    clear S0
    obtain ⟨k, hk, rfl, hok, S0⟩ := hrel
    by_cases hkn : k < n
    · have p1 := pt_at (ps := ps) (k := k) (by omega)
      obtain ⟨x, y, hx⟩ : ∃ x y, pt ps k = (x, y) := ⟨_, _, rfl⟩
      rw [hx] at p1
      obtain ⟨ad, eA, bA, pA⟩ := S0.1.get p1
      subst eA
      obtain ⟨_, _⟩ := id pA
      have hk1 : (k : Int) < (n : Int) := by omega
      have hk0 : (0 : Int) ≤ (k : Int) := by omega
      have X := PointOk.box1 wr x y 49 (k := wr.heap.size) rfl
      replace S0 := HO _ _ S0 (below1 wr (Obj.cells #[.int .i64 x, .int .i64 y] 49))
      obtain ⟨_, _⟩ := X
      go_wp2_with fail
      generalize wr.alloc (Obj.cells #[.int .i64 x, .int .i64 y] 49) = w1 at *
      refine (PointOkImpl.pointOk x y _).mono ?_
      rintro e w2 ⟨rfl, hb_⟩
      replace S0 := HO _ _ S0 hb_
      clear hb_
      cases ho : okP x y
      · have E : Hid (r = false) := Lib.hid (by
          rw [← HR.out]
          cases h : okAll ps
          · rfl
          · have := okAll_at h (k := k) (by omega)
            rw [hx, ho] at this
            cases this)
        clear hl HR hok p1 hx
        go_wp2_with fail
        go_ret
        exact ⟨ret_bool E.out.symm, S0.2⟩
      · have hok2 : Hid (∀ j, j < k + 1 → okP (pt ps j).1 (pt ps j).2 = true) := Lib.hid (by
          intro j hj
          rcases Nat.lt_or_ge j k with h | h
          · exact hok.out j h
          · obtain rfl : j = k := by omega
            rw [hx]; exact ho)
        clear hl HR hok p1 hx
        go_wp2_with fail
        first
          | exact ⟨⟨k + 1, by omega, by go_num, hok2, S0⟩, by simp [intOf]; omega⟩
          | (go_roundw <;> first | exact ⟨k + 1, by omega, by go_num, hok2, S0⟩ | (simp [intOf]; omega))
    · obtain rfl : n = k := by omega
      have E : Hid (r = true) := Lib.hid (by rw [← HR.out]; exact okAll_of (by rw [hl]; exact hok.out))
      clear hl HR hok
      go_wp2_with fail
      go_ret
      exact ⟨ret_bool E.out.symm, S0.2⟩

set_option maxRecDepth 100000 in
theorem wallBehind (A : Option Addr) (n cap k : Nat) (w : World) (ps : List (Int × Int)) (hl : ps.length = n) (hn : n ≤ 1048576) (hk : k < n) (hp : PtsAt w w.heap.size A ps) :
    Calls Try.prog 161 #[.slice A n cap, .int .i64 (k : Int)] w fun e w' => e = .returned (.agg #[.int .i64 (pt ps k).1, .int .i64 (pt ps k).2, .int .i64 (pt ps ((k + 1) % n)).1, .int .i64 (pt ps ((k + 1) % n)).2]) ∧ Below w.heap.size w w' := by
  have hm : (k + 1) % n < n := Nat.mod_lt _ (by omega)
  have p0 := pt_at (ps := ps) (k := k) (by omega)
  have p1 := pt_at (ps := ps) (k := (k + 1) % n) (by omega)
  have QA : Hid (∀ w, _) := Lib.hid fun w => RoomImpl.indexAround A n cap ((k : Int) + 1) (by omega) hn w
  rw [ix_succ (by omega)] at QA
  generalize (k + 1) % n = m at *
  obtain ⟨ax, ay, ha⟩ : ∃ x y, pt ps k = (x, y) := ⟨_, _, rfl⟩
  obtain ⟨bx, bY, hb⟩ : ∃ x y, pt ps m = (x, y) := ⟨_, _, rfl⟩
  rw [ha] at p0 ⊢
  rw [hb] at p1 ⊢
  obtain ⟨ad, eA, bA, pA⟩ := hp.get p0
  obtain ⟨ad2, eA2, _, pB⟩ := hp.get p1
  rw [eA] at eA2
  injection eA2 with eA2
  subst eA2
  subst eA
  have hk1 : (k : Int) < (n : Int) := by omega
  have hk0 : (0 : Int) ≤ (k : Int) := by omega
  have hm1 : (m : Int) < (n : Int) := by omega
  have hm0 : (0 : Int) ≤ (m : Int) := by omega
  have uk : IntKind.i64.wrap ((k : Int) + 1) = (k : Int) + 1 := IntWalk.i64_in _ (by omega)
  clear hl hp ha hb p0 p1
  go_enter Try.func161, Try.ntmps161
  go_wp2_with fail
  have X0 := Blk.Holds.box w #[.int .i64 0, .int .i64 0, .int .i64 0, .int .i64 0] 143 (k := w.heap.size) (by simp)
  have b0 := PointOk.below1 w (Obj.cells #[.int .i64 0, .int .i64 0, .int .i64 0, .int .i64 0] 143)
  have HO : ∀ W W' : World, (Blk.Holds W (w.heap.size) #[.int .i64 0, .int .i64 0, .int .i64 0, .int .i64 0] 143 ∧ PtAt W ad k ax ay ∧ PtAt W ad m bx bY ∧ Below w.heap.size w W) → Below W.heap.size W W' → (Blk.Holds W' (w.heap.size) #[.int .i64 0, .int .i64 0, .int .i64 0, .int .i64 0] 143 ∧ PtAt W' ad k ax ay ∧ PtAt W' ad m bx bY ∧ Below w.heap.size w W') := fun W W' ⟨h0, x0, x1, hb⟩ h => ⟨h0.later h, x0.later bA (h.mono hb.size), x1.later bA (h.mono hb.size), hb.trans (h.mono hb.size)⟩
  have hz0_ : Hid (((w.alloc (Obj.cells #[.int .i64 0, .int .i64 0, .int .i64 0, .int .i64 0] 143))).heap.size = w.heap.size + 1) := Lib.hid (by simp)
  have Y0 : PtAt ((w.alloc (Obj.cells #[.int .i64 0, .int .i64 0, .int .i64 0, .int .i64 0] 143))) ad k ax ay := pA.later bA b0
  have Y1 : PtAt ((w.alloc (Obj.cells #[.int .i64 0, .int .i64 0, .int .i64 0, .int .i64 0] 143))) ad m bx bY := pB.later bA b0
  generalize (w.alloc (Obj.cells #[.int .i64 0, .int .i64 0, .int .i64 0, .int .i64 0] 143)) = w0 at X0 Y0 Y1 b0 hz0_ ⊢
  have S0 := (⟨X0, Y0, Y1, b0⟩ : Blk.Holds w0 (w.heap.size) #[.int .i64 0, .int .i64 0, .int .i64 0, .int .i64 0] 143 ∧ PtAt w0 ad k ax ay ∧ PtAt w0 ad m bx bY ∧ Below w.heap.size w w0)
  clear X0 Y0 Y1 b0
  obtain ⟨_, ⟨_, _⟩, ⟨_, _⟩, _⟩ := id S0
  refine Settle.regionTails (fun W => Blk.Holds W (w.heap.size) #[.int .i64 0, .int .i64 0, .int .i64 0, .int .i64 0] 143 ∧ PtAt W ad k ax ay ∧ PtAt W ad m bx bY ∧ Below w.heap.size w W) 12 (by kernel_rfl) (by kernel_rfl) (of_decide_eq_true (by kernel_rfl)) (by kernel_rfl) (by kernel_rfl) (by kernel_rfl) (by kernel_rfl) (HO _ _ S0 ((Below.refl _ _).drew)) ?_
  simp only [List.take_succ_cons, List.take_zero, List.drop_succ_cons, List.drop_zero]
  clear S0
  repeat (first
    | (refine Settle.Settles.off (by rfl) ?_; simp only [Act.put, List.setIfInBounds_toArray, List.set_cons_zero, List.set_cons_succ])
    | (refine Settle.Settles.quiet (v := ?_) (by rfl) ?_ ?_
       rotate_left
       · (intro W hS; obtain ⟨_, ⟨_, _⟩, ⟨_, _⟩, _⟩ := hS; go_simp; with_reducible rfl)
       simp only [Act.put, List.setIfInBounds_toArray, List.set_cons_zero, List.set_cons_succ])
    | (refine Settle.Settles.call (v := ?_) (f := ?_) (args := ?_) (by rfl) ?_ ?_ ?_
       rotate_left 3
       · (intro W; go_simp; refine ⟨?_, ?_⟩ <;> with_reducible rfl)
       · (intro W hS; first | (go_at_call 156; (with_reducible refine (QA.out _).mono ?_); rintro e W1 ⟨rfl, rfl⟩; refine ⟨?_, hS⟩; with_reducible rfl))
       simp only [Act.put, List.setIfInBounds_toArray, List.set_cons_zero, List.set_cons_succ]))
  refine Settle.Settles.nil ?_
  intro wr S0 K_ hK_
  obtain ⟨_, ⟨_, _⟩, ⟨_, _⟩, _⟩ := id S0
  obtain ⟨⟨_, _, _, _⟩, _, _, _, _⟩ := Blk.Holds.four S0.1
  go_wp2_with fail
  have E_ := Blk.set_own (Blk.set_own (Blk.set_own (Blk.set_own (S0.1) 0 (.int .i64 (ax))) 1 (.int .i64 (ay))) 2 (.int .i64 (bx))) 3 (.int .i64 (bY))
  obtain ⟨⟨r0_, r1_, r2_, r3_⟩, _⟩ := Blk.Holds.four E_
  refine bodyPost_ret (v := .agg #[.int .i64 (ax), .int .i64 (ay), .int .i64 (bx), .int .i64 (bY)]) (by simp [results, Try.results161, go_sem, r0_, r1_, r2_, r3_]) rfl ⟨rfl, ?_⟩
  exact (((((S0.2.2.2)).setCell (p := ⟨w.heap.size, 0, none⟩) (show w.heap.size ≤ w.heap.size by omega) _).setCell (p := ⟨w.heap.size, 1, none⟩) (show w.heap.size ≤ w.heap.size by omega) _).setCell (p := ⟨w.heap.size, 2, none⟩) (show w.heap.size ≤ w.heap.size by omega) _).setCell (p := ⟨w.heap.size, 3, none⟩) (show w.heap.size ≤ w.heap.size by omega) _

set_option maxRecDepth 100000 in
set_option maxHeartbeats 800000 in
theorem crossSumL (A : Option Addr) (n cap : Nat) (w : World) (ps : List (Int × Int)) (hl : ps.length = n) (hn : n ≤ 1048576) (hk : okAll ps = true) (hp : PtsAt w w.heap.size A ps) :
    Calls Try.prog 123 #[.slice A n cap] w fun e w' => e = .returned (.int .i64 (dblTo ps n)) ∧ Below w.heap.size w w' := by
  obtain ⟨r, hr⟩ : ∃ r, dblTo ps n = r := ⟨_, rfl⟩
  have HR := Lib.hid hr
  rw [hr]
  clear hr
  go_enter Try.func123, Try.ntmps123
  go_wp2_with fail
  go_loopw [3, 8] (fun s i wr => ∃ k : Nat, k ≤ n ∧ i = .int .i64 k ∧ s = .int .i64 (dblTo ps k) ∧ PtsAt wr w.heap.size A ps ∧ Below w.heap.size w wr)
    (fun _ i _ => n - (intOf i).toNat)
  case atStart => exact ⟨0, Nat.zero_le _, rfl, rfl, hp, Below.refl _ _⟩
  case round =>
    clear hp
    obtain ⟨k, hkn, rfl, rfl, hp, hb⟩ := hrel
    by_cases hlt : k < n
    · have hm : (k + 1) % n < n := Nat.mod_lt _ (by omega)
      have bd := dblTo_bound hk k (by omega)
      have e2 : dblTo ps (k + 1) = dblTo ps k + ((pt ps k).1 * (pt ps ((k + 1) % n)).2 - (pt ps k).2 * (pt ps ((k + 1) % n)).1) := by rw [← hl]; rfl
      have q1 := okP_yes (okAll_at hk (k := k) (by omega))
      have q2 := okP_yes (okAll_at hk (k := (k + 1) % n) (by omega))
      have p1 := pt_at (ps := ps) (k := k) (by omega)
      have p2 := pt_at (ps := ps) (k := (k + 1) % n) (by omega)
      have QA : Hid (∀ w, _) := Lib.hid fun w => RoomImpl.indexAround A n cap ((k : Int) + 1) (by omega) (by omega) w
      rw [ix_succ (by omega)] at QA
      generalize (k + 1) % n = m at *
      obtain ⟨x, y, hx⟩ : ∃ x y, pt ps k = (x, y) := ⟨_, _, rfl⟩
      obtain ⟨u, v, hu⟩ : ∃ x y, pt ps m = (x, y) := ⟨_, _, rfl⟩
      rw [hx] at p1 q1 e2
      rw [hu] at p2 q2 e2
      obtain ⟨ad, eA, bA, pA⟩ := hp.get p1
      obtain ⟨ad2, eA2, _, pB⟩ := hp.get p2
      rw [eA] at eA2
      injection eA2 with eA2
      subst eA2
      subst eA
      have m1 := small_mul (a := x) (b := v) (by omega) (by omega)
      have m2 := small_mul (a := y) (b := u) (by omega) (by omega)
      have QC : Hid (∀ w, _) := Lib.hid fun w => PointOkImpl.cross x y u v (by omega) (by omega) w
      generalize dblTo ps k = s at *
      obtain ⟨c, hc⟩ : ∃ c, x * v - y * u = c := ⟨_, rfl⟩
      rw [hc] at QC
      have u2 : IntKind.i64.wrap (s + c) = s + c := IntWalk.i64_in _ (by omega)
      have uk : IntKind.i64.wrap ((k : Int) + 1) = (k : Int) + 1 := IntWalk.i64_in _ (by omega)
      have E2 : Hid (dblTo ps (k + 1) = s + c) := Lib.hid (by rw [e2, ← hc])
      have hk1 : (k : Int) < (n : Int) := by omega
      have hk0 : (0 : Int) ≤ (k : Int) := by omega
      have hm1 : (m : Int) < (n : Int) := by omega
      have hm0 : (0 : Int) ≤ (m : Int) := by omega
      have hb_ := below1 wr (Obj.cells #[.int .i64 x, .int .i64 y] 49)
      have hb2 := hb_.mono hb.size
      have bx := PointOk.box1 wr x y 49 (k := wr.heap.size) rfl
      have HO : ∀ W W' : World, (PtsAt W w.heap.size (some ad) ps ∧ PtAt W ad m u v ∧ PointOk.Box W wr.heap.size x y ∧ Below w.heap.size w W) → Below W.heap.size W W' → (PtsAt W' w.heap.size (some ad) ps ∧ PtAt W' ad m u v ∧ PointOk.Box W' wr.heap.size x y ∧ Below w.heap.size w W') := fun W W' ⟨x0, x1, x2, hb⟩ h => ⟨x0.later (h.mono hb.size), x1.later bA (h.mono hb.size), x2.later h, hb.trans (h.mono hb.size)⟩
      have S0 : (fun W9 => PtsAt W9 w.heap.size (some ad) ps ∧ PtAt W9 ad m u v ∧ PointOk.Box W9 wr.heap.size x y ∧ Below w.heap.size w W9) (wr.alloc (Obj.cells #[.int .i64 x, .int .i64 y] 49)) := ⟨hp.later hb2, pB.later bA hb2, bx, hb.trans hb2⟩
      obtain ⟨_, _⟩ := pA
      clear hl hx hu p1 p2 q1 q2 m1 m2 e2 bd hk hp hb hb_ hb2 bx HR hc
      go_wp2_with fail
      generalize wr.alloc (Obj.cells #[.int .i64 x, .int .i64 y] 49) = W9 at *
      refine Settle.region (fun W => PtsAt W w.heap.size (some ad) ps ∧ PtAt W ad m u v ∧ PointOk.Box W wr.heap.size x y ∧ Below w.heap.size w W) (by kernel_rfl) (by kernel_rfl) (by kernel_rfl) (by kernel_rfl) (HO _ _ S0 ((Below.refl _ _).drew)) ?_
      clear S0
      repeat (first
        | (refine Settle.Settles.off (by rfl) ?_; simp only [Act.put, List.setIfInBounds_toArray, List.set_cons_zero, List.set_cons_succ])
        | (refine Settle.Settles.quiet (v := ?_) (by rfl) ?_ ?_
           rotate_left
           · (intro W hS; obtain ⟨_, ⟨_, _⟩, ⟨_, _⟩, _⟩ := hS; go_simp; with_reducible rfl)
           simp only [Act.put, List.setIfInBounds_toArray, List.set_cons_zero, List.set_cons_succ])
        | (refine Settle.Settles.call (v := ?_) (f := ?_) (args := ?_) (by rfl) ?_ ?_ ?_
           rotate_left 3
           · (intro W; go_simp; refine ⟨?_, ?_⟩ <;> with_reducible rfl)
           · (intro W hS; first | (go_at_call 156; (with_reducible refine (QA.out _).mono ?_); rintro e W1 ⟨rfl, rfl⟩; refine ⟨?_, hS⟩; with_reducible rfl) | (go_at_call 162; (with_reducible refine (QC.out _).mono ?_); rintro e W1 ⟨rfl, hb⟩; refine ⟨?_, HO _ _ hS hb⟩; with_reducible rfl))
           simp only [Act.put, List.setIfInBounds_toArray, List.set_cons_zero, List.set_cons_succ]))
      refine Settle.Settles.nil ?_
      intro wr S0
      obtain ⟨_, ⟨_, _⟩, ⟨_, _⟩, _⟩ := id S0
      go_wp2_with fail
      first
        | exact ⟨⟨k + 1, by omega, by go_num, by rw [E2.out], S0.1, S0.2.2.2⟩, by simp [intOf]; omega⟩
        | (go_roundw <;> first | exact ⟨k + 1, by omega, by go_num, by rw [E2.out], S0.1, S0.2.2.2⟩ | (simp [intOf]; omega))
    · obtain rfl : n = k := by omega
      clear hl hp
      go_wp2_with fail
      go_ret
      exact ⟨ret_i64 HR.out, hb⟩

theorem crossSum (A : Option Addr) (n cap : Nat) (w : World) (ps : List (Int × Int)) (hl : ps.length = n) (hn : n ≤ 10) (hk : okAll ps = true) (hp : PtsAt w w.heap.size A ps) :
    Calls Try.prog 123 #[.slice A n cap] w fun e w' => e = .returned (.int .i64 (dblTo ps n)) ∧ Below w.heap.size w w' := crossSumL A n cap w ps hl (by omega) hk hp

set_option maxRecDepth 100000 in
set_option maxHeartbeats 4000000 in
theorem bendAt (A : Option Addr) (n cap k : Nat) (w : World) (ps : List (Int × Int)) (hl : ps.length = n) (h3 : 1 ≤ n ∧ n ≤ 10) (hk : k < n) (hok : okAll ps = true) (hp : PtsAt w w.heap.size A ps) :
    Calls Try.prog 120 #[.slice A n cap, .int .i64 (k : Int)] w fun e w' => e = .returned (.int .i64 (bendBack ps k)) ∧ Below w.heap.size w w' := by
  obtain ⟨r, hr⟩ : ∃ r, bendBack ps k = r := ⟨_, rfl⟩
  have HR := Lib.hid hr
  rw [hr]
  clear hr
  have hm : (k + 1) % n < n := Nat.mod_lt _ (by omega)
  have hm2 : (k + (n - 1)) % n < n := Nat.mod_lt _ (by omega)
  have p0 := pt_at (ps := ps) (k := k) (by omega)
  have p1 := pt_at (ps := ps) (k := (k + 1) % n) (by omega)
  have p2 := pt_at (ps := ps) (k := (k + (n - 1)) % n) (by omega)
  have o0 := okP_sm (okAll_at hok (k := k) (by omega))
  have o1 := okP_sm (okAll_at hok (k := (k + 1) % n) (by omega))
  have o2 := okP_sm (okAll_at hok (k := (k + (n - 1)) % n) (by omega))
  have HB : Hid (bendBack ps k = turnP (pt ps ((k + (n - 1)) % n)) (pt ps k) (pt ps ((k + 1) % n))) := Lib.hid (by unfold bendBack; rw [hl])
  have QA : Hid (∀ w, _) := Lib.hid fun w => RoomImpl.indexAround A n cap ((k : Int) + 1) (by omega) (by omega) w
  have QB : Hid (∀ w, _) := Lib.hid fun w => RoomImpl.indexAround A n cap ((k : Int) - 1) (by omega) (by omega) w
  rw [ix_succ (by omega)] at QA
  rw [ix_pred1 (by omega) hk] at QB
  generalize (k + 1) % n = m1 at *
  generalize (k + (n - 1)) % n = m2 at *
  obtain ⟨ax, ay, ha⟩ : ∃ x y, pt ps k = (x, y) := ⟨_, _, rfl⟩
  obtain ⟨bx, bY, hbb⟩ : ∃ x y, pt ps m1 = (x, y) := ⟨_, _, rfl⟩
  obtain ⟨cx, cy, hc⟩ : ∃ x y, pt ps m2 = (x, y) := ⟨_, _, rfl⟩
  rw [ha] at p0 o0 HB
  rw [hbb] at p1 o1 HB
  rw [hc] at p2 o2 HB
  obtain ⟨ad, eA, bA, pA⟩ := hp.get p0
  obtain ⟨ad2, eA2, _, pB⟩ := hp.get p1
  rw [eA] at eA2
  injection eA2 with eA2
  subst eA2
  obtain ⟨ad2, eA2, _, pC⟩ := hp.get p2
  rw [eA] at eA2
  injection eA2 with eA2
  subst eA2
  subst eA
  obtain ⟨t, ht⟩ : ∃ t, turnI cx cy ax ay bx bY = t := ⟨_, rfl⟩
  have QT : Hid (∀ w, _) := Lib.hid fun w => PointImpl.turn cx cy ax ay bx bY o2 o0 o1 w
  rw [ht] at QT
  have E : Hid (t = r) := Lib.hid (by rw [← HR.out, HB.out, ← ht]; rfl)
  have hk1 : (k : Int) < (n : Int) := by omega
  have hk0 : (0 : Int) ≤ (k : Int) := by omega
  have hm1I : (m1 : Int) < (n : Int) := by omega
  have hm1I0 : (0 : Int) ≤ (m1 : Int) := by omega
  have hm2I : (m2 : Int) < (n : Int) := by omega
  have hm2I0 : (0 : Int) ≤ (m2 : Int) := by omega
  have uk1 : IntKind.i64.wrap ((k : Int) + 1) = (k : Int) + 1 := IntWalk.i64_in _ (by omega)
  have uk2 : IntKind.i64.wrap ((k : Int) - 1) = (k : Int) - 1 := IntWalk.i64_in _ (by omega)
  clear HB HR p0 p1 p2 o0 o1 o2 ht ha hbb hc hok hl hp
  go_enter Try.func120, Try.ntmps120
  go_wp2_with fail
  have HO : ∀ W W' : World, (PtAt W ad k ax ay ∧ PtAt W ad m1 bx bY ∧ PtAt W ad m2 cx cy ∧ Below w.heap.size w W) → Below W.heap.size W W' → (PtAt W' ad k ax ay ∧ PtAt W' ad m1 bx bY ∧ PtAt W' ad m2 cx cy ∧ Below w.heap.size w W') := fun W W' ⟨x0, x1, x2, hb⟩ h => ⟨x0.later bA (h.mono hb.size), x1.later bA (h.mono hb.size), x2.later bA (h.mono hb.size), hb.trans (h.mono hb.size)⟩
  have S0 : PtAt w ad k ax ay ∧ PtAt w ad m1 bx bY ∧ PtAt w ad m2 cx cy ∧ Below w.heap.size w w := ⟨pA, pB, pC, Below.refl _ _⟩
  clear pA pB pC
  have HO2 : ∀ W W' : World, (PtAt W ad k ax ay ∧ PtAt W ad m1 bx bY ∧ PtAt W ad m2 cx cy ∧ Below w.heap.size w W) → Below w.heap.size W W' → (PtAt W' ad k ax ay ∧ PtAt W' ad m1 bx bY ∧ PtAt W' ad m2 cx cy ∧ Below w.heap.size w W') := fun W W' ⟨h1, h2, h3, h4⟩ h => ⟨h1.later bA h, h2.later bA h, h3.later bA h, h4.trans h⟩
  refine SettleA.regionTwo (fun W => PtAt W ad k ax ay ∧ PtAt W ad m1 bx bY ∧ PtAt W ad m2 cx cy ∧ Below w.heap.size w W) 14 5 6 w.heap.size #[.int .i64 0, .int .i64 0] #[.int .i64 cx, .int .i64 cy] #[.int .i64 bx, .int .i64 bY] 49 (by kernel_rfl) (by kernel_rfl) (by kernel_rfl) (by kernel_rfl) rfl rfl rfl rfl rfl rfl rfl rfl rfl rfl rfl rfl (by decide) (by kernel_rfl) (by kernel_rfl) (by kernel_rfl) (by kernel_rfl) (by kernel_rfl) (by kernel_rfl) (by kernel_rfl) (fun a w => by go_simp; rfl) (fun a w => by go_simp; rfl) (fun W hS => HO _ _ hS (PointOk.below1 W _)) (fun W hS => hS.2.2.2.size) (HO _ _ S0 ((Below.refl _ _).drew)) ?_
  simp only [List.take_succ_cons, List.take_zero]
  clear S0
  repeat (first
    | (refine SettleA.SettlesB.off (by rfl) ?_; simp only [Act.put, List.setIfInBounds_toArray, List.set_cons_zero, List.set_cons_succ])
    | (refine SettleA.SettlesB.quiet (v := ?_) (by rfl) ?_ ?_
       rotate_left
       · (intro W hS; obtain ⟨⟨_, _⟩, ⟨_, _⟩, ⟨_, _⟩, _⟩ := hS; go_simp; with_reducible rfl)
       simp only [Act.put, List.setIfInBounds_toArray, List.set_cons_zero, List.set_cons_succ])
    | (refine SettleA.SettlesB.call (v := ?_) (f := ?_) (args := ?_) (by rfl) ?_ ?_ ?_
       rotate_left 3
       · (intro W; go_simp; refine ⟨?_, ?_⟩ <;> with_reducible rfl)
       · (intro W hS; first | (go_at_call 156; (with_reducible refine (QB.out _).mono ?_); rintro e W1 ⟨rfl, rfl⟩; refine ⟨?_, hS, Below.refl _ _⟩; with_reducible rfl) | (go_at_call 156; (with_reducible refine (QA.out _).mono ?_); rintro e W1 ⟨rfl, rfl⟩; refine ⟨?_, hS, Below.refl _ _⟩; with_reducible rfl))
       simp only [Act.put, List.setIfInBounds_toArray, List.set_cons_zero, List.set_cons_succ]))
  refine SettleA.SettlesB.nil ⟨by simp, by simp, fun g1_ g2_ => ⟨?_, ?_, ?_⟩⟩
  · skip
    rintro W ⟨hS, b1_, b2_, n12_, c1_, c2_⟩
    obtain ⟨⟨_, _⟩, _, _⟩ := Blk.Holds.two c1_
    simp only [Act.put, SettleA.ptr, List.setIfInBounds_toArray, List.set_cons_zero, List.set_cons_succ]
    first
      | refine ⟨.skip, _, .inl rfl, (by go_simp; rfl), ?_⟩
      | refine ⟨.value _, _, .inr ⟨_, rfl⟩, (by go_simp; rfl), ?_⟩
    exact ⟨HO2 _ _ hS (((Below.refl _ _).setCell b1_ _).setCell b1_ _), b1_, b2_, n12_, (Blk.set_own (Blk.set_own c1_ 0 _) 1 _), (Blk.Holds.far (Blk.Holds.far c2_ _ _ (fun h => n12_ h.symm)) _ _ (fun h => n12_ h.symm))⟩
  · skip
    rintro W ⟨hS, b1_, b2_, n12_, c1_, c2_⟩
    obtain ⟨⟨_, _⟩, _, _⟩ := Blk.Holds.two c2_
    simp only [Act.put, SettleA.ptr, List.setIfInBounds_toArray, List.set_cons_zero, List.set_cons_succ]
    first
      | refine ⟨.skip, _, .inl rfl, (by go_simp; rfl), ?_⟩
      | refine ⟨.value _, _, .inr ⟨_, rfl⟩, (by go_simp; rfl), ?_⟩
    exact ⟨HO2 _ _ hS (((Below.refl _ _).setCell b2_ _).setCell b2_ _), b1_, b2_, n12_, (Blk.Holds.far (Blk.Holds.far c1_ _ _ (n12_)) _ _ (n12_)), (Blk.set_own (Blk.set_own c2_ 0 _) 1 _)⟩
  rintro wr ⟨S0, b1_, b2_, n12_, B1_, B2_⟩
  simp only [Act.put, SettleA.ptr, List.setIfInBounds_toArray, List.set_cons_zero, List.set_cons_succ]
  replace B1_ : Blk.Holds wr g1_ #[.int .i64 cx, .int .i64 cy] 49 := B1_
  replace B2_ : Blk.Holds wr g2_ #[.int .i64 bx, .int .i64 bY] 49 := B2_
  obtain ⟨⟨_, _⟩, ⟨_, _⟩, ⟨_, _⟩, _⟩ := id S0
  have HO : ∀ W W' : World, (PtAt W ad k ax ay ∧ PointOk.Box W g1_ cx cy ∧ PointOk.Box W g2_ bx bY ∧ Below w.heap.size w W) → Below W.heap.size W W' → (PtAt W' ad k ax ay ∧ PointOk.Box W' g1_ cx cy ∧ PointOk.Box W' g2_ bx bY ∧ Below w.heap.size w W') := fun W W' ⟨x0, x1, x2, hb⟩ h => ⟨x0.later bA (h.mono hb.size), x1.later h, x2.later h, hb.trans (h.mono hb.size)⟩
  replace S0 : PtAt wr ad k ax ay ∧ PointOk.Box wr g1_ cx cy ∧ PointOk.Box wr g2_ bx bY ∧ Below w.heap.size w wr := ⟨S0.1, B1_.two.1, B2_.two.1, S0.2.2.2⟩
  clear B1_ B2_
  obtain ⟨⟨_, _⟩, ⟨_, _⟩, ⟨_, _⟩, _⟩ := id S0
  go_wp2_with fail
  refine Settle.region (fun W => PtAt W ad k ax ay ∧ PointOk.Box W g1_ cx cy ∧ PointOk.Box W g2_ bx bY ∧ Below w.heap.size w W) (by kernel_rfl) (by kernel_rfl) (by kernel_rfl) (by kernel_rfl) (HO _ _ S0 ((Below.refl _ _).drew)) ?_
  clear S0
  repeat (first
    | (refine Settle.Settles.off (by rfl) ?_; simp only [Act.put, List.setIfInBounds_toArray, List.set_cons_zero, List.set_cons_succ])
    | (refine Settle.Settles.quiet (v := ?_) (by rfl) ?_ ?_
       rotate_left
       · (intro W hS; obtain ⟨⟨_, _⟩, ⟨_, _⟩, ⟨_, _⟩, _⟩ := hS; go_simp; with_reducible rfl)
       simp only [Act.put, List.setIfInBounds_toArray, List.set_cons_zero, List.set_cons_succ])
    | (refine Settle.Settles.call (v := ?_) (f := ?_) (args := ?_) (by rfl) ?_ ?_ ?_
       rotate_left 3
       · (intro W; go_simp; refine ⟨?_, ?_⟩ <;> with_reducible rfl)
       · (intro W hS; first | (go_at_call 157; (with_reducible refine (QT.out _).mono ?_); rintro e W1 ⟨rfl, hb⟩; refine ⟨?_, HO _ _ hS hb⟩; with_reducible rfl))
       simp only [Act.put, List.setIfInBounds_toArray, List.set_cons_zero, List.set_cons_succ]))
  refine Settle.Settles.nil ?_
  intro wr S0
  obtain ⟨⟨_, _⟩, ⟨_, _⟩, ⟨_, _⟩, _⟩ := id S0
  go_wp2_with fail
  go_ret
  exact ⟨ret_i64 E.out, S0.2.2.2⟩

set_option maxRecDepth 100000 in
set_option maxHeartbeats 800000 in
theorem straight (A : Option Addr) (n cap : Nat) (w : World) (ps : List (Int × Int)) (hl : ps.length = n) (h3 : n ≤ 10) (hok : okAll ps = true) (hp : PtsAt w w.heap.size A ps) :
    Calls Try.prog 73 #[.slice A n cap] w fun e w' => e = .returned (.int .i64 (straightI ps)) ∧ Below w.heap.size w w' := by
  obtain ⟨r, hr⟩ : ∃ r, straightI ps = r := ⟨_, rfl⟩
  have HR := Lib.hid hr
  rw [hr]
  clear hr
  go_enter Try.func73, Try.ntmps73
  go_wp2_with fail
  have HO : ∀ W W' : World, (PtsAt W w.heap.size A ps ∧ Below w.heap.size w W) → Below W.heap.size W W' → (PtsAt W' w.heap.size A ps ∧ Below w.heap.size w W') := fun W W' ⟨x0, hb⟩ h => ⟨x0.later (h.mono hb.size), hb.trans (h.mono hb.size)⟩
  have S0 : PtsAt w w.heap.size A ps ∧ Below w.heap.size w w := ⟨hp, Below.refl _ _⟩
  clear hp
  go_loopw [6] (fun i wr => ∃ k : Nat, k ≤ n ∧ i = .int .i64 k ∧ Hid (∀ j, j < k → bendBack ps j ≠ 0) ∧ (PtsAt wr w.heap.size A ps ∧ Below w.heap.size w wr))
    (fun i _ => n - (intOf i).toNat)
  case atStart => exact ⟨0, Nat.zero_le _, rfl, Lib.hid (fun j hj => absurd hj (by omega)), S0⟩
  case round =>
    clear S0
    obtain ⟨k, hkn, rfl, hbe, S0⟩ := hrel
    by_cases hlt : k < n
    · have hk1 : (k : Int) < (n : Int) := by omega
      have QB : Hid (∀ w hp, _) := Lib.hid fun w hp => bendAt A n cap k w ps hl (by omega) hlt hok hp
      obtain ⟨t, ht⟩ : ∃ t, Hid (bendBack ps k = t) := ⟨_, Lib.hid rfl⟩
      rw [ht.out] at QB
      go_wp2_with fail
      refine (QB.out _ (S0.1.wide S0.2.size)).mono ?_
      rintro e w1 ⟨rfl, hb_⟩
      replace S0 := HO _ _ S0 hb_
      clear hb_
      obtain ⟨_, _⟩ := id S0
      by_cases h0 : t = 0
      · subst h0
        have E : Hid (r = (k : Int)) := Lib.hid (by rw [← HR.out]; exact straightI_at (k := k) (by omega) ht.out hbe.out)
        clear hl HR hbe ht
        go_wp2_with fail
        go_ret
        exact ⟨ret_i64 E.out.symm, S0.2⟩
      · have hb0 : (t == 0) = false := beq_eq_false_iff_ne.2 h0
        have hbe2 : Hid (∀ j, j < k + 1 → bendBack ps j ≠ 0) := Lib.hid (by
          intro j hj
          rcases Nat.lt_or_ge j k with h | h
          · exact hbe.out j h
          · obtain rfl : j = k := by omega
            rw [ht.out]; exact h0)
        clear hl HR hbe ht
        go_wp2_with fail
        first
          | exact ⟨⟨k + 1, by omega, by go_num, hbe2, S0⟩, by simp [intOf]; omega⟩
          | (go_roundw <;> first | exact ⟨k + 1, by omega, by go_num, hbe2, S0⟩ | (simp [intOf]; omega))
    · obtain rfl : n = k := by omega
      have E : Hid (r = -1) := Lib.hid (by rw [← HR.out]; exact straightI_none (by rw [hl]; exact hbe.out))
      clear hl HR hbe
      go_wp2_with fail
      go_ret
      exact ⟨ret_i64 E.out.symm, S0.2⟩

set_option maxRecDepth 100000 in
set_option maxHeartbeats 800000 in
theorem neighbors (A : Option Addr) (n cap i k : Nat) (hi : i < n) (hk : k < n) (hn : n ≤ 1048576) (w : World) :
    Calls Try.prog 159 #[.slice A n cap, .int .i64 (i : Int), .int .i64 (k : Int)] w fun e w' => e = .returned (.bool (nbrB n i k)) ∧ w = w' := by
  obtain ⟨r, hr⟩ : ∃ r, nbrB n i k = r := ⟨_, rfl⟩
  have HR := Lib.hid hr
  rw [hr]
  clear hr
  have QA : Hid (∀ w, _) := Lib.hid fun w => RoomImpl.indexAround A n cap ((i : Int) + 1) (by omega) hn w
  have QB : Hid (∀ w, _) := Lib.hid fun w => RoomImpl.indexAround A n cap ((k : Int) + 1) (by omega) hn w
  rw [ix_succ (by omega)] at QA QB
  have u1 : IntKind.i64.wrap ((i : Int) + 1) = (i : Int) + 1 := IntWalk.i64_in _ (by omega)
  have u2 : IntKind.i64.wrap ((k : Int) + 1) = (k : Int) + 1 := IntWalk.i64_in _ (by omega)
  have E1 : Hid (r = (decide ((k : Int) = (((i + 1) % n : Nat) : Int)) || decide ((i : Int) = (((k + 1) % n : Nat) : Int)))) := Lib.hid (by
    rw [← HR.out]; unfold nbrB; rw [Bool.eq_iff_iff]; simp only [Bool.or_eq_true, decide_eq_true_eq]; omega)
  generalize (i + 1) % n = a at *
  generalize (k + 1) % n = b at *
  clear HR
  by_cases c1 : (k : Int) = (a : Int)
  · have E : Hid (r = true) := Lib.hid (by rw [E1.out]; simp [c1])
    have b1 : ((k : Int) == (a : Int)) = true := by rw [beq_iff_eq]; exact c1
    clear E1
    go_enter Try.func159, Try.ntmps159
    go_wp2_with fail
    refine (QA.out _).mono ?_
    rintro e w1 ⟨rfl, rfl⟩
    go_wp2_with fail
    go_ret
    exact ⟨ret_bool E.out.symm, rfl⟩
  have b1 : ((k : Int) == (a : Int)) = false := beq_eq_false_iff_ne.2 c1
  have E : Hid (r = ((i : Int) == (b : Int))) := Lib.hid (by rw [E1.out, Bool.eq_iff_iff]; simp [c1])
  clear E1
  go_enter Try.func159, Try.ntmps159
  go_wp2_with fail
  refine (QA.out _).mono ?_
  rintro e w1 ⟨rfl, rfl⟩
  go_wp2_with fail
  refine (QB.out _).mono ?_
  rintro e w1 ⟨rfl, rfl⟩
  go_wp2_with fail
  go_ret
  exact ⟨ret_bool E.out.symm, rfl⟩

set_option maxRecDepth 100000 in
set_option maxHeartbeats 4000000 in
theorem far (A : Option Addr) (n cap : Nat) (w : World) (ps : List (Int × Int)) (hl : ps.length = n) (h3 : 3 ≤ n ∧ n ≤ 10) (hp : PtsAt w w.heap.size A ps) :
    Calls Try.prog 122 #[.slice A n cap] w fun e w' => e = .returned (.bool (farB ps)) ∧ Below w.heap.size w w' := by
  obtain ⟨r, hr⟩ : ∃ r, farB ps = r := ⟨_, rfl⟩
  have HR := Lib.hid hr
  rw [hr]
  clear hr
  go_enter Try.func122, Try.ntmps122
  go_wp2_with fail
  have HO : ∀ W W' : World, (PtsAt W w.heap.size A ps ∧ Below w.heap.size w W) → Below W.heap.size W W' → (PtsAt W' w.heap.size A ps ∧ Below w.heap.size w W') := fun W W' ⟨x0, hb⟩ h => ⟨x0.later (h.mono hb.size), hb.trans (h.mono hb.size)⟩
  have S0 : PtsAt w w.heap.size A ps ∧ Below w.heap.size w w := ⟨hp, Below.refl _ _⟩
  clear hp
  go_loopw [7] (fun i wr => ∃ k : Nat, k ≤ n ∧ i = .int .i64 k ∧ Hid (∀ a, a < k → ∀ b, b < a → nextB ps.length a b = true ∨ meetAt ps b a = false) ∧ (PtsAt wr w.heap.size A ps ∧ Below w.heap.size w wr))
    (fun i _ => n - (intOf i).toNat)
  case atStart => exact ⟨0, Nat.zero_le _, rfl, Lib.hid (fun j hj => absurd hj (by omega)), S0⟩
  case round =>
    clear S0
    obtain ⟨k, hk, rfl, hfar, S0⟩ := hrel
    by_cases hkn : k < n
    · have hk1 : (k : Int) < (n : Int) := by omega
      go_wp2_with fail
      go_loopw [11] (fun i wr => ∃ b : Nat, b ≤ k ∧ i = .int .i64 b ∧ Hid (∀ j, j < b → nextB ps.length k j = true ∨ meetAt ps j k = false) ∧ (PtsAt wr w.heap.size A ps ∧ Below w.heap.size w wr))
        (fun i _ => k - (intOf i).toNat)
      case atStart => exact ⟨0, Nat.zero_le _, rfl, Lib.hid (fun j hj => absurd hj (by omega)), S0⟩
      case round =>
        clear S0
        obtain ⟨i, hi, rfl, hin, S0⟩ := hrel
        by_cases hik : i < k
        · have hi1 : (i : Int) < (k : Int) := by omega
          have QN : Hid (∀ w, _) := Lib.hid fun w => neighbors A n cap i k (by omega) hkn (by omega) w
          rw [nbr_next hkn hik] at QN
          cases hnx : nextB n k i
          rotate_left
          · have hnext : nextB ps.length k i = true := by rw [hl]; exact hnx
            have hin2 : Hid (∀ j, j < i + 1 → nextB ps.length k j = true ∨ meetAt ps j k = false) := Lib.hid (by
              intro j hj
              rcases Nat.lt_or_ge j i with h | h
              · exact hin.out j h
              · obtain rfl : j = i := by omega
                exact .inl hnext)
            rw [hnx] at QN
            clear hin hnext hfar HR hl hnx
            go_wp2_with fail
            refine (QN.out _).mono ?_
            rintro e w1 ⟨rfl, rfl⟩
            go_wp2_with fail
            first
              | exact ⟨⟨i + 1, by omega, by go_num, hin2, S0⟩, by simp [intOf]; omega⟩
              | (go_roundw <;> first | exact ⟨i + 1, by omega, by go_num, hin2, S0⟩ | (simp [intOf]; omega))
          have hnext : Hid (nextB ps.length k i = false) := Lib.hid (by rw [hl]; exact hnx)
          rw [hnx] at QN
          clear hnx
          have QW1 : Hid (∀ w hp, _) := Lib.hid fun w hp => wallBehind A n cap i w ps hl (by omega) (by omega) hp
          have QW2 : Hid (∀ w hp, _) := Lib.hid fun w hp => wallBehind A n cap k w ps hl (by omega) (by omega) hp
          have HM : Hid (meetAt ps i k = meetP (pt ps i) (pt ps ((i + 1) % n)) (pt ps k) (pt ps ((k + 1) % n))) := Lib.hid (by unfold meetAt; rw [hl])
          generalize pt ps i = p1 at *
          generalize pt ps ((i + 1) % n) = p2 at *
          generalize pt ps k = p3 at *
          generalize pt ps ((k + 1) % n) = p4 at *
          obtain ⟨mb, hmb⟩ : ∃ b, meetB p1.1 p1.2 p2.1 p2.2 p3.1 p3.2 p4.1 p4.2 = b := ⟨_, rfl⟩
          have QM : Hid (∀ w, _) := Lib.hid fun w => WallImpl.doMeet p1.1 p1.2 p2.1 p2.2 p3.1 p3.2 p4.1 p4.2 w
          rw [hmb] at QM
          have HM2 : Hid (meetAt ps i k = mb) := Lib.hid (by rw [HM.out, ← hmb]; rfl)
          clear HM hmb
          go_wp2_with fail
          refine (QN.out _).mono ?_
          rintro e w0 ⟨rfl, rfl⟩
          clear QN
          go_wp2_with fail
          refine (QW1.out _ (S0.1.wide S0.2.size)).mono ?_
          rintro e w1 ⟨rfl, hb_⟩
          replace S0 := HO _ _ S0 hb_
          clear hb_
          go_wp2_with fail
          refine (QW2.out _ (S0.1.wide S0.2.size)).mono ?_
          rintro e w2 ⟨rfl, hb_⟩
          replace S0 := HO _ _ S0 hb_
          clear hb_
          go_wp2_with fail
          refine (QM.out _).mono ?_
          rintro e w3 ⟨rfl, hb_⟩
          replace S0 := HO _ _ S0 hb_
          clear hb_ QW1 QW2 QM
          cases mb
          · have hin2 : Hid (∀ j, j < i + 1 → nextB ps.length k j = true ∨ meetAt ps j k = false) := Lib.hid (by
              intro j hj
              rcases Nat.lt_or_ge j i with h | h
              · exact hin.out j h
              · obtain rfl : j = i := by omega
                exact .inr HM2.out)
            clear hin hnext hfar HR hl HM2
            go_wp2_with fail
            first
              | exact ⟨⟨i + 1, by omega, by go_num, hin2, S0⟩, by simp [intOf]; omega⟩
              | (go_roundw <;> first | exact ⟨i + 1, by omega, by go_num, hin2, S0⟩ | (simp [intOf]; omega))
          · have E : Hid (r = true) := Lib.hid (by rw [← HR.out]; exact farB_at (k := k) (i := i) (by omega) hik hnext.out HM2.out)
            clear hin hnext hfar HR hl HM2
            go_wp2_with fail
            go_ret
            exact ⟨ret_bool E.out.symm, S0.2⟩
        · obtain rfl : k = i := by omega
          have hfar2 : Hid (∀ a, a < k + 1 → ∀ b, b < a → nextB ps.length a b = true ∨ meetAt ps b a = false) := Lib.hid (by
            intro a ha
            rcases Nat.lt_or_ge a k with h | h
            · exact hfar.out a h
            · obtain rfl : a = k := by omega
              exact hin.out)
          clear hin hfar HR hl
          go_wp2_with fail
          first
            | exact ⟨⟨k + 1, by omega, by go_num, hfar2, S0⟩, by simp [intOf]; omega⟩
            | (go_roundw <;> first | exact ⟨k + 1, by omega, by go_num, hfar2, S0⟩ | (simp [intOf]; omega))
    · obtain rfl : n = k := by omega
      have E : Hid (r = false) := Lib.hid (by rw [← HR.out]; exact farB_of (fun a ha => hfar.out a (by omega)))
      clear hl HR hfar
      go_wp2_with fail
      go_ret
      exact ⟨ret_bool E.out.symm, S0.2⟩

set_option maxRecDepth 100000 in
set_option maxHeartbeats 800000 in
theorem roomOk (A : Option Addr) (n cap : Nat) (w : World) (ps : List (Int × Int)) (hl : ps.length = n) (hn : n ≤ 1048576) (hp : PtsAt w w.heap.size A ps) :
    Calls Try.prog 75 #[.agg #[.slice A n cap]] w fun e w' => e = .returned (.bool (roomB ps)) ∧ Below w.heap.size w w' := by
  obtain ⟨r, hr⟩ : ∃ r, roomB ps = r := ⟨_, rfl⟩
  have HR := Lib.hid hr
  rw [hr]
  clear hr
  by_cases h3 : 3 ≤ n ∧ n ≤ 10
  case neg =>
    have E : Hid (r = false) := Lib.hid (by rw [← HR.out, roomB_short (by rw [hl]; exact h3)])
    clear HR hl hp
    by_cases h4 : n < 3
    · go_enter Try.func75, Try.ntmps75
      go_wp2_with fail
      go_ret
      exact ⟨ret_bool E.out.symm, below1 _ _⟩
    · have h5 : 10 < n := by omega
      go_enter Try.func75, Try.ntmps75
      go_wp2_with fail
      go_ret
      exact ⟨ret_bool E.out.symm, below1 _ _⟩
  have n3 : ¬ n < 3 := by omega
  have n10 : ¬ 10 < n := by omega
  have Q1 : Hid (∀ w hp, _) := Lib.hid fun w hp => arePointsOk A n cap w ps hl hn hp
  go_enter Try.func75, Try.ntmps75
  go_wp2_with fail
  have X0 := Pts.boxR w (.slice A n cap) 37 (k := w.heap.size) (by simp)
  have b0 := PointOk.below1 w (Obj.cells #[.slice A n cap] 37)
  have HO : ∀ W W' : World, (Pts.BoxR W (w.heap.size) (.slice A n cap) ∧ PtsAt W w.heap.size A ps ∧ Below w.heap.size w W) → Below W.heap.size W W' → (Pts.BoxR W' (w.heap.size) (.slice A n cap) ∧ PtsAt W' w.heap.size A ps ∧ Below w.heap.size w W') := fun W W' ⟨h0, x0, hb⟩ h => ⟨h0.later h, x0.later (h.mono hb.size), hb.trans (h.mono hb.size)⟩
  have hz0_ : Hid (((w.alloc (Obj.cells #[.slice A n cap] 37))).heap.size = w.heap.size + 1) := Lib.hid (by simp)
  have Y0 : PtsAt ((w.alloc (Obj.cells #[.slice A n cap] 37))) w.heap.size A ps := hp.later b0
  generalize (w.alloc (Obj.cells #[.slice A n cap] 37)) = w0 at X0 Y0 b0 hz0_ ⊢
  have S0 := (⟨X0, Y0, b0⟩ : Pts.BoxR w0 (w.heap.size) (.slice A n cap) ∧ PtsAt w0 w.heap.size A ps ∧ Below w.heap.size w w0)
  clear X0 Y0 b0
  obtain ⟨⟨_, _⟩, _, _⟩ := id S0
  refine (Q1.out _ (S0.2.1.wide S0.2.2.size)).mono ?_
  rintro e w1 ⟨rfl, hb_⟩
  replace S0 := HO _ _ S0 hb_
  clear hb_ Q1
  obtain ⟨⟨_, _⟩, _, _⟩ := id S0
  cases hok : okAll ps
  · have E : Hid (r = false) := Lib.hid (by rw [← HR.out]; unfold roomB; rw [hok]; simp)
    clear HR hl
    go_wp2_with fail
    go_ret
    exact ⟨ret_bool E.out.symm, S0.2.2⟩
  have HOK := Lib.hid hok
  clear hok
  have Q2 : Hid (∀ w hp, _) := Lib.hid fun w hp => straight A n cap w ps hl h3.2 HOK.out hp
  have HSN := Lib.hid (straight_neg ps)
  have Q3 : Hid (∀ w hp, _) := Lib.hid fun w hp => far A n cap w ps hl h3 hp
  have Q4 : Hid (∀ w hp, _) := Lib.hid fun w hp => crossSum A n cap w ps hl h3.2 HOK.out hp
  go_wp2_with fail
  refine (Q2.out _ (S0.2.1.wide S0.2.2.size)).mono ?_
  rintro e w2 ⟨rfl, hb_⟩
  replace S0 := HO _ _ S0 hb_
  clear hb_ Q2
  obtain ⟨⟨_, _⟩, _, _⟩ := id S0
  cases h5 : bendsB ps
  · have hneg : ¬ straightI ps < 0 := by have h := HSN.out; rw [h5] at h; exact of_decide_eq_false h
    generalize straightI ps = st at *
    have E : Hid (r = false) := Lib.hid (by rw [← HR.out]; exact roomB_bends h5)
    clear HR hl Q3 Q4
    go_wp2_with fail
    go_ret
    exact ⟨ret_bool E.out.symm, S0.2.2⟩
  have hneg : straightI ps < 0 := by have h := HSN.out; rw [h5] at h; exact of_decide_eq_true h
  clear HSN
  generalize straightI ps = st at *
  replace h5 := Lib.hid h5
  go_wp2_with fail
  refine (Q3.out _ (S0.2.1.wide S0.2.2.size)).mono ?_
  rintro e w3 ⟨rfl, hb_⟩
  replace S0 := HO _ _ S0 hb_
  clear hb_ Q3
  obtain ⟨⟨_, _⟩, _, _⟩ := id S0
  cases h6 : farB ps
  rotate_left
  · have E : Hid (r = false) := Lib.hid (by rw [← HR.out]; exact roomB_far h6)
    clear HR hl Q4
    go_wp2_with fail
    go_ret
    exact ⟨ret_bool E.out.symm, S0.2.2⟩
  have E : Hid (r = decide (0 < dblTo ps n)) := Lib.hid (by rw [← HR.out, roomB_impl (by omega) HOK.out h5.out h6, hl])
  clear HR hl h6
  generalize dblTo ps n = d at *
  go_wp2_with fail
  refine (Q4.out _ (S0.2.1.wide S0.2.2.size)).mono ?_
  rintro e w4 ⟨rfl, hb_⟩
  replace S0 := HO _ _ S0 hb_
  clear hb_ Q4
  obtain ⟨⟨_, _⟩, _, _⟩ := id S0
  go_wp2_with fail
  go_ret
  exact ⟨ret_bool E.out.symm, S0.2.2⟩

end Go.Proofs.Ythokeedmccfalaa.RoomOkImpl

