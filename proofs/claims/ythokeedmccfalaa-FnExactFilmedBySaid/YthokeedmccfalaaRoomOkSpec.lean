/-
  What the model's test on rooms does, as a contract: what it answers; new memory alone is written.
-/
import Derived.Test.YthokeedmccfalaaGround
import Derived.Test.YthokeedmccfalaaFacts
import Derived.Test.YthokeedmccfalaaWallSpec
namespace Go.Proofs.Ythokeedmccfalaa.RoomOkSpec
open Go.RowKit PointMath WallMath RoomMath Pts Blk
open PointOk (ret_bool ret_i64 below1 below2 below3)

set_option maxHeartbeats 800000 in
theorem doubleL (A : Option Addr) (n cap : Nat) (w : World) (ps : List (Int × Int)) (hl : ps.length = n) (hn : n ≤ 1048576) (hk : okAll ps = true) (hp : PtsAt w w.heap.size A ps) :
    Calls Try.prog 116 #[.slice A n cap] w fun e w' => e = .returned (.int .i64 (dblTo ps n)) ∧ Below w.heap.size w w' := by
  obtain ⟨r, hr⟩ : ∃ r, dblTo ps n = r := ⟨_, rfl⟩
  have HR := Lib.hid hr
  rw [hr]
  clear hr
  go_enter Try.func116, Try.ntmps116
  go_wp2_with fail
  go_loopw [3, 4] (fun s i wr => ∃ k : Nat, k ≤ n ∧ i = .int .i64 k ∧ s = .int .i64 (dblTo ps k) ∧ PtsAt wr w.heap.size A ps ∧ Below w.heap.size w wr)
    (fun _ i _ => n - (intOf i).toNat)
  case atStart => exact ⟨0, Nat.zero_le _, rfl, rfl, hp, Below.refl _ _⟩
  case round =>
    clear hp
    obtain ⟨k, hkn, rfl, rfl, hp, hb⟩ := hrel
    by_cases hlt : k < n
    · have hm : (k + 1) % n < n := Nat.mod_lt _ (by omega)
      have bd := dblTo_bound hk k (by omega)
      have e2 : dblTo ps (k + 1) = dblTo ps k + ((pt ps k).1 * (pt ps ((k + 1) % n)).2 - (pt ps k).2 * (pt ps ((k + 1) % n)).1) := by rw [← hl]; rfl
      have q1 := okP_yes (okAll_at hk (k := k) (by omega))
      have q2 := okP_yes (okAll_at hk (k := (k + 1) % n) (by omega))
      have p1 := pt_at (ps := ps) (k := k) (by omega)
      have p2 := pt_at (ps := ps) (k := (k + 1) % n) (by omega)
      have e1 := succ_emod n k
      generalize (k + 1) % n = m at *
      obtain ⟨x, y, hx⟩ : ∃ x y, pt ps k = (x, y) := ⟨_, _, rfl⟩
      obtain ⟨u, v, hu⟩ : ∃ x y, pt ps m = (x, y) := ⟨_, _, rfl⟩
      rw [hx] at p1 q1 e2
      rw [hu] at p2 q2 e2
      obtain ⟨ad, eA, bA, pA⟩ := hp.get p1
      obtain ⟨ad2, eA2, _, pB⟩ := hp.get p2
      rw [eA] at eA2
      injection eA2 with eA2
      subst eA2
      subst eA
      have m1 := small_mul (a := x) (b := v) (by omega) (by omega)
      have m2 := small_mul (a := y) (b := u) (by omega) (by omega)
      generalize dblTo ps k = s at *
      have u1 : IntKind.i64.wrap (x * v) = x * v := IntWalk.i64_in _ (by omega)
      have u2 : IntKind.i64.wrap (s + x * v) = s + x * v := IntWalk.i64_in _ (by omega)
      have u3 : IntKind.i64.wrap (y * u) = y * u := IntWalk.i64_in _ (by omega)
      have u4 : IntKind.i64.wrap (s + x * v - y * u) = s + x * v - y * u := IntWalk.i64_in _ (by omega)
      have E2 : Hid (dblTo ps (k + 1) = s + x * v - y * u) := Lib.hid (by rw [e2]; simp only; omega)
      have hk1 : (k : Int) < (n : Int) := by omega
      have hn0 : ¬ ((n : Int) = 0) := by omega
      have hb_ := below1 wr (Obj.cells #[.int .i64 u, .int .i64 v] 49)
      have hb2 := hb_.mono hb.size
      have bx := PointOk.box1 wr u v 49 (k := wr.heap.size) rfl
      have HO : ∀ W W' : World, (PtsAt W w.heap.size (some ad) ps ∧ PtAt W ad k x y ∧ PointOk.Box W wr.heap.size u v ∧ Below w.heap.size w W) → Below W.heap.size W W' → (PtsAt W' w.heap.size (some ad) ps ∧ PtAt W' ad k x y ∧ PointOk.Box W' wr.heap.size u v ∧ Below w.heap.size w W') := fun W W' ⟨x0, x1, x2, hb⟩ h => ⟨x0.later (h.mono hb.size), x1.later bA (h.mono hb.size), x2.later h, hb.trans (h.mono hb.size)⟩
      have S0 : (fun W9 => PtsAt W9 w.heap.size (some ad) ps ∧ PtAt W9 ad k x y ∧ PointOk.Box W9 wr.heap.size u v ∧ Below w.heap.size w W9) (wr.alloc (Obj.cells #[.int .i64 u, .int .i64 v] 49)) := ⟨hp.later hb2, pA.later bA hb2, bx, hb.trans hb2⟩
      obtain ⟨_, _⟩ := pB
      clear hl hx hu p1 p2 q1 q2 m1 m2 e2 bd hk hp hb hb_ hb2 bx HR
      go_wp2_with fail
      generalize wr.alloc (Obj.cells #[.int .i64 u, .int .i64 v] 49) = W9 at *
      refine Settle.region (fun W => PtsAt W w.heap.size (some ad) ps ∧ PtAt W ad k x y ∧ PointOk.Box W wr.heap.size u v ∧ Below w.heap.size w W) (by kernel_rfl) (by kernel_rfl) (by kernel_rfl) (by kernel_rfl) (HO _ _ S0 ((Below.refl _ _).drew)) ?_
      clear S0
      repeat (first
        | (refine Settle.Settles.off (by rfl) ?_; simp only [Act.put, List.setIfInBounds_toArray, List.set_cons_zero, List.set_cons_succ])
        | (refine Settle.Settles.quiet (v := ?_) (by rfl) ?_ ?_
           rotate_left
           · (intro W hS; obtain ⟨_, ⟨_, _⟩, ⟨_, _⟩, _⟩ := hS; go_simp; with_reducible rfl)
           simp only [Act.put, List.setIfInBounds_toArray, List.set_cons_zero, List.set_cons_succ])
        | (refine Settle.Settles.call (v := ?_) (f := ?_) (args := ?_) (by rfl) ?_ ?_ ?_
           rotate_left 3
           · (intro W; go_simp; refine ⟨?_, ?_⟩ <;> with_reducible rfl)
           · (intro W hS; fail)
           simp only [Act.put, List.setIfInBounds_toArray, List.set_cons_zero, List.set_cons_succ]))
      refine Settle.Settles.nil ?_
      intro wr S0
      obtain ⟨_, ⟨_, _⟩, ⟨_, _⟩, _⟩ := id S0
      go_wp2_with fail
      exact ⟨⟨k + 1, by omega, by go_num, by rw [E2.out], S0.1, S0.2.2.2⟩, by simp [intOf]; omega⟩
    · obtain rfl : k = n := by omega
      clear hl hp
      go_wp2_with fail
      go_ret
      exact ⟨ret_i64 HR.out, hb⟩

theorem double (A : Option Addr) (n cap : Nat) (w : World) (ps : List (Int × Int)) (hl : ps.length = n) (hn : n ≤ 10) (hk : okAll ps = true) (hp : PtsAt w w.heap.size A ps) :
    Calls Try.prog 116 #[.slice A n cap] w fun e w' => e = .returned (.int .i64 (dblTo ps n)) ∧ Below w.heap.size w w' := doubleL A n cap w ps hl (by omega) hk hp

set_option maxRecDepth 100000 in
set_option maxHeartbeats 4000000 in
theorem roomOk (A : Option Addr) (n cap : Nat) (w : World) (ps : List (Int × Int)) (hl : ps.length = n) (hn : n ≤ 1048576) (hp : PtsAt w w.heap.size A ps) :
    Calls Try.prog 69 #[.agg #[.slice A n cap]] w fun e w' => e = .returned (.bool (roomB ps)) ∧ Below w.heap.size w w' := by
  obtain ⟨r, hr⟩ : ∃ r, roomB ps = r := ⟨_, rfl⟩
  have HR := Lib.hid hr
  rw [hr]
  clear hr
  go_enter Try.func69, Try.ntmps69
  go_wp2_with fail
  have X0 := Pts.boxR w (.slice A n cap) 37 (k := w.heap.size) (by simp)
  have b0 := PointOk.below1 w (Obj.cells #[.slice A n cap] 37)
  have HO : ∀ W W' : World, (Pts.BoxR W (w.heap.size) (.slice A n cap) ∧ PtsAt W w.heap.size A ps ∧ Below w.heap.size w W) → Below W.heap.size W W' → (Pts.BoxR W' (w.heap.size) (.slice A n cap) ∧ PtsAt W' w.heap.size A ps ∧ Below w.heap.size w W') := fun W W' ⟨h0, x0, hb⟩ h => ⟨h0.later h, x0.later (h.mono hb.size), hb.trans (h.mono hb.size)⟩
  have hz0_ : Hid (((w.alloc (Obj.cells #[.slice A n cap] 37))).heap.size = w.heap.size + 1) := Lib.hid (by simp)
  have Y0 : PtsAt ((w.alloc (Obj.cells #[.slice A n cap] 37))) w.heap.size A ps := hp.later b0
  generalize (w.alloc (Obj.cells #[.slice A n cap] 37)) = w0 at X0 Y0 b0 hz0_ ⊢
  have S0 := (⟨X0, Y0, b0⟩ : Pts.BoxR w0 (w.heap.size) (.slice A n cap) ∧ PtsAt w0 w.heap.size A ps ∧ Below w.heap.size w w0)
  clear X0 Y0 b0
  obtain ⟨⟨_, _⟩, _, _⟩ := id S0
  refine (PointOk.l01In (n : Int) 3 10 _).mono ?_
  rintro e w_ ⟨rfl, rfl⟩
  by_cases h3 : 3 ≤ n ∧ n ≤ 10
  case neg =>
    have E : Hid (r = false) := Lib.hid (by rw [← HR.out, roomB_short (by rw [hl]; exact h3)])
    rw [show decide ((3 : Int) ≤ (n : Int) ∧ (n : Int) ≤ 10) = false from decide_eq_false (by omega)]
    clear hl HR
    go_wp2_with fail
    go_ret
    exact ⟨ret_bool E.out.symm, S0.2.2⟩
  rw [show decide ((3 : Int) ≤ (n : Int) ∧ (n : Int) ≤ 10) = true from decide_eq_true (by omega)]
  go_wp2_with fail
  go_loopw [4] (fun i wr => ∃ k : Nat, k ≤ n ∧ i = .int .i64 k ∧ Hid (∀ j, j < k → okP (pt ps j).1 (pt ps j).2 = true) ∧ (Pts.BoxR wr (w.heap.size) (.slice A n cap) ∧ PtsAt wr w.heap.size A ps ∧ Below w.heap.size w wr))
    (fun i _ => n - (intOf i).toNat)
  case atStart => exact ⟨0, Nat.zero_le _, rfl, Lib.hid (fun j hj => absurd hj (by omega)), S0⟩
  case round =>
    clear S0
    obtain ⟨k, hk, rfl, hok, S0⟩ := hrel
    obtain ⟨⟨_, _⟩, _, _⟩ := id S0
    by_cases hkn : k < n
    · have p1 := pt_at (ps := ps) (k := k) (by omega)
      obtain ⟨x, y, hx⟩ : ∃ x y, pt ps k = (x, y) := ⟨_, _, rfl⟩
      rw [hx] at p1
      obtain ⟨ad, eA, bA, pA⟩ := S0.2.1.get p1
      subst eA
      have hk1 : (k : Int) < (n : Int) := by omega
      have HO : ∀ W W' : World, (Pts.BoxR W (w.heap.size) (.slice (some ad) n cap) ∧ PtsAt W w.heap.size (some ad) ps ∧ PtAt W ad k x y ∧ Below w.heap.size w W) → Below W.heap.size W W' → (Pts.BoxR W' (w.heap.size) (.slice (some ad) n cap) ∧ PtsAt W' w.heap.size (some ad) ps ∧ PtAt W' ad k x y ∧ Below w.heap.size w W') := fun W W' ⟨h0, x0, x1, hb⟩ h => ⟨h0.later h, x0.later (h.mono hb.size), x1.later bA (h.mono hb.size), hb.trans (h.mono hb.size)⟩
      replace S0 := (⟨S0.1, S0.2.1, pA, S0.2.2⟩ : Pts.BoxR wr (w.heap.size) (.slice (some ad) n cap) ∧ PtsAt wr w.heap.size (some ad) ps ∧ PtAt wr ad k x y ∧ Below w.heap.size w wr)
      clear pA
      obtain ⟨⟨_, _⟩, _, ⟨_, _⟩, _⟩ := id S0
      go_wp2_with fail
      refine (PointOk.pointOk x y _).mono ?_
      rintro e w2 ⟨rfl, hb_⟩
      replace S0 := HO _ _ S0 hb_
      clear hb_
      obtain ⟨⟨_, _⟩, _, ⟨_, _⟩, _⟩ := id S0
      cases ho : okP x y
      · have E : Hid (r = false) := Lib.hid (by rw [← HR.out, roomB_point (k := k) (by omega) (by rw [hx]; exact ho)])
        clear hl HR hok p1 hx
        go_wp2_with fail
        go_ret
        exact ⟨ret_bool E.out.symm, S0.2.2.2⟩
      · have hok2 : Hid (∀ j, j < k + 1 → okP (pt ps j).1 (pt ps j).2 = true) := Lib.hid (by
          intro j hj
          rcases Nat.lt_or_ge j k with h | h
          · exact hok.out j h
          · obtain rfl : j = k := by omega
            rw [hx]; exact ho)
        clear hl HR hok p1 hx
        go_wp2_with fail
        first
          | exact ⟨⟨k + 1, by omega, by go_num, hok2, S0.1, S0.2.1, S0.2.2.2⟩, by simp [intOf]; omega⟩
          | (go_roundw <;> first | exact ⟨k + 1, by omega, by go_num, hok2, S0.1, S0.2.1, S0.2.2.2⟩ | (simp [intOf]; omega))
    obtain rfl : n = k := by omega
    have hall : Hid (okAll ps = true) := Lib.hid (okAll_of (by rw [hl]; exact hok.out))
    clear hok hkn hk
    have HO : ∀ W W' : World, (Pts.BoxR W (w.heap.size) (.slice A n cap) ∧ PtsAt W w.heap.size A ps ∧ Below w.heap.size w W) → Below W.heap.size W W' → (Pts.BoxR W' (w.heap.size) (.slice A n cap) ∧ PtsAt W' w.heap.size A ps ∧ Below w.heap.size w W') := fun W W' ⟨h0, x0, hb⟩ h => ⟨h0.later h, x0.later (h.mono hb.size), hb.trans (h.mono hb.size)⟩
    go_wp2_with fail
    go_loopw [5] (fun i wr => ∃ k : Nat, k ≤ n ∧ i = .int .i64 k ∧ Hid (∀ j, j < k → roundB ps j = true) ∧ (Pts.BoxR wr (w.heap.size) (.slice A n cap) ∧ PtsAt wr w.heap.size A ps ∧ Below w.heap.size w wr))
      (fun i _ => n - (intOf i).toNat)
    case atStart => exact ⟨0, Nat.zero_le _, rfl, Lib.hid (fun j hj => absurd hj (by omega)), S0.1, S0.2.1, S0.2.2⟩
    case round =>
      clear S0
      obtain ⟨k, hk, rfl, hround, S0⟩ := hrel
      obtain ⟨⟨_, _⟩, _, _⟩ := id S0
      by_cases hkn : k < n
      · have hm : (k + 1) % n < n := Nat.mod_lt _ (by omega)
        have hm2 : (k + 2) % n < n := Nat.mod_lt _ (by omega)
        have p0 := pt_at (ps := ps) (k := k) (by omega)
        have p1 := pt_at (ps := ps) (k := (k + 1) % n) (by omega)
        have p2 := pt_at (ps := ps) (k := (k + 2) % n) (by omega)
        have e1 := succ_emod n k
        have e2 := succ2_emod n k
        have e1t : ((k : Int) + 1).tmod (n : Int) = (((k + 1) % n : Nat) : Int) := by rw [Int.tmod_eq_emod_of_nonneg (by omega)]; exact e1
        have e2t : ((k : Int) + 2).tmod (n : Int) = (((k + 2) % n : Nat) : Int) := by rw [Int.tmod_eq_emod_of_nonneg (by omega)]; exact e2
        have HB : Hid (bendAt ps k = turnP (pt ps k) (pt ps ((k + 1) % n)) (pt ps ((k + 2) % n))) := Lib.hid (by unfold bendAt; rw [hl])
        have HM : Hid (∀ i, meetAt ps k i = meetP (pt ps k) (pt ps ((k + 1) % n)) (pt ps i) (pt ps ((i + 1) % n))) := Lib.hid (by intro i; unfold meetAt; rw [hl])
        have HN : Hid (∀ i, nearB ps.length k i = (decide (i = k) || decide ((i + 1) % n = k) || decide ((k + 1) % n = i))) := Lib.hid (by intro i; rw [hl]; rfl)
        have o0 := okAll_at hall.out (k := k) (by omega)
        have o1 := okAll_at hall.out (k := (k + 1) % n) (by omega)
        have o2 := okAll_at hall.out (k := (k + 2) % n) (by omega)
        generalize (k + 1) % n = m1 at *
        generalize (k + 2) % n = m2 at *
        obtain ⟨ax, ay, ha⟩ : ∃ x y, pt ps k = (x, y) := ⟨_, _, rfl⟩
        obtain ⟨bx, bY, hb⟩ : ∃ x y, pt ps m1 = (x, y) := ⟨_, _, rfl⟩
        obtain ⟨cx, cy, hc⟩ : ∃ x y, pt ps m2 = (x, y) := ⟨_, _, rfl⟩
        rw [ha] at p0 o0 HB HM
        rw [hb] at p1 o1 HB HM
        rw [hc] at p2 o2 HB
        obtain ⟨ad, eA, bA, pA⟩ := S0.2.1.get p0
        obtain ⟨ad2, eA2, _, pB⟩ := S0.2.1.get p1
        rw [eA] at eA2
        injection eA2 with eA2
        subst eA2
        obtain ⟨ad2, eA2, _, pC⟩ := S0.2.1.get p2
        rw [eA] at eA2
        injection eA2 with eA2
        subst eA2
        subst eA
        have hk1 : (k : Int) < (n : Int) := by omega
        have hmI : (m1 : Int) < (n : Int) := by omega
        have hm2I : (m2 : Int) < (n : Int) := by omega
        have uk1 : IntKind.i64.wrap ((k : Int) + 1) = (k : Int) + 1 := IntWalk.i64_in _ (by omega)
        have uk2 : IntKind.i64.wrap ((k : Int) + 2) = (k : Int) + 2 := IntWalk.i64_in _ (by omega)
        have hmI0 : (0 : Int) ≤ (m1 : Int) := by omega
        have hm2I0 : (0 : Int) ≤ (m2 : Int) := by omega
        have hn0 : ¬ ((n : Int) = 0) := by omega
        have hn1 : ¬ (n = 0) := by omega
        have s0 := okP_sm o0
        have s1 := okP_sm o1
        have s2 := okP_sm o2
        obtain ⟨t, ht⟩ : ∃ t, turnI ax ay bx bY cx cy = t := ⟨_, rfl⟩
        have QT : Hid (∀ w, _) := Lib.hid fun w => PointSpec.l02Turn ax ay bx bY cx cy s0 s1 s2 w
        rw [ht] at QT
        have HB2 : Hid (bendAt ps k = t) := Lib.hid (by rw [HB.out, ← ht]; rfl)
        clear HB p0 p1 p2 o0 o1 o2 s0 s1 s2 ht ha hb hc
        have HO : ∀ W W' : World, (Pts.BoxR W (w.heap.size) (.slice (some ad) n cap) ∧ PtsAt W w.heap.size (some ad) ps ∧ PtAt W ad k ax ay ∧ PtAt W ad m1 bx bY ∧ PtAt W ad m2 cx cy ∧ Below w.heap.size w W) → Below W.heap.size W W' → (Pts.BoxR W' (w.heap.size) (.slice (some ad) n cap) ∧ PtsAt W' w.heap.size (some ad) ps ∧ PtAt W' ad k ax ay ∧ PtAt W' ad m1 bx bY ∧ PtAt W' ad m2 cx cy ∧ Below w.heap.size w W') := fun W W' ⟨h0, x0, x1, x2, x3, hb⟩ h => ⟨h0.later h, x0.later (h.mono hb.size), x1.later bA (h.mono hb.size), x2.later bA (h.mono hb.size), x3.later bA (h.mono hb.size), hb.trans (h.mono hb.size)⟩
        replace S0 := (⟨S0.1, S0.2.1, pA, pB, pC, S0.2.2⟩ : Pts.BoxR wr (w.heap.size) (.slice (some ad) n cap) ∧ PtsAt wr w.heap.size (some ad) ps ∧ PtAt wr ad k ax ay ∧ PtAt wr ad m1 bx bY ∧ PtAt wr ad m2 cx cy ∧ Below w.heap.size w wr)
        clear pA pB pC
        have S1 := HO _ _ S0 (below1 wr (Obj.cells #[.int .i64 ax, .int .i64 ay] 49))
        have A1 := PointOk.box1 wr ax ay 49 (k := wr.heap.size) rfl
        obtain ⟨⟨_, _⟩, _, ⟨_, _⟩, ⟨_, _⟩, ⟨_, _⟩, _⟩ := id S0
        go_wp2_with fail
        generalize wr.alloc (Obj.cells #[.int .i64 ax, .int .i64 ay] 49) = v1 at *
        generalize wr.heap.size = ka at *
        have SD := HO _ _ S1 ((Below.refl _ _).drew)
        have AD := A1.later ((Below.refl _ _).drew)
        have HS0 : v1.drew.cell? ⟨w.heap.size, 0, none⟩ = some (.slice (some ad) n cap) ∧ v1.drew.cell? (ad.add (m1 * 2)) = some (.int .i64 bx) ∧ v1.drew.cell? ⟨(ad.add (m1 * 2)).block, (ad.add (m1 * 2)).off + 1, none⟩ = some (.int .i64 bY) := ⟨SD.1.1, SD.2.2.2.1⟩
        have SA := HO _ _ SD (below1 v1.drew (Obj.cells #[.int .i64 0, .int .i64 0] 49))
        have HSA : (v1.drew.alloc (Obj.cells #[.int .i64 0, .int .i64 0] 49)).cell? ⟨w.heap.size, 0, none⟩ = some (.slice (some ad) n cap) ∧ (v1.drew.alloc (Obj.cells #[.int .i64 0, .int .i64 0] 49)).cell? (ad.add (m1 * 2)) = some (.int .i64 bx) ∧ (v1.drew.alloc (Obj.cells #[.int .i64 0, .int .i64 0] 49)).cell? ⟨(ad.add (m1 * 2)).block, (ad.add (m1 * 2)).off + 1, none⟩ = some (.int .i64 bY) := ⟨SA.1.1, SA.2.2.2.1⟩
        have SB := HO _ _ SD (below1 v1.drew (Obj.cells #[.int .i64 bx, .int .i64 bY] 49))
        have HSB : (v1.drew.alloc (Obj.cells #[.int .i64 bx, .int .i64 bY] 49)).cell? ⟨w.heap.size, 0, none⟩ = some (.slice (some ad) n cap) ∧ (v1.drew.alloc (Obj.cells #[.int .i64 bx, .int .i64 bY] 49)).cell? (ad.add (m1 * 2)) = some (.int .i64 bx) ∧ (v1.drew.alloc (Obj.cells #[.int .i64 bx, .int .i64 bY] 49)).cell? ⟨(ad.add (m1 * 2)).block, (ad.add (m1 * 2)).off + 1, none⟩ = some (.int .i64 bY) := ⟨SB.1.1, SB.2.2.2.1⟩
        have AB := AD.later (below1 v1.drew (Obj.cells #[.int .i64 bx, .int .i64 bY] 49))
        have B1 := PointOk.box1 v1.drew bx bY 49 (k := v1.drew.heap.size) rfl
        go_region_held3 (fun W => W.cell? ⟨w.heap.size, 0, none⟩ = some (.slice (some ad) n cap) ∧ W.cell? (ad.add (m1 * 2)) = some (.int .i64 bx) ∧ W.cell? ⟨(ad.add (m1 * 2)).block, (ad.add (m1 * 2)).off + 1, none⟩ = some (.int .i64 bY)) (first | exact HS0 | exact HSA | exact HSB | assumption) (fail)
        clear S0 S1 SD AD HS0 SA HSA HSB A1
        have HO : ∀ W W' : World, (Pts.BoxR W (w.heap.size) (.slice (some ad) n cap) ∧ PtsAt W w.heap.size (some ad) ps ∧ PtAt W ad k ax ay ∧ PtAt W ad m1 bx bY ∧ PtAt W ad m2 cx cy ∧ PointOk.Box W ka ax ay ∧ PointOk.Box W v1.heap.size bx bY ∧ Below w.heap.size w W) → Below W.heap.size W W' → (Pts.BoxR W' (w.heap.size) (.slice (some ad) n cap) ∧ PtsAt W' w.heap.size (some ad) ps ∧ PtAt W' ad k ax ay ∧ PtAt W' ad m1 bx bY ∧ PtAt W' ad m2 cx cy ∧ PointOk.Box W' ka ax ay ∧ PointOk.Box W' v1.heap.size bx bY ∧ Below w.heap.size w W') := fun W W' ⟨h0, x0, x1, x2, x3, x4, x5, hb⟩ h => ⟨h0.later h, x0.later (h.mono hb.size), x1.later bA (h.mono hb.size), x2.later bA (h.mono hb.size), x3.later bA (h.mono hb.size), x4.later h, x5.later h, hb.trans (h.mono hb.size)⟩
        have S0 : (fun W => Pts.BoxR W (w.heap.size) (.slice (some ad) n cap) ∧ PtsAt W w.heap.size (some ad) ps ∧ PtAt W ad k ax ay ∧ PtAt W ad m1 bx bY ∧ PtAt W ad m2 cx cy ∧ PointOk.Box W ka ax ay ∧ PointOk.Box W v1.heap.size bx bY ∧ Below w.heap.size w W) (v1.alloc (Obj.cells #[.int .i64 bx, .int .i64 bY] 49)).drew := ⟨SB.1, SB.2.1, SB.2.2.1, SB.2.2.2.1, SB.2.2.2.2.1, AB, B1, SB.2.2.2.2.2⟩
        clear SB AB B1
        generalize (v1.alloc (Obj.cells #[.int .i64 bx, .int .i64 bY] 49)).drew = v2 at *
        generalize v1.heap.size = kb at *
        clear HO
        have HO : ∀ W W' : World, (Pts.BoxR W (w.heap.size) (.slice (some ad) n cap) ∧ PtsAt W w.heap.size (some ad) ps ∧ PtAt W ad k ax ay ∧ PtAt W ad m1 bx bY ∧ PtAt W ad m2 cx cy ∧ PointOk.Box W ka ax ay ∧ PointOk.Box W kb bx bY ∧ Below w.heap.size w W) → Below W.heap.size W W' → (Pts.BoxR W' (w.heap.size) (.slice (some ad) n cap) ∧ PtsAt W' w.heap.size (some ad) ps ∧ PtAt W' ad k ax ay ∧ PtAt W' ad m1 bx bY ∧ PtAt W' ad m2 cx cy ∧ PointOk.Box W' ka ax ay ∧ PointOk.Box W' kb bx bY ∧ Below w.heap.size w W') := fun W W' ⟨h0, x0, x1, x2, x3, x4, x5, hb⟩ h => ⟨h0.later h, x0.later (h.mono hb.size), x1.later bA (h.mono hb.size), x2.later bA (h.mono hb.size), x3.later bA (h.mono hb.size), x4.later h, x5.later h, hb.trans (h.mono hb.size)⟩
        replace S0 : Pts.BoxR v2 (w.heap.size) (.slice (some ad) n cap) ∧ PtsAt v2 w.heap.size (some ad) ps ∧ PtAt v2 ad k ax ay ∧ PtAt v2 ad m1 bx bY ∧ PtAt v2 ad m2 cx cy ∧ PointOk.Box v2 ka ax ay ∧ PointOk.Box v2 kb bx bY ∧ Below w.heap.size w v2 := S0
        obtain ⟨⟨_, _⟩, _, ⟨_, _⟩, ⟨_, _⟩, ⟨_, _⟩, ⟨_, _⟩, ⟨_, _⟩, _⟩ := id S0
        by_cases h0 : t = 0
        · subst h0
          have E : Hid (r = false) := Lib.hid (by rw [← HR.out, roomB_round (k := k) (by omega) (roundB_bend HB2.out)])
          clear HR HM HN HB2 hround hl
          go_wp2_with fail
          refine Settle.region (fun W => Pts.BoxR W (w.heap.size) (.slice (some ad) n cap) ∧ PtsAt W w.heap.size (some ad) ps ∧ PtAt W ad k ax ay ∧ PtAt W ad m1 bx bY ∧ PtAt W ad m2 cx cy ∧ PointOk.Box W ka ax ay ∧ PointOk.Box W kb bx bY ∧ Below w.heap.size w W) (by kernel_rfl) (by kernel_rfl) (by kernel_rfl) (by kernel_rfl) (HO _ _ S0 ((Below.refl _ _).drew)) ?_
          clear S0
          repeat (first
            | (refine Settle.Settles.off (by rfl) ?_; simp only [Act.put, List.setIfInBounds_toArray, List.set_cons_zero, List.set_cons_succ])
            | (refine Settle.Settles.quiet (v := ?_) (by rfl) ?_ ?_
               rotate_left
               · (intro W hS; obtain ⟨⟨_, _⟩, _, ⟨_, _⟩, ⟨_, _⟩, ⟨_, _⟩, ⟨_, _⟩, ⟨_, _⟩, _⟩ := hS; go_simp; with_reducible rfl)
               simp only [Act.put, List.setIfInBounds_toArray, List.set_cons_zero, List.set_cons_succ])
            | (refine Settle.Settles.call (v := ?_) (f := ?_) (args := ?_) (by rfl) ?_ ?_ ?_
               rotate_left 3
               · (intro W; go_simp; refine ⟨?_, ?_⟩ <;> with_reducible rfl)
               · (intro W hS; first | (go_at_call 113; (with_reducible refine (QT.out _).mono ?_); rintro e W1 ⟨rfl, hb⟩; refine ⟨?_, HO _ _ hS hb⟩; with_reducible rfl))
               simp only [Act.put, List.setIfInBounds_toArray, List.set_cons_zero, List.set_cons_succ]))
          refine Settle.Settles.nil ?_
          intro wr S0
          obtain ⟨⟨_, _⟩, _, ⟨_, _⟩, ⟨_, _⟩, ⟨_, _⟩, ⟨_, _⟩, ⟨_, _⟩, _⟩ := id S0
          go_wp2_with fail
          go_ret
          exact ⟨ret_bool E.out.symm, S0.2.2.2.2.2.2.2⟩
        have hb0 : (t == 0) = false := beq_eq_false_iff_ne.2 h0
        go_wp2_with fail
        refine Settle.region (fun W => Pts.BoxR W (w.heap.size) (.slice (some ad) n cap) ∧ PtsAt W w.heap.size (some ad) ps ∧ PtAt W ad k ax ay ∧ PtAt W ad m1 bx bY ∧ PtAt W ad m2 cx cy ∧ PointOk.Box W ka ax ay ∧ PointOk.Box W kb bx bY ∧ Below w.heap.size w W) (by kernel_rfl) (by kernel_rfl) (by kernel_rfl) (by kernel_rfl) (HO _ _ S0 ((Below.refl _ _).drew)) ?_
        clear S0
        repeat (first
          | (refine Settle.Settles.off (by rfl) ?_; simp only [Act.put, List.setIfInBounds_toArray, List.set_cons_zero, List.set_cons_succ])
          | (refine Settle.Settles.quiet (v := ?_) (by rfl) ?_ ?_
             rotate_left
             · (intro W hS; obtain ⟨⟨_, _⟩, _, ⟨_, _⟩, ⟨_, _⟩, ⟨_, _⟩, ⟨_, _⟩, ⟨_, _⟩, _⟩ := hS; go_simp; with_reducible rfl)
             simp only [Act.put, List.setIfInBounds_toArray, List.set_cons_zero, List.set_cons_succ])
          | (refine Settle.Settles.call (v := ?_) (f := ?_) (args := ?_) (by rfl) ?_ ?_ ?_
             rotate_left 3
             · (intro W; go_simp; refine ⟨?_, ?_⟩ <;> with_reducible rfl)
             · (intro W hS; first | (go_at_call 113; (with_reducible refine (QT.out _).mono ?_); rintro e W1 ⟨rfl, hb⟩; refine ⟨?_, HO _ _ hS hb⟩; with_reducible rfl))
             simp only [Act.put, List.setIfInBounds_toArray, List.set_cons_zero, List.set_cons_succ]))
        refine Settle.Settles.nil ?_
        intro wr S0
        obtain ⟨⟨_, _⟩, _, ⟨_, _⟩, ⟨_, _⟩, ⟨_, _⟩, ⟨_, _⟩, ⟨_, _⟩, _⟩ := id S0
        go_wp2_with fail
        have HB3 : Hid (bendAt ps k ≠ 0) := Lib.hid (by rw [HB2.out]; exact h0)
        clear QT HB2 h0
        go_loopw [8] (fun i wr => ∃ i0 : Nat, i0 ≤ n ∧ i = .int .i64 i0 ∧ Hid (∀ j, j < i0 → nearB ps.length k j = true ∨ meetAt ps k j = false) ∧ (Pts.BoxR wr (w.heap.size) (.slice (some ad) n cap) ∧ PtsAt wr w.heap.size (some ad) ps ∧ PtAt wr ad k ax ay ∧ PtAt wr ad m1 bx bY ∧ PtAt wr ad m2 cx cy ∧ PointOk.Box wr ka ax ay ∧ PointOk.Box wr kb bx bY ∧ Below w.heap.size w wr))
          (fun i _ => n - (intOf i).toNat)
        case atStart => exact ⟨0, Nat.zero_le _, rfl, Lib.hid (fun j hj => absurd hj (by omega)), S0⟩
        case round =>
          clear S0
          obtain ⟨i, hi, rfl, hfar, S0⟩ := hrel
          obtain ⟨⟨_, _⟩, _, ⟨_, _⟩, ⟨_, _⟩, ⟨_, _⟩, ⟨_, _⟩, ⟨_, _⟩, _⟩ := id S0
          by_cases hin : i < n
          · have hq : (i + 1) % n < n := Nat.mod_lt _ (by omega)
            have f0 := pt_at (ps := ps) (k := i) (by omega)
            have f1 := pt_at (ps := ps) (k := (i + 1) % n) (by omega)
            have g1 := succ_emod n i
            have g1t : ((i : Int) + 1).tmod (n : Int) = (((i + 1) % n : Nat) : Int) := by rw [Int.tmod_eq_emod_of_nonneg (by omega)]; exact g1
            have HMi := Lib.hid (HM.out i)
            have HNi := Lib.hid (HN.out i)
            generalize (i + 1) % n = q at *
            obtain ⟨dx, dy, hd⟩ : ∃ x y, pt ps i = (x, y) := ⟨_, _, rfl⟩
            obtain ⟨fx, fy, hf⟩ : ∃ x y, pt ps q = (x, y) := ⟨_, _, rfl⟩
            rw [hd] at f0 HMi
            rw [hf] at f1 HMi
            obtain ⟨ad2, eA2, _, pD⟩ := S0.2.1.get f0
            injection eA2 with eA2
            subst eA2
            obtain ⟨ad2, eA2, _, pF⟩ := S0.2.1.get f1
            injection eA2 with eA2
            subst eA2
            have hi1 : (i : Int) < (n : Int) := by omega
            have hi0 : (0 : Int) ≤ (i : Int) := by omega
            have hq1 : (q : Int) < (n : Int) := by omega
            have hq0 : (0 : Int) ≤ (q : Int) := by omega
            have ui1 : IntKind.i64.wrap ((i : Int) + 1) = (i : Int) + 1 := IntWalk.i64_in _ (by omega)
            clear hd hf f0 f1
            by_cases c1 : i = k
            · have hnear : nearB ps.length k i = true := by rw [HNi.out]; simp [c1]
              replace c1 := c1.symm
              subst c1
              have hfar2 : Hid (∀ j, j < k + 1 → nearB ps.length k j = true ∨ meetAt ps k j = false) := Lib.hid (by
                intro j hj
                rcases Nat.lt_or_ge j k with h | h
                · exact hfar.out j h
                · obtain rfl : j = k := by omega
                  exact .inl hnear)
              clear hfar HMi HNi HM HN HR hl hround HB3 hnear
              go_wp2_with fail
              first
                | exact ⟨⟨k + 1, by omega, by go_num, hfar2, S0⟩, by simp [intOf]; omega⟩
                | (go_roundw <;> first | exact ⟨k + 1, by omega, by go_num, hfar2, S0⟩ | (simp [intOf]; omega))
            by_cases c2 : q = k
            · have hnear : nearB ps.length k i = true := by rw [HNi.out]; simp [c2]
              replace c2 := c2.symm
              subst c2
              have hfar2 : Hid (∀ j, j < i + 1 → nearB ps.length k j = true ∨ meetAt ps k j = false) := Lib.hid (by
                intro j hj
                rcases Nat.lt_or_ge j i with h | h
                · exact hfar.out j h
                · obtain rfl : j = i := by omega
                  exact .inl hnear)
              clear hfar HMi HNi HM HN HR hl hround HB3 hnear
              go_wp2_with fail
              first
                | exact ⟨⟨i + 1, by omega, by go_num, hfar2, S0⟩, by simp [intOf]; omega⟩
                | (go_roundw <;> first | exact ⟨i + 1, by omega, by go_num, hfar2, S0⟩ | (simp [intOf]; omega))
            by_cases c3 : m1 = i
            · have hnear : nearB ps.length k i = true := by rw [HNi.out]; simp [c3]
              subst c3
              have hfar2 : Hid (∀ j, j < m1 + 1 → nearB ps.length k j = true ∨ meetAt ps k j = false) := Lib.hid (by
                intro j hj
                rcases Nat.lt_or_ge j m1 with h | h
                · exact hfar.out j h
                · obtain rfl : j = m1 := by omega
                  exact .inl hnear)
              clear hfar HMi HNi HM HN HR hl hround HB3 hnear
              go_wp2_with fail
              first
                | exact ⟨⟨m1 + 1, by omega, by go_num, hfar2, S0⟩, by simp [intOf]; omega⟩
                | (go_roundw <;> first | exact ⟨m1 + 1, by omega, by go_num, hfar2, S0⟩ | (simp [intOf]; omega))
            have b1 : ((i : Int) == (k : Int)) = false := beq_eq_false_iff_ne.2 (by omega)
            have b2 : ((q : Int) == (k : Int)) = false := beq_eq_false_iff_ne.2 (by omega)
            have b3 : ((m1 : Int) == (i : Int)) = false := beq_eq_false_iff_ne.2 (by omega)
            have hnear : Hid (nearB ps.length k i = false) := Lib.hid (by rw [HNi.out]; simp [c1, c2, c3])
            obtain ⟨mb, hmb⟩ : ∃ b, meetB ax ay bx bY dx dy fx fy = b := ⟨_, rfl⟩
            have QM : Hid (∀ w, _) := Lib.hid fun w => WallSpec.doMeet ax ay bx bY dx dy fx fy w
            rw [hmb] at QM
            have HM2 : Hid (meetAt ps k i = mb) := Lib.hid (by rw [HMi.out, ← hmb]; rfl)
            clear HMi HNi hmb
            have HO : ∀ W W' : World, (Pts.BoxR W (w.heap.size) (.slice (some ad) n cap) ∧ PtsAt W w.heap.size (some ad) ps ∧ PtAt W ad k ax ay ∧ PtAt W ad m1 bx bY ∧ PtAt W ad m2 cx cy ∧ PointOk.Box W ka ax ay ∧ PointOk.Box W kb bx bY ∧ PtAt W ad i dx dy ∧ PtAt W ad q fx fy ∧ Below w.heap.size w W) → Below W.heap.size W W' → (Pts.BoxR W' (w.heap.size) (.slice (some ad) n cap) ∧ PtsAt W' w.heap.size (some ad) ps ∧ PtAt W' ad k ax ay ∧ PtAt W' ad m1 bx bY ∧ PtAt W' ad m2 cx cy ∧ PointOk.Box W' ka ax ay ∧ PointOk.Box W' kb bx bY ∧ PtAt W' ad i dx dy ∧ PtAt W' ad q fx fy ∧ Below w.heap.size w W') := fun W W' ⟨h0, x0, x1, x2, x3, x4, x5, x6, x7, hb⟩ h => ⟨h0.later h, x0.later (h.mono hb.size), x1.later bA (h.mono hb.size), x2.later bA (h.mono hb.size), x3.later bA (h.mono hb.size), x4.later h, x5.later h, x6.later bA (h.mono hb.size), x7.later bA (h.mono hb.size), hb.trans (h.mono hb.size)⟩
            replace S0 := (⟨S0.1, S0.2.1, S0.2.2.1, S0.2.2.2.1, S0.2.2.2.2.1, S0.2.2.2.2.2.1, S0.2.2.2.2.2.2.1, pD, pF, S0.2.2.2.2.2.2.2⟩ : Pts.BoxR wr (w.heap.size) (.slice (some ad) n cap) ∧ PtsAt wr w.heap.size (some ad) ps ∧ PtAt wr ad k ax ay ∧ PtAt wr ad m1 bx bY ∧ PtAt wr ad m2 cx cy ∧ PointOk.Box wr ka ax ay ∧ PointOk.Box wr kb bx bY ∧ PtAt wr ad i dx dy ∧ PtAt wr ad q fx fy ∧ Below w.heap.size w wr)
            clear pD pF
            obtain ⟨⟨_, _⟩, _, ⟨_, _⟩, ⟨_, _⟩, ⟨_, _⟩, ⟨_, _⟩, ⟨_, _⟩, ⟨_, _⟩, ⟨_, _⟩, _⟩ := id S0
            cases mb
            · skip
              have hfar2 : Hid (∀ j, j < i + 1 → nearB ps.length k j = true ∨ meetAt ps k j = false) := Lib.hid (by
                intro j hj
                rcases Nat.lt_or_ge j i with h | h
                · exact hfar.out j h
                · obtain rfl : j = i := by omega
                  exact .inr HM2.out)
              clear hfar HM HN HR hl hround HB3 hnear HM2
              go_wp2_with fail
              refine Settle.region (fun W => Pts.BoxR W (w.heap.size) (.slice (some ad) n cap) ∧ PtsAt W w.heap.size (some ad) ps ∧ PtAt W ad k ax ay ∧ PtAt W ad m1 bx bY ∧ PtAt W ad m2 cx cy ∧ PointOk.Box W ka ax ay ∧ PointOk.Box W kb bx bY ∧ PtAt W ad i dx dy ∧ PtAt W ad q fx fy ∧ Below w.heap.size w W) (by kernel_rfl) (by kernel_rfl) (by kernel_rfl) (by kernel_rfl) (HO _ _ S0 ((Below.refl _ _).drew)) ?_
              clear S0
              repeat (first
                | (refine Settle.Settles.off (by rfl) ?_; simp only [Act.put, List.setIfInBounds_toArray, List.set_cons_zero, List.set_cons_succ])
                | (refine Settle.Settles.quiet (v := ?_) (by rfl) ?_ ?_
                   rotate_left
                   · (intro W hS; obtain ⟨⟨_, _⟩, _, ⟨_, _⟩, ⟨_, _⟩, ⟨_, _⟩, ⟨_, _⟩, ⟨_, _⟩, ⟨_, _⟩, ⟨_, _⟩, _⟩ := hS; go_simp; with_reducible rfl)
                   simp only [Act.put, List.setIfInBounds_toArray, List.set_cons_zero, List.set_cons_succ])
                | (refine Settle.Settles.call (v := ?_) (f := ?_) (args := ?_) (by rfl) ?_ ?_ ?_
                   rotate_left 3
                   · (intro W; go_simp; refine ⟨?_, ?_⟩ <;> with_reducible rfl)
                   · (intro W hS; first | (go_at_call 115; (with_reducible refine (QM.out _).mono ?_); rintro e W1 ⟨rfl, hb⟩; refine ⟨?_, HO _ _ hS hb⟩; with_reducible rfl))
                   simp only [Act.put, List.setIfInBounds_toArray, List.set_cons_zero, List.set_cons_succ]))
              refine Settle.Settles.nil ?_
              intro wr S0
              obtain ⟨⟨_, _⟩, _, ⟨_, _⟩, ⟨_, _⟩, ⟨_, _⟩, ⟨_, _⟩, ⟨_, _⟩, ⟨_, _⟩, ⟨_, _⟩, _⟩ := id S0
              go_wp2_with fail
              first
                | exact ⟨⟨i + 1, by omega, by go_num, hfar2, S0.1, S0.2.1, S0.2.2.1, S0.2.2.2.1, S0.2.2.2.2.1, S0.2.2.2.2.2.1, S0.2.2.2.2.2.2.1, S0.2.2.2.2.2.2.2.2.2⟩, by simp [intOf]; omega⟩
                | (go_roundw <;> first | exact ⟨i + 1, by omega, by go_num, hfar2, S0.1, S0.2.1, S0.2.2.1, S0.2.2.2.1, S0.2.2.2.2.1, S0.2.2.2.2.2.1, S0.2.2.2.2.2.2.1, S0.2.2.2.2.2.2.2.2.2⟩ | (simp [intOf]; omega))
            · have E : Hid (r = false) := Lib.hid (by rw [← HR.out, roomB_round (k := k) (by omega) (roundB_meet (i := i) (by omega) hnear.out HM2.out)])
              clear hfar HM HN HR hl hround HB3 hnear HM2
              go_wp2_with fail
              refine Settle.region (fun W => Pts.BoxR W (w.heap.size) (.slice (some ad) n cap) ∧ PtsAt W w.heap.size (some ad) ps ∧ PtAt W ad k ax ay ∧ PtAt W ad m1 bx bY ∧ PtAt W ad m2 cx cy ∧ PointOk.Box W ka ax ay ∧ PointOk.Box W kb bx bY ∧ PtAt W ad i dx dy ∧ PtAt W ad q fx fy ∧ Below w.heap.size w W) (by kernel_rfl) (by kernel_rfl) (by kernel_rfl) (by kernel_rfl) (HO _ _ S0 ((Below.refl _ _).drew)) ?_
              clear S0
              repeat (first
                | (refine Settle.Settles.off (by rfl) ?_; simp only [Act.put, List.setIfInBounds_toArray, List.set_cons_zero, List.set_cons_succ])
                | (refine Settle.Settles.quiet (v := ?_) (by rfl) ?_ ?_
                   rotate_left
                   · (intro W hS; obtain ⟨⟨_, _⟩, _, ⟨_, _⟩, ⟨_, _⟩, ⟨_, _⟩, ⟨_, _⟩, ⟨_, _⟩, ⟨_, _⟩, ⟨_, _⟩, _⟩ := hS; go_simp; with_reducible rfl)
                   simp only [Act.put, List.setIfInBounds_toArray, List.set_cons_zero, List.set_cons_succ])
                | (refine Settle.Settles.call (v := ?_) (f := ?_) (args := ?_) (by rfl) ?_ ?_ ?_
                   rotate_left 3
                   · (intro W; go_simp; refine ⟨?_, ?_⟩ <;> with_reducible rfl)
                   · (intro W hS; first | (go_at_call 115; (with_reducible refine (QM.out _).mono ?_); rintro e W1 ⟨rfl, hb⟩; refine ⟨?_, HO _ _ hS hb⟩; with_reducible rfl))
                   simp only [Act.put, List.setIfInBounds_toArray, List.set_cons_zero, List.set_cons_succ]))
              refine Settle.Settles.nil ?_
              intro wr S0
              obtain ⟨⟨_, _⟩, _, ⟨_, _⟩, ⟨_, _⟩, ⟨_, _⟩, ⟨_, _⟩, ⟨_, _⟩, ⟨_, _⟩, ⟨_, _⟩, _⟩ := id S0
              go_wp2_with fail
              go_ret
              exact ⟨ret_bool E.out.symm, S0.2.2.2.2.2.2.2.2.2⟩
          · obtain rfl : n = i := by omega
            have hround2 : Hid (∀ j, j < k + 1 → roundB ps j = true) := Lib.hid (by
              intro j hj
              rcases Nat.lt_or_ge j k with h | h
              · exact hround.out j h
              · obtain rfl : j = k := by omega
                exact roundB_of HB3.out (fun i hi => hfar.out i (by omega)))
            clear hfar HM HN HR hl hround HB3
            go_wp2_with fail
            first
              | exact ⟨⟨k + 1, by omega, by go_num, hround2, S0.1, S0.2.1, S0.2.2.2.2.2.2.2⟩, by simp [intOf]; omega⟩
              | (go_roundw <;> first | exact ⟨k + 1, by omega, by go_num, hround2, S0.1, S0.2.1, S0.2.2.2.2.2.2.2⟩ | (simp [intOf]; omega))
      · obtain rfl : n = k := by omega
        have hrs : Hid (r = decide (0 < dblTo ps n)) := Lib.hid (by rw [← HR.out, roomB_last (by omega) hall.out (by rw [hl]; exact hround.out), hl])
        have HO : ∀ W W' : World, (Pts.BoxR W (w.heap.size) (.slice A n cap) ∧ PtsAt W w.heap.size A ps ∧ Below w.heap.size w W) → Below W.heap.size W W' → (Pts.BoxR W' (w.heap.size) (.slice A n cap) ∧ PtsAt W' w.heap.size A ps ∧ Below w.heap.size w W') := fun W W' ⟨h0, x0, hb⟩ h => ⟨h0.later h, x0.later (h.mono hb.size), hb.trans (h.mono hb.size)⟩
        have QD : Hid (∀ w hp, _) := Lib.hid fun w hp => double A n cap w ps hl h3.2 hall.out hp
        clear HR hround hl hkn
        generalize dblTo ps n = d at *
        go_wp2_with fail
        refine (QD.out _ (S0.2.1.wide S0.2.2.size)).mono ?_
        rintro e w2 ⟨rfl, hb_⟩
        replace S0 := HO _ _ S0 hb_
        go_wp2_with fail
        go_ret
        exact ⟨ret_bool hrs.out.symm, S0.2.2⟩

end Go.Proofs.Ythokeedmccfalaa.RoomOkSpec

