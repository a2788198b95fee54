/-
  What the model's functions on corners do, as contracts: what each answers; new memory alone is written.
-/
import Derived.Test.YtaphdannaaiidaaWallOfSpec
import Derived.Test.YtaphdannaaiidaaFacts
import Derived.Test.YtaphdannaaiidaaGround
namespace Go.Proofs.Ytaphdannaaiidaa.CornerSpec
open Go.RowKit Own PointMath WallMath RoomMath Pts Blk AreaMath
open PointOk (ret_bool ret_i64 below1 below2 below3)

set_option maxRecDepth 100000 in
set_option maxHeartbeats 1600000 in
theorem reflex7 (A : Option Addr) (n cap k : Nat) (w : World) (ps : List (Int × Int)) (hl : ps.length = n) (h3 : 3 ≤ n ∧ n ≤ 10) (hk : k < n) (hok : okAll ps = true) (hp : PtsAt w w.heap.size A ps) :
    Calls Try.prog 68 #[.slice A n cap, .int .i64 (k : Int)] w fun e w' => e = .returned (.bool (reflB ps k)) ∧ Below w.heap.size w w' := by
  obtain ⟨r, hr⟩ : ∃ r, reflB ps k = r := ⟨_, rfl⟩
  have HR := Lib.hid hr
  rw [hr]
  clear hr
  have hm : (k + 1) % n < n := Nat.mod_lt _ (by omega)
  have hm2 : (k + (n - 1)) % n < n := Nat.mod_lt _ (by omega)
  have p0 := pt_at (ps := ps) (k := k) (by omega)
  have p1 := pt_at (ps := ps) (k := (k + 1) % n) (by omega)
  have p2 := pt_at (ps := ps) (k := (k + (n - 1)) % n) (by omega)
  have o0 := okP_sm (okAll_at hok (k := k) (by omega))
  have o1 := okP_sm (okAll_at hok (k := (k + 1) % n) (by omega))
  have o2 := okP_sm (okAll_at hok (k := (k + (n - 1)) % n) (by omega))
  have HB : Hid (bendBack ps k = turnP (pt ps ((k + (n - 1)) % n)) (pt ps k) (pt ps ((k + 1) % n))) := Lib.hid (by unfold bendBack; rw [hl])
  have e1 := succ_emod n k
  have e1t : ((k : Int) + 1).tmod (n : Int) = (((k + 1) % n : Nat) : Int) := by rw [Int.tmod_eq_emod_of_nonneg (by omega)]; exact e1
  have e2 : ((k : Int) + (n : Int) - 1) % (n : Int) = (((k + (n - 1)) % n : Nat) : Int) := by
    rw [Int.natCast_emod, Int.natCast_add, show ((n - 1 : Nat) : Int) = (n : Int) - 1 by omega]; congr 1; omega
  have e2t : ((k : Int) + (n : Int) - 1).tmod (n : Int) = (((k + (n - 1)) % n : Nat) : Int) := by rw [Int.tmod_eq_emod_of_nonneg (by omega)]; exact e2
  generalize (k + 1) % n = m1 at *
  generalize (k + (n - 1)) % n = m2 at *
  obtain ⟨ax, ay, ha⟩ : ∃ x y, pt ps k = (x, y) := ⟨_, _, rfl⟩
  obtain ⟨bx, bY, hbb⟩ : ∃ x y, pt ps m1 = (x, y) := ⟨_, _, rfl⟩
  obtain ⟨cx, cy, hc⟩ : ∃ x y, pt ps m2 = (x, y) := ⟨_, _, rfl⟩
  rw [ha] at p0 o0 HB
  rw [hbb] at p1 o1 HB
  rw [hc] at p2 o2 HB
  obtain ⟨ad, eA, bA, pA⟩ := hp.get p0
  obtain ⟨ad2, eA2, _, pB⟩ := hp.get p1
  rw [eA] at eA2
  injection eA2 with eA2
  subst eA2
  obtain ⟨ad2, eA2, _, pC⟩ := hp.get p2
  rw [eA] at eA2
  injection eA2 with eA2
  subst eA2
  subst eA
  obtain ⟨t, ht⟩ : ∃ t, turnI cx cy ax ay bx bY = t := ⟨_, rfl⟩
  have QT : Hid (∀ w, _) := Lib.hid fun w => PointSpec.l02Turn cx cy ax ay bx bY o2 o0 o1 w
  rw [ht] at QT
  have E : Hid (decide (t < 0) = r) := Lib.hid (by rw [← HR.out, ← ht]; unfold reflB; rw [HB.out]; rfl)
  have hk1 : (k : Int) < (n : Int) := by omega
  have hk0 : (0 : Int) ≤ (k : Int) := by omega
  have hm1I : (m1 : Int) < (n : Int) := by omega
  have hm1I0 : (0 : Int) ≤ (m1 : Int) := by omega
  have hm2I : (m2 : Int) < (n : Int) := by omega
  have hm2I0 : (0 : Int) ≤ (m2 : Int) := by omega
  have hn0 : ¬ ((n : Int) = 0) := by omega
  have hn1 : ¬ (n = 0) := by omega
  have uk1 : IntKind.i64.wrap ((k : Int) + 1) = (k : Int) + 1 := IntWalk.i64_in _ (by omega)
  have uk2 : IntKind.i64.wrap ((k : Int) + (n : Int)) = (k : Int) + (n : Int) := IntWalk.i64_in _ (by omega)
  have uk3 : IntKind.i64.wrap ((k : Int) + (n : Int) - 1) = (k : Int) + (n : Int) - 1 := IntWalk.i64_in _ (by omega)
  clear hl hp HB p0 p1 p2 o0 o1 o2 ht ha hbb hc hok HR
  go_enter Try.func68, Try.ntmps68
  go_wp2_with fail
  have HO : ∀ W W' : World, (PtAt W ad k ax ay ∧ PtAt W ad m1 bx bY ∧ PtAt W ad m2 cx cy ∧ Below w.heap.size w W) → Below W.heap.size W W' → (PtAt W' ad k ax ay ∧ PtAt W' ad m1 bx bY ∧ PtAt W' ad m2 cx cy ∧ Below w.heap.size w W') := fun W W' ⟨x0, x1, x2, hb⟩ h => ⟨x0.later bA (h.mono hb.size), x1.later bA (h.mono hb.size), x2.later bA (h.mono hb.size), hb.trans (h.mono hb.size)⟩
  have S0 : PtAt w ad k ax ay ∧ PtAt w ad m1 bx bY ∧ PtAt w ad m2 cx cy ∧ Below w.heap.size w w := ⟨pA, pB, pC, Below.refl _ _⟩
  clear pA pB pC
  refine Settle.region (fun W => PtAt W ad k ax ay ∧ PtAt W ad m1 bx bY ∧ PtAt W ad m2 cx cy ∧ Below w.heap.size w W) (by kernel_rfl) (by kernel_rfl) (by kernel_rfl) (by kernel_rfl) (HO _ _ S0 ((Below.refl _ _).drew)) ?_
  clear S0
  repeat (first
    | (refine Settle.Settles.off (by rfl) ?_; simp only [Act.put, List.setIfInBounds_toArray, List.set_cons_zero, List.set_cons_succ])
    | (refine Settle.Settles.quiet (v := ?_) (by rfl) ?_ ?_
       rotate_left
       · (intro W hS; obtain ⟨⟨_, _⟩, ⟨_, _⟩, ⟨_, _⟩, _⟩ := hS; go_simp; with_reducible rfl)
       simp only [Act.put, List.setIfInBounds_toArray, List.set_cons_zero, List.set_cons_succ])
    | (refine Settle.Settles.call (v := ?_) (f := ?_) (args := ?_) (by rfl) ?_ ?_ ?_
       rotate_left 3
       · (intro W; go_simp; refine ⟨?_, ?_⟩ <;> with_reducible rfl)
       · (intro W hS; first | (go_at_call 80; (with_reducible refine (QT.out _).mono ?_); rintro e W1 ⟨rfl, hb⟩; refine ⟨?_, HO _ _ hS hb⟩; with_reducible rfl))
       simp only [Act.put, List.setIfInBounds_toArray, List.set_cons_zero, List.set_cons_succ]))
  refine Settle.Settles.nil ?_
  intro wr S0
  obtain ⟨⟨_, _⟩, ⟨_, _⟩, ⟨_, _⟩, _⟩ := id S0
  go_wp2_with fail
  go_ret
  exact ⟨ret_bool E.out, S0.2.2.2⟩

set_option maxRecDepth 100000 in
set_option maxHeartbeats 1600000 in
theorem isReflex (A : Option Addr) (n cap : Nat) (k : Int) (w : World) (ps : List (Int × Int)) (hl : ps.length = n) (hn : n ≤ 1048576) (hp : PtsAt w w.heap.size A ps) :
    Calls Try.prog 26 #[.agg #[.slice A n cap], .int .i64 k] w fun e w' => e = .returned (.bool (reflexB ps k)) ∧ Below w.heap.size w w' := by
  obtain ⟨r, hr⟩ : ∃ r, reflexB ps k = r := ⟨_, rfl⟩
  have HR := Lib.hid hr
  rw [hr]
  clear hr
  go_enter Try.func26, Try.ntmps26
  go_wp2_with fail
  have X0 := Pts.boxR w (.slice A n cap) 33 (k := w.heap.size) (by simp)
  have b0 := PointOk.below1 w (Obj.cells #[.slice A n cap] 33)
  have HO : ∀ W W' : World, (Pts.BoxR W (w.heap.size) (.slice A n cap) ∧ PtsAt W w.heap.size A ps ∧ Below w.heap.size w W) → Below W.heap.size W W' → (Pts.BoxR W' (w.heap.size) (.slice A n cap) ∧ PtsAt W' w.heap.size A ps ∧ Below w.heap.size w W') := fun W W' ⟨h0, x0, hb⟩ h => ⟨h0.later h, x0.later (h.mono hb.size), hb.trans (h.mono hb.size)⟩
  have hz0_ : Hid (((w.alloc (Obj.cells #[.slice A n cap] 33))).heap.size = w.heap.size + 1) := Lib.hid (by simp)
  have Y0 : PtsAt ((w.alloc (Obj.cells #[.slice A n cap] 33))) w.heap.size A ps := hp.later b0
  generalize (w.alloc (Obj.cells #[.slice A n cap] 33)) = w0 at X0 Y0 b0 hz0_ ⊢
  have S0 := (⟨X0, Y0, b0⟩ : Pts.BoxR w0 (w.heap.size) (.slice A n cap) ∧ PtsAt w0 w.heap.size A ps ∧ Below w.heap.size w w0)
  clear X0 Y0 b0
  obtain ⟨⟨_, _⟩, _, _⟩ := id S0
  refine (RoomOkSpec.roomOk A n cap _ ps hl hn (S0.2.1.wide S0.2.2.size)).mono ?_
  rintro e w1 ⟨rfl, hb_⟩
  replace S0 := HO _ _ S0 hb_
  clear hb_
  obtain ⟨⟨_, _⟩, _, _⟩ := id S0
  cases hr : roomB ps
  · have E : Hid (r = false) := Lib.hid (by rw [← HR.out]; unfold reflexB; rw [hr]; rfl)
    clear hl HR
    go_wp2_with fail
    go_ret
    exact ⟨ret_bool E.out.symm, S0.2.2⟩
  obtain ⟨h3, hok, _, _⟩ := roomB_yes hr
  have u0 : IntKind.i64.wrap ((n : Int) - 1) = (n : Int) - 1 := IntWalk.i64_in _ (by omega)
  go_wp2_with fail
  refine (PointOk.l01In k 0 ((n : Int) - 1) _).mono ?_
  rintro e w_ ⟨rfl, rfl⟩
  by_cases hk : 0 ≤ k ∧ k < (n : Int)
  rotate_left
  · have E : Hid (r = false) := Lib.hid (by rw [← HR.out]; unfold reflexB; rw [hl, show decide (0 ≤ k ∧ k < (n : Int)) = false from decide_eq_false hk]; simp)
    rw [show decide (0 ≤ k ∧ k ≤ (n : Int) - 1) = false from decide_eq_false (by omega)]
    clear hl HR hk
    go_wp2_with fail
    go_ret
    exact ⟨ret_bool E.out.symm, S0.2.2⟩
  rw [show decide (0 ≤ k ∧ k ≤ (n : Int) - 1) = true from decide_eq_true (by omega)]
  obtain ⟨kk, rfl⟩ := Int.eq_ofNat_of_zero_le hk.1
  have E : Hid (reflB ps kk = r) := Lib.hid (by rw [← HR.out]; unfold reflexB; rw [hr, hl, show decide (0 ≤ (kk : Int) ∧ (kk : Int) < (n : Int)) = true from decide_eq_true hk]; simp)
  have Q : Hid (∀ w hp, _) := Lib.hid fun w hp => reflex7 A n cap kk w ps hl (by omega) (by omega) hok hp
  rw [E.out] at Q
  clear hl HR hk hr hok
  go_wp2_with fail
  refine (Q.out _ (S0.2.1.wide S0.2.2.size)).mono ?_
  rintro e w3 ⟨rfl, hb_⟩
  replace S0 := HO _ _ S0 hb_
  clear hb_
  obtain ⟨⟨_, _⟩, _, _⟩ := id S0
  go_wp2_with fail
  go_ret
  exact ⟨rfl, S0.2.2⟩

theorem infoI : (Try.prog.info? 3).map (fun i => (i.zero, i.size, i.bytes)) = some (some (.int .i64 0), 1, 8) := by kernel_rfl

set_option maxRecDepth 100000 in
set_option maxHeartbeats 1600000 in
theorem reflexCorners (A : Option Addr) (n cap : Nat) (w : World) (ps : List (Int × Int)) (hl : ps.length = n) (hn : n ≤ 1048576) (hp : PtsAt w w.heap.size A ps) :
    Calls Try.prog 49 #[.agg #[.slice A n cap]] w (GivesI 3 w (reflL ps)) := by
  obtain ⟨r, hr⟩ : ∃ r, reflL ps = r := ⟨_, rfl⟩
  have HR := Lib.hid hr
  rw [hr]
  clear hr
  obtain ⟨i0, hi, hz0, hz1, hz2⟩ := info_parts infoI
  go_enter Try.func49, Try.ntmps49
  go_wp2_with fail
  have X0 := Pts.boxR w (.slice A n cap) 33 (k := w.heap.size) (by simp)
  have b0 := PointOk.below1 w (Obj.cells #[.slice A n cap] 33)
  have HO : ∀ W W' : World, (Pts.BoxR W (w.heap.size) (.slice A n cap) ∧ PtsAt W w.heap.size A ps ∧ Below w.heap.size w W) → Below W.heap.size W W' → (Pts.BoxR W' (w.heap.size) (.slice A n cap) ∧ PtsAt W' w.heap.size A ps ∧ Below w.heap.size w W') := fun W W' ⟨h0, x0, hb⟩ h => ⟨h0.later h, x0.later (h.mono hb.size), hb.trans (h.mono hb.size)⟩
  have hz0_ : Hid (((w.alloc (Obj.cells #[.slice A n cap] 33))).heap.size = w.heap.size + 1) := Lib.hid (by simp)
  have Y0 : PtsAt ((w.alloc (Obj.cells #[.slice A n cap] 33))) w.heap.size A ps := hp.later b0
  generalize (w.alloc (Obj.cells #[.slice A n cap] 33)) = w0 at X0 Y0 b0 hz0_ ⊢
  have S0 := (⟨X0, Y0, b0⟩ : Pts.BoxR w0 (w.heap.size) (.slice A n cap) ∧ PtsAt w0 w.heap.size A ps ∧ Below w.heap.size w w0)
  clear X0 Y0 b0
  obtain ⟨⟨_, _⟩, _, _⟩ := id S0
  have HO2 : ∀ W W' : World, (Pts.BoxR W (w.heap.size) (.slice A n cap) ∧ PtsAt W w.heap.size A ps ∧ Below w.heap.size w W) → Below (w.heap.size + 1) W W' → (Pts.BoxR W' (w.heap.size) (.slice A n cap) ∧ PtsAt W' w.heap.size A ps ∧ Below w.heap.size w W') := fun W W' ⟨h0, h1, hb⟩ h => ⟨⟨(h.cell (by simp)).trans h0.1, trivial⟩, h1.later (h.mono (by omega)), hb.trans (h.mono (by omega))⟩
  have hz1_ := hz0_.out
  go_loopw [3, 4] (fun v i wr => ∃ k : Nat, k ≤ n ∧ (k = 0 ∨ roomB ps = true) ∧ i = .int .i64 k ∧ wr.ownsRow (w.heap.size + 1) 3 1 v (reflTo ps k).length (icells (reflTo ps k)) ∧ w.heap.size + 1 ≤ wr.heap.size ∧ (Pts.BoxR wr (w.heap.size) (.slice A n cap) ∧ PtsAt wr w.heap.size A ps ∧ Below w.heap.size w wr))
    (fun _ i _ => n - (intOf i).toNat)
  case atStart => exact ⟨0, Nat.zero_le _, .inl rfl, rfl, by have := own_empty w0 3 1; rw [hz1_] at this; exact this, by simp; omega, HO _ _ S0 (below1 _ _)⟩
  case round =>
    clear S0
    obtain ⟨k, hkn, hc, rfl, hown, hsz, S0⟩ := hrel
    obtain ⟨⟨_, _⟩, _, _⟩ := id S0
    have hex := exit_of (ps := ps) (F := reflTo ps) hc (by omega)
    by_cases hlt : k < n
    · have hk1 : (k : Int) < (n : Int) := by omega
      have hlen := reflTo_len ps k
      have HL : Hid (reflTo ps (k + 1) = if reflB ps k then reflTo ps k ++ [(k : Int)] else reflTo ps k) := Lib.hid rfl
      replace hown := Lib.hid hown
      go_wp2_with fail
      refine (RoomOkSpec.roomOk A n cap _ ps hl hn (S0.2.1.wide S0.2.2.size)).mono ?_
      rintro e w2 ⟨rfl, hb_⟩
      replace S0 := HO _ _ S0 hb_
      replace hown := Lib.hid (own_below hown.out hb_)
      replace hsz := Nat.le_trans hsz hb_.size
      clear hb_
      obtain ⟨⟨_, _⟩, _, _⟩ := id S0
      cases hr : roomB ps
      · have E : Hid (reflTo ps k = r) := Lib.hid (by rw [← HR.out, ← hex (.inl hr)]; rfl)
        rw [E.out] at hown
        have hown2 := hown.out
        obtain ⟨A1, c1, rfl⟩ := own_shape hown2
        clear hl HR hc hex hown2 hlen HL
        go_wp2_with fail
        go_ret
        exact ⟨A1, c1, rfl, own_base hown.out (by omega), S0.2.2⟩
      obtain ⟨h3, hok, _, _⟩ := roomB_yes hr
      have QK : Hid (∀ w hp, _) := Lib.hid fun w hp => reflex7 A n cap k w ps hl (by omega) hlt hok hp
      replace hr := Lib.hid hr
      generalize reflTo ps k = l at *
      obtain ⟨m, hm⟩ : ∃ m, l.length = m := ⟨_, rfl⟩
      rw [hm] at hown hlen
      generalize reflB ps k = b at *
      clear hl hok HR hc hex
      go_wp2_with fail
      refine (QK.out _ (S0.2.1.wide S0.2.2.size)).mono ?_
      rintro e w3 ⟨rfl, hb_⟩
      replace S0 := HO _ _ S0 hb_
      replace hown := Lib.hid (own_below hown.out hb_)
      replace hsz := Nat.le_trans hsz hb_.size
      clear hb_ QK
      obtain ⟨⟨_, _⟩, _, _⟩ := id S0
      cases b
      · have HL2 : Hid (reflTo ps (k + 1) = l) := Lib.hid (by rw [HL.out]; rfl)
        clear HL
        go_wp2_with fail
        first
          | exact ⟨⟨k + 1, by omega, .inr hr.out, by go_num, by rw [HL2.out, hm]; exact hown.out, hsz, S0⟩, by simp [intOf]; omega⟩
          | (go_roundw <;> first | exact ⟨k + 1, by omega, .inr hr.out, by go_num, by rw [HL2.out, hm]; exact hown.out, hsz, S0⟩ | (simp [intOf]; omega))
      · have HL2 : Hid (reflTo ps (k + 1) = l ++ [(k : Int)]) := Lib.hid (by rw [HL.out]; rfl)
        have hown2 := hown.out
        clear HL
        go_wp2_with (at_builtin; refine wpList_append_own _ rfl _ _ 54 rfl (w.heap.size + 1) 3 i0 (.int .i64 0) 1 8 Try.underlying54 hi hz0 hz1 hz2 rfl (by decide) _ _ _ rfl (hown2.alloc _) ⟨w3.heap.size, 0, none⟩ 1 1 [.int .i64 (k : Int)] rfl rfl ?c1 ?c2 ?c3 ?c4 ?c5 ?_)
        case c1 => (intro j u hj; match j, hj with | 0, hj => (simp at hj; subst hj; simp [Addr.add]))
        case c2 => (intro u hu; simp at hu; subst hu; rfl)
        case c3 => (unfold maxLen; omega)
        case c4 => omega
        case c5 => (simp; omega)
        intro v1_ wa_ ho_ hg_ _
        have HN : Hid (wa_.ownsRow (w.heap.size + 1) 3 1 v1_ (reflTo ps (k + 1)).length (icells (reflTo ps (k + 1))) ∧ w.heap.size + 1 ≤ wa_.heap.size ∧ (Pts.BoxR wa_ (w.heap.size) (.slice A n cap) ∧ PtsAt wa_ w.heap.size A ps ∧ Below w.heap.size w wa_)) := Lib.hid (by
          have hb0 : Below (w.heap.size + 1) w3 (w3.alloc (Obj.cells #[.int .i64 (k : Int)] 3)) := (below1 _ _).mono hsz
          have hb1 := hb0.grown hg_ (by simp; omega) (fun g hg => (hown2.lt g hg).1)
          rw [HL2.out, icells_snoc, List.length_append, hm]
          exact ⟨ho_, Nat.le_trans hsz hb1.size, HO2 _ _ S0 hb1⟩)
        clear ho_ hg_ hown hown2 HL2 S0
        go_wp2_with fail
        first
          | exact ⟨⟨k + 1, by omega, .inr hr.out, by go_num, HN.out.1, HN.out.2.1, HN.out.2.2⟩, by simp [intOf]; omega⟩
          | (go_roundw <;> first | exact ⟨k + 1, by omega, .inr hr.out, by go_num, HN.out.1, HN.out.2.1, HN.out.2.2⟩ | (simp [intOf]; omega))
    · obtain rfl : n = k := by omega
      have E : Hid (reflTo ps n = r) := Lib.hid (by rw [← HR.out, ← hex (.inr hl.symm)]; rfl)
      rw [E.out] at hown
      have hown2 := Lib.hid hown
      obtain ⟨A1, c1, rfl⟩ := own_shape hown
      clear hl hown HR hc hex
      go_wp2_with fail
      go_ret
      exact ⟨A1, c1, rfl, own_base hown2.out (by omega), S0.2.2⟩

set_option maxRecDepth 100000 in
set_option maxHeartbeats 800000 in
theorem isConvex (A : Option Addr) (n cap : Nat) (w : World) (ps : List (Int × Int)) (hl : ps.length = n) (hn : n ≤ 1048576) (hp : PtsAt w w.heap.size A ps) :
    Calls Try.prog 28 #[.agg #[.slice A n cap]] w fun e w' => e = .returned (.bool (convexB ps)) ∧ Below w.heap.size w w' := by
  obtain ⟨r, hr⟩ : ∃ r, convexB ps = r := ⟨_, rfl⟩
  have HR := Lib.hid hr
  rw [hr]
  clear hr
  go_enter Try.func28, Try.ntmps28
  go_wp2_with fail
  have X0 := Pts.boxR w (.slice A n cap) 33 (k := w.heap.size) (by simp)
  have b0 := PointOk.below1 w (Obj.cells #[.slice A n cap] 33)
  have HO : ∀ W W' : World, (Pts.BoxR W (w.heap.size) (.slice A n cap) ∧ PtsAt W w.heap.size A ps ∧ Below w.heap.size w W) → Below W.heap.size W W' → (Pts.BoxR W' (w.heap.size) (.slice A n cap) ∧ PtsAt W' w.heap.size A ps ∧ Below w.heap.size w W') := fun W W' ⟨h0, x0, hb⟩ h => ⟨h0.later h, x0.later (h.mono hb.size), hb.trans (h.mono hb.size)⟩
  have hz0_ : Hid (((w.alloc (Obj.cells #[.slice A n cap] 33))).heap.size = w.heap.size + 1) := Lib.hid (by simp)
  have Y0 : PtsAt ((w.alloc (Obj.cells #[.slice A n cap] 33))) w.heap.size A ps := hp.later b0
  generalize (w.alloc (Obj.cells #[.slice A n cap] 33)) = w0 at X0 Y0 b0 hz0_ ⊢
  have S0 := (⟨X0, Y0, b0⟩ : Pts.BoxR w0 (w.heap.size) (.slice A n cap) ∧ PtsAt w0 w.heap.size A ps ∧ Below w.heap.size w w0)
  clear X0 Y0 b0
  obtain ⟨⟨_, _⟩, _, _⟩ := id S0
  refine (RoomOkSpec.roomOk A n cap _ ps hl hn (S0.2.1.wide S0.2.2.size)).mono ?_
  rintro e w1 ⟨rfl, hb_⟩
  replace S0 := HO _ _ S0 hb_
  clear hb_
  obtain ⟨⟨_, _⟩, _, _⟩ := id S0
  cases hr : roomB ps
  · have E : Hid (r = false) := Lib.hid (by rw [← HR.out]; unfold convexB; rw [hr]; rfl)
    clear hl HR
    go_wp2_with fail
    go_ret
    exact ⟨ret_bool E.out.symm, S0.2.2⟩
  have E : Hid (r = decide ((reflL ps).length = 0)) := Lib.hid (by rw [← HR.out]; unfold convexB; rw [hr]; rfl)
  have Q : Hid (∀ w hp, _) := Lib.hid fun w hp => reflexCorners A n cap w ps hl hn hp
  generalize reflL ps = l at *
  clear hl HR hr
  go_wp2_with fail
  refine (Q.out _ (S0.2.1.wide S0.2.2.size)).mono ?_
  rintro e w2 ⟨A2, c2, rfl, hown, hb_⟩
  replace S0 := HO _ _ S0 hb_
  clear hb_ Q hown
  by_cases h0 : l.length = 0
  · rw [h0]
    go_wp2_with fail
    go_ret
    exact ⟨ret_bool (by rw [E.out, h0]; rfl), S0.2.2⟩
  · have h1 : ((l.length : Int) == 0) = false := beq_eq_false_iff_ne.2 (by omega)
    have E2 : Hid (r = false) := Lib.hid (by rw [E.out]; exact decide_eq_false h0)
    generalize l.length = m at *
    go_wp2_with fail
    go_ret
    exact ⟨ret_bool (by rw [E2.out]), S0.2.2⟩

set_option maxRecDepth 100000 in
set_option maxHeartbeats 800000 in
theorem turnSum (A : Option Addr) (n cap : Nat) (w : World) (ps : List (Int × Int)) (hl : ps.length = n) (hn : n ≤ 1048576) (hp : PtsAt w w.heap.size A ps) :
    Calls Try.prog 30 #[.agg #[.slice A n cap]] w fun e w' => e = .returned (.int .i64 (turnSumI ps)) ∧ Below w.heap.size w w' := by
  obtain ⟨r, hr⟩ : ∃ r, turnSumI ps = r := ⟨_, rfl⟩
  have HR := Lib.hid hr
  rw [hr]
  clear hr
  go_enter Try.func30, Try.ntmps30
  go_wp2_with fail
  have X0 := Pts.boxR w (.slice A n cap) 33 (k := w.heap.size) (by simp)
  have b0 := PointOk.below1 w (Obj.cells #[.slice A n cap] 33)
  have HO : ∀ W W' : World, (Pts.BoxR W (w.heap.size) (.slice A n cap) ∧ PtsAt W w.heap.size A ps ∧ Below w.heap.size w W) → Below W.heap.size W W' → (Pts.BoxR W' (w.heap.size) (.slice A n cap) ∧ PtsAt W' w.heap.size A ps ∧ Below w.heap.size w W') := fun W W' ⟨h0, x0, hb⟩ h => ⟨h0.later h, x0.later (h.mono hb.size), hb.trans (h.mono hb.size)⟩
  have hz0_ : Hid (((w.alloc (Obj.cells #[.slice A n cap] 33))).heap.size = w.heap.size + 1) := Lib.hid (by simp)
  have Y0 : PtsAt ((w.alloc (Obj.cells #[.slice A n cap] 33))) w.heap.size A ps := hp.later b0
  generalize (w.alloc (Obj.cells #[.slice A n cap] 33)) = w0 at X0 Y0 b0 hz0_ ⊢
  have S0 := (⟨X0, Y0, b0⟩ : Pts.BoxR w0 (w.heap.size) (.slice A n cap) ∧ PtsAt w0 w.heap.size A ps ∧ Below w.heap.size w w0)
  clear X0 Y0 b0
  obtain ⟨⟨_, _⟩, _, _⟩ := id S0
  refine (RoomOkSpec.roomOk A n cap _ ps hl hn (S0.2.1.wide S0.2.2.size)).mono ?_
  rintro e w1 ⟨rfl, hb_⟩
  replace S0 := HO _ _ S0 hb_
  clear hb_
  obtain ⟨⟨_, _⟩, _, _⟩ := id S0
  cases hr : roomB ps
  · have E : Hid (r = 0) := Lib.hid (by rw [← HR.out]; unfold turnSumI; rw [hr]; rfl)
    clear hl HR
    go_wp2_with fail
    go_ret
    exact ⟨ret_i64 E.out.symm, S0.2.2⟩
  have h3 := (roomB_yes hr).1
  rw [hl] at h3
  have hm := reflTo_len ps n
  have E : Hid (r = (n : Int) - 2 * ((reflL ps).length : Int)) := Lib.hid (by rw [← HR.out]; unfold turnSumI; rw [hr, hl]; rfl)
  have Q : Hid (∀ w hp, _) := Lib.hid fun w hp => reflexCorners A n cap w ps hl hn hp
  rw [show reflTo ps n = reflL ps by unfold reflL; rw [hr, hl]; rfl] at hm
  generalize reflL ps = l at *
  obtain ⟨m, hlm⟩ : ∃ m, l.length = m := ⟨_, rfl⟩
  unfold GivesI at Q
  rw [hlm] at Q hm E
  have u1 : IntKind.i64.wrap (2 * (m : Int)) = 2 * (m : Int) := IntWalk.i64_in _ (by omega)
  have u2 : IntKind.i64.wrap ((n : Int) - 2 * (m : Int)) = (n : Int) - 2 * (m : Int) := IntWalk.i64_in _ (by omega)
  clear hl HR hr
  go_wp2_with fail
  have S0_ := HO _ _ S0 ((Below.refl _ _).drew)
  have HS0_ : w1.drew.cell? ⟨w.heap.size, 0, none⟩ = some (.slice A n cap) := (by obtain ⟨⟨_, _⟩, _, _⟩ := id S0_; exact by assumption)
  go_region_held3 (fun W => W.cell? ⟨w.heap.size, 0, none⟩ = some (.slice A n cap)) (first | exact HS0_ | assumption) (first | (go_at_call 49; refine (Q.out _ (S0_.2.1.wide S0_.2.2.size)).mono ?_; rintro e w2 ⟨A9, c9, rfl, hown9, hb0_⟩; have S1_ := HO _ _ S0_ hb0_; have HS1_ : w2.cell? ⟨w.heap.size, 0, none⟩ = some (.slice A n cap) := (by obtain ⟨⟨_, _⟩, _, _⟩ := id S1_; exact by assumption)))
  replace S0 := S1_
  obtain ⟨⟨_, _⟩, _, _⟩ := id S0
  go_wp2_with fail
  go_ret
  exact ⟨ret_i64 (by rw [E.out]), S0.2.2⟩

end Go.Proofs.Ytaphdannaaiidaa.CornerSpec

