/-
  What the landed functions on corners do, as contracts: what each answers; new memory alone is written.
-/
import Derived.Test.YtaphdannaaiidaaWallOfImpl
import Derived.Test.YtaphdannaaiidaaFacts
import Derived.Test.YtaphdannaaiidaaThatImpl
import Derived.Test.YtaphdannaaiidaaGround
namespace Go.Proofs.Ytaphdannaaiidaa.CornerImpl
open Go.RowKit Own PointMath WallMath RoomMath Pts Blk AreaMath DiagMath
open PointOk (ret_bool ret_i64 below1 below2 below3)

set_option maxRecDepth 100000 in
set_option maxHeartbeats 800000 in
theorem kindOf (A : Option Addr) (n cap k : Nat) (w : World) (ps : List (Int × Int)) (hl : ps.length = n) (h3 : 3 ≤ n ∧ n ≤ 10) (hk : k < n) (hok : okAll ps = true) (hp : PtsAt w w.heap.size A ps) :
    Calls Try.prog 69 #[.slice A n cap, .int .i64 (k : Int)] w fun e w' => e = .returned (.int .i64 (if reflB ps k then 1 else 0)) ∧ Below w.heap.size w w' := by
  have Q : Hid (∀ w hp, _) := Lib.hid fun w hp => RoomOkImpl.bendAt A n cap k w ps hl ⟨by omega, h3.2⟩ hk hok hp
  obtain ⟨t, ht⟩ : ∃ t, bendBack ps k = t := ⟨_, rfl⟩
  have E : Hid (reflB ps k = decide (t < 0)) := Lib.hid (by unfold reflB; rw [ht])
  rw [ht] at Q
  rw [E.out]
  clear ht E hl hok
  by_cases h0 : t < 0
  · rw [show decide (t < 0) = true from decide_eq_true h0]
    go_enter Try.func69, Try.ntmps69
    go_wp2_with fail
    refine (Q.out _ hp).mono ?_
    rintro e w1 ⟨rfl, hb⟩
    go_wp2_with fail
    go_ret
    exact ⟨rfl, hb⟩
  · rw [show decide (t < 0) = false from decide_eq_false h0]
    go_enter Try.func69, Try.ntmps69
    go_wp2_with fail
    refine (Q.out _ hp).mono ?_
    rintro e w1 ⟨rfl, hb⟩
    go_wp2_with fail
    go_ret
    exact ⟨rfl, hb⟩

set_option maxRecDepth 100000 in
set_option maxHeartbeats 800000 in
theorem isReflex (A : Option Addr) (n cap : Nat) (k : Int) (w : World) (ps : List (Int × Int)) (hl : ps.length = n) (hn : n ≤ 1048576) (hp : PtsAt w w.heap.size A ps) :
    Calls Try.prog 27 #[.agg #[.slice A n cap], .int .i64 k] w fun e w' => e = .returned (.bool (reflexB ps k)) ∧ Below w.heap.size w w' := by
  obtain ⟨r, hr⟩ : ∃ r, reflexB ps k = r := ⟨_, rfl⟩
  have HR := Lib.hid hr
  rw [hr]
  clear hr
  go_enter Try.func27, Try.ntmps27
  go_wp2_with fail
  have X0 := Pts.boxR w (.slice A n cap) 33 (k := w.heap.size) (by simp)
  have b0 := PointOk.below1 w (Obj.cells #[.slice A n cap] 33)
  have HO : ∀ W W' : World, (Pts.BoxR W (w.heap.size) (.slice A n cap) ∧ PtsAt W w.heap.size A ps ∧ Below w.heap.size w W) → Below W.heap.size W W' → (Pts.BoxR W' (w.heap.size) (.slice A n cap) ∧ PtsAt W' w.heap.size A ps ∧ Below w.heap.size w W') := fun W W' ⟨h0, x0, hb⟩ h => ⟨h0.later h, x0.later (h.mono hb.size), hb.trans (h.mono hb.size)⟩
  have hz0_ : Hid (((w.alloc (Obj.cells #[.slice A n cap] 33))).heap.size = w.heap.size + 1) := Lib.hid (by simp)
  have Y0 : PtsAt ((w.alloc (Obj.cells #[.slice A n cap] 33))) w.heap.size A ps := hp.later b0
  generalize (w.alloc (Obj.cells #[.slice A n cap] 33)) = w0 at X0 Y0 b0 hz0_ ⊢
  have S0 := (⟨X0, Y0, b0⟩ : Pts.BoxR w0 (w.heap.size) (.slice A n cap) ∧ PtsAt w0 w.heap.size A ps ∧ Below w.heap.size w w0)
  clear X0 Y0 b0
  obtain ⟨⟨_, _⟩, _, _⟩ := id S0
  refine (WallOfImpl.hasCorner A n cap k _).mono ?_
  rintro e w1 ⟨rfl, hb_⟩
  replace S0 := HO _ _ S0 hb_
  clear hb_
  obtain ⟨⟨_, _⟩, _, _⟩ := id S0
  by_cases hk : 0 ≤ k ∧ k < (n : Int)
  rotate_left
  · have E : Hid (r = false) := Lib.hid (by rw [← HR.out]; unfold reflexB; rw [hl, show decide (0 ≤ k ∧ k < (n : Int)) = false from decide_eq_false hk]; simp)
    rw [show decide (0 ≤ k ∧ k < (n : Int)) = false from decide_eq_false hk]
    clear hl HR hk
    go_wp2_with fail
    go_ret
    exact ⟨ret_bool E.out.symm, S0.2.2⟩
  rw [show decide (0 ≤ k ∧ k < (n : Int)) = true from decide_eq_true hk]
  go_wp2_with fail
  refine (RoomOkImpl.roomOk A n cap _ ps hl hn (S0.2.1.wide S0.2.2.size)).mono ?_
  rintro e w2 ⟨rfl, hb_⟩
  replace S0 := HO _ _ S0 hb_
  clear hb_
  obtain ⟨⟨_, _⟩, _, _⟩ := id S0
  cases hr : roomB ps
  · have E : Hid (r = false) := Lib.hid (by rw [← HR.out]; unfold reflexB; rw [hr]; rfl)
    clear hl HR
    go_wp2_with fail
    go_ret
    exact ⟨ret_bool E.out.symm, S0.2.2⟩
  obtain ⟨h3, hok, _, _⟩ := roomB_yes hr
  obtain ⟨kk, rfl⟩ := Int.eq_ofNat_of_zero_le hk.1
  have E : Hid (reflB ps kk = r) := Lib.hid (by rw [← HR.out]; unfold reflexB; rw [hr, hl, show decide (0 ≤ (kk : Int) ∧ (kk : Int) < (n : Int)) = true from decide_eq_true hk]; simp)
  have Q : Hid (∀ w hp, _) := Lib.hid fun w hp => kindOf A n cap kk w ps hl (by omega) (by omega) hok hp
  rw [E.out] at Q
  clear hl HR hk hr hok E
  cases r
  all_goals go_wp2_with fail
  all_goals refine (Q.out _ (S0.2.1.wide S0.2.2.size)).mono ?_
  all_goals rintro e w9 ⟨rfl, hb_⟩
  all_goals replace S0 := HO _ _ S0 hb_
  all_goals go_wp2_with fail
  all_goals go_ret
  all_goals exact ⟨rfl, S0.2.2⟩

set_option maxRecDepth 100000 in
set_option maxHeartbeats 800000 in
theorem reflAsk (A : Option Addr) (n cap k C : Nat) (w : World) (ps : List (Int × Int)) (hl : ps.length = n) (h3 : 3 ≤ n ∧ n ≤ 10) (hk : k < n) (hok : okAll ps = true) (h1 : BoxR w C (.slice A n cap)) (hp : PtsAt w w.heap.size A ps) :
    Calls Try.prog 79 #[.int .i64 (k : Int), .pointer (some ⟨C, 0, none⟩)] w fun e w' => e = .returned (.bool (reflB ps k)) ∧ Below w.heap.size w w' := by
  have Q : Hid (∀ w hp, _) := Lib.hid fun w hp => kindOf A n cap k w ps hl h3 hk hok hp
  generalize reflB ps k = r at *
  obtain ⟨_, _⟩ := h1
  clear hl h3 hk hok
  go_enter Try.func79, Try.ntmps79
  go_wp2_with fail
  refine (Q.out _ hp).mono ?_
  rintro e w1 ⟨rfl, hb_⟩
  cases r
  all_goals go_wp2_with fail
  all_goals go_ret
  all_goals exact ⟨rfl, hb_⟩

set_option maxRecDepth 100000 in
set_option maxHeartbeats 1600000 in
theorem reflexCorners (A : Option Addr) (n cap : Nat) (w : World) (ps : List (Int × Int)) (hl : ps.length = n) (hn : n ≤ 1048576) (hp : PtsAt w w.heap.size A ps) :
    Calls Try.prog 50 #[.agg #[.slice A n cap]] w (GivesI 3 w (reflL ps)) := by
  obtain ⟨r, hr⟩ : ∃ r, reflL ps = r := ⟨_, rfl⟩
  have HR := Lib.hid hr
  rw [hr]
  clear hr
  have hmf : ∀ (fn : Fn) (first cap : Array Value) (w : World), (Instr.makeFunc fn first cap).run Try.prog w = .ok (.func fn first cap) w := fun _ _ _ _ => rfl
  go_enter Try.func50, Try.ntmps50
  go_wp2_with fail
  have X0 := Pts.boxR w (.slice A n cap) 33 (k := w.heap.size) (by simp)
  have b0 := PointOk.below1 w (Obj.cells #[.slice A n cap] 33)
  have HO : ∀ W W' : World, (Pts.BoxR W (w.heap.size) (.slice A n cap) ∧ PtsAt W w.heap.size A ps ∧ Below w.heap.size w W) → Below W.heap.size W W' → (Pts.BoxR W' (w.heap.size) (.slice A n cap) ∧ PtsAt W' w.heap.size A ps ∧ Below w.heap.size w W') := fun W W' ⟨h0, x0, hb⟩ h => ⟨h0.later h, x0.later (h.mono hb.size), hb.trans (h.mono hb.size)⟩
  have hz0_ : Hid (((w.alloc (Obj.cells #[.slice A n cap] 33))).heap.size = w.heap.size + 1) := Lib.hid (by simp)
  have Y0 : PtsAt ((w.alloc (Obj.cells #[.slice A n cap] 33))) w.heap.size A ps := hp.later b0
  generalize (w.alloc (Obj.cells #[.slice A n cap] 33)) = w0 at X0 Y0 b0 hz0_ ⊢
  have S0 := (⟨X0, Y0, b0⟩ : Pts.BoxR w0 (w.heap.size) (.slice A n cap) ∧ PtsAt w0 w.heap.size A ps ∧ Below w.heap.size w w0)
  clear X0 Y0 b0
  obtain ⟨⟨_, _⟩, _, _⟩ := id S0
  refine (RoomOkImpl.roomOk A n cap _ ps hl hn (S0.2.1.wide S0.2.2.size)).mono ?_
  rintro e w1 ⟨rfl, hb_⟩
  replace S0 := HO _ _ S0 hb_
  clear hb_
  obtain ⟨⟨_, _⟩, _, _⟩ := id S0
  cases hr : roomB ps
  · have E : Hid (r = []) := Lib.hid (by rw [← HR.out]; unfold reflL; rw [hr]; rfl)
    clear hl HR
    go_wp2_with fail
    go_ret
    exact ⟨none, 0, by rw [E.out]; rfl, by rw [E.out]; exact World.ownsRow_nil _ _ _ _, S0.2.2⟩
  obtain ⟨h3, hok, _, _⟩ := roomB_yes hr
  rw [hl] at h3
  have E : Hid (thatTo (reflB ps) n = r) := Lib.hid (by rw [← HR.out, ← FiltMath.refl_that]; unfold reflL; rw [hr, hl]; rfl)
  have QE : Hid (∀ (j : Nat) (hj : j < n) W h1 hp, _) := Lib.hid fun j hj W h1 hp => reflAsk A n cap j w.heap.size W ps hl h3 hj hok h1 hp
  clear HR hl hr h3 hok
  go_wp2_with fail
  refine (ThatImpl.cornersThat 79 #[.pointer (some ⟨w.heap.size, 0, none⟩)] (reflB ps) A n cap w1 hn Try.call79 (fun W j hj hb => by
    have S9 := HO _ _ S0 hb
    exact QE.out j hj W S9.1 (S9.2.1.wide S9.2.2.size))).mono ?_
  rintro e w2 ⟨A2, c2, rfl, hown, hb_⟩
  rw [E.out] at hown ⊢
  have hown := Lib.hid hown
  have hs1 := S0.2.2.size
  replace S0 := S0.2.2.trans (hb_.mono S0.2.2.size)
  clear QE E
  go_wp2_with fail
  go_ret
  exact ⟨A2, c2, rfl, own_base hown.out hs1, S0⟩

set_option maxRecDepth 100000 in
set_option maxHeartbeats 800000 in
theorem isConvex (A : Option Addr) (n cap : Nat) (w : World) (ps : List (Int × Int)) (hl : ps.length = n) (hn : n ≤ 1048576) (hp : PtsAt w w.heap.size A ps) :
    Calls Try.prog 29 #[.agg #[.slice A n cap]] w fun e w' => e = .returned (.bool (convexB ps)) ∧ Below w.heap.size w w' := by
  obtain ⟨r, hr⟩ : ∃ r, convexB ps = r := ⟨_, rfl⟩
  have HR := Lib.hid hr
  rw [hr]
  clear hr
  go_enter Try.func29, Try.ntmps29
  go_wp2_with fail
  have X0 := Pts.boxR w (.slice A n cap) 33 (k := w.heap.size) (by simp)
  have b0 := PointOk.below1 w (Obj.cells #[.slice A n cap] 33)
  have HO : ∀ W W' : World, (Pts.BoxR W (w.heap.size) (.slice A n cap) ∧ PtsAt W w.heap.size A ps ∧ Below w.heap.size w W) → Below W.heap.size W W' → (Pts.BoxR W' (w.heap.size) (.slice A n cap) ∧ PtsAt W' w.heap.size A ps ∧ Below w.heap.size w W') := fun W W' ⟨h0, x0, hb⟩ h => ⟨h0.later h, x0.later (h.mono hb.size), hb.trans (h.mono hb.size)⟩
  have hz0_ : Hid (((w.alloc (Obj.cells #[.slice A n cap] 33))).heap.size = w.heap.size + 1) := Lib.hid (by simp)
  have Y0 : PtsAt ((w.alloc (Obj.cells #[.slice A n cap] 33))) w.heap.size A ps := hp.later b0
  generalize (w.alloc (Obj.cells #[.slice A n cap] 33)) = w0 at X0 Y0 b0 hz0_ ⊢
  have S0 := (⟨X0, Y0, b0⟩ : Pts.BoxR w0 (w.heap.size) (.slice A n cap) ∧ PtsAt w0 w.heap.size A ps ∧ Below w.heap.size w w0)
  clear X0 Y0 b0
  obtain ⟨⟨_, _⟩, _, _⟩ := id S0
  refine (RoomOkImpl.roomOk A n cap _ ps hl hn (S0.2.1.wide S0.2.2.size)).mono ?_
  rintro e w1 ⟨rfl, hb_⟩
  replace S0 := HO _ _ S0 hb_
  clear hb_
  obtain ⟨⟨_, _⟩, _, _⟩ := id S0
  cases hr : roomB ps
  · have E : Hid (r = false) := Lib.hid (by rw [← HR.out]; unfold convexB; rw [hr]; rfl)
    clear hl HR
    go_wp2_with fail
    go_ret
    exact ⟨ret_bool E.out.symm, S0.2.2⟩
  have E : Hid (r = decide ((reflL ps).length = 0)) := Lib.hid (by rw [← HR.out]; unfold convexB; rw [hr]; rfl)
  have Q : Hid (∀ w hp, _) := Lib.hid fun w hp => reflexCorners A n cap w ps hl hn hp
  generalize reflL ps = l at *
  clear hl HR hr
  go_wp2_with fail
  refine (Q.out _ (S0.2.1.wide S0.2.2.size)).mono ?_
  rintro e w2 ⟨A2, c2, rfl, hown, hb_⟩
  replace S0 := HO _ _ S0 hb_
  clear hb_ Q hown
  by_cases h0 : l.length = 0
  · rw [h0]
    go_wp2_with fail
    go_ret
    exact ⟨ret_bool (by rw [E.out, h0]; rfl), S0.2.2⟩
  · have h1 : ((l.length : Int) == 0) = false := beq_eq_false_iff_ne.2 (by omega)
    have E2 : Hid (r = false) := Lib.hid (by rw [E.out]; exact decide_eq_false h0)
    generalize l.length = m at *
    go_wp2_with fail
    go_ret
    exact ⟨ret_bool (by rw [E2.out]), S0.2.2⟩

set_option maxRecDepth 100000 in
set_option maxHeartbeats 800000 in
theorem turnSum (A : Option Addr) (n cap : Nat) (w : World) (ps : List (Int × Int)) (hl : ps.length = n) (hn : n ≤ 1048576) (hp : PtsAt w w.heap.size A ps) :
    Calls Try.prog 31 #[.agg #[.slice A n cap]] w fun e w' => e = .returned (.int .i64 (turnSumI ps)) ∧ Below w.heap.size w w' := by
  obtain ⟨r, hr⟩ : ∃ r, turnSumI ps = r := ⟨_, rfl⟩
  have HR := Lib.hid hr
  rw [hr]
  clear hr
  go_enter Try.func31, Try.ntmps31
  go_wp2_with fail
  have X0 := Pts.boxR w (.slice A n cap) 33 (k := w.heap.size) (by simp)
  have b0 := PointOk.below1 w (Obj.cells #[.slice A n cap] 33)
  have HO : ∀ W W' : World, (Pts.BoxR W (w.heap.size) (.slice A n cap) ∧ PtsAt W w.heap.size A ps ∧ Below w.heap.size w W) → Below W.heap.size W W' → (Pts.BoxR W' (w.heap.size) (.slice A n cap) ∧ PtsAt W' w.heap.size A ps ∧ Below w.heap.size w W') := fun W W' ⟨h0, x0, hb⟩ h => ⟨h0.later h, x0.later (h.mono hb.size), hb.trans (h.mono hb.size)⟩
  have hz0_ : Hid (((w.alloc (Obj.cells #[.slice A n cap] 33))).heap.size = w.heap.size + 1) := Lib.hid (by simp)
  have Y0 : PtsAt ((w.alloc (Obj.cells #[.slice A n cap] 33))) w.heap.size A ps := hp.later b0
  generalize (w.alloc (Obj.cells #[.slice A n cap] 33)) = w0 at X0 Y0 b0 hz0_ ⊢
  have S0 := (⟨X0, Y0, b0⟩ : Pts.BoxR w0 (w.heap.size) (.slice A n cap) ∧ PtsAt w0 w.heap.size A ps ∧ Below w.heap.size w w0)
  clear X0 Y0 b0
  obtain ⟨⟨_, _⟩, _, _⟩ := id S0
  refine (RoomOkImpl.roomOk A n cap _ ps hl hn (S0.2.1.wide S0.2.2.size)).mono ?_
  rintro e w1 ⟨rfl, hb_⟩
  replace S0 := HO _ _ S0 hb_
  clear hb_
  obtain ⟨⟨_, _⟩, _, _⟩ := id S0
  cases hr : roomB ps
  · have E : Hid (r = 0) := Lib.hid (by rw [← HR.out]; unfold turnSumI; rw [hr]; rfl)
    clear hl HR
    go_wp2_with fail
    go_ret
    exact ⟨ret_i64 E.out.symm, S0.2.2⟩
  have h3 := (roomB_yes hr).1
  rw [hl] at h3
  have hm := reflTo_len ps n
  have E : Hid (r = (n : Int) - 2 * ((reflL ps).length : Int)) := Lib.hid (by rw [← HR.out]; unfold turnSumI; rw [hr, hl]; rfl)
  have Q : Hid (∀ w hp, _) := Lib.hid fun w hp => reflexCorners A n cap w ps hl hn hp
  rw [show reflTo ps n = reflL ps by unfold reflL; rw [hr, hl]; rfl] at hm
  generalize reflL ps = l at *
  obtain ⟨m, hlm⟩ : ∃ m, l.length = m := ⟨_, rfl⟩
  unfold GivesI at Q
  rw [hlm] at Q hm E
  have u1 : IntKind.i64.wrap (2 * (m : Int)) = 2 * (m : Int) := IntWalk.i64_in _ (by omega)
  have u2 : IntKind.i64.wrap ((n : Int) - 2 * (m : Int)) = (n : Int) - 2 * (m : Int) := IntWalk.i64_in _ (by omega)
  clear hl HR hr
  go_wp2_with fail
  have S0_ := HO _ _ S0 ((Below.refl _ _).drew)
  have HS0_ : w1.drew.cell? ⟨w.heap.size, 0, none⟩ = some (.slice A n cap) := (by obtain ⟨⟨_, _⟩, _, _⟩ := id S0_; exact by assumption)
  go_region_held3 (fun W => W.cell? ⟨w.heap.size, 0, none⟩ = some (.slice A n cap)) (first | exact HS0_ | assumption) (first | (go_at_call 50; refine (Q.out _ (S0_.2.1.wide S0_.2.2.size)).mono ?_; rintro e w2 ⟨A9, c9, rfl, hown9, hb0_⟩; have S1_ := HO _ _ S0_ hb0_; have HS1_ : w2.cell? ⟨w.heap.size, 0, none⟩ = some (.slice A n cap) := (by obtain ⟨⟨_, _⟩, _, _⟩ := id S1_; exact by assumption)))
  replace S0 := S1_
  obtain ⟨⟨_, _⟩, _, _⟩ := id S0
  go_wp2_with fail
  go_ret
  exact ⟨ret_i64 (by rw [E.out]), S0.2.2⟩

end Go.Proofs.Ytaphdannaaiidaa.CornerImpl

