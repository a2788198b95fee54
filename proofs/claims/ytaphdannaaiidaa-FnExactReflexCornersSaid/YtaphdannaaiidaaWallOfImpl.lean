/-
  What the landed WallOf does, as a contract: what it answers; new memory alone is written.
-/
import Derived.Test.YtaphdannaaiidaaRoomOkImpl
namespace Go.Proofs.Ytaphdannaaiidaa.WallOfImpl
open Go.RowKit PointMath WallMath RoomMath Pts Blk
open PointOk (ret_bool ret_i64 below1 below2 below3)

theorem hasCorner (A : Option Addr) (n cap : Nat) (k : Int) (w : World) :
    Calls Try.prog 55 #[.agg #[.slice A n cap], .int .i64 k] w fun e w' => e = .returned (.bool (decide (0 ≤ k ∧ k < (n : Int)))) ∧ Below w.heap.size w w' := by
  by_cases h1 : 0 ≤ k
  · by_cases h2 : k < (n : Int)
    · go_enter Try.func55, Try.ntmps55
      go_wp2_with fail
      go_ret
      exact ⟨ret_bool (by simp; omega), below1 _ _⟩
    · go_enter Try.func55, Try.ntmps55
      go_wp2_with fail
      go_ret
      exact ⟨ret_bool (by simp; omega), below1 _ _⟩
  · go_enter Try.func55, Try.ntmps55
    go_wp2_with fail
    go_ret
    exact ⟨ret_bool (by simp; omega), below1 _ _⟩

set_option maxHeartbeats 800000 in
theorem wallOf (A : Option Addr) (n cap : Nat) (k : Int) (w : World) (ps : List (Int × Int)) (hl : ps.length = n) (hn : n ≤ 1048576) (hp : PtsAt w w.heap.size A ps) :
    Calls Try.prog 18 #[.agg #[.slice A n cap], .int .i64 k] w fun e w' => e = .returned (.agg #[.int .i64 (wallI ps k).1.1, .int .i64 (wallI ps k).1.2, .int .i64 (wallI ps k).2.1, .int .i64 (wallI ps k).2.2]) ∧ Below w.heap.size w w' := by
  obtain ⟨q, hq⟩ : ∃ q, wallI ps k = q := ⟨_, rfl⟩
  have HQ := Lib.hid hq
  rw [hq]
  clear hq
  go_enter Try.func18, Try.ntmps18
  go_wp2_with fail
  have X0 := (Pts.boxR w (.slice A n cap) 33 (k := w.heap.size) (by simp)).alloc (Obj.cells #[.int .i64 0, .int .i64 0, .int .i64 0, .int .i64 0] 29)
  have X1 := Blk.Holds.box (w.alloc (Obj.cells #[.slice A n cap] 33)) #[.int .i64 0, .int .i64 0, .int .i64 0, .int .i64 0] 29 (k := w.heap.size + 1) (by simp)
  have b0 := PointOk.below2 w (Obj.cells #[.slice A n cap] 33) (Obj.cells #[.int .i64 0, .int .i64 0, .int .i64 0, .int .i64 0] 29)
  have HO : ∀ W W' : World, (Pts.BoxR W (w.heap.size) (.slice A n cap) ∧ Blk.Holds W (w.heap.size + 1) #[.int .i64 0, .int .i64 0, .int .i64 0, .int .i64 0] 29 ∧ PtsAt W w.heap.size A ps ∧ Below w.heap.size w W) → Below W.heap.size W W' → (Pts.BoxR W' (w.heap.size) (.slice A n cap) ∧ Blk.Holds W' (w.heap.size + 1) #[.int .i64 0, .int .i64 0, .int .i64 0, .int .i64 0] 29 ∧ PtsAt W' w.heap.size A ps ∧ Below w.heap.size w W') := fun W W' ⟨h0, h1, x0, hb⟩ h => ⟨h0.later h, h1.later h, x0.later (h.mono hb.size), hb.trans (h.mono hb.size)⟩
  have hz0_ : Hid ((((w.alloc (Obj.cells #[.slice A n cap] 33)).alloc (Obj.cells #[.int .i64 0, .int .i64 0, .int .i64 0, .int .i64 0] 29))).heap.size = w.heap.size + 1 + 1) := Lib.hid (by simp)
  have Y0 : PtsAt (((w.alloc (Obj.cells #[.slice A n cap] 33)).alloc (Obj.cells #[.int .i64 0, .int .i64 0, .int .i64 0, .int .i64 0] 29))) w.heap.size A ps := hp.later b0
  generalize ((w.alloc (Obj.cells #[.slice A n cap] 33)).alloc (Obj.cells #[.int .i64 0, .int .i64 0, .int .i64 0, .int .i64 0] 29)) = w0 at X0 X1 Y0 b0 hz0_ ⊢
  have S0 := (⟨X0, X1, Y0, b0⟩ : Pts.BoxR w0 (w.heap.size) (.slice A n cap) ∧ Blk.Holds w0 (w.heap.size + 1) #[.int .i64 0, .int .i64 0, .int .i64 0, .int .i64 0] 29 ∧ PtsAt w0 w.heap.size A ps ∧ Below w.heap.size w w0)
  clear X0 X1 Y0 b0
  obtain ⟨⟨_, _⟩, _, _, _⟩ := id S0
  refine (hasCorner A n cap k _).mono ?_
  rintro e w1 ⟨rfl, hb_⟩
  replace S0 := HO _ _ S0 hb_
  clear hb_
  obtain ⟨⟨_, _⟩, _, _, _⟩ := id S0
  by_cases hk : 0 ≤ k ∧ k < (n : Int)
  rotate_left
  · have E : Hid (q = ((0, 0), (0, 0))) := Lib.hid (by rw [← HQ.out]; unfold wallI; rw [if_neg (by rw [hl]; exact fun h => hk h.2)])
    rw [show decide (0 ≤ k ∧ k < (n : Int)) = false from decide_eq_false hk]
    clear hl hk
    obtain ⟨⟨_, _, _, _⟩, _, _, _, _⟩ := Blk.Holds.four S0.2.1
    go_wp2_with fail
    have E_ := Blk.set_own (Blk.set_own (Blk.set_own (Blk.set_own (S0.2.1) 0 (.int .i64 (0))) 1 (.int .i64 (0))) 2 (.int .i64 (0))) 3 (.int .i64 (0))
    obtain ⟨⟨r0_, r1_, r2_, r3_⟩, _⟩ := Blk.Holds.four E_
    refine bodyPost_ret (v := .agg #[.int .i64 (0), .int .i64 (0), .int .i64 (0), .int .i64 (0)]) (by simp [results, Try.results18, go_sem, r0_, r1_, r2_, r3_]) rfl ⟨by rw [E.out], ?_⟩
    exact (((((S0.2.2.2)).setCell (p := ⟨w.heap.size + 1, 0, none⟩) (show w.heap.size ≤ w.heap.size + 1 by omega) _).setCell (p := ⟨w.heap.size + 1, 1, none⟩) (show w.heap.size ≤ w.heap.size + 1 by omega) _).setCell (p := ⟨w.heap.size + 1, 2, none⟩) (show w.heap.size ≤ w.heap.size + 1 by omega) _).setCell (p := ⟨w.heap.size + 1, 3, none⟩) (show w.heap.size ≤ w.heap.size + 1 by omega) _
  rw [show decide (0 ≤ k ∧ k < (n : Int)) = true from decide_eq_true hk]
  go_wp2_with fail
  refine (RoomOkImpl.roomOk A n cap _ ps hl hn (S0.2.2.1.wide S0.2.2.2.size)).mono ?_
  rintro e w2 ⟨rfl, hb_⟩
  replace S0 := HO _ _ S0 hb_
  clear hb_
  obtain ⟨⟨_, _⟩, _, _, _⟩ := id S0
  cases hr : roomB ps
  · have E : Hid (q = ((0, 0), (0, 0))) := Lib.hid (by rw [← HQ.out]; unfold wallI; rw [if_neg (by rw [hr]; simp)])
    clear hl
    obtain ⟨⟨_, _, _, _⟩, _, _, _, _⟩ := Blk.Holds.four S0.2.1
    go_wp2_with fail
    have E_ := Blk.set_own (Blk.set_own (Blk.set_own (Blk.set_own (S0.2.1) 0 (.int .i64 (0))) 1 (.int .i64 (0))) 2 (.int .i64 (0))) 3 (.int .i64 (0))
    obtain ⟨⟨r0_, r1_, r2_, r3_⟩, _⟩ := Blk.Holds.four E_
    refine bodyPost_ret (v := .agg #[.int .i64 (0), .int .i64 (0), .int .i64 (0), .int .i64 (0)]) (by simp [results, Try.results18, go_sem, r0_, r1_, r2_, r3_]) rfl ⟨by rw [E.out], ?_⟩
    exact (((((S0.2.2.2)).setCell (p := ⟨w.heap.size + 1, 0, none⟩) (show w.heap.size ≤ w.heap.size + 1 by omega) _).setCell (p := ⟨w.heap.size + 1, 1, none⟩) (show w.heap.size ≤ w.heap.size + 1 by omega) _).setCell (p := ⟨w.heap.size + 1, 2, none⟩) (show w.heap.size ≤ w.heap.size + 1 by omega) _).setCell (p := ⟨w.heap.size + 1, 3, none⟩) (show w.heap.size ≤ w.heap.size + 1 by omega) _
  obtain ⟨kk, rfl⟩ := Int.eq_ofNat_of_zero_le hk.1
  have hkn : kk < n := by omega
  have E : Hid (q = (pt ps kk, pt ps ((kk + 1) % n))) := Lib.hid (by rw [← HQ.out]; unfold wallI; rw [if_pos ⟨hr, by rw [hl]; exact hk⟩, hl]; rfl)
  have QW : Hid (∀ w hp, _) := Lib.hid fun w hp => RoomOkImpl.wallBehind A n cap kk w ps hl hn hkn hp
  generalize pt ps kk = a at *
  generalize pt ps ((kk + 1) % n) = b at *
  clear hl hr hk HQ
  go_wp2_with fail
  refine (QW.out _ (S0.2.2.1.wide S0.2.2.2.size)).mono ?_
  rintro e w3 ⟨rfl, hb_⟩
  replace S0 := HO _ _ S0 hb_
  clear hb_
  obtain ⟨⟨_, _⟩, _, _, _⟩ := id S0
  obtain ⟨⟨_, _, _, _⟩, _, _, _, _⟩ := Blk.Holds.four S0.2.1
  go_wp2_with fail
  have E_ := Blk.set_own (Blk.set_own (Blk.set_own (Blk.set_own (S0.2.1) 0 (.int .i64 (a.1))) 1 (.int .i64 (a.2))) 2 (.int .i64 (b.1))) 3 (.int .i64 (b.2))
  obtain ⟨⟨r0_, r1_, r2_, r3_⟩, _⟩ := Blk.Holds.four E_
  refine bodyPost_ret (v := .agg #[.int .i64 (a.1), .int .i64 (a.2), .int .i64 (b.1), .int .i64 (b.2)]) (by simp [results, Try.results18, go_sem, r0_, r1_, r2_, r3_]) rfl ⟨by rw [E.out], ?_⟩
  exact (((((S0.2.2.2)).setCell (p := ⟨w.heap.size + 1, 0, none⟩) (show w.heap.size ≤ w.heap.size + 1 by omega) _).setCell (p := ⟨w.heap.size + 1, 1, none⟩) (show w.heap.size ≤ w.heap.size + 1 by omega) _).setCell (p := ⟨w.heap.size + 1, 2, none⟩) (show w.heap.size ≤ w.heap.size + 1 by omega) _).setCell (p := ⟨w.heap.size + 1, 3, none⟩) (show w.heap.size ≤ w.heap.size + 1 by omega) _

end Go.Proofs.Ytaphdannaaiidaa.WallOfImpl

