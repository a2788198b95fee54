/-
  What the landed BlockingWall does, as a contract: what it answers; new memory alone is written.
-/
import Derived.Test.YthokeedmccfalaaPlaceImpl
namespace Go.Proofs.Ythokeedmccfalaa.BlockImpl
open Go.RowKit PointMath WallMath RoomMath Pts Blk AreaMath PlaceMath
open PointOk (ret_bool ret_i64 below1 below2 below3)

set_option maxRecDepth 100000 in
set_option maxHeartbeats 1600000 in
theorem crossedWall (A : Option Addr) (n cap : Nat) (ax ay bx bY : Int) (w : World) (ps : List (Int × Int)) (hl : ps.length = n) (hn : n ≤ 1048576) (hs : smAll ps) (sa : smP ax ay) (sb : smP bx bY) (hp : PtsAt w w.heap.size A ps) :
    Calls Try.prog 189 #[.slice A n cap, .agg #[.int .i64 ax, .int .i64 ay, .int .i64 bx, .int .i64 bY]] w fun e w' => e = .returned (.int .i64 (crossM ps (ax, ay) (bx, bY))) ∧ Below w.heap.size w w' := by
  obtain ⟨r, hr⟩ : ∃ r, crossM ps (ax, ay) (bx, bY) = r := ⟨_, rfl⟩
  have HR := Lib.hid hr
  rw [hr]
  clear hr
  go_enter Try.func189, Try.ntmps189
  go_wp2_with fail
  have X0 := PointOk.box4 w ax ay bx bY 143 (k := w.heap.size) (by simp)
  have b0 := PointOk.below1 w (Obj.cells #[.int .i64 ax, .int .i64 ay, .int .i64 bx, .int .i64 bY] 143)
  have HO : ∀ W W' : World, (PointOk.Box4 W (w.heap.size) ax ay bx bY ∧ PtsAt W w.heap.size A ps ∧ Below w.heap.size w W) → Below W.heap.size W W' → (PointOk.Box4 W' (w.heap.size) ax ay bx bY ∧ PtsAt W' w.heap.size A ps ∧ Below w.heap.size w W') := fun W W' ⟨h0, x0, hb⟩ h => ⟨h0.later h, x0.later (h.mono hb.size), hb.trans (h.mono hb.size)⟩
  have hz0_ : Hid (((w.alloc (Obj.cells #[.int .i64 ax, .int .i64 ay, .int .i64 bx, .int .i64 bY] 143))).heap.size = w.heap.size + 1) := Lib.hid (by simp)
  have Y0 : PtsAt ((w.alloc (Obj.cells #[.int .i64 ax, .int .i64 ay, .int .i64 bx, .int .i64 bY] 143))) w.heap.size A ps := hp.later b0
  generalize (w.alloc (Obj.cells #[.int .i64 ax, .int .i64 ay, .int .i64 bx, .int .i64 bY] 143)) = w0 at X0 Y0 b0 hz0_ ⊢
  have S0 := (⟨X0, Y0, b0⟩ : PointOk.Box4 w0 (w.heap.size) ax ay bx bY ∧ PtsAt w0 w.heap.size A ps ∧ Below w.heap.size w w0)
  clear X0 Y0 b0
  obtain ⟨⟨_, _, _, _⟩, _, _⟩ := id S0
  go_loopw [8] (fun i wr => ∃ k : Nat, k ≤ n ∧ i = .int .i64 k ∧ Hid (∀ j, j < k → cutK ps (ax, ay) (bx, bY) j = false) ∧ (PointOk.Box4 wr (w.heap.size) ax ay bx bY ∧ PtsAt wr w.heap.size A ps ∧ Below w.heap.size w wr))
    (fun i _ => n - (intOf i).toNat)
  case atStart => exact ⟨0, Nat.zero_le _, rfl, Lib.hid (fun j hj => absurd hj (by omega)), S0⟩
  case round =>
    clear S0
    obtain ⟨k, hkn, rfl, hno, S0⟩ := hrel
    obtain ⟨⟨_, _, _, _⟩, _, _⟩ := id S0
    by_cases hlt : k < n
    · have hk1 : (k : Int) < (n : Int) := by omega
      have QW : Hid (∀ w hp, _) := Lib.hid fun w hp => RoomOkImpl.wallBehind A n cap k w ps hl hn hlt hp
      have s0 := hs k (by omega)
      have s1 := hs ((k + 1) % n) (by rw [hl]; exact Nat.mod_lt _ (by omega))
      have HK : Hid (cutK ps (ax, ay) (bx, bY) k = cutP (pt ps k) (pt ps ((k + 1) % n)) (ax, ay) (bx, bY)) := Lib.hid (by unfold cutK; rw [hl])
      generalize pt ps k = a at *
      generalize pt ps ((k + 1) % n) = b at *
      have QH : Hid (∀ w, _) := Lib.hid fun w => WallImpl.crosses a.1 a.2 b.1 b.2 ax ay bx bY s0 s1 sa sb w
      obtain ⟨o, ho⟩ : ∃ o, cutW a.1 a.2 b.1 b.2 ax ay bx bY = o := ⟨_, rfl⟩
      rw [ho] at QH
      replace HK : Hid (cutK ps (ax, ay) (bx, bY) k = o) := Lib.hid (by rw [HK.out, ← ho]; rfl)
      clear ho s0 s1
      go_wp2_with fail
      refine Settle.region (fun W => PointOk.Box4 W (w.heap.size) ax ay bx bY ∧ PtsAt W w.heap.size A ps ∧ Below w.heap.size w W) (by kernel_rfl) (by kernel_rfl) (by kernel_rfl) (by kernel_rfl) (HO _ _ S0 ((Below.refl _ _).drew)) ?_
      clear S0
      repeat (first
        | (refine Settle.Settles.off (by rfl) ?_; simp only [Act.put, List.setIfInBounds_toArray, List.set_cons_zero, List.set_cons_succ])
        | (refine Settle.Settles.quiet (v := ?_) (by rfl) ?_ ?_
           rotate_left
           · (intro W hS; obtain ⟨⟨_, _, _, _⟩, _, _⟩ := hS; go_simp; with_reducible rfl)
           simp only [Act.put, List.setIfInBounds_toArray, List.set_cons_zero, List.set_cons_succ])
        | (refine Settle.Settles.call (v := ?_) (f := ?_) (args := ?_) (by rfl) ?_ ?_ ?_
           rotate_left 3
           · (intro W; go_simp; refine ⟨?_, ?_⟩ <;> with_reducible rfl)
           · (intro W hS; first | (go_at_call 161; (with_reducible refine (QW.out _ (hS.2.1.wide hS.2.2.size)).mono ?_); rintro e W1 ⟨rfl, hb⟩; refine ⟨?_, HO _ _ hS hb⟩; with_reducible rfl) | (go_at_call 144; (with_reducible refine (QH.out _).mono ?_); rintro e W1 ⟨rfl, hb⟩; refine ⟨?_, HO _ _ hS hb⟩; with_reducible rfl))
           simp only [Act.put, List.setIfInBounds_toArray, List.set_cons_zero, List.set_cons_succ]))
      refine Settle.Settles.nil ?_
      intro wr S0
      obtain ⟨⟨_, _, _, _⟩, _, _⟩ := id S0
      cases o
      · have hno2 : Hid (∀ j, j < k + 1 → cutK ps (ax, ay) (bx, bY) j = false) := Lib.hid (by
          intro j hj
          rcases Nat.lt_or_ge j k with h | h
          · exact hno.out j h
          · obtain rfl : j = k := by omega
            exact HK.out)
        clear hl HR hno HK
        go_wp2_with fail
        first
          | exact ⟨⟨k + 1, by omega, by go_num, hno2, S0⟩, by simp [intOf]; omega⟩
          | (go_roundw <;> first | exact ⟨k + 1, by omega, by go_num, hno2, S0⟩ | (simp [intOf]; omega))
      · have E : Hid ((k : Int) = r) := Lib.hid (by rw [← HR.out]; exact (firstI_at (k := k) (by omega) HK.out hno.out).symm)
        clear hl HR hno HK
        go_wp2_with fail
        go_ret
        exact ⟨ret_i64 E.out, S0.2.2⟩
    · obtain rfl : n = k := by omega
      have E : Hid (r = -1) := Lib.hid (by rw [← HR.out]; exact firstI_none (by rw [hl]; exact hno.out))
      clear hl HR hno
      go_wp2_with fail
      go_ret
      exact ⟨ret_i64 E.out.symm, S0.2.2⟩

end Go.Proofs.Ythokeedmccfalaa.BlockImpl

