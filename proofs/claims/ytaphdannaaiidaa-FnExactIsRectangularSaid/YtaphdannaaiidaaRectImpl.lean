/-
  What the landed IsRectangular does, as a contract: what it answers; new memory alone is written.
-/
import Derived.Test.YtaphdannaaiidaaRoomOkImpl
import Derived.Test.YtaphdannaaiidaaFacts
namespace Go.Proofs.Ytaphdannaaiidaa.RectImpl
open Go.RowKit PointMath WallMath RoomMath Pts Blk AreaMath PlaceMath
open PointOk (ret_bool ret_i64 below1 below2 below3)

set_option maxRecDepth 100000 in
set_option maxHeartbeats 1600000 in
theorem isRect (A : Option Addr) (n cap : Nat) (w : World) (ps : List (Int × Int)) (hl : ps.length = n) (hn : n ≤ 1048576) (hp : PtsAt w w.heap.size A ps) :
    Calls Try.prog 33 #[.agg #[.slice A n cap]] w fun e w' => e = .returned (.bool (rectB ps)) ∧ Below w.heap.size w w' := by
  obtain ⟨r, hr⟩ : ∃ r, rectB ps = r := ⟨_, rfl⟩
  have HR := Lib.hid hr
  rw [hr]
  clear hr
  go_enter Try.func33, Try.ntmps33
  go_wp2_with fail
  have X0 := Pts.boxR w (.slice A n cap) 33 (k := w.heap.size) (by simp)
  have b0 := PointOk.below1 w (Obj.cells #[.slice A n cap] 33)
  have HO : ∀ W W' : World, (Pts.BoxR W (w.heap.size) (.slice A n cap) ∧ PtsAt W w.heap.size A ps ∧ Below w.heap.size w W) → Below W.heap.size W W' → (Pts.BoxR W' (w.heap.size) (.slice A n cap) ∧ PtsAt W' w.heap.size A ps ∧ Below w.heap.size w W') := fun W W' ⟨h0, x0, hb⟩ h => ⟨h0.later h, x0.later (h.mono hb.size), hb.trans (h.mono hb.size)⟩
  have hz0_ : Hid (((w.alloc (Obj.cells #[.slice A n cap] 33))).heap.size = w.heap.size + 1) := Lib.hid (by simp)
  have Y0 : PtsAt ((w.alloc (Obj.cells #[.slice A n cap] 33))) w.heap.size A ps := hp.later b0
  generalize (w.alloc (Obj.cells #[.slice A n cap] 33)) = w0 at X0 Y0 b0 hz0_ ⊢
  have S0 := (⟨X0, Y0, b0⟩ : Pts.BoxR w0 (w.heap.size) (.slice A n cap) ∧ PtsAt w0 w.heap.size A ps ∧ Below w.heap.size w w0)
  clear X0 Y0 b0
  obtain ⟨⟨_, _⟩, _, _⟩ := id S0
  refine (RoomOkImpl.roomOk A n cap _ ps hl hn (S0.2.1.wide S0.2.2.size)).mono ?_
  rintro e w1 ⟨rfl, hb_⟩
  replace S0 := HO _ _ S0 hb_
  clear hb_
  obtain ⟨⟨_, _⟩, _, _⟩ := id S0
  cases hr : roomB ps
  · have E : Hid (r = false) := Lib.hid (by rw [← HR.out]; unfold rectB; rw [hr]; rfl)
    clear hl HR
    go_wp2_with fail
    go_ret
    exact ⟨ret_bool E.out.symm, S0.2.2⟩
  replace hr := Lib.hid hr
  go_wp2_with fail
  go_loopw [11] (fun i wr => ∃ k : Nat, k ≤ n ∧ i = .int .i64 k ∧ Hid (∀ j, j < k → slantB (wallI ps j).1 (wallI ps j).2 = false) ∧ (Pts.BoxR wr (w.heap.size) (.slice A n cap) ∧ PtsAt wr w.heap.size A ps ∧ Below w.heap.size w wr))
    (fun i _ => n - (intOf i).toNat)
  case atStart => exact ⟨0, Nat.zero_le _, rfl, Lib.hid (fun j hj => absurd hj (by omega)), S0⟩
  case round =>
    clear S0
    obtain ⟨k, hkn, rfl, hno, S0⟩ := hrel
    obtain ⟨⟨_, _⟩, _, _⟩ := id S0
    by_cases hlt : k < n
    · have hk1 : (k : Int) < (n : Int) := by omega
      have QW : Hid (∀ w hp, _) := Lib.hid fun w hp => RoomOkImpl.wallBehind A n cap k w ps hl hn hlt hp
      have HK : Hid (wallI ps (k : Int) = (pt ps k, pt ps ((k + 1) % n))) := Lib.hid (by rw [wallI_at hr.out (by omega), hl])
      generalize pt ps ((k + 1) % n) = b at *
      generalize pt ps k = a at *
      obtain ⟨ax, ay⟩ := a
      obtain ⟨bx, bY⟩ := b
      go_wp2_with fail
      refine (QW.out _ (S0.2.1.wide S0.2.2.size)).mono ?_
      rintro e w2 ⟨rfl, hb_⟩
      replace S0 := HO _ _ S0 hb_
      clear hb_
      obtain ⟨⟨_, _⟩, _, _⟩ := id S0
      have hno2 : slantB (ax, ay) (bx, bY) = false → Hid (∀ j : Nat, j < k + 1 → slantB (wallI ps j).1 (wallI ps j).2 = false) := fun h0 => Lib.hid (by
        intro j hj
        rcases Nat.lt_or_ge j k with h | h
        · exact hno.out j h
        · obtain rfl : j = k := by omega
          rw [HK.out]; exact h0)
      have hyes : slantB (ax, ay) (bx, bY) = true → Hid (r = false) := fun h0 => Lib.hid (by rw [← HR.out]; exact rect_at (k := k) (by omega) (by rw [HK.out]; exact h0))
      have X := PointOk.box4 w2 ax ay bx bY 29 (k := w2.heap.size) rfl
      obtain ⟨_, _, _, _⟩ := X
      replace S0 := HO _ _ S0 (below1 w2 (Obj.cells #[.int .i64 ax, .int .i64 ay, .int .i64 bx, .int .i64 bY] 29))
      obtain ⟨⟨_, _⟩, _, _⟩ := id S0
      clear hl HR hno HK QW
      by_cases h1 : ax = bx
      · subst h1
        replace hno2 := hno2 (by simp [slantB])
        clear hyes
        go_wp2_with fail
        first
          | exact ⟨⟨k + 1, by omega, by go_num, hno2, S0⟩, by simp [intOf]; omega⟩
          | (go_roundw <;> first | exact ⟨k + 1, by omega, by go_num, hno2, S0⟩ | (simp [intOf]; omega))
      have n1 : (ax == bx) = false := beq_eq_false_iff_ne.2 h1
      have n2 : (ax != bx) = true := by simp [h1]
      by_cases h2 : ay = bY
      · subst h2
        replace hno2 := hno2 (by simp [slantB])
        clear hyes
        go_wp2_with fail
        first
          | exact ⟨⟨k + 1, by omega, by go_num, hno2, S0⟩, by simp [intOf]; omega⟩
          | (go_roundw <;> first | exact ⟨k + 1, by omega, by go_num, hno2, S0⟩ | (simp [intOf]; omega))
      have n3 : (ay == bY) = false := beq_eq_false_iff_ne.2 h2
      have n4 : (ay != bY) = true := by simp [h2]
      have E := hyes (by simp [slantB, h1, h2])
      clear hno2 hyes
      go_wp2_with fail
      go_ret
      exact ⟨ret_bool E.out.symm, S0.2.2⟩
    · obtain rfl : n = k := by omega
      have E : Hid (r = true) := Lib.hid (by rw [← HR.out, rect_of (by rw [hl]; exact fun j hj => hno.out j hj)]; exact hr.out)
      clear hl HR hno
      go_wp2_with fail
      go_ret
      exact ⟨ret_bool E.out.symm, S0.2.2⟩

end Go.Proofs.Ytaphdannaaiidaa.RectImpl

