/-
  What LastSeen does, as a contract: what it answers; new memory alone is written.
-/
import Derived.Test.YtdcekbhfbkiflaaDoorStockMath
import Derived.Test.YtdcekbhfbkiflaaDoorGround
import Derived.Lib.MinMax
import Derived.OwnWalk
namespace Go.Proofs.YtdcekbhfbkiflaaDoor.StockImpl
open Go.RowKit StockMath TupIIB Blk
open PointOk (ret_bool ret_i64 below1 below2 below3)

set_option maxRecDepth 100000 in
set_option maxHeartbeats 6400000 in
theorem lastSeen (A : Option Addr) (n cap : Nat) (o : Int) (w : World) (ps : List Tu) (hl : ps.length = n) (_hn : n ≤ 1048576) (hp : TsAt w w.heap.size A ps) :
    Calls Tryd.prog 89 #[.slice A n cap, .int .i64 o] w fun e w' => e = .returned (.int .i64 (seenI ps o)) ∧ Below w.heap.size w w' := by
  obtain ⟨r, hr⟩ : ∃ r, seenI ps o = r := ⟨_, rfl⟩
  have HR := Lib.hid hr
  rw [hr]
  clear hr
  have HE : Hid (seenTo ps o n = r) := Lib.hid (by rw [← HR.out, ← hl]; rfl)
  clear HR
  go_enter Tryd.func89, Tryd.ntmps89
  go_wp2_with fail
  have HO : ∀ W W' : World, (TsAt W w.heap.size A ps ∧ Below w.heap.size w W) → Below W.heap.size W W' → (TsAt W' w.heap.size A ps ∧ Below w.heap.size w W') := fun W W' ⟨x0, hb⟩ h => ⟨x0.later (h.mono hb.size), hb.trans (h.mono hb.size)⟩
  have S0 : TsAt w w.heap.size A ps ∧ Below w.heap.size w w := ⟨hp, Below.refl _ _⟩
  clear hp
  go_loopw [5, 10] (fun v q wr => ∃ k : Nat, k ≤ n ∧ q = .int .i64 k ∧ v = .int .i64 (seenTo ps o k) ∧ (TsAt wr w.heap.size A ps ∧ Below w.heap.size w wr))
    (fun _ q _ => n - (intOf q).toNat)
  case atStart => exact ⟨0, Nat.zero_le _, rfl, rfl, S0⟩
  case round =>
    clear S0
    obtain ⟨k, hkn, rfl, rfl, S0⟩ := hrel
    by_cases hlt : k < n
    rotate_left
    · obtain rfl : n = k := by omega
      rw [HE.out]
      obtain ⟨_, _⟩ := id S0
      clear hl HE
      go_wp2_with fail
      go_ret
      exact ⟨rfl, S0.2⟩
    have hk1 : (k : Int) < (n : Int) := by omega
    have hk0 : (0 : Int) ≤ (k : Int) := by omega
    have HN := Lib.hid (show seenTo ps o (k + 1) = if (tt ps k).2.1 = o ∧ (tt ps k).2.2 = true then max (seenTo ps o k) (tt ps k).1 else seenTo ps o k from rfl)
    have p0 := tt_at (ps := ps) (k := k) (by omega)
    obtain ⟨a, b, c, hg⟩ : ∃ a b c, tt ps k = (a, b, c) := ⟨_, _, _, rfl⟩
    rw [hg] at p0 HN
    dsimp only at HN
    generalize seenTo ps o k = v at *
    obtain ⟨bd, eB, bB, pB⟩ := S0.1.get p0
    subst eB
    have HO : ∀ W W' : World, (TsAt W w.heap.size (some bd) ps ∧ TAt W bd k a b c ∧ Below w.heap.size w W) → Below W.heap.size W W' → (TsAt W' w.heap.size (some bd) ps ∧ TAt W' bd k a b c ∧ Below w.heap.size w W') := fun W W' ⟨x0, x1, hb⟩ h => ⟨x0.later (h.mono hb.size), x1.later bB (h.mono hb.size), hb.trans (h.mono hb.size)⟩
    replace S0 : TsAt wr w.heap.size (some bd) ps ∧ TAt wr bd k a b c ∧ Below w.heap.size w wr := ⟨S0.1, pB, S0.2⟩
    clear pB p0 hg hl HE
    obtain ⟨_, ⟨_, _, _⟩, _⟩ := id S0
    have b1_ := below1 wr (Obj.cells #[.int .i64 a, .int .i64 b, .bool c] 70)
    have S2 := HO _ _ S0 b1_
    have X3 := box1 wr a b c 70 (k := wr.heap.size) rfl
    obtain ⟨_, ⟨_, _, _⟩, _⟩ := id S2
    obtain ⟨_, _, _⟩ := id X3
    clear b1_ S0 X3
    by_cases h1 : b = o
    rotate_left
    · have h1b : (b == o) = false := by simpa using h1
      have HN2 : Hid (seenTo ps o (k + 1) = v) := Lib.hid (by rw [HN.out]; exact if_neg (fun h => h1 h.1))
      clear HN
      go_wp2_with fail
      first
        | exact ⟨⟨k + 1, by omega, by go_num, by rw [HN2.out], S2.1, S2.2.2⟩, by simp [intOf]; omega⟩
        | (go_roundw <;> first | exact ⟨k + 1, by omega, by go_num, by rw [HN2.out], S2.1, S2.2.2⟩ | (simp [intOf]; omega))
    replace h1 := h1.symm
    subst h1
    cases c
    · have HN2 : Hid (seenTo ps o (k + 1) = v) := Lib.hid (by rw [HN.out]; exact if_neg (fun h => by simp at h))
      clear HN
      go_wp2_with fail
      first
        | exact ⟨⟨k + 1, by omega, by go_num, by rw [HN2.out], S2.1, S2.2.2⟩, by simp [intOf]; omega⟩
        | (go_roundw <;> first | exact ⟨k + 1, by omega, by go_num, by rw [HN2.out], S2.1, S2.2.2⟩ | (simp [intOf]; omega))
    · have HN2 : Hid (seenTo ps o (k + 1) = max v a) := Lib.hid (by rw [HN.out]; exact if_pos ⟨rfl, rfl⟩)
      clear HN
      go_wp2_with fail
      first
        | exact ⟨⟨k + 1, by omega, by go_num, by rw [HN2.out], S2.1, S2.2.2⟩, by simp [intOf]; omega⟩
        | (go_roundw <;> first | exact ⟨k + 1, by omega, by go_num, by rw [HN2.out], S2.1, S2.2.2⟩ | (simp [intOf]; omega))

end Go.Proofs.YtdcekbhfbkiflaaDoor.StockImpl

