/-
  What the model says of rings of keys, doors and orders of halls, as contracts.
-/
import Derived.Test.YtagokcbldkbdmaaHouWspec
import Derived.Test.YtagokcbldkbdmaaHouMathC
namespace Go.Proofs.Ytagokcbldkbdmaa.HouXspec
open Go.RowKit Pts Blk HouMath HouMathB HouMathC HouBox HouMem Ints JoinMath RoomMath
open Go.Proofs.Ytagokcbldkbdmaa.Own (icells icells_length icells_at)
open PointOk (ret_bool ret_i64 below1 below2 below3)

set_option maxRecDepth 100000 in
set_option maxHeartbeats 1600000 in
theorem ringOk (H : Int) (A : Option Addr) (n cap : Nat) (x : Int) (w : World) (ds : List (Int × Int)) (hl : ds.length = n) (hn : n ≤ 1048576) (hp : PtsAt w w.heap.size A ds) :
    Calls Try.prog 53 #[.agg #[.int .i64 H, .slice A n cap], .int .i64 x] w fun e w' => e = .returned (.bool (ringB H ds x)) ∧ Below w.heap.size w w' := by
  obtain ⟨r, hr⟩ : ∃ r, ringB H ds x = r := ⟨_, rfl⟩
  have HR := Lib.hid hr
  rw [hr]
  clear hr
  have Q1 : Hid (∀ w hp, _) := Lib.hid fun w hp => HouVspec.houseOk H A n cap w ds hl hn hp
  cases ch : houseB H ds
  · have E : Hid (r = false) := Lib.hid (by rw [← HR.out]; unfold ringB; rw [ch]; rfl)
    rw [ch] at Q1
    clear HR ch
    go_enter Try.func53, Try.ntmps53
    go_wp2_with fail
    have X0 := HouBox.boxH w H A n cap 30 (k := w.heap.size) (by simp)
    have b0 := PointOk.below1 w (Obj.cells #[.int .i64 H, .slice A n cap] 30)
    have HO : ∀ W W' : World, (HouBox.BoxH W (w.heap.size) H A n cap ∧ PtsAt W w.heap.size A ds ∧ Below w.heap.size w W) → Below W.heap.size W W' → (HouBox.BoxH W' (w.heap.size) H A n cap ∧ PtsAt W' w.heap.size A ds ∧ Below w.heap.size w W') := fun W W' ⟨h0, x0, hb⟩ h => ⟨h0.later h, x0.later (h.mono hb.size), hb.trans (h.mono hb.size)⟩
    have hz0_ : Hid (((w.alloc (Obj.cells #[.int .i64 H, .slice A n cap] 30))).heap.size = w.heap.size + 1) := Lib.hid (by simp)
    have Y0 : PtsAt ((w.alloc (Obj.cells #[.int .i64 H, .slice A n cap] 30))) w.heap.size A ds := hp.later b0
    generalize (w.alloc (Obj.cells #[.int .i64 H, .slice A n cap] 30)) = w0 at X0 Y0 b0 hz0_ ⊢
    have S0 := (⟨X0, Y0, b0⟩ : HouBox.BoxH w0 (w.heap.size) H A n cap ∧ PtsAt w0 w.heap.size A ds ∧ Below w.heap.size w w0)
    clear X0 Y0 b0
    obtain ⟨⟨_, _⟩, _, _⟩ := id S0
    refine (Q1.out _ (S0.2.1.wide S0.2.2.size)).mono ?_
    rintro e w1 ⟨rfl, hb_⟩
    replace S0 := HO _ _ S0 hb_
    clear hb_
    obtain ⟨⟨_, _⟩, _, _⟩ := id S0
    go_wp2_with fail
    go_ret
    exact ⟨ret_bool E.out.symm, S0.2.2⟩
  have h12 : n ≤ 12 := by have := (house_form ch).len; omega
  obtain ⟨L, hL⟩ : ∃ L : Int, (2 : Int) ^ n - 1 = L := ⟨_, rfl⟩
  have hP : wrap64 (wrap64 (2 ^ n) - 1) = L := by rw [← hL]; exact pow_wrap h12
  have E : Hid (r = decide (0 ≤ x ∧ x ≤ L)) := Lib.hid (by rw [← HR.out, ← hL]; unfold ringB; rw [ch, hl]; rfl)
  have Q2 : Hid (∀ w, _) := Lib.hid fun w => PointOk.l01In x 0 L w
  obtain ⟨c, hc⟩ : ∃ c, decide (0 ≤ x ∧ x ≤ L) = c := ⟨_, rfl⟩
  rw [hc] at E Q2
  rw [ch] at Q1
  have hn0 : (0 : Int) ≤ (n : Int) := by omega
  have hn64 : (n : Int) < 64 := by omega
  clear HR ch hc hL h12
  go_enter Try.func53, Try.ntmps53
  go_wp2_with fail
  have X0 := HouBox.boxH w H A n cap 30 (k := w.heap.size) (by simp)
  have b0 := PointOk.below1 w (Obj.cells #[.int .i64 H, .slice A n cap] 30)
  have HO : ∀ W W' : World, (HouBox.BoxH W (w.heap.size) H A n cap ∧ PtsAt W w.heap.size A ds ∧ Below w.heap.size w W) → Below W.heap.size W W' → (HouBox.BoxH W' (w.heap.size) H A n cap ∧ PtsAt W' w.heap.size A ds ∧ Below w.heap.size w W') := fun W W' ⟨h0, x0, hb⟩ h => ⟨h0.later h, x0.later (h.mono hb.size), hb.trans (h.mono hb.size)⟩
  have hz0_ : Hid (((w.alloc (Obj.cells #[.int .i64 H, .slice A n cap] 30))).heap.size = w.heap.size + 1) := Lib.hid (by simp)
  have Y0 : PtsAt ((w.alloc (Obj.cells #[.int .i64 H, .slice A n cap] 30))) w.heap.size A ds := hp.later b0
  generalize (w.alloc (Obj.cells #[.int .i64 H, .slice A n cap] 30)) = w0 at X0 Y0 b0 hz0_ ⊢
  have S0 := (⟨X0, Y0, b0⟩ : HouBox.BoxH w0 (w.heap.size) H A n cap ∧ PtsAt w0 w.heap.size A ds ∧ Below w.heap.size w w0)
  clear X0 Y0 b0
  obtain ⟨⟨_, _⟩, _, _⟩ := id S0
  refine (Q1.out _ (S0.2.1.wide S0.2.2.size)).mono ?_
  rintro e w1 ⟨rfl, hb_⟩
  replace S0 := HO _ _ S0 hb_
  clear hb_
  obtain ⟨⟨_, _⟩, _, _⟩ := id S0
  go_wp2_with fail
  try rw [hP]
  refine (Q2.out _).mono ?_
  rintro e w_ ⟨rfl, rfl⟩
  go_wp2_with fail
  go_ret
  exact ⟨ret_bool E.out.symm, S0.2.2⟩

end Go.Proofs.Ytagokcbldkbdmaa.HouXspec

