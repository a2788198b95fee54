/-
  What the model says of whole houses and their halls, as contracts.
-/
import Derived.Test.YtagokcbldkbdmaaHouDspec
namespace Go.Proofs.Ytagokcbldkbdmaa.HouVspec
open Go.RowKit Pts Blk HouMath HouBox HouMem
open Go.Proofs.Ytagokcbldkbdmaa.Own (icells icells_length icells_at)
open PointOk (ret_bool ret_i64 below1 below2 below3)

theorem dist_cell {w : World} {g H : Nat} {D : List Int} (h : Holds w g (icells D).toArray 3) (hD : D.length = H) {k : Nat} (hk : k < H) : w.cell? ⟨g, k, none⟩ = some (.int .i64 (D.getD k 0)) := by
  rw [cell_of_row w g k _ _ _ h, List.getElem?_toArray, icells_at (by omega)]
  simp [List.getD, show k < D.length by omega]

set_option maxRecDepth 100000 in
set_option maxHeartbeats 1600000 in
theorem houseOk (H : Int) (A : Option Addr) (n cap : Nat) (w : World) (ds : List (Int × Int)) (hl : ds.length = n) (hn : n ≤ 1048576) (hp : PtsAt w w.heap.size A ds) :
    Calls Try.prog 66 #[.agg #[.int .i64 H, .slice A n cap]] w fun e w' => e = .returned (.bool (houseB H ds)) ∧ Below w.heap.size w w' := by
  obtain ⟨r, hr⟩ : ∃ r, houseB H ds = r := ⟨_, rfl⟩
  have HR := Lib.hid hr
  rw [hr]
  clear hr
  have Q1 : Hid (∀ w hp, _) := Lib.hid fun w hp => HouSpec.form H A n cap w ds hl hn hp
  cases hb : formB H ds
  · have E : Hid (r = false) := Lib.hid (by rw [← HR.out]; exact house_bad hb)
    rw [hb] at Q1
    clear HR hb
    go_enter Try.func66, Try.ntmps66
    go_wp2_with fail
    have X0 := HouBox.boxH w H A n cap 30 (k := w.heap.size) (by simp)
    have b0 := PointOk.below1 w (Obj.cells #[.int .i64 H, .slice A n cap] 30)
    have HO : ∀ W W' : World, (HouBox.BoxH W (w.heap.size) H A n cap ∧ PtsAt W w.heap.size A ds ∧ Below w.heap.size w W) → Below W.heap.size W W' → (HouBox.BoxH W' (w.heap.size) H A n cap ∧ PtsAt W' w.heap.size A ds ∧ Below w.heap.size w W') := fun W W' ⟨h0, x0, hb⟩ h => ⟨h0.later h, x0.later (h.mono hb.size), hb.trans (h.mono hb.size)⟩
    have hz0_ : Hid (((w.alloc (Obj.cells #[.int .i64 H, .slice A n cap] 30))).heap.size = w.heap.size + 1) := Lib.hid (by simp)
    have Y0 : PtsAt ((w.alloc (Obj.cells #[.int .i64 H, .slice A n cap] 30))) w.heap.size A ds := hp.later b0
    generalize (w.alloc (Obj.cells #[.int .i64 H, .slice A n cap] 30)) = w0 at X0 Y0 b0 hz0_ ⊢
    have S0 := (⟨X0, Y0, b0⟩ : HouBox.BoxH w0 (w.heap.size) H A n cap ∧ PtsAt w0 w.heap.size A ds ∧ Below w.heap.size w w0)
    clear X0 Y0 b0
    obtain ⟨⟨_, _⟩, _, _⟩ := id S0
    refine (Q1.out _ (S0.2.1.wide S0.2.2.size)).mono ?_
    rintro e w1 ⟨rfl, hb_⟩
    replace S0 := HO _ _ S0 hb_
    clear hb_
    obtain ⟨⟨_, _⟩, _, _⟩ := id S0
    go_wp2_with fail
    go_ret
    exact ⟨ret_bool E.out.symm, S0.2.2⟩
  have hf := form_out hb
  obtain ⟨N, rfl⟩ := Int.eq_ofNat_of_zero_le (show 0 ≤ H by have := hf.h1; omega)
  have hN : 0 < N := by have := hf.h1; omega
  have hN7 : N ≤ 7 := by have := hf.h7; omega
  have HE : Hid (r = (List.range N).all fun k => decide (0 ≤ (dist N ds 0).getD k 0)) := Lib.hid (by rw [← HR.out, house_of hb]; rfl)
  have Q2 := Lib.hid fun w hp => HouDspec.distances N A n cap 0 w ds hf hl hN hp
  have hDl := dist_len (ds := ds) hN
  generalize dist N ds 0 = D at *
  rw [hb] at Q1
  clear HR hb hf hl
  go_enter Try.func66, Try.ntmps66
  go_wp2_with fail
  have X0 := HouBox.boxH w N A n cap 30 (k := w.heap.size) (by simp)
  have b0 := PointOk.below1 w (Obj.cells #[.int .i64 N, .slice A n cap] 30)
  have HO : ∀ W W' : World, (HouBox.BoxH W (w.heap.size) N A n cap ∧ PtsAt W w.heap.size A ds ∧ Below w.heap.size w W) → Below W.heap.size W W' → (HouBox.BoxH W' (w.heap.size) N A n cap ∧ PtsAt W' w.heap.size A ds ∧ Below w.heap.size w W') := fun W W' ⟨h0, x0, hb⟩ h => ⟨h0.later h, x0.later (h.mono hb.size), hb.trans (h.mono hb.size)⟩
  have hz0_ : Hid (((w.alloc (Obj.cells #[.int .i64 N, .slice A n cap] 30))).heap.size = w.heap.size + 1) := Lib.hid (by simp)
  have Y0 : PtsAt ((w.alloc (Obj.cells #[.int .i64 N, .slice A n cap] 30))) w.heap.size A ds := hp.later b0
  generalize (w.alloc (Obj.cells #[.int .i64 N, .slice A n cap] 30)) = w0 at X0 Y0 b0 hz0_ ⊢
  have S0 := (⟨X0, Y0, b0⟩ : HouBox.BoxH w0 (w.heap.size) N A n cap ∧ PtsAt w0 w.heap.size A ds ∧ Below w.heap.size w w0)
  clear X0 Y0 b0
  obtain ⟨⟨_, _⟩, _, _⟩ := id S0
  refine (Q1.out _ (S0.2.1.wide S0.2.2.size)).mono ?_
  rintro e w1 ⟨rfl, hb_⟩
  replace S0 := HO _ _ S0 hb_
  clear hb_
  obtain ⟨⟨_, _⟩, _, _⟩ := id S0
  go_wp2_with fail
  refine (Q2.out _ (S0.2.1.wide S0.2.2.size)).mono ?_
  rintro e w2 ⟨g, rfl, hG, hg, hb_⟩
  replace S0 := HO _ _ S0 hb_
  clear Q1 Q2 hb_ hg
  obtain ⟨⟨_, _⟩, _, _⟩ := id S0
  go_wp2_with fail
  go_loopw [4] (fun i wr => ∃ k : Nat, k ≤ N ∧ i = .int .i64 k ∧ Hid (∀ j, j < k → 0 ≤ D.getD j 0) ∧ Holds wr g (icells D).toArray 3 ∧ (HouBox.BoxH wr (w.heap.size) N A n cap ∧ PtsAt wr w.heap.size A ds ∧ Below w.heap.size w wr))
    (fun i _ => N - (intOf i).toNat)
  case atStart => exact ⟨0, Nat.zero_le _, rfl, Lib.hid (fun j hj => absurd hj (by omega)), hG, S0⟩
  case round =>
    clear S0 hG
    obtain ⟨k, hk, rfl, hall, hG, S0⟩ := hrel
    obtain ⟨⟨_, _⟩, _, _⟩ := id S0
    by_cases hkN : k < N
    rotate_left
    · obtain rfl : N = k := by omega
      have E : Hid (r = true) := Lib.hid (by rw [HE.out, List.all_eq_true]; exact fun j hj => decide_eq_true (hall.out j (List.mem_range.1 hj)))
      clear hall HE hDl
      go_wp2_with fail
      go_ret
      exact ⟨ret_bool E.out.symm, S0.2.2⟩
    have hk1 : (k : Int) < (N : Int) := by omega
    have hk0 : (0 : Int) ≤ (k : Int) := by omega
    have ck := dist_cell hG hDl hkN
    have HF : Hid (D.getD k 0 < 0 → r = false) := Lib.hid (fun h => by rw [HE.out, List.all_eq_false]; exact ⟨k, List.mem_range.2 hkN, by simpa using h⟩)
    have HW : Hid (¬ D.getD k 0 < 0 → ∀ j, j < k + 1 → 0 ≤ D.getD j 0) := Lib.hid (fun h j hj => by
      rcases Nat.lt_or_ge j k with h1 | h1
      · exact hall.out j h1
      · obtain rfl : j = k := by omega
        omega)
    generalize D.getD k 0 = v at ck HF HW
    clear hall
    by_cases hv : v < 0
    · have E := Lib.hid (HF.out hv)
      clear HF HW HE
      go_wp2_with fail
      go_ret
      exact ⟨ret_bool E.out.symm, S0.2.2⟩
    · have HW2 := Lib.hid (HW.out hv)
      clear HF HW
      go_wp2_with fail
      exact ⟨⟨k + 1, by omega, by go_num, HW2, hG, S0⟩, by simp [intOf]; omega⟩

/-- A hall of a valid house. -/
def hasB (H : Int) (ds : List (Int × Int)) (x : Int) : Bool := houseB H ds && decide (0 ≤ x ∧ x ≤ H - 1)
set_option maxRecDepth 100000 in
set_option maxHeartbeats 1600000 in
theorem has (H : Int) (A : Option Addr) (n cap : Nat) (x : Int) (w : World) (ds : List (Int × Int)) (hl : ds.length = n) (hn : n ≤ 1048576) (hp : PtsAt w w.heap.size A ds) :
    Calls Try.prog 65 #[.agg #[.int .i64 H, .slice A n cap], .int .i64 x] w fun e w' => e = .returned (.bool (hasB H ds x)) ∧ Below w.heap.size w w' := by
  obtain ⟨r, hr⟩ : ∃ r, hasB H ds x = r := ⟨_, rfl⟩
  have HR := Lib.hid hr
  rw [hr]
  clear hr
  have Q1 : Hid (∀ w hp, _) := Lib.hid fun w hp => houseOk H A n cap w ds hl hn hp
  have HE : Hid (r = (houseB H ds && decide (0 ≤ x ∧ x ≤ H - 1))) := Lib.hid HR.out.symm
  have HH : Hid (houseB H ds = true → 1 ≤ H ∧ H ≤ 7) := Lib.hid (fun h => ⟨(house_form h).h1, (house_form h).h7⟩)
  generalize houseB H ds = b at *
  have Q2 : Hid (∀ w, _) := Lib.hid fun w => PointOk.l01In x 0 (H - 1) w
  generalize decide (0 ≤ x ∧ x ≤ H - 1) = c at *
  clear HR hl
  go_enter Try.func65, Try.ntmps65
  go_wp2_with fail
  have X0 := HouBox.boxH w H A n cap 30 (k := w.heap.size) (by simp)
  have b0 := PointOk.below1 w (Obj.cells #[.int .i64 H, .slice A n cap] 30)
  have HO : ∀ W W' : World, (HouBox.BoxH W (w.heap.size) H A n cap ∧ PtsAt W w.heap.size A ds ∧ Below w.heap.size w W) → Below W.heap.size W W' → (HouBox.BoxH W' (w.heap.size) H A n cap ∧ PtsAt W' w.heap.size A ds ∧ Below w.heap.size w W') := fun W W' ⟨h0, x0, hb⟩ h => ⟨h0.later h, x0.later (h.mono hb.size), hb.trans (h.mono hb.size)⟩
  have hz0_ : Hid (((w.alloc (Obj.cells #[.int .i64 H, .slice A n cap] 30))).heap.size = w.heap.size + 1) := Lib.hid (by simp)
  have Y0 : PtsAt ((w.alloc (Obj.cells #[.int .i64 H, .slice A n cap] 30))) w.heap.size A ds := hp.later b0
  generalize (w.alloc (Obj.cells #[.int .i64 H, .slice A n cap] 30)) = w0 at X0 Y0 b0 hz0_ ⊢
  have S0 := (⟨X0, Y0, b0⟩ : HouBox.BoxH w0 (w.heap.size) H A n cap ∧ PtsAt w0 w.heap.size A ds ∧ Below w.heap.size w w0)
  clear X0 Y0 b0
  obtain ⟨⟨_, _⟩, _, _⟩ := id S0
  refine (Q1.out _ (S0.2.1.wide S0.2.2.size)).mono ?_
  rintro e w1 ⟨rfl, hb_⟩
  replace S0 := HO _ _ S0 hb_
  clear hb_
  obtain ⟨⟨_, _⟩, _, _⟩ := id S0
  cases b
  · go_wp2_with fail
    go_ret
    exact ⟨ret_bool (by rw [HE.out]; rfl), S0.2.2⟩
  · obtain ⟨g1, g7⟩ := HH.out rfl
    have hw : IntKind.i64.wrap (H - 1) = H - 1 := IntWalk.i64_in _ (by omega)
    go_wp2_with fail
    refine (Q2.out _).mono ?_
    rintro e w_ ⟨rfl, rfl⟩
    go_wp2_with fail
    go_ret
    exact ⟨ret_bool (by rw [HE.out]; rfl), S0.2.2⟩

end Go.Proofs.Ytagokcbldkbdmaa.HouVspec

