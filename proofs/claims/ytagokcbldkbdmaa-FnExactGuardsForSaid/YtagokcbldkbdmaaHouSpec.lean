/-
  What the model's functions on houses do, as contracts: doors, the right form, distances, valid houses.
-/
import Derived.Test.YtagokcbldkbdmaaHouBox
import Derived.Test.YtagokcbldkbdmaaHouMath
import Derived.Test.YtagokcbldkbdmaaGround
import Derived.Lib.MinMax
import Derived.Laws.OwnMore
import Derived.OwnWalk
import Derived.Deep.RegionHeld3
namespace Go.Proofs.Ytagokcbldkbdmaa.HouSpec
open Go.RowKit Pts Blk HouMath HouBox
open Go.Proofs.Ytagokcbldkbdmaa.Own (icells icells_length icells_at)
open PointOk (ret_bool ret_i64 below1 below2 below3)

def hit (ds : List (Int × Int)) (a b : Int) (k : Nat) : Bool := decide ((dr ds k).1 = min a b) && decide ((dr ds k).2 = max a b)
theorem door_yes {ds : List (Int × Int)} {a b : Int} {k : Nat} (hk : k < ds.length) (h : hit ds a b k = true) : isDoor ds a b = true := by
  unfold isDoor
  rw [List.any_eq_true]
  refine ⟨ds[k], List.getElem_mem hk, ?_⟩
  unfold hit at h
  rw [dr_get hk] at h
  exact h
theorem door_no {ds : List (Int × Int)} {a b : Int} (h : ∀ k, k < ds.length → hit ds a b k = false) : isDoor ds a b = false := by
  unfold isDoor
  rw [List.any_eq_false]
  intro d hd
  obtain ⟨k, hk, rfl⟩ := List.mem_iff_getElem.1 hd
  have := h k hk
  unfold hit at this
  rw [dr_get hk] at this
  simp [this]

set_option maxRecDepth 100000 in
set_option maxHeartbeats 1600000 in
theorem door (H : Int) (A : Option Addr) (n cap : Nat) (a b : Int) (w : World) (ds : List (Int × Int)) (hl : ds.length = n) (hn : n ≤ 1048576) (hp : PtsAt w w.heap.size A ds) :
    Calls Try.prog 67 #[.agg #[.int .i64 H, .slice A n cap], .int .i64 a, .int .i64 b] w fun e w' => e = .returned (.bool (isDoor ds a b)) ∧ Below w.heap.size w w' := by
  obtain ⟨r, hr⟩ : ∃ r, isDoor ds a b = r := ⟨_, rfl⟩
  have HR := Lib.hid hr
  rw [hr]
  clear hr
  have HY := Lib.hid (fun k hk h => door_yes (ds := ds) (a := a) (b := b) (k := k) hk h)
  have HN := Lib.hid (fun h => door_no (ds := ds) (a := a) (b := b) h)
  have HD : Hid (∀ k, hit ds a b k = (decide ((dr ds k).1 = min a b) && decide ((dr ds k).2 = max a b))) := Lib.hid (fun k => rfl)
  obtain ⟨mn, hmn⟩ : ∃ m, min a b = m := ⟨_, rfl⟩
  obtain ⟨mx, hmx⟩ : ∃ m, max a b = m := ⟨_, rfl⟩
  rw [hmn, hmx] at HD
  go_enter Try.func67, Try.ntmps67
  go_wp2_with fail
  have X0 := HouBox.boxH w H A n cap 30 (k := w.heap.size) (by simp)
  have b0 := PointOk.below1 w (Obj.cells #[.int .i64 H, .slice A n cap] 30)
  have HO : ∀ W W' : World, (HouBox.BoxH W (w.heap.size) H A n cap ∧ PtsAt W w.heap.size A ds ∧ Below w.heap.size w W) → Below W.heap.size W W' → (HouBox.BoxH W' (w.heap.size) H A n cap ∧ PtsAt W' w.heap.size A ds ∧ Below w.heap.size w W') := fun W W' ⟨h0, x0, hb⟩ h => ⟨h0.later h, x0.later (h.mono hb.size), hb.trans (h.mono hb.size)⟩
  have hz0_ : Hid (((w.alloc (Obj.cells #[.int .i64 H, .slice A n cap] 30))).heap.size = w.heap.size + 1) := Lib.hid (by simp)
  have Y0 : PtsAt ((w.alloc (Obj.cells #[.int .i64 H, .slice A n cap] 30))) w.heap.size A ds := hp.later b0
  generalize (w.alloc (Obj.cells #[.int .i64 H, .slice A n cap] 30)) = w0 at X0 Y0 b0 hz0_ ⊢
  have S0 := (⟨X0, Y0, b0⟩ : HouBox.BoxH w0 (w.heap.size) H A n cap ∧ PtsAt w0 w.heap.size A ds ∧ Below w.heap.size w w0)
  clear X0 Y0 b0
  obtain ⟨⟨_, _⟩, _, _⟩ := id S0
  go_loopw [7] (fun i wr => ∃ k : Nat, k ≤ n ∧ i = .int .i64 k ∧ Hid (∀ j, j < k → hit ds a b j = false) ∧ (HouBox.BoxH wr (w.heap.size) H A n cap ∧ PtsAt wr w.heap.size A ds ∧ Below w.heap.size w wr))
    (fun i _ => n - (intOf i).toNat)
  case atStart => exact ⟨0, Nat.zero_le _, rfl, Lib.hid (fun j hj => absurd hj (by omega)), S0⟩
  case round =>
    clear S0
    obtain ⟨k, hk, rfl, hall, S0⟩ := hrel
    obtain ⟨⟨_, _⟩, _, _⟩ := id S0
    by_cases hlt : k < n
    rotate_left
    · obtain rfl : k = n := by omega
      have E : Hid (r = false) := Lib.hid (by rw [← HR.out]; exact HN.out (fun j hj => hall.out j (by omega)))
      clear HR HY HN HD hall hl
      go_wp2_with fail
      go_ret
      exact ⟨ret_bool E.out.symm, S0.2.2⟩
    have hk1 : (k : Int) < (n : Int) := by omega
    have hk0 : (0 : Int) ≤ (k : Int) := by omega
    have hkl : k < ds.length := by omega
    have h0 := Lib.hid (HD.out k)
    have HY1 := Lib.hid (HY.out k hkl)
    obtain ⟨⟨x, y⟩, hxy⟩ : ∃ p, dr ds k = p := ⟨_, rfl⟩
    have hat := dr_at hkl
    rw [hxy] at h0 hat
    obtain ⟨ad, eA, bA, pA⟩ := S0.2.1.get hat
    subst eA
    obtain ⟨_, _⟩ := id pA
    clear hat hxy HY HN HD hl hp
    by_cases h1 : x = mn
    · subst h1
      by_cases h2 : y = mx
      · subst h2
        have E : Hid (r = true) := Lib.hid (by rw [← HR.out]; exact HY1.out (by rw [h0.out]; simp))
        clear HR HY1 h0 hall
        go_wp2_with fail
        go_ret
        exact ⟨ret_bool E.out.symm, S0.2.2⟩
      · have hx : (y == mx) = false := beq_eq_false_iff_ne.2 h2
        have HW : Hid (∀ j, j < k + 1 → hit ds a b j = false) := Lib.hid (fun j hj => by
          rcases Nat.lt_or_ge j k with h | h
          · exact hall.out j h
          · obtain rfl : j = k := by omega
            rw [h0.out]; simp [h2])
        clear HR HY1 h0 hall
        go_wp2_with fail
        exact ⟨⟨k + 1, by omega, by go_num, HW, S0⟩, by simp [intOf]; omega⟩
    · have hx : (x == mn) = false := beq_eq_false_iff_ne.2 h1
      have HW : Hid (∀ j, j < k + 1 → hit ds a b j = false) := Lib.hid (fun j hj => by
        rcases Nat.lt_or_ge j k with h | h
        · exact hall.out j h
        · obtain rfl : j = k := by omega
          rw [h0.out]; simp [h1])
      clear HR HY1 h0 hall
      go_wp2_with fail
      exact ⟨⟨k + 1, by omega, by go_num, HW, S0⟩, by simp [intOf]; omega⟩

set_option maxRecDepth 100000 in
set_option maxHeartbeats 3200000 in
theorem form (H : Int) (A : Option Addr) (n cap : Nat) (w : World) (ds : List (Int × Int)) (hl : ds.length = n) (hn : n ≤ 1048576) (hp : PtsAt w w.heap.size A ds) :
    Calls Try.prog 111 #[.agg #[.int .i64 H, .slice A n cap]] w fun e w' => e = .returned (.bool (formB H ds)) ∧ Below w.heap.size w w' := by
  obtain ⟨r, hr⟩ : ∃ r, formB H ds = r := ⟨_, rfl⟩
  have HR := Lib.hid hr
  rw [hr]
  clear hr
  have HB := Lib.hid (fun k hk h => form_bad (H := H) (ds := ds) (k := k) hk h)
  have HG := Lib.hid (fun h => form_ok (H := H) (ds := ds) h)
  go_enter Try.func111, Try.ntmps111
  go_wp2_with fail
  have X0 := HouBox.boxH w H A n cap 30 (k := w.heap.size) (by simp)
  have b0 := PointOk.below1 w (Obj.cells #[.int .i64 H, .slice A n cap] 30)
  have HO : ∀ W W' : World, (HouBox.BoxH W (w.heap.size) H A n cap ∧ PtsAt W w.heap.size A ds ∧ Below w.heap.size w W) → Below W.heap.size W W' → (HouBox.BoxH W' (w.heap.size) H A n cap ∧ PtsAt W' w.heap.size A ds ∧ Below w.heap.size w W') := fun W W' ⟨h0, x0, hb⟩ h => ⟨h0.later h, x0.later (h.mono hb.size), hb.trans (h.mono hb.size)⟩
  have hz0_ : Hid (((w.alloc (Obj.cells #[.int .i64 H, .slice A n cap] 30))).heap.size = w.heap.size + 1) := Lib.hid (by simp)
  have Y0 : PtsAt ((w.alloc (Obj.cells #[.int .i64 H, .slice A n cap] 30))) w.heap.size A ds := hp.later b0
  generalize (w.alloc (Obj.cells #[.int .i64 H, .slice A n cap] 30)) = w0 at X0 Y0 b0 hz0_ ⊢
  have S0 := (⟨X0, Y0, b0⟩ : HouBox.BoxH w0 (w.heap.size) H A n cap ∧ PtsAt w0 w.heap.size A ds ∧ Below w.heap.size w w0)
  clear X0 Y0 b0
  obtain ⟨⟨_, _⟩, _, _⟩ := id S0
  go_loopw [3] (fun i wr => ∃ k : Nat, k ≤ n ∧ i = .int .i64 k ∧ Hid (∀ j, j < k → okD H ds j = true) ∧ (HouBox.BoxH wr (w.heap.size) H A n cap ∧ PtsAt wr w.heap.size A ds ∧ Below w.heap.size w wr))
    (fun i _ => n - (intOf i).toNat)
  case atStart => exact ⟨0, Nat.zero_le _, rfl, Lib.hid (fun j hj => absurd hj (by omega)), S0⟩
  case round =>
    clear S0
    obtain ⟨k, hk, rfl, hall, S0⟩ := hrel
    obtain ⟨⟨_, _⟩, _, _⟩ := id S0
    by_cases hlt : k < n
    rotate_left
    · obtain rfl : k = n := by omega
      have E : Hid (r = (decide (1 ≤ H) && decide (H ≤ 7) && decide (k ≤ 12))) := Lib.hid (by rw [← HR.out, HG.out (fun j hj => hall.out j (by omega)), hl])
      clear HR HB HG hall hl
      have Q1 : Hid (∀ w, _) := Lib.hid fun w => PointOk.l01In H 1 7 w
      obtain ⟨c, hc⟩ : ∃ c, decide (1 ≤ H ∧ H ≤ 7) = c := ⟨_, rfl⟩
      have E2 : Hid (r = (c && decide (k ≤ 12))) := Lib.hid (by rw [E.out, ← hc]; simp)
      rw [hc] at Q1
      clear E hc
      go_wp2_with fail
      refine (Q1.out _).mono ?_
      rintro e w_ ⟨rfl, rfl⟩
      cases c
      · go_wp2_with fail
        go_ret
        exact ⟨ret_bool (by rw [E2.out]; rfl), S0.2.2⟩
      · by_cases h12 : k ≤ 12
        · have h12' : (k : Int) ≤ 12 := by omega
          have E3 : Hid (r = true) := Lib.hid (by rw [E2.out]; simp [h12])
          clear E2
          go_wp2_with fail
          go_ret
          exact ⟨ret_bool E3.out.symm, S0.2.2⟩
        · have h12' : ¬ (k : Int) ≤ 12 := by omega
          have E3 : Hid (r = false) := Lib.hid (by rw [E2.out]; simp [h12])
          clear E2
          go_wp2_with fail
          go_ret
          exact ⟨ret_bool (by first | exact E3.out.symm | (rw [E3.out]; exact decide_eq_false (by omega))), S0.2.2⟩
    have hk1 : (k : Int) < (n : Int) := by omega
    have hk0 : (0 : Int) ≤ (k : Int) := by omega
    have hkl : k < ds.length := by omega
    have HB1 := Lib.hid (HB.out k hkl)
    have HK : Hid (okD H ds k = (decide (0 ≤ (dr ds k).1) && decide ((dr ds k).1 < (dr ds k).2) && decide ((dr ds k).2 < H) && (decide (k = 0) || bef (dr ds (k - 1)) (dr ds k)))) := Lib.hid rfl
    obtain ⟨⟨x, y⟩, hxy⟩ : ∃ p, dr ds k = p := ⟨_, rfl⟩
    obtain ⟨⟨px, py⟩, hpxy⟩ : ∃ p, dr ds (k - 1) = p := ⟨_, rfl⟩
    have hat := dr_at hkl
    have hatp := dr_at (ds := ds) (k := k - 1) (by omega)
    rw [hxy, hpxy] at HK
    rw [hxy] at hat
    rw [hpxy] at hatp
    obtain ⟨ad, eA, bA, pA⟩ := S0.2.1.get hat
    subst eA
    obtain ⟨ad', eA', bA', pP⟩ := S0.2.1.get hatp
    cases eA'
    obtain ⟨_, _⟩ := id pA
    have HW : Hid (okD H ds k = true → ∀ j, j < k + 1 → okD H ds j = true) := Lib.hid (fun h j hj => by
      rcases Nat.lt_or_ge j k with h1 | h1
      · exact hall.out j h1
      · obtain rfl : j = k := by omega
        exact h)
    clear hat hatp hxy hpxy HB HG hl hp hall hkl
    obtain ⟨w1, hw1⟩ : ∃ w1, wr.alloc (.cells #[.int .i64 x, .int .i64 y] 134) = w1 := ⟨_, rfl⟩
    have B1 : Holds w1 wr.heap.size #[.int .i64 x, .int .i64 y] 134 := by rw [← hw1]; exact Holds.new wr _ _
    have hb1 : Below wr.heap.size wr w1 := by rw [← hw1]; exact below1 wr _
    have hwz : w.heap.size ≤ wr.heap.size := S0.2.2.size
    have HO : ∀ W W' : World, (BoxH W w.heap.size H (some ad) n cap ∧ PtsAt W w.heap.size (some ad) ds ∧ PtAt W ad (k - 1) px py ∧ Holds W wr.heap.size #[.int .i64 x, .int .i64 y] 134 ∧ Below w.heap.size w W) → Below W.heap.size W W' → (BoxH W' w.heap.size H (some ad) n cap ∧ PtsAt W' w.heap.size (some ad) ds ∧ PtAt W' ad (k - 1) px py ∧ Holds W' wr.heap.size #[.int .i64 x, .int .i64 y] 134 ∧ Below w.heap.size w W') := fun W W' ⟨x0, x1, x2, x3, hb⟩ h => ⟨x0.later h, x1.later (h.mono hb.size), x2.later bA (h.mono hb.size), x3.later h, hb.trans (h.mono hb.size)⟩
    have S1 : (BoxH w1 w.heap.size H (some ad) n cap ∧ PtsAt w1 w.heap.size (some ad) ds ∧ PtAt w1 ad (k - 1) px py ∧ Holds w1 wr.heap.size #[.int .i64 x, .int .i64 y] 134 ∧ Below w.heap.size w w1) := ⟨S0.1.later hb1, S0.2.1.later (hb1.mono hwz), pP.later bA (hb1.mono hwz), B1, S0.2.2.trans (hb1.mono hwz)⟩
    have hres : ∀ W, (BoxH W w.heap.size H (some ad) n cap ∧ PtsAt W w.heap.size (some ad) ds ∧ PtAt W ad (k - 1) px py ∧ Holds W wr.heap.size #[.int .i64 x, .int .i64 y] 134 ∧ Below w.heap.size w W) → BoxH W w.heap.size H (some ad) n cap ∧ PtsAt W w.heap.size (some ad) ds ∧ Below w.heap.size w W := fun W h => ⟨h.1, h.2.1, h.2.2.2.2⟩
    have hres := Lib.hid hres
    clear S0 B1 hb1 pA pP
    obtain ⟨⟨_, _⟩, _, ⟨_, _⟩, _, _⟩ := id S1
    obtain ⟨⟨_, _⟩, _⟩ := S1.2.2.2.1.two
    by_cases hx0 : 0 ≤ x
    rotate_left
    · have E : Hid (r = false) := Lib.hid (by rw [← HR.out]; exact HB1.out (by rw [HK.out]; simp [hx0]))
      have hx1 : x < 0 := by omega
      clear HR HB1 HK HW
      go_wp2_with fail
      go_ret
      exact ⟨ret_bool E.out.symm, (hres.out _ S1).2.2⟩
    have hx1 : ¬ x < 0 := by omega
    by_cases hxy : x < y
    rotate_left
    · have E : Hid (r = false) := Lib.hid (by rw [← HR.out]; exact HB1.out (by rw [HK.out]; simp [hxy]))
      have hx2 : y ≤ x := by omega
      clear HR HB1 HK HW
      go_wp2_with fail
      go_ret
      exact ⟨ret_bool E.out.symm, (hres.out _ S1).2.2⟩
    have hx2 : ¬ y ≤ x := by omega
    by_cases hyH : y < H
    rotate_left
    · have E : Hid (r = false) := Lib.hid (by rw [← HR.out]; exact HB1.out (by rw [HK.out]; simp [hyH]))
      have hx3 : H ≤ y := by omega
      clear HR HB1 HK HW
      go_wp2_with fail
      go_ret
      exact ⟨ret_bool E.out.symm, (hres.out _ S1).2.2⟩
    have hx3 : ¬ H ≤ y := by omega
    have S0 := S1
    clear S1
    obtain ⟨m, hkm⟩ : ∃ m, k - 1 = m := ⟨_, rfl⟩
    rw [hkm] at S0
    simp only [hkm] at hres
    have HO : ∀ W W' : World, (BoxH W w.heap.size H (some ad) n cap ∧ PtsAt W w.heap.size (some ad) ds ∧ PtAt W ad m px py ∧ PointOk.Box W wr.heap.size x y ∧ Below w.heap.size w W) → Below W.heap.size W W' → (BoxH W' w.heap.size H (some ad) n cap ∧ PtsAt W' w.heap.size (some ad) ds ∧ PtAt W' ad m px py ∧ PointOk.Box W' wr.heap.size x y ∧ Below w.heap.size w W') := fun W W' ⟨x0, x1, x2, x3, hb⟩ h => ⟨x0.later h, x1.later (h.mono hb.size), x2.later bA (h.mono hb.size), x3.later h, hb.trans (h.mono hb.size)⟩
    replace S0 : (BoxH w1 w.heap.size H (some ad) n cap ∧ PtsAt w1 w.heap.size (some ad) ds ∧ PtAt w1 ad m px py ∧ PointOk.Box w1 wr.heap.size x y ∧ Below w.heap.size w w1) := ⟨S0.1, S0.2.1, S0.2.2.1, S0.2.2.2.1.two.1, S0.2.2.2.2⟩
    replace hres : Hid (∀ W, (BoxH W w.heap.size H (some ad) n cap ∧ PtsAt W w.heap.size (some ad) ds ∧ PtAt W ad m px py ∧ PointOk.Box W wr.heap.size x y ∧ Below w.heap.size w W) → BoxH W w.heap.size H (some ad) n cap ∧ PtsAt W w.heap.size (some ad) ds ∧ Below w.heap.size w W) := Lib.hid (fun W h => ⟨h.1, h.2.1, h.2.2.2.2⟩)
    by_cases hk00 : k = 0
    · have d0 : decide ((0 : Int) < (k : Int)) = false := decide_eq_false (by omega)
      have d0n : decide (0 < k) = false := decide_eq_false (by omega)
      have HW1 := Lib.hid (HW.out (by rw [HK.out]; simp [hx0, hxy, hyH, hk00]))
      clear hk00
      have HW2 := HW1
      clear HR HB1 HK HW
      obtain ⟨⟨_, _⟩, _, ⟨_, _⟩, ⟨_, _⟩, _⟩ := id S0
      go_wp2_with fail
      refine Settle.region (fun W => BoxH W w.heap.size H (some ad) n cap ∧ PtsAt W w.heap.size (some ad) ds ∧ PtAt W ad m px py ∧ PointOk.Box W wr.heap.size x y ∧ Below w.heap.size w W) (by kernel_rfl) (by kernel_rfl) (by kernel_rfl) (by kernel_rfl) (HO _ _ S0 ((Below.refl _ _).drew)) ?_
      clear S0
      repeat (first
        | (refine Settle.Settles.off (by rfl) ?_; simp only [Act.put, List.setIfInBounds_toArray, List.set_cons_zero, List.set_cons_succ])
        | (refine Settle.Settles.quiet (v := ?_) (by rfl) ?_ ?_
           rotate_left
           · (intro W hS; obtain ⟨⟨_, _⟩, _, ⟨_, _⟩, ⟨_, _⟩, _⟩ := hS; go_simp; with_reducible rfl)
           simp only [Act.put, List.setIfInBounds_toArray, List.set_cons_zero, List.set_cons_succ])
        | (refine Settle.Settles.call (v := ?_) (f := ?_) (args := ?_) (by rfl) ?_ ?_ ?_
           rotate_left 3
           · (intro W; go_simp; refine ⟨?_, ?_⟩ <;> with_reducible rfl)
           · (intro W hS; fail)
           simp only [Act.put, List.setIfInBounds_toArray, List.set_cons_zero, List.set_cons_succ]))
      refine Settle.Settles.nil ?_
      intro wr S0
      obtain ⟨⟨_, _⟩, _, ⟨_, _⟩, ⟨_, _⟩, _⟩ := id S0
      go_wp2_with fail
      exact ⟨⟨k + 1, by omega, by go_num, HW2, hres.out _ S0⟩, by simp [intOf]; omega⟩
    have d0 : decide ((0 : Int) < (k : Int)) = true := decide_eq_true (by omega)
    have d0n : decide (0 < k) = true := decide_eq_true (by omega)
    have hw : IntKind.i64.wrap ((k : Int) - 1) = (m : Int) := by rw [show (k : Int) - 1 = (m : Int) by omega]; exact IntWalk.i64_in _ (by omega)
    have hm0 : (0 : Int) ≤ (m : Int) := by omega
    have hm1 : (m : Int) < (n : Int) := by omega
    by_cases h1 : x < px
    · have d1 : decide (x < px) = true := decide_eq_true h1
      have E : Hid (r = false) := Lib.hid (by rw [← HR.out]; exact HB1.out (by rw [HK.out]; simp [hk00, bef]; omega))
      clear HR HB1 HK HW
      obtain ⟨⟨_, _⟩, _, ⟨_, _⟩, ⟨_, _⟩, _⟩ := id S0
      go_wp2_with fail
      refine Settle.region (fun W => BoxH W w.heap.size H (some ad) n cap ∧ PtsAt W w.heap.size (some ad) ds ∧ PtAt W ad m px py ∧ PointOk.Box W wr.heap.size x y ∧ Below w.heap.size w W) (by kernel_rfl) (by kernel_rfl) (by kernel_rfl) (by kernel_rfl) (HO _ _ S0 ((Below.refl _ _).drew)) ?_
      clear S0
      repeat (first
        | (refine Settle.Settles.off (by rfl) ?_; simp only [Act.put, List.setIfInBounds_toArray, List.set_cons_zero, List.set_cons_succ])
        | (refine Settle.Settles.quiet (v := ?_) (by rfl) ?_ ?_
           rotate_left
           · (intro W hS; obtain ⟨⟨_, _⟩, _, ⟨_, _⟩, ⟨_, _⟩, _⟩ := hS; go_simp; with_reducible rfl)
           simp only [Act.put, List.setIfInBounds_toArray, List.set_cons_zero, List.set_cons_succ])
        | (refine Settle.Settles.call (v := ?_) (f := ?_) (args := ?_) (by rfl) ?_ ?_ ?_
           rotate_left 3
           · (intro W; go_simp; refine ⟨?_, ?_⟩ <;> with_reducible rfl)
           · (intro W hS; fail)
           simp only [Act.put, List.setIfInBounds_toArray, List.set_cons_zero, List.set_cons_succ]))
      refine Settle.Settles.nil ?_
      intro wr S0
      obtain ⟨⟨_, _⟩, _, ⟨_, _⟩, ⟨_, _⟩, _⟩ := id S0
      go_wp2_with fail
      go_ret
      exact ⟨ret_bool E.out.symm, (hres.out _ S0).2.2⟩
    have d1 : decide (x < px) = false := decide_eq_false h1
    by_cases h2 : x = px
    rotate_left
    · have d2 : (x == px) = false := beq_eq_false_iff_ne.2 h2
      have HW2 := Lib.hid (HW.out (by rw [HK.out]; simp [hx0, hxy, hyH, hk00, bef]; omega))
      clear HR HB1 HK HW
      obtain ⟨⟨_, _⟩, _, ⟨_, _⟩, ⟨_, _⟩, _⟩ := id S0
      go_wp2_with fail
      refine Settle.region (fun W => BoxH W w.heap.size H (some ad) n cap ∧ PtsAt W w.heap.size (some ad) ds ∧ PtAt W ad m px py ∧ PointOk.Box W wr.heap.size x y ∧ Below w.heap.size w W) (by kernel_rfl) (by kernel_rfl) (by kernel_rfl) (by kernel_rfl) (HO _ _ S0 ((Below.refl _ _).drew)) ?_
      clear S0
      repeat (first
        | (refine Settle.Settles.off (by rfl) ?_; simp only [Act.put, List.setIfInBounds_toArray, List.set_cons_zero, List.set_cons_succ])
        | (refine Settle.Settles.quiet (v := ?_) (by rfl) ?_ ?_
           rotate_left
           · (intro W hS; obtain ⟨⟨_, _⟩, _, ⟨_, _⟩, ⟨_, _⟩, _⟩ := hS; go_simp; with_reducible rfl)
           simp only [Act.put, List.setIfInBounds_toArray, List.set_cons_zero, List.set_cons_succ])
        | (refine Settle.Settles.call (v := ?_) (f := ?_) (args := ?_) (by rfl) ?_ ?_ ?_
           rotate_left 3
           · (intro W; go_simp; refine ⟨?_, ?_⟩ <;> with_reducible rfl)
           · (intro W hS; fail)
           simp only [Act.put, List.setIfInBounds_toArray, List.set_cons_zero, List.set_cons_succ]))
      refine Settle.Settles.nil ?_
      intro wr S0
      obtain ⟨⟨_, _⟩, _, ⟨_, _⟩, ⟨_, _⟩, _⟩ := id S0
      go_wp2_with fail
      exact ⟨⟨k + 1, by omega, by go_num, HW2, hres.out _ S0⟩, by simp [intOf]; omega⟩
    subst h2
    have HO : ∀ W W' : World, (BoxH W w.heap.size H (some ad) n cap ∧ PtsAt W w.heap.size (some ad) ds ∧ PtAt W ad m x py ∧ PointOk.Box W wr.heap.size x y ∧ Below w.heap.size w W) → Below W.heap.size W W' → (BoxH W' w.heap.size H (some ad) n cap ∧ PtsAt W' w.heap.size (some ad) ds ∧ PtAt W' ad m x py ∧ PointOk.Box W' wr.heap.size x y ∧ Below w.heap.size w W') := fun W W' ⟨x0, x1, x2, x3, hb⟩ h => ⟨x0.later h, x1.later (h.mono hb.size), x2.later bA (h.mono hb.size), x3.later h, hb.trans (h.mono hb.size)⟩
    by_cases h3 : y ≤ py
    · have d3 : decide (y ≤ py) = true := decide_eq_true h3
      have E : Hid (r = false) := Lib.hid (by rw [← HR.out]; exact HB1.out (by rw [HK.out]; simp [hk00, bef]; omega))
      clear HR HB1 HK HW
      obtain ⟨⟨_, _⟩, _, ⟨_, _⟩, ⟨_, _⟩, _⟩ := id S0
      go_wp2_with fail
      refine Settle.region (fun W => BoxH W w.heap.size H (some ad) n cap ∧ PtsAt W w.heap.size (some ad) ds ∧ PtAt W ad m x py ∧ PointOk.Box W wr.heap.size x y ∧ Below w.heap.size w W) (by kernel_rfl) (by kernel_rfl) (by kernel_rfl) (by kernel_rfl) (HO _ _ S0 ((Below.refl _ _).drew)) ?_
      clear S0
      repeat (first
        | (refine Settle.Settles.off (by rfl) ?_; simp only [Act.put, List.setIfInBounds_toArray, List.set_cons_zero, List.set_cons_succ])
        | (refine Settle.Settles.quiet (v := ?_) (by rfl) ?_ ?_
           rotate_left
           · (intro W hS; obtain ⟨⟨_, _⟩, _, ⟨_, _⟩, ⟨_, _⟩, _⟩ := hS; go_simp; with_reducible rfl)
           simp only [Act.put, List.setIfInBounds_toArray, List.set_cons_zero, List.set_cons_succ])
        | (refine Settle.Settles.call (v := ?_) (f := ?_) (args := ?_) (by rfl) ?_ ?_ ?_
           rotate_left 3
           · (intro W; go_simp; refine ⟨?_, ?_⟩ <;> with_reducible rfl)
           · (intro W hS; fail)
           simp only [Act.put, List.setIfInBounds_toArray, List.set_cons_zero, List.set_cons_succ]))
      refine Settle.Settles.nil ?_
      intro wr S0
      obtain ⟨⟨_, _⟩, _, ⟨_, _⟩, ⟨_, _⟩, _⟩ := id S0
      go_wp2_with fail
      go_ret
      exact ⟨ret_bool E.out.symm, (hres.out _ S0).2.2⟩
    have d3 : decide (y ≤ py) = false := decide_eq_false h3
    have HW2 := Lib.hid (HW.out (by rw [HK.out]; simp [hx0, hxy, hyH, hk00, bef]; omega))
    clear HR HB1 HK HW
    obtain ⟨⟨_, _⟩, _, ⟨_, _⟩, ⟨_, _⟩, _⟩ := id S0
    go_wp2_with fail
    refine Settle.region (fun W => BoxH W w.heap.size H (some ad) n cap ∧ PtsAt W w.heap.size (some ad) ds ∧ PtAt W ad m x py ∧ PointOk.Box W wr.heap.size x y ∧ Below w.heap.size w W) (by kernel_rfl) (by kernel_rfl) (by kernel_rfl) (by kernel_rfl) (HO _ _ S0 ((Below.refl _ _).drew)) ?_
    clear S0
    repeat (first
      | (refine Settle.Settles.off (by rfl) ?_; simp only [Act.put, List.setIfInBounds_toArray, List.set_cons_zero, List.set_cons_succ])
      | (refine Settle.Settles.quiet (v := ?_) (by rfl) ?_ ?_
         rotate_left
         · (intro W hS; obtain ⟨⟨_, _⟩, _, ⟨_, _⟩, ⟨_, _⟩, _⟩ := hS; go_simp; with_reducible rfl)
         simp only [Act.put, List.setIfInBounds_toArray, List.set_cons_zero, List.set_cons_succ])
      | (refine Settle.Settles.call (v := ?_) (f := ?_) (args := ?_) (by rfl) ?_ ?_ ?_
         rotate_left 3
         · (intro W; go_simp; refine ⟨?_, ?_⟩ <;> with_reducible rfl)
         · (intro W hS; fail)
         simp only [Act.put, List.setIfInBounds_toArray, List.set_cons_zero, List.set_cons_succ]))
    refine Settle.Settles.nil ?_
    intro wr S0
    obtain ⟨⟨_, _⟩, _, ⟨_, _⟩, ⟨_, _⟩, _⟩ := id S0
    go_wp2_with fail
    exact ⟨⟨k + 1, by omega, by go_num, HW2, hres.out _ S0⟩, by simp [intOf]; omega⟩

end Go.Proofs.Ytagokcbldkbdmaa.HouSpec

