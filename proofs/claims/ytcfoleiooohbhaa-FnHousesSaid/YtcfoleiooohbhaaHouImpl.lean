/-
  What the landed functions on houses do, as contracts.
-/
import Derived.Test.YtcfoleiooohbhaaHouDist
import Derived.Test.YtcfoleiooohbhaaHouVspec
import Derived.Test.YtcfoleiooohbhaaIntSl
import Derived.Test.YtcfoleiooohbhaaInNumImpl
namespace Go.Proofs.Ytcfoleiooohbhaa.HouImpl
open Go.RowKit Pts Blk HouMath HouBox HouMem Ints
open Go.Proofs.Ytcfoleiooohbhaa.Own (icells icells_length icells_at)
open PointOk (ret_bool ret_i64 below1 below2 below3)

theorem isBefore (a b c d : Int) (w : World) :
    Calls Try.prog 49 #[.agg #[.int .i64 a, .int .i64 b], .agg #[.int .i64 c, .int .i64 d]] w fun e w' => e = .returned (.bool (bef (a, b) (c, d))) ∧ Below w.heap.size w w' := by
  obtain ⟨r, hr⟩ : ∃ r, bef (a, b) (c, d) = r := ⟨_, rfl⟩
  have HR := Lib.hid hr
  rw [hr]
  clear hr
  have HE : Hid (r = (decide (a < c) || decide (a = c) && decide (b < d))) := Lib.hid HR.out.symm
  clear HR
  by_cases h1 : a < c
  · have E : Hid (r = true) := Lib.hid (by rw [HE.out]; simp [h1])
    clear HE
    go_enter Try.func49, Try.ntmps49
    go_wp2_with fail
    have X0 := (PointOk.box1 w a b 83 (k := w.heap.size) (by simp)).alloc (Obj.cells #[.int .i64 c, .int .i64 d] 83)
    have X1 := PointOk.box1 (w.alloc (Obj.cells #[.int .i64 a, .int .i64 b] 83)) c d 83 (k := w.heap.size + 1) (by simp)
    have b0 := PointOk.below2 w (Obj.cells #[.int .i64 a, .int .i64 b] 83) (Obj.cells #[.int .i64 c, .int .i64 d] 83)
    have HO : ∀ W W' : World, (PointOk.Box W (w.heap.size) a b ∧ PointOk.Box W (w.heap.size + 1) c d ∧ Below w.heap.size w W) → Below W.heap.size W W' → (PointOk.Box W' (w.heap.size) a b ∧ PointOk.Box W' (w.heap.size + 1) c d ∧ Below w.heap.size w W') := fun W W' ⟨h0, h1, hb⟩ h => ⟨h0.later h, h1.later h, hb.trans (h.mono hb.size)⟩
    have hz0_ : Hid ((((w.alloc (Obj.cells #[.int .i64 a, .int .i64 b] 83)).alloc (Obj.cells #[.int .i64 c, .int .i64 d] 83))).heap.size = w.heap.size + 1 + 1) := Lib.hid (by simp)
    generalize ((w.alloc (Obj.cells #[.int .i64 a, .int .i64 b] 83)).alloc (Obj.cells #[.int .i64 c, .int .i64 d] 83)) = w0 at X0 X1 b0 hz0_ ⊢
    have S0 := (⟨X0, X1, b0⟩ : PointOk.Box w0 (w.heap.size) a b ∧ PointOk.Box w0 (w.heap.size + 1) c d ∧ Below w.heap.size w w0)
    clear X0 X1 b0
    obtain ⟨⟨_, _⟩, ⟨_, _⟩, _⟩ := id S0
    go_ret
    exact ⟨ret_bool E.out.symm, S0.2.2⟩
  by_cases h2 : a = c
  rotate_left
  · have E : Hid (r = false) := Lib.hid (by rw [HE.out]; simp [h1, h2])
    have hx : (a == c) = false := beq_eq_false_iff_ne.2 h2
    clear HE h2
    go_enter Try.func49, Try.ntmps49
    go_wp2_with fail
    have X0 := (PointOk.box1 w a b 83 (k := w.heap.size) (by simp)).alloc (Obj.cells #[.int .i64 c, .int .i64 d] 83)
    have X1 := PointOk.box1 (w.alloc (Obj.cells #[.int .i64 a, .int .i64 b] 83)) c d 83 (k := w.heap.size + 1) (by simp)
    have b0 := PointOk.below2 w (Obj.cells #[.int .i64 a, .int .i64 b] 83) (Obj.cells #[.int .i64 c, .int .i64 d] 83)
    have HO : ∀ W W' : World, (PointOk.Box W (w.heap.size) a b ∧ PointOk.Box W (w.heap.size + 1) c d ∧ Below w.heap.size w W) → Below W.heap.size W W' → (PointOk.Box W' (w.heap.size) a b ∧ PointOk.Box W' (w.heap.size + 1) c d ∧ Below w.heap.size w W') := fun W W' ⟨h0, h1, hb⟩ h => ⟨h0.later h, h1.later h, hb.trans (h.mono hb.size)⟩
    have hz0_ : Hid ((((w.alloc (Obj.cells #[.int .i64 a, .int .i64 b] 83)).alloc (Obj.cells #[.int .i64 c, .int .i64 d] 83))).heap.size = w.heap.size + 1 + 1) := Lib.hid (by simp)
    generalize ((w.alloc (Obj.cells #[.int .i64 a, .int .i64 b] 83)).alloc (Obj.cells #[.int .i64 c, .int .i64 d] 83)) = w0 at X0 X1 b0 hz0_ ⊢
    have S0 := (⟨X0, X1, b0⟩ : PointOk.Box w0 (w.heap.size) a b ∧ PointOk.Box w0 (w.heap.size + 1) c d ∧ Below w.heap.size w w0)
    clear X0 X1 b0
    obtain ⟨⟨_, _⟩, ⟨_, _⟩, _⟩ := id S0
    go_ret
    exact ⟨ret_bool E.out.symm, S0.2.2⟩
  subst h2
  by_cases h3 : b < d
  · have E : Hid (r = true) := Lib.hid (by rw [HE.out]; simp [h3])
    clear HE
    go_enter Try.func49, Try.ntmps49
    go_wp2_with fail
    have X0 := (PointOk.box1 w a b 83 (k := w.heap.size) (by simp)).alloc (Obj.cells #[.int .i64 a, .int .i64 d] 83)
    have X1 := PointOk.box1 (w.alloc (Obj.cells #[.int .i64 a, .int .i64 b] 83)) a d 83 (k := w.heap.size + 1) (by simp)
    have b0 := PointOk.below2 w (Obj.cells #[.int .i64 a, .int .i64 b] 83) (Obj.cells #[.int .i64 a, .int .i64 d] 83)
    have HO : ∀ W W' : World, (PointOk.Box W (w.heap.size) a b ∧ PointOk.Box W (w.heap.size + 1) a d ∧ Below w.heap.size w W) → Below W.heap.size W W' → (PointOk.Box W' (w.heap.size) a b ∧ PointOk.Box W' (w.heap.size + 1) a d ∧ Below w.heap.size w W') := fun W W' ⟨h0, h1, hb⟩ h => ⟨h0.later h, h1.later h, hb.trans (h.mono hb.size)⟩
    have hz0_ : Hid ((((w.alloc (Obj.cells #[.int .i64 a, .int .i64 b] 83)).alloc (Obj.cells #[.int .i64 a, .int .i64 d] 83))).heap.size = w.heap.size + 1 + 1) := Lib.hid (by simp)
    generalize ((w.alloc (Obj.cells #[.int .i64 a, .int .i64 b] 83)).alloc (Obj.cells #[.int .i64 a, .int .i64 d] 83)) = w0 at X0 X1 b0 hz0_ ⊢
    have S0 := (⟨X0, X1, b0⟩ : PointOk.Box w0 (w.heap.size) a b ∧ PointOk.Box w0 (w.heap.size + 1) a d ∧ Below w.heap.size w w0)
    clear X0 X1 b0
    obtain ⟨⟨_, _⟩, ⟨_, _⟩, _⟩ := id S0
    go_ret
    exact ⟨ret_bool E.out.symm, S0.2.2⟩
  have E : Hid (r = false) := Lib.hid (by rw [HE.out]; simp [h3])
  clear HE
  go_enter Try.func49, Try.ntmps49
  go_wp2_with fail
  have X0 := (PointOk.box1 w a b 83 (k := w.heap.size) (by simp)).alloc (Obj.cells #[.int .i64 a, .int .i64 d] 83)
  have X1 := PointOk.box1 (w.alloc (Obj.cells #[.int .i64 a, .int .i64 b] 83)) a d 83 (k := w.heap.size + 1) (by simp)
  have b0 := PointOk.below2 w (Obj.cells #[.int .i64 a, .int .i64 b] 83) (Obj.cells #[.int .i64 a, .int .i64 d] 83)
  have HO : ∀ W W' : World, (PointOk.Box W (w.heap.size) a b ∧ PointOk.Box W (w.heap.size + 1) a d ∧ Below w.heap.size w W) → Below W.heap.size W W' → (PointOk.Box W' (w.heap.size) a b ∧ PointOk.Box W' (w.heap.size + 1) a d ∧ Below w.heap.size w W') := fun W W' ⟨h0, h1, hb⟩ h => ⟨h0.later h, h1.later h, hb.trans (h.mono hb.size)⟩
  have hz0_ : Hid ((((w.alloc (Obj.cells #[.int .i64 a, .int .i64 b] 83)).alloc (Obj.cells #[.int .i64 a, .int .i64 d] 83))).heap.size = w.heap.size + 1 + 1) := Lib.hid (by simp)
  generalize ((w.alloc (Obj.cells #[.int .i64 a, .int .i64 b] 83)).alloc (Obj.cells #[.int .i64 a, .int .i64 d] 83)) = w0 at X0 X1 b0 hz0_ ⊢
  have S0 := (⟨X0, X1, b0⟩ : PointOk.Box w0 (w.heap.size) a b ∧ PointOk.Box w0 (w.heap.size + 1) a d ∧ Below w.heap.size w w0)
  clear X0 X1 b0
  obtain ⟨⟨_, _⟩, ⟨_, _⟩, _⟩ := id S0
  go_ret
  exact ⟨ret_bool (by first | exact E.out.symm | (rw [E.out]; simp; omega)), S0.2.2⟩

set_option maxRecDepth 100000 in
set_option maxHeartbeats 3200000 in
theorem houseOk (H : Int) (A : Option Addr) (n cap : Nat) (w : World) (ds : List (Int × Int)) (hl : ds.length = n) (_hn : n ≤ 1048576) (hp : PtsAt w w.heap.size A ds) :
    Calls Try.prog 20 #[.agg #[.int .i64 H, .slice A n cap]] w fun e w' => e = .returned (.bool (houseB H ds)) ∧ Below w.heap.size w w' := by
  obtain ⟨r, hr⟩ : ∃ r, houseB H ds = r := ⟨_, rfl⟩
  have HR := Lib.hid hr
  rw [hr]
  clear hr
  by_cases h1 : 1 ≤ H
  rotate_left
  · have E : Hid (r = false) := Lib.hid (by rw [← HR.out]; exact house_bad (by unfold formB; simp [h1]))
    have hx : H < 1 := by omega
    clear HR hl
    go_enter Try.func20, Try.ntmps20
    go_wp2_with fail
    have X0 := HouBox.boxH w H A n cap 41 (k := w.heap.size) (by simp)
    have b0 := PointOk.below1 w (Obj.cells #[.int .i64 H, .slice A n cap] 41)
    have HO : ∀ W W' : World, (HouBox.BoxH W (w.heap.size) H A n cap ∧ PtsAt W w.heap.size A ds ∧ Below w.heap.size w W) → Below W.heap.size W W' → (HouBox.BoxH W' (w.heap.size) H A n cap ∧ PtsAt W' w.heap.size A ds ∧ Below w.heap.size w W') := fun W W' ⟨h0, x0, hb⟩ h => ⟨h0.later h, x0.later (h.mono hb.size), hb.trans (h.mono hb.size)⟩
    have hz0_ : Hid (((w.alloc (Obj.cells #[.int .i64 H, .slice A n cap] 41))).heap.size = w.heap.size + 1) := Lib.hid (by simp)
    have Y0 : PtsAt ((w.alloc (Obj.cells #[.int .i64 H, .slice A n cap] 41))) w.heap.size A ds := hp.later b0
    generalize (w.alloc (Obj.cells #[.int .i64 H, .slice A n cap] 41)) = w0 at X0 Y0 b0 hz0_ ⊢
    have S0 := (⟨X0, Y0, b0⟩ : HouBox.BoxH w0 (w.heap.size) H A n cap ∧ PtsAt w0 w.heap.size A ds ∧ Below w.heap.size w w0)
    clear X0 Y0 b0
    obtain ⟨⟨_, _⟩, _, _⟩ := id S0
    go_ret
    exact ⟨ret_bool E.out.symm, S0.2.2⟩
  have hx1 : ¬ H < 1 := by omega
  by_cases h7 : H ≤ 7
  rotate_left
  · have E : Hid (r = false) := Lib.hid (by rw [← HR.out]; exact house_bad (by unfold formB; simp [h7]))
    have hx : ¬ H ≤ 7 := h7
    clear HR hl
    go_enter Try.func20, Try.ntmps20
    go_wp2_with fail
    have X0 := HouBox.boxH w H A n cap 41 (k := w.heap.size) (by simp)
    have b0 := PointOk.below1 w (Obj.cells #[.int .i64 H, .slice A n cap] 41)
    have HO : ∀ W W' : World, (HouBox.BoxH W (w.heap.size) H A n cap ∧ PtsAt W w.heap.size A ds ∧ Below w.heap.size w W) → Below W.heap.size W W' → (HouBox.BoxH W' (w.heap.size) H A n cap ∧ PtsAt W' w.heap.size A ds ∧ Below w.heap.size w W') := fun W W' ⟨h0, x0, hb⟩ h => ⟨h0.later h, x0.later (h.mono hb.size), hb.trans (h.mono hb.size)⟩
    have hz0_ : Hid (((w.alloc (Obj.cells #[.int .i64 H, .slice A n cap] 41))).heap.size = w.heap.size + 1) := Lib.hid (by simp)
    have Y0 : PtsAt ((w.alloc (Obj.cells #[.int .i64 H, .slice A n cap] 41))) w.heap.size A ds := hp.later b0
    generalize (w.alloc (Obj.cells #[.int .i64 H, .slice A n cap] 41)) = w0 at X0 Y0 b0 hz0_ ⊢
    have S0 := (⟨X0, Y0, b0⟩ : HouBox.BoxH w0 (w.heap.size) H A n cap ∧ PtsAt w0 w.heap.size A ds ∧ Below w.heap.size w w0)
    clear X0 Y0 b0
    obtain ⟨⟨_, _⟩, _, _⟩ := id S0
    go_ret
    exact ⟨ret_bool E.out.symm, S0.2.2⟩
  have hx2 : ¬ (7 : Int) < H := by omega
  by_cases h12 : n ≤ 12
  rotate_left
  · have E : Hid (r = false) := Lib.hid (by rw [← HR.out]; exact house_bad (by unfold formB; simp [hl, h12]))
    have hx : (12 : Int) < (n : Int) := by omega
    clear HR hl
    go_enter Try.func20, Try.ntmps20
    go_wp2_with fail
    have X0 := HouBox.boxH w H A n cap 41 (k := w.heap.size) (by simp)
    have b0 := PointOk.below1 w (Obj.cells #[.int .i64 H, .slice A n cap] 41)
    have HO : ∀ W W' : World, (HouBox.BoxH W (w.heap.size) H A n cap ∧ PtsAt W w.heap.size A ds ∧ Below w.heap.size w W) → Below W.heap.size W W' → (HouBox.BoxH W' (w.heap.size) H A n cap ∧ PtsAt W' w.heap.size A ds ∧ Below w.heap.size w W') := fun W W' ⟨h0, x0, hb⟩ h => ⟨h0.later h, x0.later (h.mono hb.size), hb.trans (h.mono hb.size)⟩
    have hz0_ : Hid (((w.alloc (Obj.cells #[.int .i64 H, .slice A n cap] 41))).heap.size = w.heap.size + 1) := Lib.hid (by simp)
    have Y0 : PtsAt ((w.alloc (Obj.cells #[.int .i64 H, .slice A n cap] 41))) w.heap.size A ds := hp.later b0
    generalize (w.alloc (Obj.cells #[.int .i64 H, .slice A n cap] 41)) = w0 at X0 Y0 b0 hz0_ ⊢
    have S0 := (⟨X0, Y0, b0⟩ : HouBox.BoxH w0 (w.heap.size) H A n cap ∧ PtsAt w0 w.heap.size A ds ∧ Below w.heap.size w w0)
    clear X0 Y0 b0
    obtain ⟨⟨_, _⟩, _, _⟩ := id S0
    go_ret
    exact ⟨ret_bool E.out.symm, S0.2.2⟩
  have hx3 : ¬ (12 : Int) < (n : Int) := by omega
  have HB := Lib.hid (fun k hk h => form_bad (H := H) (ds := ds) (k := k) hk h)
  have HG : Hid ((∀ k, k < n → okD H ds k = true) → formB H ds = true) := Lib.hid (fun h => by rw [form_ok (by rw [hl]; exact h)]; simp [h1, h7, hl, h12])
  go_enter Try.func20, Try.ntmps20
  go_wp2_with fail
  have X0 := HouBox.boxH w H A n cap 41 (k := w.heap.size) (by simp)
  have b0 := PointOk.below1 w (Obj.cells #[.int .i64 H, .slice A n cap] 41)
  have HO : ∀ W W' : World, (HouBox.BoxH W (w.heap.size) H A n cap ∧ PtsAt W w.heap.size A ds ∧ Below w.heap.size w W) → Below W.heap.size W W' → (HouBox.BoxH W' (w.heap.size) H A n cap ∧ PtsAt W' w.heap.size A ds ∧ Below w.heap.size w W') := fun W W' ⟨h0, x0, hb⟩ h => ⟨h0.later h, x0.later (h.mono hb.size), hb.trans (h.mono hb.size)⟩
  have hz0_ : Hid (((w.alloc (Obj.cells #[.int .i64 H, .slice A n cap] 41))).heap.size = w.heap.size + 1) := Lib.hid (by simp)
  have Y0 : PtsAt ((w.alloc (Obj.cells #[.int .i64 H, .slice A n cap] 41))) w.heap.size A ds := hp.later b0
  generalize (w.alloc (Obj.cells #[.int .i64 H, .slice A n cap] 41)) = w0 at X0 Y0 b0 hz0_ ⊢
  have S0 := (⟨X0, Y0, b0⟩ : HouBox.BoxH w0 (w.heap.size) H A n cap ∧ PtsAt w0 w.heap.size A ds ∧ Below w.heap.size w w0)
  clear X0 Y0 b0
  obtain ⟨⟨_, _⟩, _, _⟩ := id S0
  go_loopw [22] (fun i wr => ∃ k : Nat, k ≤ n ∧ i = .int .i64 k ∧ Hid (∀ j, j < k → okD H ds j = true) ∧ (HouBox.BoxH wr (w.heap.size) H A n cap ∧ PtsAt wr w.heap.size A ds ∧ Below w.heap.size w wr))
    (fun i _ => n - (intOf i).toNat)
  case atStart => exact ⟨0, Nat.zero_le _, rfl, Lib.hid (fun j hj => absurd hj (by omega)), S0⟩
  case round =>
    clear S0
    obtain ⟨k, hk, rfl, hall, S0⟩ := hrel
    obtain ⟨⟨_, _⟩, _, _⟩ := id S0
    by_cases hlt : k < n
    rotate_left
    · obtain rfl : k = n := by omega
      have hb := HG.out hall.out
      have hf := form_out hb
      obtain ⟨N, rfl⟩ := Int.eq_ofNat_of_zero_le (show 0 ≤ H by omega)
      have hN : 0 < N := by omega
      have E : Hid (r = !((dist N ds 0).contains (-1))) := Lib.hid (by rw [← HR.out, house_contains hb]; rfl)
      have Q2 := Lib.hid fun w hp => HouDist.distancesIn A k cap N 0 ds hf hl hN w hp
      have hDl := dist_len (ds := ds) hN
      generalize dist N ds 0 = D at *
      clear HR HB HG hall hb hf
      go_wp2_with fail
      refine (Q2.out _ (S0.2.1.wide S0.2.2.size)).mono ?_
      rintro e w2 ⟨g, rfl, hG, hg, hb_⟩
      replace S0 := HO _ _ S0 hb_
      clear Q2 hb_ hg
      have Q3 := Lib.hid (IntSl.contains (some ⟨g, 0, none⟩) N N (-1) w2 D hDl (by omega) (Ints.Row.intsIn hG))
      obtain ⟨c, hc⟩ : ∃ c, D.contains (-1) = c := ⟨_, rfl⟩
      rw [hc] at E Q3
      clear hc hDl hG
      go_wp2_with fail
      refine Q3.out.mono ?_
      rintro e w3 ⟨rfl, hb_⟩
      replace S0 := HO _ _ S0 hb_
      clear Q3 hb_
      go_wp2_with fail
      go_ret
      exact ⟨ret_bool E.out.symm, S0.2.2⟩
    have hk1 : (k : Int) < (n : Int) := by omega
    have hk0 : (0 : Int) ≤ (k : Int) := by omega
    have hkl : k < ds.length := by omega
    have HB1 := Lib.hid (HB.out k hkl)
    have HK : Hid (okD H ds k = (decide (0 ≤ (dr ds k).1) && decide ((dr ds k).1 < (dr ds k).2) && decide ((dr ds k).2 < H) && (decide (k = 0) || bef (dr ds (k - 1)) (dr ds k)))) := Lib.hid rfl
    obtain ⟨⟨x, y⟩, hxy⟩ : ∃ p, dr ds k = p := ⟨_, rfl⟩
    obtain ⟨⟨px, py⟩, hpxy⟩ : ∃ p, dr ds (k - 1) = p := ⟨_, rfl⟩
    have hat := dr_at hkl
    have hatp := dr_at (ds := ds) (k := k - 1) (by omega)
    rw [hxy, hpxy] at HK
    rw [hxy] at hat
    rw [hpxy] at hatp
    obtain ⟨ad, eA, bA, pA⟩ := S0.2.1.get hat
    subst eA
    obtain ⟨ad', eA', bA', pP⟩ := S0.2.1.get hatp
    cases eA'
    obtain ⟨_, _⟩ := id pA
    have HW : Hid (okD H ds k = true → ∀ j, j < k + 1 → okD H ds j = true) := Lib.hid (fun h j hj => by
      rcases Nat.lt_or_ge j k with h1 | h1
      · exact hall.out j h1
      · obtain rfl : j = k := by omega
        exact h)
    clear hat hatp hxy hpxy HB HG hl hp hall hkl
    obtain ⟨w1, hw1⟩ : ∃ w1, wr.alloc (.cells #[.int .i64 x, .int .i64 y] 83) = w1 := ⟨_, rfl⟩
    have B1 : Holds w1 wr.heap.size #[.int .i64 x, .int .i64 y] 83 := by rw [← hw1]; exact Holds.new wr _ _
    have hb1 : Below wr.heap.size wr w1 := by rw [← hw1]; exact below1 wr _
    have hwz : w.heap.size ≤ wr.heap.size := S0.2.2.size
    obtain ⟨m, hkm⟩ : ∃ m, k - 1 = m := ⟨_, rfl⟩
    rw [hkm] at pP
    obtain ⟨bb, hbb⟩ : ∃ b, bef (px, py) (x, y) = b := ⟨_, rfl⟩
    have QB : Hid (∀ w, _) := Lib.hid fun w => isBefore px py x y w
    rw [hbb] at HK
    rw [hbb] at QB
    have HO : ∀ W W' : World, (BoxH W w.heap.size H (some ad) n cap ∧ PtsAt W w.heap.size (some ad) ds ∧ PtAt W ad m px py ∧ PointOk.Box W wr.heap.size x y ∧ Below w.heap.size w W) → Below W.heap.size W W' → (BoxH W' w.heap.size H (some ad) n cap ∧ PtsAt W' w.heap.size (some ad) ds ∧ PtAt W' ad m px py ∧ PointOk.Box W' wr.heap.size x y ∧ Below w.heap.size w W') := fun W W' ⟨x0, x1, x2, x3, hb⟩ h => ⟨x0.later h, x1.later (h.mono hb.size), x2.later bA (h.mono hb.size), x3.later h, hb.trans (h.mono hb.size)⟩
    have S1 : (BoxH w1 w.heap.size H (some ad) n cap ∧ PtsAt w1 w.heap.size (some ad) ds ∧ PtAt w1 ad m px py ∧ PointOk.Box w1 wr.heap.size x y ∧ Below w.heap.size w w1) := ⟨S0.1.later hb1, S0.2.1.later (hb1.mono hwz), pP.later bA (hb1.mono hwz), B1.two.1, S0.2.2.trans (hb1.mono hwz)⟩
    have hres : Hid (∀ W, (BoxH W w.heap.size H (some ad) n cap ∧ PtsAt W w.heap.size (some ad) ds ∧ PtAt W ad m px py ∧ PointOk.Box W wr.heap.size x y ∧ Below w.heap.size w W) → BoxH W w.heap.size H (some ad) n cap ∧ PtsAt W w.heap.size (some ad) ds ∧ Below w.heap.size w W) := Lib.hid (fun W h => ⟨h.1, h.2.1, h.2.2.2.2⟩)
    clear S0 B1 hb1 pA pP hbb
    have S0 := S1
    clear S1
    have hw : k ≠ 0 → IntKind.i64.wrap ((k : Int) - 1) = (m : Int) := fun h => by rw [show (k : Int) - 1 = (m : Int) by omega]; exact IntWalk.i64_in _ (by omega)
    by_cases hx0 : 0 ≤ x
    rotate_left
    · have d1 : decide (x < 0) = true := decide_eq_true (by omega)
      have E : Hid (r = false) := Lib.hid (by rw [← HR.out]; exact house_bad (HB1.out (by rw [HK.out]; simp [hx0])))
      clear HR HB1 HK HW
      obtain ⟨⟨_, _⟩, _, ⟨_, _⟩, ⟨_, _⟩, _⟩ := id S0
      go_wp2_with fail
      refine Settle.region (fun W => BoxH W w.heap.size H (some ad) n cap ∧ PtsAt W w.heap.size (some ad) ds ∧ PtAt W ad m px py ∧ PointOk.Box W wr.heap.size x y ∧ Below w.heap.size w W) (by kernel_rfl) (by kernel_rfl) (by kernel_rfl) (by kernel_rfl) (HO _ _ S0 ((Below.refl _ _).drew)) ?_
      clear S0
      repeat (first
        | (refine Settle.Settles.off (by rfl) ?_; simp only [Act.put, List.setIfInBounds_toArray, List.set_cons_zero, List.set_cons_succ])
        | (refine Settle.Settles.quiet (v := ?_) (by rfl) ?_ ?_
           rotate_left
           · (intro W hS; obtain ⟨⟨_, _⟩, _, ⟨_, _⟩, ⟨_, _⟩, _⟩ := hS; go_simp; with_reducible rfl)
           simp only [Act.put, List.setIfInBounds_toArray, List.set_cons_zero, List.set_cons_succ])
        | (refine Settle.Settles.call (v := ?_) (f := ?_) (args := ?_) (by rfl) ?_ ?_ ?_
           rotate_left 3
           · (intro W; go_simp; refine ⟨?_, ?_⟩ <;> with_reducible rfl)
           · (intro W hS; first | (go_at_call 49; (with_reducible refine (QB.out _).mono ?_); rintro e W1 ⟨rfl, hb⟩; refine ⟨?_, HO _ _ hS hb⟩; with_reducible rfl))
           simp only [Act.put, List.setIfInBounds_toArray, List.set_cons_zero, List.set_cons_succ]))
      refine Settle.Settles.nil ?_
      intro wr S0
      obtain ⟨⟨_, _⟩, _, ⟨_, _⟩, ⟨_, _⟩, _⟩ := id S0
      go_wp2_with fail
      go_ret
      exact ⟨ret_bool E.out.symm, (hres.out _ S0).2.2⟩
    have d1 : decide (x < 0) = false := decide_eq_false (by omega)
    by_cases hxy : x < y
    rotate_left
    · have d2 : decide (y ≤ x) = true := decide_eq_true (by omega)
      have E : Hid (r = false) := Lib.hid (by rw [← HR.out]; exact house_bad (HB1.out (by rw [HK.out]; simp [hxy])))
      clear HR HB1 HK HW
      obtain ⟨⟨_, _⟩, _, ⟨_, _⟩, ⟨_, _⟩, _⟩ := id S0
      go_wp2_with fail
      refine Settle.region (fun W => BoxH W w.heap.size H (some ad) n cap ∧ PtsAt W w.heap.size (some ad) ds ∧ PtAt W ad m px py ∧ PointOk.Box W wr.heap.size x y ∧ Below w.heap.size w W) (by kernel_rfl) (by kernel_rfl) (by kernel_rfl) (by kernel_rfl) (HO _ _ S0 ((Below.refl _ _).drew)) ?_
      clear S0
      repeat (first
        | (refine Settle.Settles.off (by rfl) ?_; simp only [Act.put, List.setIfInBounds_toArray, List.set_cons_zero, List.set_cons_succ])
        | (refine Settle.Settles.quiet (v := ?_) (by rfl) ?_ ?_
           rotate_left
           · (intro W hS; obtain ⟨⟨_, _⟩, _, ⟨_, _⟩, ⟨_, _⟩, _⟩ := hS; go_simp; with_reducible rfl)
           simp only [Act.put, List.setIfInBounds_toArray, List.set_cons_zero, List.set_cons_succ])
        | (refine Settle.Settles.call (v := ?_) (f := ?_) (args := ?_) (by rfl) ?_ ?_ ?_
           rotate_left 3
           · (intro W; go_simp; refine ⟨?_, ?_⟩ <;> with_reducible rfl)
           · (intro W hS; first | (go_at_call 49; (with_reducible refine (QB.out _).mono ?_); rintro e W1 ⟨rfl, hb⟩; refine ⟨?_, HO _ _ hS hb⟩; with_reducible rfl))
           simp only [Act.put, List.setIfInBounds_toArray, List.set_cons_zero, List.set_cons_succ]))
      refine Settle.Settles.nil ?_
      intro wr S0
      obtain ⟨⟨_, _⟩, _, ⟨_, _⟩, ⟨_, _⟩, _⟩ := id S0
      go_wp2_with fail
      go_ret
      exact ⟨ret_bool E.out.symm, (hres.out _ S0).2.2⟩
    have d2 : decide (y ≤ x) = false := decide_eq_false (by omega)
    by_cases hyH : y < H
    rotate_left
    · have d3 : decide (H ≤ y) = true := decide_eq_true (by omega)
      have E : Hid (r = false) := Lib.hid (by rw [← HR.out]; exact house_bad (HB1.out (by rw [HK.out]; simp [hyH])))
      clear HR HB1 HK HW
      obtain ⟨⟨_, _⟩, _, ⟨_, _⟩, ⟨_, _⟩, _⟩ := id S0
      go_wp2_with fail
      refine Settle.region (fun W => BoxH W w.heap.size H (some ad) n cap ∧ PtsAt W w.heap.size (some ad) ds ∧ PtAt W ad m px py ∧ PointOk.Box W wr.heap.size x y ∧ Below w.heap.size w W) (by kernel_rfl) (by kernel_rfl) (by kernel_rfl) (by kernel_rfl) (HO _ _ S0 ((Below.refl _ _).drew)) ?_
      clear S0
      repeat (first
        | (refine Settle.Settles.off (by rfl) ?_; simp only [Act.put, List.setIfInBounds_toArray, List.set_cons_zero, List.set_cons_succ])
        | (refine Settle.Settles.quiet (v := ?_) (by rfl) ?_ ?_
           rotate_left
           · (intro W hS; obtain ⟨⟨_, _⟩, _, ⟨_, _⟩, ⟨_, _⟩, _⟩ := hS; go_simp; with_reducible rfl)
           simp only [Act.put, List.setIfInBounds_toArray, List.set_cons_zero, List.set_cons_succ])
        | (refine Settle.Settles.call (v := ?_) (f := ?_) (args := ?_) (by rfl) ?_ ?_ ?_
           rotate_left 3
           · (intro W; go_simp; refine ⟨?_, ?_⟩ <;> with_reducible rfl)
           · (intro W hS; first | (go_at_call 49; (with_reducible refine (QB.out _).mono ?_); rintro e W1 ⟨rfl, hb⟩; refine ⟨?_, HO _ _ hS hb⟩; with_reducible rfl))
           simp only [Act.put, List.setIfInBounds_toArray, List.set_cons_zero, List.set_cons_succ]))
      refine Settle.Settles.nil ?_
      intro wr S0
      obtain ⟨⟨_, _⟩, _, ⟨_, _⟩, ⟨_, _⟩, _⟩ := id S0
      go_wp2_with fail
      go_ret
      exact ⟨ret_bool E.out.symm, (hres.out _ S0).2.2⟩
    have d3 : decide (H ≤ y) = false := decide_eq_false (by omega)
    by_cases hk00 : k = 0
    · have d0 : decide ((0 : Int) < (k : Int)) = false := decide_eq_false (by omega)
      have d0n : decide (0 < k) = false := decide_eq_false (by omega)
      have HW1 := Lib.hid (HW.out (by rw [HK.out]; simp [hx0, hxy, hyH, hk00]))
      clear hk00 hw
      have HW2 := HW1
      clear HR HB1 HK HW
      obtain ⟨⟨_, _⟩, _, ⟨_, _⟩, ⟨_, _⟩, _⟩ := id S0
      go_wp2_with fail
      refine Settle.region (fun W => BoxH W w.heap.size H (some ad) n cap ∧ PtsAt W w.heap.size (some ad) ds ∧ PtAt W ad m px py ∧ PointOk.Box W wr.heap.size x y ∧ Below w.heap.size w W) (by kernel_rfl) (by kernel_rfl) (by kernel_rfl) (by kernel_rfl) (HO _ _ S0 ((Below.refl _ _).drew)) ?_
      clear S0
      repeat (first
        | (refine Settle.Settles.off (by rfl) ?_; simp only [Act.put, List.setIfInBounds_toArray, List.set_cons_zero, List.set_cons_succ])
        | (refine Settle.Settles.quiet (v := ?_) (by rfl) ?_ ?_
           rotate_left
           · (intro W hS; obtain ⟨⟨_, _⟩, _, ⟨_, _⟩, ⟨_, _⟩, _⟩ := hS; go_simp; with_reducible rfl)
           simp only [Act.put, List.setIfInBounds_toArray, List.set_cons_zero, List.set_cons_succ])
        | (refine Settle.Settles.call (v := ?_) (f := ?_) (args := ?_) (by rfl) ?_ ?_ ?_
           rotate_left 3
           · (intro W; go_simp; refine ⟨?_, ?_⟩ <;> with_reducible rfl)
           · (intro W hS; first | (go_at_call 49; (with_reducible refine (QB.out _).mono ?_); rintro e W1 ⟨rfl, hb⟩; refine ⟨?_, HO _ _ hS hb⟩; with_reducible rfl))
           simp only [Act.put, List.setIfInBounds_toArray, List.set_cons_zero, List.set_cons_succ]))
      refine Settle.Settles.nil ?_
      intro wr S0
      obtain ⟨⟨_, _⟩, _, ⟨_, _⟩, ⟨_, _⟩, _⟩ := id S0
      go_wp2_with fail
      exact ⟨⟨k + 1, by omega, by go_num, HW2, hres.out _ S0⟩, by simp [intOf]; omega⟩
    have d0 : decide ((0 : Int) < (k : Int)) = true := decide_eq_true (by omega)
    have d0n : decide (0 < k) = true := decide_eq_true (by omega)
    replace hw := hw hk00
    have hm0 : (0 : Int) ≤ (m : Int) := by omega
    have hm1 : (m : Int) < (n : Int) := by omega
    cases bb
    · skip
      have E : Hid (r = false) := Lib.hid (by rw [← HR.out]; exact house_bad (HB1.out (by rw [HK.out]; simp [hk00])))
      clear HR HB1 HK HW
      obtain ⟨⟨_, _⟩, _, ⟨_, _⟩, ⟨_, _⟩, _⟩ := id S0
      go_wp2_with fail
      refine Settle.region (fun W => BoxH W w.heap.size H (some ad) n cap ∧ PtsAt W w.heap.size (some ad) ds ∧ PtAt W ad m px py ∧ PointOk.Box W wr.heap.size x y ∧ Below w.heap.size w W) (by kernel_rfl) (by kernel_rfl) (by kernel_rfl) (by kernel_rfl) (HO _ _ S0 ((Below.refl _ _).drew)) ?_
      clear S0
      repeat (first
        | (refine Settle.Settles.off (by rfl) ?_; simp only [Act.put, List.setIfInBounds_toArray, List.set_cons_zero, List.set_cons_succ])
        | (refine Settle.Settles.quiet (v := ?_) (by rfl) ?_ ?_
           rotate_left
           · (intro W hS; obtain ⟨⟨_, _⟩, _, ⟨_, _⟩, ⟨_, _⟩, _⟩ := hS; go_simp; with_reducible rfl)
           simp only [Act.put, List.setIfInBounds_toArray, List.set_cons_zero, List.set_cons_succ])
        | (refine Settle.Settles.call (v := ?_) (f := ?_) (args := ?_) (by rfl) ?_ ?_ ?_
           rotate_left 3
           · (intro W; go_simp; refine ⟨?_, ?_⟩ <;> with_reducible rfl)
           · (intro W hS; first | (go_at_call 49; (with_reducible refine (QB.out _).mono ?_); rintro e W1 ⟨rfl, hb⟩; refine ⟨?_, HO _ _ hS hb⟩; with_reducible rfl))
           simp only [Act.put, List.setIfInBounds_toArray, List.set_cons_zero, List.set_cons_succ]))
      refine Settle.Settles.nil ?_
      intro wr S0
      obtain ⟨⟨_, _⟩, _, ⟨_, _⟩, ⟨_, _⟩, _⟩ := id S0
      go_wp2_with fail
      go_ret
      exact ⟨ret_bool E.out.symm, (hres.out _ S0).2.2⟩
    · skip
      have HW2 := Lib.hid (HW.out (by rw [HK.out]; simp [hx0, hxy, hyH]))
      clear HR HB1 HK HW
      obtain ⟨⟨_, _⟩, _, ⟨_, _⟩, ⟨_, _⟩, _⟩ := id S0
      go_wp2_with fail
      refine Settle.region (fun W => BoxH W w.heap.size H (some ad) n cap ∧ PtsAt W w.heap.size (some ad) ds ∧ PtAt W ad m px py ∧ PointOk.Box W wr.heap.size x y ∧ Below w.heap.size w W) (by kernel_rfl) (by kernel_rfl) (by kernel_rfl) (by kernel_rfl) (HO _ _ S0 ((Below.refl _ _).drew)) ?_
      clear S0
      repeat (first
        | (refine Settle.Settles.off (by rfl) ?_; simp only [Act.put, List.setIfInBounds_toArray, List.set_cons_zero, List.set_cons_succ])
        | (refine Settle.Settles.quiet (v := ?_) (by rfl) ?_ ?_
           rotate_left
           · (intro W hS; obtain ⟨⟨_, _⟩, _, ⟨_, _⟩, ⟨_, _⟩, _⟩ := hS; go_simp; with_reducible rfl)
           simp only [Act.put, List.setIfInBounds_toArray, List.set_cons_zero, List.set_cons_succ])
        | (refine Settle.Settles.call (v := ?_) (f := ?_) (args := ?_) (by rfl) ?_ ?_ ?_
           rotate_left 3
           · (intro W; go_simp; refine ⟨?_, ?_⟩ <;> with_reducible rfl)
           · (intro W hS; first | (go_at_call 49; (with_reducible refine (QB.out _).mono ?_); rintro e W1 ⟨rfl, hb⟩; refine ⟨?_, HO _ _ hS hb⟩; with_reducible rfl))
           simp only [Act.put, List.setIfInBounds_toArray, List.set_cons_zero, List.set_cons_succ]))
      refine Settle.Settles.nil ?_
      intro wr S0
      obtain ⟨⟨_, _⟩, _, ⟨_, _⟩, ⟨_, _⟩, _⟩ := id S0
      go_wp2_with fail
      exact ⟨⟨k + 1, by omega, by go_num, HW2, hres.out _ S0⟩, by simp [intOf]; omega⟩

theorem hasHall (H : Int) (A : Option Addr) (n cap : Nat) (x : Int) (w : World) :
    Calls Try.prog 38 #[.agg #[.int .i64 H, .slice A n cap], .int .i64 x] w fun e w' => e = .returned (.bool (decide (0 ≤ x) && decide (x < H))) ∧ Below w.heap.size w w' := by
  by_cases h1 : 0 ≤ x
  · have h2 : ¬ x < 0 := by omega
    by_cases h3 : x < H
    · simp only [h1, h3, decide_true, Bool.and_true]
      go_enter Try.func38, Try.ntmps38
      go_wp2_with fail
      have X0 := HouBox.boxH w H A n cap 41 (k := w.heap.size) (by simp)
      have b0 := PointOk.below1 w (Obj.cells #[.int .i64 H, .slice A n cap] 41)
      have HO : ∀ W W' : World, (HouBox.BoxH W (w.heap.size) H A n cap ∧ Below w.heap.size w W) → Below W.heap.size W W' → (HouBox.BoxH W' (w.heap.size) H A n cap ∧ Below w.heap.size w W') := fun W W' ⟨h0, hb⟩ h => ⟨h0.later h, hb.trans (h.mono hb.size)⟩
      have hz0_ : Hid (((w.alloc (Obj.cells #[.int .i64 H, .slice A n cap] 41))).heap.size = w.heap.size + 1) := Lib.hid (by simp)
      generalize (w.alloc (Obj.cells #[.int .i64 H, .slice A n cap] 41)) = w0 at X0 b0 hz0_ ⊢
      have S0 := (⟨X0, b0⟩ : HouBox.BoxH w0 (w.heap.size) H A n cap ∧ Below w.heap.size w w0)
      clear X0 b0
      obtain ⟨⟨_, _⟩, _⟩ := id S0
      go_ret
      exact ⟨rfl, S0.2⟩
    · simp only [h1, h3, decide_true, decide_false, Bool.and_false]
      go_enter Try.func38, Try.ntmps38
      go_wp2_with fail
      have X0 := HouBox.boxH w H A n cap 41 (k := w.heap.size) (by simp)
      have b0 := PointOk.below1 w (Obj.cells #[.int .i64 H, .slice A n cap] 41)
      have HO : ∀ W W' : World, (HouBox.BoxH W (w.heap.size) H A n cap ∧ Below w.heap.size w W) → Below W.heap.size W W' → (HouBox.BoxH W' (w.heap.size) H A n cap ∧ Below w.heap.size w W') := fun W W' ⟨h0, hb⟩ h => ⟨h0.later h, hb.trans (h.mono hb.size)⟩
      have hz0_ : Hid (((w.alloc (Obj.cells #[.int .i64 H, .slice A n cap] 41))).heap.size = w.heap.size + 1) := Lib.hid (by simp)
      generalize (w.alloc (Obj.cells #[.int .i64 H, .slice A n cap] 41)) = w0 at X0 b0 hz0_ ⊢
      have S0 := (⟨X0, b0⟩ : HouBox.BoxH w0 (w.heap.size) H A n cap ∧ Below w.heap.size w w0)
      clear X0 b0
      obtain ⟨⟨_, _⟩, _⟩ := id S0
      go_ret
      exact ⟨ret_bool (by first | rfl | simp; omega), S0.2⟩
  · have h2 : x < 0 := by omega
    simp only [h1, decide_false, Bool.false_and]
    go_enter Try.func38, Try.ntmps38
    go_wp2_with fail
    have X0 := HouBox.boxH w H A n cap 41 (k := w.heap.size) (by simp)
    have b0 := PointOk.below1 w (Obj.cells #[.int .i64 H, .slice A n cap] 41)
    have HO : ∀ W W' : World, (HouBox.BoxH W (w.heap.size) H A n cap ∧ Below w.heap.size w W) → Below W.heap.size W W' → (HouBox.BoxH W' (w.heap.size) H A n cap ∧ Below w.heap.size w W') := fun W W' ⟨h0, hb⟩ h => ⟨h0.later h, hb.trans (h.mono hb.size)⟩
    have hz0_ : Hid (((w.alloc (Obj.cells #[.int .i64 H, .slice A n cap] 41))).heap.size = w.heap.size + 1) := Lib.hid (by simp)
    generalize (w.alloc (Obj.cells #[.int .i64 H, .slice A n cap] 41)) = w0 at X0 b0 hz0_ ⊢
    have S0 := (⟨X0, b0⟩ : HouBox.BoxH w0 (w.heap.size) H A n cap ∧ Below w.heap.size w w0)
    clear X0 b0
    obtain ⟨⟨_, _⟩, _⟩ := id S0
    go_ret
    exact ⟨rfl, S0.2⟩

end Go.Proofs.Ytcfoleiooohbhaa.HouImpl

