/-
  What the landed text says of distances of halls and of lists of halls, as contracts.
-/
import Derived.Test.YtcfoleiooohbhaaHouImpl
import Derived.Test.YtcfoleiooohbhaaHouMathB
namespace Go.Proofs.Ytcfoleiooohbhaa.HouWimpl
open Go.RowKit Pts Blk HouMath HouMathB HouBox HouMem Ints JoinMath
open Go.Proofs.Ytcfoleiooohbhaa.Own (icells icells_length icells_at)
open PointOk (ret_bool ret_i64 below1 below2 below3)

theorem hasHall (H : Int) (A : Option Addr) (n cap : Nat) (x : Int) (w : World) :
    Calls Try.prog 38 #[.agg #[.int .i64 H, .slice A n cap], .int .i64 x] w fun e w' => e = .returned (.bool (inH H x)) ∧ Below w.heap.size w w' := HouImpl.hasHall H A n cap x w

set_option maxRecDepth 100000 in
set_option maxHeartbeats 1600000 in
theorem hallDistance (H : Int) (A : Option Addr) (n cap : Nat) (a b : Int) (w : World) (ds : List (Int × Int)) (hl : ds.length = n) (hn : n ≤ 1048576) (hp : PtsAt w w.heap.size A ds) :
    Calls Try.prog 16 #[.agg #[.int .i64 H, .slice A n cap], .int .i64 a, .int .i64 b] w fun e w' => e = .returned (.int .i64 (hallDistI H ds a b)) ∧ Below w.heap.size w w' := by
  obtain ⟨r, hr⟩ : ∃ r, hallDistI H ds a b = r := ⟨_, rfl⟩
  have HR := Lib.hid hr
  rw [hr]
  clear hr
  have Q1 : Hid (∀ w hp, _) := Lib.hid fun w hp => HouImpl.houseOk H A n cap w ds hl hn hp
  have Q2 : Hid (∀ w, _) := Lib.hid fun w => hasHall H A n cap a w
  have Q3 : Hid (∀ w, _) := Lib.hid fun w => hasHall H A n cap b w
  have HN : Hid ((houseB H ds && (inH H a && inH H b)) = false → r = -1) := Lib.hid (fun h => by
    rw [← HR.out]
    refine hallDist_no ?_
    unfold hallOf
    revert h
    cases houseB H ds <;> cases inH H a <;> cases inH H b <;> simp)
  cases ch : houseB H ds
  · have E := Lib.hid (HN.out (by rw [ch]; rfl))
    rw [ch] at Q1
    clear HR HN Q2 Q3 ch
    go_enter Try.func16, Try.ntmps16
    go_wp2_with fail
    have X0 := HouBox.boxH w H A n cap 41 (k := w.heap.size) (by simp)
    have b0 := PointOk.below1 w (Obj.cells #[.int .i64 H, .slice A n cap] 41)
    have HO : ∀ W W' : World, (HouBox.BoxH W (w.heap.size) H A n cap ∧ PtsAt W w.heap.size A ds ∧ Below w.heap.size w W) → Below W.heap.size W W' → (HouBox.BoxH W' (w.heap.size) H A n cap ∧ PtsAt W' w.heap.size A ds ∧ Below w.heap.size w W') := fun W W' ⟨h0, x0, hb⟩ h => ⟨h0.later h, x0.later (h.mono hb.size), hb.trans (h.mono hb.size)⟩
    have hz0_ : Hid (((w.alloc (Obj.cells #[.int .i64 H, .slice A n cap] 41))).heap.size = w.heap.size + 1) := Lib.hid (by simp)
    have Y0 : PtsAt ((w.alloc (Obj.cells #[.int .i64 H, .slice A n cap] 41))) w.heap.size A ds := hp.later b0
    generalize (w.alloc (Obj.cells #[.int .i64 H, .slice A n cap] 41)) = w0 at X0 Y0 b0 hz0_ ⊢
    have S0 := (⟨X0, Y0, b0⟩ : HouBox.BoxH w0 (w.heap.size) H A n cap ∧ PtsAt w0 w.heap.size A ds ∧ Below w.heap.size w w0)
    clear X0 Y0 b0
    obtain ⟨⟨_, _⟩, _, _⟩ := id S0
    refine (Q1.out _ (S0.2.1.wide S0.2.2.size)).mono ?_
    rintro e w1 ⟨rfl, hb_⟩
    replace S0 := HO _ _ S0 hb_
    clear hb_
    obtain ⟨⟨_, _⟩, _, _⟩ := id S0
    go_wp2_with fail
    go_ret
    exact ⟨ret_i64 E.out.symm, S0.2.2⟩
  cases ca : inH H a
  · have E := Lib.hid (HN.out (by rw [ch, ca]; rfl))
    rw [ch] at Q1
    rw [ca] at Q2
    clear HR HN Q3 ch ca
    go_enter Try.func16, Try.ntmps16
    go_wp2_with fail
    have X0 := HouBox.boxH w H A n cap 41 (k := w.heap.size) (by simp)
    have b0 := PointOk.below1 w (Obj.cells #[.int .i64 H, .slice A n cap] 41)
    have HO : ∀ W W' : World, (HouBox.BoxH W (w.heap.size) H A n cap ∧ PtsAt W w.heap.size A ds ∧ Below w.heap.size w W) → Below W.heap.size W W' → (HouBox.BoxH W' (w.heap.size) H A n cap ∧ PtsAt W' w.heap.size A ds ∧ Below w.heap.size w W') := fun W W' ⟨h0, x0, hb⟩ h => ⟨h0.later h, x0.later (h.mono hb.size), hb.trans (h.mono hb.size)⟩
    have hz0_ : Hid (((w.alloc (Obj.cells #[.int .i64 H, .slice A n cap] 41))).heap.size = w.heap.size + 1) := Lib.hid (by simp)
    have Y0 : PtsAt ((w.alloc (Obj.cells #[.int .i64 H, .slice A n cap] 41))) w.heap.size A ds := hp.later b0
    generalize (w.alloc (Obj.cells #[.int .i64 H, .slice A n cap] 41)) = w0 at X0 Y0 b0 hz0_ ⊢
    have S0 := (⟨X0, Y0, b0⟩ : HouBox.BoxH w0 (w.heap.size) H A n cap ∧ PtsAt w0 w.heap.size A ds ∧ Below w.heap.size w w0)
    clear X0 Y0 b0
    obtain ⟨⟨_, _⟩, _, _⟩ := id S0
    refine (Q1.out _ (S0.2.1.wide S0.2.2.size)).mono ?_
    rintro e w1 ⟨rfl, hb_⟩
    replace S0 := HO _ _ S0 hb_
    clear hb_
    obtain ⟨⟨_, _⟩, _, _⟩ := id S0
    go_wp2_with fail
    refine (Q2.out _).mono ?_
    rintro e w2 ⟨rfl, hb_⟩
    replace S0 := HO _ _ S0 hb_
    clear hb_
    obtain ⟨⟨_, _⟩, _, _⟩ := id S0
    go_wp2_with fail
    go_ret
    exact ⟨ret_i64 E.out.symm, S0.2.2⟩
  cases cb : inH H b
  · have E := Lib.hid (HN.out (by rw [ch, ca, cb]; rfl))
    rw [ch] at Q1
    rw [ca] at Q2
    rw [cb] at Q3
    clear HR HN ch ca cb
    go_enter Try.func16, Try.ntmps16
    go_wp2_with fail
    have X0 := HouBox.boxH w H A n cap 41 (k := w.heap.size) (by simp)
    have b0 := PointOk.below1 w (Obj.cells #[.int .i64 H, .slice A n cap] 41)
    have HO : ∀ W W' : World, (HouBox.BoxH W (w.heap.size) H A n cap ∧ PtsAt W w.heap.size A ds ∧ Below w.heap.size w W) → Below W.heap.size W W' → (HouBox.BoxH W' (w.heap.size) H A n cap ∧ PtsAt W' w.heap.size A ds ∧ Below w.heap.size w W') := fun W W' ⟨h0, x0, hb⟩ h => ⟨h0.later h, x0.later (h.mono hb.size), hb.trans (h.mono hb.size)⟩
    have hz0_ : Hid (((w.alloc (Obj.cells #[.int .i64 H, .slice A n cap] 41))).heap.size = w.heap.size + 1) := Lib.hid (by simp)
    have Y0 : PtsAt ((w.alloc (Obj.cells #[.int .i64 H, .slice A n cap] 41))) w.heap.size A ds := hp.later b0
    generalize (w.alloc (Obj.cells #[.int .i64 H, .slice A n cap] 41)) = w0 at X0 Y0 b0 hz0_ ⊢
    have S0 := (⟨X0, Y0, b0⟩ : HouBox.BoxH w0 (w.heap.size) H A n cap ∧ PtsAt w0 w.heap.size A ds ∧ Below w.heap.size w w0)
    clear X0 Y0 b0
    obtain ⟨⟨_, _⟩, _, _⟩ := id S0
    refine (Q1.out _ (S0.2.1.wide S0.2.2.size)).mono ?_
    rintro e w1 ⟨rfl, hb_⟩
    replace S0 := HO _ _ S0 hb_
    clear hb_
    obtain ⟨⟨_, _⟩, _, _⟩ := id S0
    go_wp2_with fail
    refine (Q2.out _).mono ?_
    rintro e w2 ⟨rfl, hb_⟩
    replace S0 := HO _ _ S0 hb_
    clear hb_
    obtain ⟨⟨_, _⟩, _, _⟩ := id S0
    go_wp2_with fail
    refine (Q3.out _).mono ?_
    rintro e w3 ⟨rfl, hb_⟩
    replace S0 := HO _ _ S0 hb_
    clear hb_
    obtain ⟨⟨_, _⟩, _, _⟩ := id S0
    go_wp2_with fail
    go_ret
    exact ⟨ret_i64 E.out.symm, S0.2.2⟩
  have cA : hallOf H ds a = true := by unfold hallOf; rw [ch, ca]; rfl
  have cB : hallOf H ds b = true := by unfold hallOf; rw [ch, cb]; rfl
  obtain ⟨N, a, rfl, rfl, ha, hf⟩ := hall_nat cA
  obtain ⟨N', b, hN, rfl, hb, _⟩ := hall_nat cB
  obtain rfl : N = N' := by omega
  have E : Hid (r = (dist N ds a).getD b 0) := Lib.hid (by rw [← HR.out]; exact hallDist_yes (by rw [cA, cB]; rfl))
  have Q4 := Lib.hid fun w hp => HouDist.distancesIn A n cap N a ds hf hl ha w hp
  have hDl := dist_len (ds := ds) ha
  have hb0 : (0 : Int) ≤ (b : Int) := by omega
  have hb1 : (b : Int) < (N : Int) := by omega
  generalize dist N ds a = D at *
  rw [ch] at Q1
  rw [ca] at Q2
  rw [cb] at Q3
  clear HR HN ca cb ch cA cB hf hN
  go_enter Try.func16, Try.ntmps16
  go_wp2_with fail
  have X0 := HouBox.boxH w N A n cap 41 (k := w.heap.size) (by simp)
  have b0 := PointOk.below1 w (Obj.cells #[.int .i64 N, .slice A n cap] 41)
  have HO : ∀ W W' : World, (HouBox.BoxH W (w.heap.size) N A n cap ∧ PtsAt W w.heap.size A ds ∧ Below w.heap.size w W) → Below W.heap.size W W' → (HouBox.BoxH W' (w.heap.size) N A n cap ∧ PtsAt W' w.heap.size A ds ∧ Below w.heap.size w W') := fun W W' ⟨h0, x0, hb⟩ h => ⟨h0.later h, x0.later (h.mono hb.size), hb.trans (h.mono hb.size)⟩
  have hz0_ : Hid (((w.alloc (Obj.cells #[.int .i64 N, .slice A n cap] 41))).heap.size = w.heap.size + 1) := Lib.hid (by simp)
  have Y0 : PtsAt ((w.alloc (Obj.cells #[.int .i64 N, .slice A n cap] 41))) w.heap.size A ds := hp.later b0
  generalize (w.alloc (Obj.cells #[.int .i64 N, .slice A n cap] 41)) = w0 at X0 Y0 b0 hz0_ ⊢
  have S0 := (⟨X0, Y0, b0⟩ : HouBox.BoxH w0 (w.heap.size) N A n cap ∧ PtsAt w0 w.heap.size A ds ∧ Below w.heap.size w w0)
  clear X0 Y0 b0
  obtain ⟨⟨_, _⟩, _, _⟩ := id S0
  refine (Q1.out _ (S0.2.1.wide S0.2.2.size)).mono ?_
  rintro e w1 ⟨rfl, hb_⟩
  replace S0 := HO _ _ S0 hb_
  clear hb_
  obtain ⟨⟨_, _⟩, _, _⟩ := id S0
  go_wp2_with fail
  refine (Q2.out _).mono ?_
  rintro e w2 ⟨rfl, hb_⟩
  replace S0 := HO _ _ S0 hb_
  clear hb_
  obtain ⟨⟨_, _⟩, _, _⟩ := id S0
  go_wp2_with fail
  refine (Q3.out _).mono ?_
  rintro e w3 ⟨rfl, hb_⟩
  replace S0 := HO _ _ S0 hb_
  clear hb_
  obtain ⟨⟨_, _⟩, _, _⟩ := id S0
  go_wp2_with fail
  refine (Q4.out _ (S0.2.1.wide S0.2.2.size)).mono ?_
  rintro e w5 ⟨g, rfl, hG, hg, hb_⟩
  replace S0 := HO _ _ S0 hb_
  have cb := HouVspec.dist_cell hG hDl hb
  clear Q1 Q2 Q3 Q4 hb_ hg hG hDl
  go_wp2_with fail
  go_ret
  exact ⟨ret_i64 E.out.symm, S0.2.2⟩

theorem notHall (k : Nat) (H : Int) (A : Option Addr) (n cap : Nat) (x : Int) (W : World) (hB : BoxH W k H A n cap) :
    Calls Try.prog 61 #[.int .i64 x, .pointer (some ⟨k, 0, none⟩)] W fun e w' => e = .returned (.bool (!inH H x)) ∧ Below W.heap.size W w' := by
  have Q := Lib.hid fun w => hasHall H A n cap x w
  generalize inH H x = b at *
  obtain ⟨_, _⟩ := id hB
  go_enter Try.func61, Try.ntmps61
  go_wp2_with fail
  refine (Q.out _).mono ?_
  rintro e w1 ⟨rfl, hb_⟩
  go_wp2_with fail
  go_ret
  exact ⟨rfl, hb_⟩

set_option maxRecDepth 100000 in
set_option maxHeartbeats 1600000 in
theorem areHalls (H : Int) (A : Option Addr) (n cap : Nat) (B : Option Addr) (m cb : Nat) (w : World) (zs : List Int) (hz : zs.length = m) (hm : m ≤ 1048576) (hq : IntsAt w w.heap.size B zs) :
    Calls Try.prog 43 #[.agg #[.int .i64 H, .slice A n cap], .slice B m cb] w fun e w' => e = .returned (.bool (hallsB H zs)) ∧ Below w.heap.size w w' := by
  obtain ⟨r, hr⟩ : ∃ r, hallsB H zs = r := ⟨_, rfl⟩
  have HR := Lib.hid hr
  rw [hr]
  clear hr
  have E : Hid (r = !((List.range m).any fun k => !inH H (zs.getD k 0))) := Lib.hid (by rw [← HR.out, halls_any, hz])
  clear HR
  go_enter Try.func43, Try.ntmps43
  go_wp2_with fail
  have X0 := HouBox.boxH w H A n cap 41 (k := w.heap.size) (by simp)
  have b0 := PointOk.below1 w (Obj.cells #[.int .i64 H, .slice A n cap] 41)
  have HO : ∀ W W' : World, (HouBox.BoxH W (w.heap.size) H A n cap ∧ IntsAt W w.heap.size B zs ∧ Below w.heap.size w W) → Below W.heap.size W W' → (HouBox.BoxH W' (w.heap.size) H A n cap ∧ IntsAt W' w.heap.size B zs ∧ Below w.heap.size w W') := fun W W' ⟨h0, x0, hb⟩ h => ⟨h0.later h, x0.later (h.mono hb.size), hb.trans (h.mono hb.size)⟩
  have hz0_ : Hid (((w.alloc (Obj.cells #[.int .i64 H, .slice A n cap] 41))).heap.size = w.heap.size + 1) := Lib.hid (by simp)
  have Y0 : IntsAt ((w.alloc (Obj.cells #[.int .i64 H, .slice A n cap] 41))) w.heap.size B zs := hq.later b0
  generalize (w.alloc (Obj.cells #[.int .i64 H, .slice A n cap] 41)) = w0 at X0 Y0 b0 hz0_ ⊢
  have S0 := (⟨X0, Y0, b0⟩ : HouBox.BoxH w0 (w.heap.size) H A n cap ∧ IntsAt w0 w.heap.size B zs ∧ Below w.heap.size w w0)
  clear X0 Y0 b0
  obtain ⟨⟨_, _⟩, _, _⟩ := id S0
  have QC := Lib.hid fun eF Q => InNumImpl.containsFunc 61 #[.pointer (some ⟨w.heap.size, 0, none⟩)] (fun k => !inH H (zs.getD k 0)) B m cb w0 zs hz hm (S0.2.1.wide S0.2.2.size) eF Q
  have S1 := S0
  generalize ((List.range m).any fun k => !inH H (zs.getD k 0)) = c at *
  go_wp2_with fail
  refine (QC.out Try.call61 (fun W k hk hb => notHall w.heap.size H A n cap (zs.getD k 0) W (S1.1.later hb))).mono ?_
  rintro e w1 ⟨rfl, hb_⟩
  replace S0 := HO _ _ S0 hb_
  clear QC S1 hb_
  go_wp2_with fail
  go_ret
  exact ⟨ret_bool E.out.symm, S0.2.2⟩

end Go.Proofs.Ytcfoleiooohbhaa.HouWimpl

