/-
  What the landed text says of the halls behind a hall's doors, as a contract.
-/
import Derived.Test.YtcfoleiooohbhaaHouWimpl
import Derived.Test.YtcfoleiooohbhaaHouMathD
namespace Go.Proofs.Ytcfoleiooohbhaa.HouOimpl
open Go.RowKit Pts Blk HouMath HouMathB HouMathD HouSeq HouBox HouMem Ints
open Go.Proofs.Ytcfoleiooohbhaa.Own (icells icells_length icells_at icells_snoc own_shape own_cell own_below own_base own_empty GivesI)
open PointOk (ret_bool ret_i64 below1 below2 below3)

theorem behind (H : Nat) (A : Option Addr) (n cap x : Nat) (w : World) :
    Calls Try.prog 41 #[.agg #[.int .i64 H, .slice A n cap], .int .i64 x] w fun e w' =>
      e = .returned (.func (.func 59) #[] #[.pointer (some ⟨w.heap.size, 0, none⟩), .pointer (some ⟨w.heap.size + 1, 0, none⟩)]) ∧
      w' = (w.alloc (.cells #[.int .i64 H, .slice A n cap] 41)).alloc (.cells #[.int .i64 x] 3) :=
  (callsIn_wide (n := 3)).1 (HouIter.hallsBehind 3 H n cap x A w)

set_option maxRecDepth 100000 in
set_option maxHeartbeats 3200000 in
theorem doorsFrom (H : Int) (A : Option Addr) (n cap : Nat) (x : Int) (w : World) (ds : List (Int × Int)) (hl : ds.length = n) (hn : n ≤ 1048576) (hp : PtsAt w w.heap.size A ds) :
    Calls Try.prog 17 #[.agg #[.int .i64 H, .slice A n cap], .int .i64 x] w (GivesI 3 w (doorsL H ds x)) := by
  obtain ⟨r, hr⟩ : ∃ r, doorsL H ds x = r := ⟨_, rfl⟩
  have HR := Lib.hid hr
  rw [hr]
  clear hr
  have Q1 : Hid (∀ w hp, _) := Lib.hid fun w hp => HouImpl.houseOk H A n cap w ds hl hn hp
  have Q2 : Hid (∀ w, _) := Lib.hid fun w => HouWimpl.hasHall H A n cap x w
  have HNo : (houseB H ds && inH H x) = false → r = [] := fun h => by rw [← HR.out]; exact doors_no h
  cases ch : houseB H ds
  · have E := HNo (by rw [ch]; rfl)
    subst E
    rw [ch] at Q1
    clear HR HNo Q2 hl ch
    go_enter Try.func17, Try.ntmps17
    go_wp2_with fail
    have X0 := HouBox.boxH w H A n cap 41 (k := w.heap.size) (by simp)
    have b0 := PointOk.below1 w (Obj.cells #[.int .i64 H, .slice A n cap] 41)
    have HO : ∀ W W' : World, (HouBox.BoxH W (w.heap.size) H A n cap ∧ PtsAt W w.heap.size A ds ∧ Below w.heap.size w W) → Below W.heap.size W W' → (HouBox.BoxH W' (w.heap.size) H A n cap ∧ PtsAt W' w.heap.size A ds ∧ Below w.heap.size w W') := fun W W' ⟨h0, x0, hb⟩ h => ⟨h0.later h, x0.later (h.mono hb.size), hb.trans (h.mono hb.size)⟩
    have hz0_ : Hid (((w.alloc (Obj.cells #[.int .i64 H, .slice A n cap] 41))).heap.size = w.heap.size + 1) := Lib.hid (by simp)
    have Y0 : PtsAt ((w.alloc (Obj.cells #[.int .i64 H, .slice A n cap] 41))) w.heap.size A ds := hp.later b0
    generalize (w.alloc (Obj.cells #[.int .i64 H, .slice A n cap] 41)) = w0 at X0 Y0 b0 hz0_ ⊢
    have S0 := (⟨X0, Y0, b0⟩ : HouBox.BoxH w0 (w.heap.size) H A n cap ∧ PtsAt w0 w.heap.size A ds ∧ Below w.heap.size w w0)
    clear X0 Y0 b0
    obtain ⟨⟨_, _⟩, _, _⟩ := id S0
    refine (Q1.out _ (S0.2.1.wide S0.2.2.size)).mono ?_
    rintro e w1 ⟨rfl, hb_⟩
    replace S0 := HO _ _ S0 hb_
    clear hb_
    obtain ⟨⟨_, _⟩, _, _⟩ := id S0
    go_wp2_with fail
    go_ret
    exact ⟨none, 0, rfl, World.ownsRow_nil _ _ _ _, S0.2.2⟩
  cases cx : inH H x
  · have E := HNo (by rw [ch, cx]; rfl)
    subst E
    rw [ch] at Q1
    rw [cx] at Q2
    clear HR HNo hl ch cx
    go_enter Try.func17, Try.ntmps17
    go_wp2_with fail
    have X0 := HouBox.boxH w H A n cap 41 (k := w.heap.size) (by simp)
    have b0 := PointOk.below1 w (Obj.cells #[.int .i64 H, .slice A n cap] 41)
    have HO : ∀ W W' : World, (HouBox.BoxH W (w.heap.size) H A n cap ∧ PtsAt W w.heap.size A ds ∧ Below w.heap.size w W) → Below W.heap.size W W' → (HouBox.BoxH W' (w.heap.size) H A n cap ∧ PtsAt W' w.heap.size A ds ∧ Below w.heap.size w W') := fun W W' ⟨h0, x0, hb⟩ h => ⟨h0.later h, x0.later (h.mono hb.size), hb.trans (h.mono hb.size)⟩
    have hz0_ : Hid (((w.alloc (Obj.cells #[.int .i64 H, .slice A n cap] 41))).heap.size = w.heap.size + 1) := Lib.hid (by simp)
    have Y0 : PtsAt ((w.alloc (Obj.cells #[.int .i64 H, .slice A n cap] 41))) w.heap.size A ds := hp.later b0
    generalize (w.alloc (Obj.cells #[.int .i64 H, .slice A n cap] 41)) = w0 at X0 Y0 b0 hz0_ ⊢
    have S0 := (⟨X0, Y0, b0⟩ : HouBox.BoxH w0 (w.heap.size) H A n cap ∧ PtsAt w0 w.heap.size A ds ∧ Below w.heap.size w w0)
    clear X0 Y0 b0
    obtain ⟨⟨_, _⟩, _, _⟩ := id S0
    refine (Q1.out _ (S0.2.1.wide S0.2.2.size)).mono ?_
    rintro e w1 ⟨rfl, hb_⟩
    replace S0 := HO _ _ S0 hb_
    clear hb_
    obtain ⟨⟨_, _⟩, _, _⟩ := id S0
    go_wp2_with fail
    refine (Q2.out _).mono ?_
    rintro e w2 ⟨rfl, hb_⟩
    replace S0 := HO _ _ S0 hb_
    clear hb_
    obtain ⟨⟨_, _⟩, _, _⟩ := id S0
    go_wp2_with fail
    go_ret
    exact ⟨none, 0, rfl, World.ownsRow_nil _ _ _ _, S0.2.2⟩
  have cA : hallOf H ds x = true := by unfold hallOf; rw [ch, cx]; rfl
  obtain ⟨N, a, rfl, rfl, ha, hf⟩ := hall_nat cA
  have E : r = ci (nb N ds a) := by rw [← HR.out]; exact doors_yes cA
  subst E
  rw [ch] at Q1
  rw [cx] at Q2
  have QC := Lib.hid fun Bh Bx w h1 h2 h3 => collect N n cap a Bh Bx A ds hf hl w h1 h2 h3
  have QB := Lib.hid fun w => behind N A n cap a w
  clear HR HNo hl ch cx cA hf ha
  go_enter Try.func17, Try.ntmps17
  go_wp2_with fail
  have X0 := HouBox.boxH w N A n cap 41 (k := w.heap.size) (by simp)
  have b0 := PointOk.below1 w (Obj.cells #[.int .i64 N, .slice A n cap] 41)
  have HO : ∀ W W' : World, (HouBox.BoxH W (w.heap.size) N A n cap ∧ PtsAt W w.heap.size A ds ∧ Below w.heap.size w W) → Below W.heap.size W W' → (HouBox.BoxH W' (w.heap.size) N A n cap ∧ PtsAt W' w.heap.size A ds ∧ Below w.heap.size w W') := fun W W' ⟨h0, x0, hb⟩ h => ⟨h0.later h, x0.later (h.mono hb.size), hb.trans (h.mono hb.size)⟩
  have hz0_ : Hid (((w.alloc (Obj.cells #[.int .i64 N, .slice A n cap] 41))).heap.size = w.heap.size + 1) := Lib.hid (by simp)
  have Y0 : PtsAt ((w.alloc (Obj.cells #[.int .i64 N, .slice A n cap] 41))) w.heap.size A ds := hp.later b0
  generalize (w.alloc (Obj.cells #[.int .i64 N, .slice A n cap] 41)) = w0 at X0 Y0 b0 hz0_ ⊢
  have S0 := (⟨X0, Y0, b0⟩ : HouBox.BoxH w0 (w.heap.size) N A n cap ∧ PtsAt w0 w.heap.size A ds ∧ Below w.heap.size w w0)
  clear X0 Y0 b0
  obtain ⟨⟨_, _⟩, _, _⟩ := id S0
  refine (Q1.out _ (S0.2.1.wide S0.2.2.size)).mono ?_
  rintro e wx ⟨rfl, hb_⟩
  replace S0 := HO _ _ S0 hb_
  obtain ⟨⟨_, _⟩, _, _⟩ := id S0
  go_wp2_with fail
  refine (Q2.out _).mono ?_
  rintro e wz ⟨rfl, hb_⟩
  replace S0 := HO _ _ S0 hb_
  obtain ⟨⟨_, _⟩, _, _⟩ := id S0
  go_wp2_with fail
  refine (QB.out _).mono ?_
  rintro e w4 ⟨rfl, hw4⟩
  have hs4 : Below wz.heap.size wz w4 := by rw [hw4]; exact below2 _ _ _
  have G1 : Holds w4 wz.heap.size #[.int .i64 N, .slice A n cap] 41 := by rw [hw4]; exact (Holds.new _ _ _).alloc _
  have G2 : Holds w4 (wz.heap.size + 1) #[.int .i64 a] 3 := by rw [hw4]; exact Holds.box _ _ _ (by simp)
  clear Q1 Q2 QB hw4
  replace S0 := HO _ _ S0 hs4
  go_wp2_with fail
  refine (QC.out _ _ _ G1 G2 (S0.2.1.wide S0.2.2.size)).mono ?_
  rintro e w5 ⟨v, rfl, hrow, hb5⟩
  have hsz4 : w.heap.size ≤ w4.heap.size := S0.2.2.size
  replace S0 := HO _ _ S0 hb5
  have hln : (ci (nb N ds a)).length = (nb N ds a).length := ci_len _
  obtain ⟨A1, c1, rfl⟩ := own_shape hrow
  replace hrow := Lib.hid hrow
  clear QC G1 G2 hs4 hb5
  go_wp2_with fail
  go_ret
  exact ⟨A1, c1, by rw [hln]; rfl, by rw [hln]; exact own_base hrow.out hsz4, S0.2.2⟩

end Go.Proofs.Ytcfoleiooohbhaa.HouOimpl

