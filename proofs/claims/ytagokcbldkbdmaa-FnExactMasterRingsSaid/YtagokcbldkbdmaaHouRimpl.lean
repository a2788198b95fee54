/-
  Rings that open every hall, as the landed code finds them: contracts.
-/
import Derived.Test.YtagokcbldkbdmaaHouKimpl
import Derived.Test.YtagokcbldkbdmaaHouMast
namespace Go.Proofs.Ytagokcbldkbdmaa.HouRimpl
open Go.RowKit Pts Blk HouMath HouMathB HouMathC HouKeys HouMast HouBox HouMem HouFilt Ints JoinMath
open Go.Proofs.Ytagokcbldkbdmaa.Own (icells icells_length icells_at icells_snoc own_shape own_cell own_below own_base own_empty GivesI GivesC)
open PointOk (ret_bool ret_i64 below1 below2 below3)

set_option maxRecDepth 100000 in
set_option maxHeartbeats 1600000 in
theorem notRing (k : Nat) (H : Int) (A : Option Addr) (n cap : Nat) (x : Int) (W : World) (ds : List (Int × Int)) (hl : ds.length = n) (hn : n ≤ 1048576) (hp : PtsAt W W.heap.size A ds) (hB : BoxH W k H A n cap) :
    Calls Try.prog 110 #[.int .i64 x, .pointer (some ⟨k, 0, none⟩)] W fun e w' => e = .returned (.bool (!ringB H ds x)) ∧ Below W.heap.size W w' := by
  have Q := Lib.hid fun w hp => HouXimpl.ringOk H A n cap x w ds hl hn hp
  generalize ringB H ds x = b at *
  obtain ⟨_, _⟩ := id hB
  go_enter Try.func110, Try.ntmps110
  go_wp2_with fail
  refine (Q.out _ hp).mono ?_
  rintro e w1 ⟨rfl, hb_⟩
  go_wp2_with fail
  go_ret
  exact ⟨rfl, hb_⟩

set_option maxRecDepth 100000 in
set_option maxHeartbeats 1600000 in
theorem areRings (H : Int) (A : Option Addr) (n cap : Nat) (B : Option Addr) (m cb : Nat) (w : World) (ds : List (Int × Int)) (hl : ds.length = n) (hn : n ≤ 1048576) (hp : PtsAt w w.heap.size A ds) (zs : List Int) (hz : zs.length = m) (hm : m ≤ 1048576) (hq : IntsAt w w.heap.size B zs) :
    Calls Try.prog 63 #[.agg #[.int .i64 H, .slice A n cap], .slice B m cb] w fun e w' => e = .returned (.bool (ringsA H ds zs)) ∧ Below w.heap.size w w' := by
  obtain ⟨r, hr⟩ : ∃ r, ringsA H ds zs = r := ⟨_, rfl⟩
  have HR := Lib.hid hr
  rw [hr]
  clear hr
  have E : Hid (r = !((List.range m).any fun k => !ringB H ds (zs.getD k 0))) := Lib.hid (by rw [← HR.out, rings_any, hz])
  clear HR
  go_enter Try.func63, Try.ntmps63
  go_wp2_with fail
  have X0 := HouBox.boxH w H A n cap 30 (k := w.heap.size) (by simp)
  have b0 := PointOk.below1 w (Obj.cells #[.int .i64 H, .slice A n cap] 30)
  have HO : ∀ W W' : World, (HouBox.BoxH W (w.heap.size) H A n cap ∧ PtsAt W w.heap.size A ds ∧ IntsAt W w.heap.size B zs ∧ Below w.heap.size w W) → Below W.heap.size W W' → (HouBox.BoxH W' (w.heap.size) H A n cap ∧ PtsAt W' w.heap.size A ds ∧ IntsAt W' w.heap.size B zs ∧ Below w.heap.size w W') := fun W W' ⟨h0, x0, x1, hb⟩ h => ⟨h0.later h, x0.later (h.mono hb.size), x1.later (h.mono hb.size), hb.trans (h.mono hb.size)⟩
  have hz0_ : Hid (((w.alloc (Obj.cells #[.int .i64 H, .slice A n cap] 30))).heap.size = w.heap.size + 1) := Lib.hid (by simp)
  have Y0 : PtsAt ((w.alloc (Obj.cells #[.int .i64 H, .slice A n cap] 30))) w.heap.size A ds := hp.later b0
  have Y1 : IntsAt ((w.alloc (Obj.cells #[.int .i64 H, .slice A n cap] 30))) w.heap.size B zs := hq.later b0
  generalize (w.alloc (Obj.cells #[.int .i64 H, .slice A n cap] 30)) = w0 at X0 Y0 Y1 b0 hz0_ ⊢
  have S0 := (⟨X0, Y0, Y1, b0⟩ : HouBox.BoxH w0 (w.heap.size) H A n cap ∧ PtsAt w0 w.heap.size A ds ∧ IntsAt w0 w.heap.size B zs ∧ Below w.heap.size w w0)
  clear X0 Y0 Y1 b0
  obtain ⟨⟨_, _⟩, _, _, _⟩ := id S0
  have QC := Lib.hid fun eF Q => InNumImpl.containsFunc 110 #[.pointer (some ⟨w.heap.size, 0, none⟩)] (fun k => !ringB H ds (zs.getD k 0)) B m cb w0 zs hz hm (S0.2.2.1.wide S0.2.2.2.size) eF Q
  have S1 := S0
  have QR := Lib.hid fun W hb (x : Int) => notRing w.heap.size H A n cap x W ds hl hn ((HO w0 W S1 hb).2.1.wide (HO w0 W S1 hb).2.2.2.size) (HO w0 W S1 hb).1
  generalize hgen : ((List.range m).any fun k => !ringB H ds (zs.getD k 0)) = c at *
  go_wp2_with fail
  refine (QC.out Try.call110 (fun W k hk hb => QR.out W hb (zs.getD k 0))).mono ?_
  rintro e w1 ⟨rfl, hb_⟩
  replace S0 := HO _ _ S0 hb_
  clear QC S1 hb_
  go_wp2_with fail
  go_ret
  exact ⟨ret_bool E.out.symm, S0.2.2.2⟩

set_option maxRecDepth 100000 in
set_option maxHeartbeats 1600000 in
theorem opensAll (N : Nat) (A : Option Addr) (n cap : Nat) (x : Int) (w : World) (ds : List (Int × Int)) (hl : ds.length = n) (hf : HForm N ds) (h0 : 0 < N) (hp : PtsAt w w.heap.size A ds) :
    Calls Try.prog 64 #[.agg #[.int .i64 N, .slice A n cap], .int .i64 x] w fun e w' => e = .returned (.bool (allB N ds x)) ∧ Below w.heap.size w w' := by
  have HR : Hid (allB N ds x = decide (((withN N ds 0 x).length : Int) = N)) := Lib.hid rfl
  have QW := Lib.hid fun w hp => HouKimpl.hallsIn N A n cap 0 x w ds hl hf h0 hp
  unfold GivesI at QW
  obtain ⟨r, hr⟩ : ∃ r, allB N ds x = r := ⟨_, rfl⟩
  rw [hr] at HR ⊢
  clear hr
  generalize withN N ds 0 x = l at *
  obtain ⟨q, hq⟩ : ∃ q, l.length = q := ⟨_, rfl⟩
  rw [hq] at QW HR
  clear hl hf h0
  go_enter Try.func64, Try.ntmps64
  go_wp2_with fail
  have X0 := HouBox.boxH w N A n cap 30 (k := w.heap.size) (by simp)
  have b0 := PointOk.below1 w (Obj.cells #[.int .i64 N, .slice A n cap] 30)
  have HO : ∀ W W' : World, (HouBox.BoxH W (w.heap.size) N A n cap ∧ PtsAt W w.heap.size A ds ∧ Below w.heap.size w W) → Below W.heap.size W W' → (HouBox.BoxH W' (w.heap.size) N A n cap ∧ PtsAt W' w.heap.size A ds ∧ Below w.heap.size w W') := fun W W' ⟨h0, x0, hb⟩ h => ⟨h0.later h, x0.later (h.mono hb.size), hb.trans (h.mono hb.size)⟩
  have hz0_ : Hid (((w.alloc (Obj.cells #[.int .i64 N, .slice A n cap] 30))).heap.size = w.heap.size + 1) := Lib.hid (by simp)
  have Y0 : PtsAt ((w.alloc (Obj.cells #[.int .i64 N, .slice A n cap] 30))) w.heap.size A ds := hp.later b0
  generalize (w.alloc (Obj.cells #[.int .i64 N, .slice A n cap] 30)) = w0 at X0 Y0 b0 hz0_ ⊢
  have S0 := (⟨X0, Y0, b0⟩ : HouBox.BoxH w0 (w.heap.size) N A n cap ∧ PtsAt w0 w.heap.size A ds ∧ Below w.heap.size w w0)
  clear X0 Y0 b0
  obtain ⟨⟨_, _⟩, _, _⟩ := id S0
  have S0_ := HO _ _ S0 ((Below.refl _ _).drew)
  have HS0_ : w0.drew.cell? ⟨w.heap.size, 0, none⟩ = some (.int .i64 N) ∧ w0.drew.cell? ⟨w.heap.size, 1, none⟩ = some (.slice A n cap) := (by obtain ⟨⟨_, _⟩, _, _⟩ := id S0_; exact ⟨by assumption, by assumption⟩)
  go_region_held3 (fun W => W.cell? ⟨w.heap.size, 0, none⟩ = some (.int .i64 N) ∧ W.cell? ⟨w.heap.size, 1, none⟩ = some (.slice A n cap)) (first | exact HS0_ | assumption) (first | (go_at_call 59; refine (QW.out _ (S0_.2.1.wide S0_.2.2.size)).mono ?_; rintro e w1 ⟨A2, c2, rfl, HL, hb0_⟩; have S1_ := HO _ _ S0_ hb0_; have HL_1 := HL; have HS1_ : w1.cell? ⟨w.heap.size, 0, none⟩ = some (.int .i64 N) ∧ w1.cell? ⟨w.heap.size, 1, none⟩ = some (.slice A n cap) := (by obtain ⟨⟨_, _⟩, _, _⟩ := id S1_; exact ⟨by assumption, by assumption⟩)))
  replace S0 := S1_
  have HL := HL_1
  obtain ⟨⟨_, _⟩, _, _⟩ := id S0
  go_wp2_with fail
  go_ret
  exact ⟨ret_bool (by rw [HR.out]; first | rfl | (rw [Bool.eq_iff_iff]; simp)), S0.2.2⟩

set_option maxRecDepth 100000 in
set_option maxHeartbeats 3200000 in
theorem masterRings (H : Int) (A : Option Addr) (n cap : Nat) (B : Option Addr) (m cb : Nat) (w : World) (ds : List (Int × Int)) (hl : ds.length = n) (hn : n ≤ 1048576) (hp : PtsAt w w.heap.size A ds) (zs : List Int) (hz : zs.length = m) (hm : m ≤ 1048576) (hq : IntsAt w w.heap.size B zs) :
    Calls Try.prog 22 #[.agg #[.int .i64 H, .slice A n cap], .slice B m cb] w (GivesI 3 w (mastL H ds zs)) := by
  obtain ⟨r, hr⟩ : ∃ r, mastL H ds zs = r := ⟨_, rfl⟩
  have HR := Lib.hid hr
  rw [hr]
  clear hr
  have Q1 : Hid (∀ w hp hq, _) := Lib.hid fun w hp hq => areRings H A n cap B m cb w ds hl hn hp zs hz hm hq
  obtain ⟨c, hc⟩ : ∃ c, ringsA H ds zs = c := ⟨_, rfl⟩
  rw [hc] at Q1
  cases c
  · have E : r = [] := by rw [← HR.out]; unfold mastL; rw [hc]; rfl
    subst E
    clear HR hc hl hz
    go_enter Try.func22, Try.ntmps22
    go_wp2_with fail
    have X0 := HouBox.boxH w H A n cap 30 (k := w.heap.size) (by simp)
    have b0 := PointOk.below1 w (Obj.cells #[.int .i64 H, .slice A n cap] 30)
    have HO : ∀ W W' : World, (HouBox.BoxH W (w.heap.size) H A n cap ∧ PtsAt W w.heap.size A ds ∧ IntsAt W w.heap.size B zs ∧ Below w.heap.size w W) → Below W.heap.size W W' → (HouBox.BoxH W' (w.heap.size) H A n cap ∧ PtsAt W' w.heap.size A ds ∧ IntsAt W' w.heap.size B zs ∧ Below w.heap.size w W') := fun W W' ⟨h0, x0, x1, hb⟩ h => ⟨h0.later h, x0.later (h.mono hb.size), x1.later (h.mono hb.size), hb.trans (h.mono hb.size)⟩
    have hz0_ : Hid (((w.alloc (Obj.cells #[.int .i64 H, .slice A n cap] 30))).heap.size = w.heap.size + 1) := Lib.hid (by simp)
    have Y0 : PtsAt ((w.alloc (Obj.cells #[.int .i64 H, .slice A n cap] 30))) w.heap.size A ds := hp.later b0
    have Y1 : IntsAt ((w.alloc (Obj.cells #[.int .i64 H, .slice A n cap] 30))) w.heap.size B zs := hq.later b0
    generalize (w.alloc (Obj.cells #[.int .i64 H, .slice A n cap] 30)) = w0 at X0 Y0 Y1 b0 hz0_ ⊢
    have S0 := (⟨X0, Y0, Y1, b0⟩ : HouBox.BoxH w0 (w.heap.size) H A n cap ∧ PtsAt w0 w.heap.size A ds ∧ IntsAt w0 w.heap.size B zs ∧ Below w.heap.size w w0)
    clear X0 Y0 Y1 b0
    obtain ⟨⟨_, _⟩, _, _, _⟩ := id S0
    refine (Q1.out _ (S0.2.1.wide S0.2.2.2.size) (S0.2.2.1.wide S0.2.2.2.size)).mono ?_
    rintro e w1 ⟨rfl, hb_⟩
    replace S0 := HO _ _ S0 hb_
    clear hb_
    go_wp2_with fail
    go_ret
    exact ⟨none, 0, rfl, World.ownsRow_nil _ _ _ _, S0.2.2.2⟩
  have E : r = mastTo H ds zs m := by rw [← HR.out, ← hz]; unfold mastL; rw [hc]; rfl
  subst E
  have QO : Hid (∀ k, k < m → ∀ w, PtsAt w w.heap.size A ds → Calls Try.prog 64 #[.agg #[.int .i64 H, .slice A n cap], .int .i64 (zs.getD k 0)] w fun e w' => e = .returned (.bool (allB H ds (zs.getD k 0))) ∧ Below w.heap.size w w') := Lib.hid (fun k hk w hp => by
    have hr := rings_at hc (k := k) (by omega)
    have hf := house_form (ring_house hr)
    obtain ⟨N, rfl⟩ := Int.eq_ofNat_of_zero_le (show 0 ≤ H by have := hf.h1; omega)
    exact opensAll N A n cap (zs.getD k 0) w ds hl hf (by have := hf.h1; omega) hp)
  have HS : Hid (∀ k, mastTo H ds zs (k + 1) = if allB H ds (zs.getD k 0) then mastTo H ds zs k ++ [(k : Int)] else mastTo H ds zs k) := Lib.hid (fun k => rfl)
  have HLen : Hid (∀ k, (mastTo H ds zs k).length ≤ k) := Lib.hid (fun k => mastTo_len H ds zs k)
  have HZ0 : mastTo H ds zs 0 = [] := rfl
  obtain ⟨i0, hi, hz0, hz1, hz2⟩ := info_parts HouKimpl.infoI
  generalize mastTo H ds zs = nt at *
  generalize allB H ds = ab at *
  clear HR hc hl
  go_enter Try.func22, Try.ntmps22
  go_wp2_with fail
  have X0 := HouBox.boxH w H A n cap 30 (k := w.heap.size) (by simp)
  have b0 := PointOk.below1 w (Obj.cells #[.int .i64 H, .slice A n cap] 30)
  have HO : ∀ W W' : World, (HouBox.BoxH W (w.heap.size) H A n cap ∧ PtsAt W w.heap.size A ds ∧ IntsAt W w.heap.size B zs ∧ Below w.heap.size w W) → Below W.heap.size W W' → (HouBox.BoxH W' (w.heap.size) H A n cap ∧ PtsAt W' w.heap.size A ds ∧ IntsAt W' w.heap.size B zs ∧ Below w.heap.size w W') := fun W W' ⟨h0, x0, x1, hb⟩ h => ⟨h0.later h, x0.later (h.mono hb.size), x1.later (h.mono hb.size), hb.trans (h.mono hb.size)⟩
  have hz0_ : Hid (((w.alloc (Obj.cells #[.int .i64 H, .slice A n cap] 30))).heap.size = w.heap.size + 1) := Lib.hid (by simp)
  have Y0 : PtsAt ((w.alloc (Obj.cells #[.int .i64 H, .slice A n cap] 30))) w.heap.size A ds := hp.later b0
  have Y1 : IntsAt ((w.alloc (Obj.cells #[.int .i64 H, .slice A n cap] 30))) w.heap.size B zs := hq.later b0
  generalize (w.alloc (Obj.cells #[.int .i64 H, .slice A n cap] 30)) = w0 at X0 Y0 Y1 b0 hz0_ ⊢
  have S0 := (⟨X0, Y0, Y1, b0⟩ : HouBox.BoxH w0 (w.heap.size) H A n cap ∧ PtsAt w0 w.heap.size A ds ∧ IntsAt w0 w.heap.size B zs ∧ Below w.heap.size w w0)
  clear X0 Y0 Y1 b0
  obtain ⟨⟨_, _⟩, _, _, _⟩ := id S0
  have HO2 : ∀ W W' : World, (HouBox.BoxH W (w.heap.size) H A n cap ∧ PtsAt W w.heap.size A ds ∧ IntsAt W w.heap.size B zs ∧ Below w.heap.size w W) → Below (w.heap.size + 1) W W' → (HouBox.BoxH W' (w.heap.size) H A n cap ∧ PtsAt W' w.heap.size A ds ∧ IntsAt W' w.heap.size B zs ∧ Below w.heap.size w W') := fun W W' ⟨h0, h1, h2, hb⟩ h => ⟨⟨(h.cell (p := ⟨w.heap.size, 0, none⟩) (by show w.heap.size < w.heap.size + 1; omega)).trans h0.1, (h.cell (p := ⟨w.heap.size, 1, none⟩) (by show w.heap.size < w.heap.size + 1; omega)).trans h0.2⟩, h1.later (h.mono (by omega)), h2.later (h.mono (by omega)), hb.trans (h.mono (by omega))⟩
  have hsz : w.heap.size + 1 ≤ w0.heap.size := by have := hz0_.out; omega
  refine (Q1.out _ (S0.2.1.wide S0.2.2.2.size) (S0.2.2.1.wide S0.2.2.2.size)).mono ?_
  rintro e w1 ⟨rfl, hb_⟩
  replace S0 := HO _ _ S0 hb_
  replace hsz := Nat.le_trans hsz hb_.size
  clear hb_ Q1
  obtain ⟨⟨_, _⟩, _, _, _⟩ := id S0
  go_wp2_with fail
  go_loopw [5, 14] (fun v i wr => ∃ k : Nat, k ≤ m ∧ i = .int .i64 k ∧ wr.ownsRow (w.heap.size + 1) 3 1 v (nt k).length (icells (nt k)) ∧ w.heap.size + 1 ≤ wr.heap.size ∧ (HouBox.BoxH wr (w.heap.size) H A n cap ∧ PtsAt wr w.heap.size A ds ∧ IntsAt wr w.heap.size B zs ∧ Below w.heap.size w wr))
    (fun _ i _ => m - (intOf i).toNat)
  case atStart => exact ⟨0, Nat.zero_le _, rfl, by rw [HZ0]; exact World.ownsRow_nil _ _ _ _, hsz, S0⟩
  case round =>
    clear S0 HZ0 hsz
    obtain ⟨k, hkn, rfl, hown, hsz, S0⟩ := hrel
    obtain ⟨⟨_, _⟩, _, _, _⟩ := id S0
    by_cases hlt : k < m
    rotate_left
    · obtain rfl : m = k := by omega
      have hown2 := Lib.hid hown
      obtain ⟨A1, c1, rfl⟩ := own_shape hown
      clear hown HS HLen QO hz
      go_wp2_with fail
      go_ret
      exact ⟨A1, c1, rfl, own_base hown2.out (show w.heap.size ≤ w.heap.size + 1 by omega), S0.2.2.2⟩
    have hk1 : (k : Int) < (m : Int) := by omega
    have hk0 : (0 : Int) ≤ (k : Int) := by omega
    have HL := Lib.hid (HS.out k)
    have Q := Lib.hid (QO.out k hlt)
    have hlen := HLen.out k
    have p0 := at_d (zs := zs) (k := k) (by omega)
    obtain ⟨z, hzz⟩ : ∃ z, zs.getD k 0 = z := ⟨_, rfl⟩
    rw [hzz] at p0 HL Q
    obtain ⟨bd, eB, bB, pB⟩ := S0.2.2.1.get p0
    subst eB
    obtain ⟨_, _⟩ := id pB
    generalize hl0 : nt k = l0 at *
    obtain ⟨q, hmq⟩ : ∃ q, l0.length = q := ⟨_, rfl⟩
    rw [hmq] at hown hlen
    obtain ⟨Ao, co, rfl⟩ := own_shape hown
    have hq7 : q ≤ 1048576 := by omega
    obtain ⟨o, ho⟩ : ∃ o, ab z = o := ⟨_, rfl⟩
    rw [ho] at HL Q
    clear hl0 hlen HLen HS QO ho hz p0 hzz pB
    replace hown := Lib.hid hown
    go_wp2_with fail
    refine (Q.out _ (S0.2.1.wide S0.2.2.2.size)).mono ?_
    rintro e wz ⟨rfl, hb_⟩
    replace S0 := HO _ _ S0 hb_
    obtain ⟨⟨_, _⟩, _, _, _⟩ := id S0
    replace hown := Lib.hid (own_below hown.out hb_)
    replace hsz := Nat.le_trans hsz hb_.size
    clear Q hb_
    cases o
    · have HL2 : Hid (nt (k + 1) = l0) := Lib.hid (by rw [HL.out]; rfl)
      clear HL
      go_wp2_with fail
      exact ⟨⟨k + 1, by omega, by go_num, by rw [HL2.out, hmq]; exact hown.out, hsz, S0⟩, by simp [intOf]; omega⟩
    have HL2 : Hid (nt (k + 1) = l0 ++ [(k : Int)]) := Lib.hid (by rw [HL.out]; rfl)
    clear HL
    have S1 := Lib.hid S0
    replace hown := hown.out
    go_wp2_with (at_builtin; refine wpList_append_own _ rfl _ _ 26 rfl (w.heap.size + 1) 3 i0 (.int .i64 0) 1 8 Try.underlying26 hi hz0 hz1 hz2 rfl (by decide) _ _ _ rfl (hown.alloc _) ⟨wz.heap.size, 0, none⟩ 1 1 [.int .i64 (k : Int)] rfl rfl ?c1 ?c2 ?c3 ?c4 ?c5 ?_)
    case c1 => (intro j u hj; match j, hj with | 0, hj => (simp at hj; subst hj; simp [Addr.add]))
    case c2 => (intro u hu; simp at hu; subst hu; rfl)
    case c3 => (unfold maxLen; omega)
    case c4 => omega
    case c5 => (simp; omega)
    intro v1_ wa_ ho_ hg_ _
    have hb0 : Below (w.heap.size + 1) wz (wz.alloc (Obj.cells #[.int .i64 (k : Int)] 3)) := (below1 _ _).mono hsz
    have hb1 := hb0.grown hg_ (by simp; omega) (fun g hg => (hown.lt g hg).1)
    have HN1 := Lib.hid (HO2 _ _ S1.out hb1)
    have HN : Hid (wa_.ownsRow (w.heap.size + 1) 3 1 v1_ (nt (k + 1)).length (icells (nt (k + 1))) ∧ w.heap.size + 1 ≤ wa_.heap.size) := Lib.hid (by
      rw [HL2.out, icells_snoc, List.length_append, hmq]
      exact ⟨ho_, Nat.le_trans hsz hb1.size⟩)
    clear ho_ hg_ hown HL2 S0 S1 hb0 hb1
    go_wp2_with fail
    first
      | exact ⟨⟨k + 1, by omega, by go_num, HN.out.1, HN.out.2, HN1.out⟩, by simp [intOf]; omega⟩
      | (go_roundw <;> first | exact ⟨k + 1, by omega, by go_num, HN.out.1, HN.out.2, HN1.out⟩ | (simp [intOf]; omega))
end Go.Proofs.Ytagokcbldkbdmaa.HouRimpl

