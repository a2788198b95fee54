/-
  What the landed text says of orders of halls and of the cost of ways, as contracts.
-/
import Derived.Test.YtagokcbldkbdmaaHouWimpl
import Derived.Test.YtagokcbldkbdmaaHouMathC
import Derived.Test.YtagokcbldkbdmaaIntSl
namespace Go.Proofs.Ytagokcbldkbdmaa.HouYimpl
open Go.RowKit Pts Blk HouMath HouMathB HouMathC HouBox HouMem Ints JoinMath RoomMath
open Go.Proofs.Ytagokcbldkbdmaa.Own (icells icells_length icells_at)
open PointOk (ret_bool ret_i64 below1 below2 below3)

theorem ints_take {w : World} {b : Nat} {A : Option Addr} {zs : List Int} (h : IntsAt w b A zs) (k : Nat) : IntsAt w b A (zs.take k) := by
  intro j hj
  have hj2 : j < zs.length := by rw [List.length_take] at hj; omega
  obtain ⟨ad, h1, h2, h3⟩ := h j hj2
  refine ⟨ad, h1, h2, h3.trans ?_⟩
  rw [List.getElem_take]

set_option maxRecDepth 100000 in
set_option maxHeartbeats 1600000 in
theorem orderOk (H : Int) (A : Option Addr) (n cap : Nat) (B : Option Addr) (m cb : Nat) (w : World) (ds : List (Int × Int)) (hl : ds.length = n) (hn : n ≤ 1048576) (hp : PtsAt w w.heap.size A ds) (zs : List Int) (hz : zs.length = m) (hm : m ≤ 1048576) (hq : IntsAt w w.heap.size B zs) (hcap : m ≤ cb) :
    Calls Try.prog 73 #[.agg #[.int .i64 H, .slice A n cap], .slice B m cb] w fun e w' => e = .returned (.bool (orderB H ds zs)) ∧ Below w.heap.size w w' := by
  obtain ⟨r, hr⟩ : ∃ r, orderB H ds zs = r := ⟨_, rfl⟩
  have HR := Lib.hid hr
  rw [hr]
  clear hr
  have Q1 : Hid (∀ w hp, _) := Lib.hid fun w hp => HouImpl.houseOk H A n cap w ds hl hn hp
  have Q2 : Hid (∀ w hq, _) := Lib.hid fun w hq => HouWimpl.areHalls H A n cap B m cb w zs hz hm hq
  have HE : Hid (r = (houseB H ds && (decide ((m : Int) = H) && (hallsB H zs && onceB zs)))) := Lib.hid (by rw [← HR.out, ← hz]; rfl)
  have HBad2 : Hid (∀ k, k < m → (zs.take k).contains (zs.getD k 0) = true → onceB zs = false) := Lib.hid (fun k hk h => once_bad (k := k) (by omega) h)
  have HEnd : Hid ((∀ k, k < m → (zs.take k).contains (zs.getD k 0) = false) → onceB zs = true) := Lib.hid (fun h => once_ok (fun k hk => h k (by omega)))
  clear HR
  generalize houseB H ds = b1 at *
  generalize hallsB H zs = b2 at *
  generalize onceB zs = b3 at *
  go_enter Try.func73, Try.ntmps73
  go_wp2_with fail
  have X0 := HouBox.boxH w H A n cap 30 (k := w.heap.size) (by simp)
  have b0 := PointOk.below1 w (Obj.cells #[.int .i64 H, .slice A n cap] 30)
  have HO : ∀ W W' : World, (HouBox.BoxH W (w.heap.size) H A n cap ∧ PtsAt W w.heap.size A ds ∧ IntsAt W w.heap.size B zs ∧ Below w.heap.size w W) → Below W.heap.size W W' → (HouBox.BoxH W' (w.heap.size) H A n cap ∧ PtsAt W' w.heap.size A ds ∧ IntsAt W' w.heap.size B zs ∧ Below w.heap.size w W') := fun W W' ⟨h0, x0, x1, hb⟩ h => ⟨h0.later h, x0.later (h.mono hb.size), x1.later (h.mono hb.size), hb.trans (h.mono hb.size)⟩
  have hz0_ : Hid (((w.alloc (Obj.cells #[.int .i64 H, .slice A n cap] 30))).heap.size = w.heap.size + 1) := Lib.hid (by simp)
  have Y0 : PtsAt ((w.alloc (Obj.cells #[.int .i64 H, .slice A n cap] 30))) w.heap.size A ds := hp.later b0
  have Y1 : IntsAt ((w.alloc (Obj.cells #[.int .i64 H, .slice A n cap] 30))) w.heap.size B zs := hq.later b0
  generalize (w.alloc (Obj.cells #[.int .i64 H, .slice A n cap] 30)) = w0 at X0 Y0 Y1 b0 hz0_ ⊢
  have S0 := (⟨X0, Y0, Y1, b0⟩ : HouBox.BoxH w0 (w.heap.size) H A n cap ∧ PtsAt w0 w.heap.size A ds ∧ IntsAt w0 w.heap.size B zs ∧ Below w.heap.size w w0)
  clear X0 Y0 Y1 b0
  obtain ⟨⟨_, _⟩, _, _, _⟩ := id S0
  refine (Q1.out _ (S0.2.1.wide S0.2.2.2.size)).mono ?_
  rintro e w1 ⟨rfl, hb_⟩
  replace S0 := HO _ _ S0 hb_
  clear hb_
  obtain ⟨⟨_, _⟩, _, _, _⟩ := id S0
  cases b1
  · have E : Hid (r = false) := Lib.hid (by rw [HE.out]; rfl)
    clear HE Q1 Q2 HBad2 HEnd
    go_wp2_with fail
    go_ret
    exact ⟨ret_bool E.out.symm, S0.2.2.2⟩
  clear Q1
  by_cases hH : (m : Int) = H
  rotate_left
  · have E : Hid (r = false) := Lib.hid (by rw [HE.out]; simp [hH])
    have hx : ((m : Int) == H) = false := beq_eq_false_iff_ne.2 hH
    clear HE Q2 HBad2 HEnd
    go_wp2_with fail
    go_ret
    exact ⟨ret_bool E.out.symm, S0.2.2.2⟩
  replace HE : Hid (r = (b2 && b3)) := Lib.hid (by rw [HE.out]; simp [hH])
  go_wp2_with fail
  refine (Q2.out _ (S0.2.2.1.wide S0.2.2.2.size)).mono ?_
  rintro e w2 ⟨rfl, hb_⟩
  replace S0 := HO _ _ S0 hb_
  clear hb_
  obtain ⟨⟨_, _⟩, _, _, _⟩ := id S0
  cases b2
  · have E : Hid (r = false) := Lib.hid (by rw [HE.out]; rfl)
    clear HE Q2 HBad2 HEnd
    go_wp2_with fail
    go_ret
    exact ⟨ret_bool E.out.symm, S0.2.2.2⟩
  replace HE : Hid (r = b3) := Lib.hid (by rw [HE.out]; rfl)
  clear Q2 hH
  obtain ⟨⟨_, _⟩, _, _, _⟩ := id S0
  go_wp2_with fail
  go_loopw [25] (fun i wr => ∃ k : Nat, k ≤ m ∧ i = .int .i64 k ∧ Hid (∀ j, j < k → (zs.take j).contains (zs.getD j 0) = false) ∧ (HouBox.BoxH wr (w.heap.size) H A n cap ∧ PtsAt wr w.heap.size A ds ∧ IntsAt wr w.heap.size B zs ∧ Below w.heap.size w wr))
    (fun i _ => m - (intOf i).toNat)
  case atStart => exact ⟨0, Nat.zero_le _, rfl, Lib.hid (fun j hj => absurd hj (by omega)), S0⟩
  case round =>
    clear S0
    obtain ⟨k, hk, rfl, hall, S0⟩ := hrel
    obtain ⟨⟨_, _⟩, _, _, _⟩ := id S0
    by_cases hkm : k < m
    rotate_left
    · obtain rfl : k = m := by omega
      have E : Hid (r = true) := Lib.hid (by rw [HE.out]; exact HEnd.out hall.out)
      clear HEnd HE HBad2 hall hl
      go_wp2_with fail
      go_ret
      exact ⟨ret_bool E.out.symm, S0.2.2.2⟩
    have hk1 : (k : Int) < (m : Int) := by omega
    have hk0 : (0 : Int) ≤ (k : Int) := by omega
    have hkc : (k : Int) ≤ (cb : Int) := by omega
    have p0 := at_d (zs := zs) (k := k) (by omega)
    have HB2 : Hid ((zs.take k).contains (zs.getD k 0) = true → r = false) := Lib.hid (fun h => by rw [HE.out]; exact HBad2.out k hkm h)
    have HW : Hid ((zs.take k).contains (zs.getD k 0) = false → ∀ j, j < k + 1 → (zs.take j).contains (zs.getD j 0) = false) := Lib.hid (fun g j hj => by
      rcases Nat.lt_or_ge j k with h1 | h1
      · exact hall.out j h1
      · obtain rfl : j = k := by omega
        exact g)
    have htk : (zs.take k).length = k := by rw [List.length_take]; omega
    obtain ⟨z, hz⟩ : ∃ z, zs.getD k 0 = z := ⟨_, rfl⟩
    rw [hz] at p0 HB2 HW
    obtain ⟨bd, eB, bB, pB⟩ := S0.2.2.1.get p0
    subst eB
    have Q3 : Hid (∀ w hq, _) := Lib.hid fun w hq => IntSl.contains (some bd) k cb z w (zs.take k) htk (by omega) hq
    obtain ⟨c2, hc2⟩ : ∃ c, (zs.take k).contains z = c := ⟨_, rfl⟩
    rw [hc2] at Q3 HB2 HW
    clear p0 hz hall HBad2 HEnd hc2 htk HE
    have HO : ∀ W W' : World, (BoxH W w.heap.size H A n cap ∧ PtsAt W w.heap.size A ds ∧ IntsAt W w.heap.size (some bd) zs ∧ IntAt W bd k z ∧ Below w.heap.size w W) → Below W.heap.size W W' → (BoxH W' w.heap.size H A n cap ∧ PtsAt W' w.heap.size A ds ∧ IntsAt W' w.heap.size (some bd) zs ∧ IntAt W' bd k z ∧ Below w.heap.size w W') := fun W W' ⟨x0, x1, x2, x3, hb⟩ h => ⟨x0.later h, x1.later (h.mono hb.size), x2.later (h.mono hb.size), x3.later bB (h.mono hb.size), hb.trans (h.mono hb.size)⟩
    replace S0 : (BoxH wr w.heap.size H A n cap ∧ PtsAt wr w.heap.size A ds ∧ IntsAt wr w.heap.size (some bd) zs ∧ IntAt wr bd k z ∧ Below w.heap.size w wr) := ⟨S0.1, S0.2.1, S0.2.2.1, pB, S0.2.2.2⟩
    clear pB
    obtain ⟨⟨_, _⟩, _, _, ⟨_, _⟩, _⟩ := id S0
    cases c2
    · have HW2 := Lib.hid (HW.out rfl)
      clear HB2 HW
      go_wp2_with fail
      refine (Q3.out _ ((ints_take S0.2.2.1 k).wide S0.2.2.2.2.size)).mono ?_
      rintro e w3 ⟨rfl, hb_⟩
      replace S0 := HO _ _ S0 hb_
      clear hb_
      obtain ⟨⟨_, _⟩, _, _, ⟨_, _⟩, _⟩ := id S0
      go_wp2_with fail
      exact ⟨⟨k + 1, by omega, by go_num, HW2, S0.1, S0.2.1, S0.2.2.1, S0.2.2.2.2⟩, by simp [intOf]; omega⟩
    · have E := Lib.hid (HB2.out rfl)
      clear HB2 HW
      go_wp2_with fail
      refine (Q3.out _ ((ints_take S0.2.2.1 k).wide S0.2.2.2.2.size)).mono ?_
      rintro e w4 ⟨rfl, hb_⟩
      replace S0 := HO _ _ S0 hb_
      clear hb_
      obtain ⟨⟨_, _⟩, _, _, ⟨_, _⟩, _⟩ := id S0
      go_wp2_with fail
      go_ret
      exact ⟨ret_bool E.out.symm, S0.2.2.2.2⟩

end Go.Proofs.Ytagokcbldkbdmaa.HouYimpl

