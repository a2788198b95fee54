/-
  How many guards an order of halls needs, as the model says it: contracts.
-/
import Derived.Test.YtagokcbldkbdmaaHouYspec
import Derived.Test.YtagokcbldkbdmaaHouGmath
namespace Go.Proofs.Ytagokcbldkbdmaa.HouBspec
open Go.RowKit Pts Blk HouMath HouMathB HouMathC HouKeys HouGmath HouBox HouMem Ints JoinMath
open PointOk (ret_bool ret_i64 below1 below2 below3)

set_option maxRecDepth 100000 in
set_option maxHeartbeats 6400000 in
theorem border (N : Nat) (A : Option Addr) (n cap M : Nat) (w : World) (ds : List (Int × Int)) (hl : ds.length = n) (hn : n ≤ 1048576) (hN1 : 1 ≤ N) (hN7 : N ≤ 7) (hM7 : M < 128) (hp : PtsAt w w.heap.size A ds) :
    Calls Try.prog 72 #[.agg #[.int .i64 N, .slice A n cap], .int .i64 M] w fun e w' => e = .returned (.int .i64 ((guardTo N ds (fun y => M.testBit y) N).length : Int)) ∧ Below w.heap.size w w' := by
  have Q3 : Hid (∀ a b w hp, _) := Lib.hid fun a b w hp => HouSpec.door N A n cap a b w ds hl hn hp
  have HS : Hid (∀ k, ((guardTo N ds (fun y => M.testBit y) (k + 1)).length : Int) = if bordB N ds (fun y => M.testBit y) k then ((guardTo N ds (fun y => M.testBit y) k).length : Int) + 1 else ((guardTo N ds (fun y => M.testBit y) k).length : Int)) := Lib.hid (fun k => by
    show (((if bordB N ds (fun y => M.testBit y) k then guardTo N ds (fun y => M.testBit y) k ++ [(k : Int)] else guardTo N ds (fun y => M.testBit y) k) : List Int).length : Int) = _
    split
    · simp
    · rfl)
  have HLen : Hid (∀ k, ((guardTo N ds (fun y => M.testBit y) k).length : Int) ≤ k) := Lib.hid (fun k => by have := guardTo_len N ds (fun y => M.testBit y) k; omega)
  have HPos : Hid (∀ k, 0 ≤ ((guardTo N ds (fun y => M.testBit y) k).length : Int)) := Lib.hid (fun k => by omega)
  have HZ0 : ((guardTo N ds (fun y => M.testBit y) 0).length : Int) = 0 := rfl
  have HB0 : Hid (∀ a, bordB N ds (fun y => M.testBit y) a = (M.testBit a && outTo ds (fun y => M.testBit y) a N)) := Lib.hid (fun a => rfl)
  have HO0 : Hid (∀ a b, outTo ds (fun y => M.testBit y) a (b + 1) = (outTo ds (fun y => M.testBit y) a b || (!M.testBit b && isDoor ds (a : Int) (b : Int)))) := Lib.hid (fun a b => rfl)
  have HOZ : ∀ a, outTo ds (fun y => M.testBit y) a 0 = false := fun a => rfl
  have HBit : Hid (∀ a, a < 7 → bits .and .i64 ((M : Int) / 2 ^ a) 1 = if M.testBit a then 1 else 0) := Lib.hid (fun a ha => bit_div hM7 ha)
  obtain ⟨ct, hct⟩ : ∃ ct : Nat → Int, (fun k => ((guardTo N ds (fun y => M.testBit y) k).length : Int)) = ct := ⟨_, rfl⟩
  have hct2 : ∀ k, ((guardTo N ds (fun y => M.testBit y) k).length : Int) = ct k := fun k => by rw [← hct]
  simp only [hct2] at HS HLen HPos HZ0
  rw [hct2]
  generalize bordB N ds (fun y => M.testBit y) = bd0 at *
  generalize outTo ds (fun y => M.testBit y) = ot at *
  generalize Nat.testBit M = tb at *
  clear hct hct2 hl
  go_enter Try.func72, Try.ntmps72
  go_wp2_with fail
  have X0 := HouBox.boxH w N A n cap 30 (k := w.heap.size) (by simp)
  have b0 := PointOk.below1 w (Obj.cells #[.int .i64 N, .slice A n cap] 30)
  have HO : ∀ W W' : World, (HouBox.BoxH W (w.heap.size) N A n cap ∧ PtsAt W w.heap.size A ds ∧ Below w.heap.size w W) → Below W.heap.size W W' → (HouBox.BoxH W' (w.heap.size) N A n cap ∧ PtsAt W' w.heap.size A ds ∧ Below w.heap.size w W') := fun W W' ⟨h0, x0, hb⟩ h => ⟨h0.later h, x0.later (h.mono hb.size), hb.trans (h.mono hb.size)⟩
  have hz0_ : Hid (((w.alloc (Obj.cells #[.int .i64 N, .slice A n cap] 30))).heap.size = w.heap.size + 1) := Lib.hid (by simp)
  have Y0 : PtsAt ((w.alloc (Obj.cells #[.int .i64 N, .slice A n cap] 30))) w.heap.size A ds := hp.later b0
  generalize (w.alloc (Obj.cells #[.int .i64 N, .slice A n cap] 30)) = w0 at X0 Y0 b0 hz0_ ⊢
  have S0 := (⟨X0, Y0, b0⟩ : HouBox.BoxH w0 (w.heap.size) N A n cap ∧ PtsAt w0 w.heap.size A ds ∧ Below w.heap.size w w0)
  clear X0 Y0 b0
  obtain ⟨⟨_, _⟩, _, _⟩ := id S0
  go_loopw [5, 6] (fun v i wr => ∃ a : Nat, a ≤ N ∧ i = .int .i64 a ∧ v = .int .i64 (ct a) ∧ (HouBox.BoxH wr (w.heap.size) N A n cap ∧ PtsAt wr w.heap.size A ds ∧ Below w.heap.size w wr))
    (fun _ i _ => N - (intOf i).toNat)
  case atStart => exact ⟨0, Nat.zero_le _, rfl, by rw [HZ0], S0⟩
  case round =>
    clear S0 HZ0
    obtain ⟨a, haN, rfl, rfl, S0⟩ := hrel
    obtain ⟨⟨_, _⟩, _, _⟩ := id S0
    by_cases hlt : a < N
    rotate_left
    · obtain rfl : N = a := by omega
      clear HS HLen HPos HB0 HO0 HOZ HBit Q3
      go_wp2_with fail
      go_ret
      exact ⟨rfl, S0.2.2⟩
    have hk1 : (a : Int) < (N : Int) := by omega
    have hk0 : (0 : Int) ≤ (a : Int) := by omega
    have hk64 : (a : Int) < 64 := by omega
    have HL := HS.out a
    rw [HB0.out a] at HL
    have hlen := HLen.out a
    have hpos := HPos.out a
    have HO1 := Lib.hid (HO0.out a)
    have hoz := HOZ a
    have eA := HBit.out a (by omega)
    have QD := Lib.hid fun (b : Int) w hp => Q3.out (a : Int) b w hp
    obtain ⟨c0, hc0⟩ : ∃ x, ct a = x := ⟨_, rfl⟩
    rw [hc0] at HL hlen hpos ⊢
    have u1 : IntKind.i64.wrap (c0 + 1) = c0 + 1 := IntWalk.i64_in _ (by omega)
    obtain ⟨fa, hfa⟩ : ∃ c, tb a = c := ⟨_, rfl⟩
    rw [hfa] at HL eA
    replace HL := Lib.hid HL
    generalize ot a = oa at *
    clear HLen HPos HS HB0 HO0 HOZ hfa hc0
    go_wp2_with fail
    go_loopw [7, 8] (fun v i wr => ∃ b : Nat, b ≤ N ∧ i = .int .i64 b ∧ v = .bool (oa b) ∧ (fa = false → b = 0) ∧ (HouBox.BoxH wr (w.heap.size) N A n cap ∧ PtsAt wr w.heap.size A ds ∧ Below w.heap.size w wr))
      (fun _ i _ => N - (intOf i).toNat)
    case atStart => exact ⟨0, Nat.zero_le _, rfl, by rw [hoz], fun _ => rfl, S0⟩
    case round =>
      clear S0
      obtain ⟨b, hbN, rfl, rfl, hfb, S0⟩ := hrel
      obtain ⟨⟨_, _⟩, _, _⟩ := id S0
      by_cases hex : b < N ∧ fa = true
      rotate_left
      · have HV : Hid (ct (a + 1) = if oa b then c0 + 1 else c0) := Lib.hid (by
          rw [HL.out]
          cases fa
          · rw [hfb rfl, hoz]; rfl
          · obtain rfl : b = N := by
              rcases Nat.lt_or_ge b N with h | h
              · exact absurd ⟨h, rfl⟩ hex
              · omega
            rfl)
        by_cases hbN2 : b < N
        · obtain rfl : fa = false := by
            cases fa
            · rfl
            · exact absurd ⟨hbN2, rfl⟩ hex
          obtain rfl := hfb rfl
          rw [hoz] at HV ⊢
          have HV2 : Hid (ct (a + 1) = c0) := Lib.hid (by rw [HV.out]; rfl)
          have hb1 : (0 : Int) < (N : Int) := by omega
          have eA0 : bits .and .i64 ((M : Int) / 2 ^ a) 1 = 0 := eA
          clear HL HO1 HBit QD hoz hex HV eA
          go_wp2_with fail
          first
            | exact ⟨⟨a + 1, by omega, by go_num, by rw [HV2.out], S0⟩, by simp [intOf]; omega⟩
            | (go_roundw <;> first | exact ⟨a + 1, by omega, by go_num, by rw [HV2.out], S0⟩ | (simp [intOf]; omega))
        obtain rfl : b = N := by omega
        have hb1 : ¬ (b : Int) < (b : Int) := by omega
        obtain ⟨o, ho⟩ : ∃ o, oa b = o := ⟨_, rfl⟩
        rw [ho] at HV ⊢
        clear HL HO1 HBit QD hoz hex hfb ho eA
        cases o
        · have HV2 : Hid (ct (a + 1) = c0) := Lib.hid (by rw [HV.out]; rfl)
          clear HV
          go_wp2_with fail
          first
            | exact ⟨⟨a + 1, by omega, by go_num, by rw [HV2.out], S0⟩, by simp [intOf]; omega⟩
            | (go_roundw <;> first | exact ⟨a + 1, by omega, by go_num, by rw [HV2.out], S0⟩ | (simp [intOf]; omega))
        have HV2 : Hid (ct (a + 1) = c0 + 1) := Lib.hid (by rw [HV.out]; rfl)
        clear HV
        go_wp2_with fail
        first
          | exact ⟨⟨a + 1, by omega, by go_num, by rw [HV2.out], S0⟩, by simp [intOf]; omega⟩
          | (go_roundw <;> first | exact ⟨a + 1, by omega, by go_num, by rw [HV2.out], S0⟩ | (simp [intOf]; omega))
      obtain ⟨hbN2, rfl⟩ := hex
      have eA1 : bits .and .i64 ((M : Int) / 2 ^ a) 1 = 1 := eA
      have hb1 : (b : Int) < (N : Int) := by omega
      have hb0 : (0 : Int) ≤ (b : Int) := by omega
      have hb64 : (b : Int) < 64 := by omega
      have eB := HBit.out b (by omega)
      have HO3 := HO1.out b
      have QE := Lib.hid fun w hp => QD.out (b : Int) w hp
      obtain ⟨d, hd⟩ : ∃ d, isDoor ds (a : Int) (b : Int) = d := ⟨_, rfl⟩
      rw [hd] at HO3 QE
      obtain ⟨fb, hfb2⟩ : ∃ c, tb b = c := ⟨_, rfl⟩
      rw [hfb2] at HO3 eB
      obtain ⟨o, ho⟩ : ∃ o, oa b = o := ⟨_, rfl⟩
      rw [ho] at HO3 ⊢
      replace HO3 := Lib.hid HO3
      clear HL HO1 HBit QD hoz hfb hd hfb2 ho eA
      cases o
      · cases fb
        · have eB0 : bits .and .i64 ((M : Int) / 2 ^ b) 1 = 0 := eB
          have HO4 : Hid (oa (b + 1) = d) := Lib.hid (by rw [HO3.out]; simp)
          clear HO3 eB
          go_wp2_with fail
          refine (QE.out _ (S0.2.1.wide S0.2.2.size)).mono ?_
          rintro e wy ⟨rfl, hb_⟩
          replace S0 := HO _ _ S0 hb_
          clear hb_ QE
          obtain ⟨⟨_, _⟩, _, _⟩ := id S0
          go_wp2_with fail
          first
            | exact ⟨⟨b + 1, by omega, by go_num, by rw [HO4.out], fun h => (by cases h), S0⟩, by simp [intOf]; omega⟩
            | (go_roundw <;> first | exact ⟨b + 1, by omega, by go_num, by rw [HO4.out], fun h => (by cases h), S0⟩ | (simp [intOf]; omega))
        · have eB1 : bits .and .i64 ((M : Int) / 2 ^ b) 1 = 1 := eB
          have HO4 : Hid (oa (b + 1) = false) := Lib.hid (by rw [HO3.out]; rfl)
          clear HO3 eB QE
          go_wp2_with fail
          first
            | exact ⟨⟨b + 1, by omega, by go_num, by rw [HO4.out], fun h => (by cases h), S0⟩, by simp [intOf]; omega⟩
            | (go_roundw <;> first | exact ⟨b + 1, by omega, by go_num, by rw [HO4.out], fun h => (by cases h), S0⟩ | (simp [intOf]; omega))
      · have HO4 : Hid (oa (b + 1) = true) := Lib.hid (by rw [HO3.out]; rfl)
        clear HO3 eB QE
        go_wp2_with fail
        first
          | exact ⟨⟨b + 1, by omega, by go_num, by rw [HO4.out], fun h => (by cases h), S0⟩, by simp [intOf]; omega⟩
          | (go_roundw <;> first | exact ⟨b + 1, by omega, by go_num, by rw [HO4.out], fun h => (by cases h), S0⟩ | (simp [intOf]; omega))

set_option maxRecDepth 100000 in
set_option maxHeartbeats 3200000 in
theorem guardsFor (H : Int) (A : Option Addr) (n cap : Nat) (B : Option Addr) (m cb : Nat) (w : World) (ds : List (Int × Int)) (hl : ds.length = n) (hn : n ≤ 1048576) (hp : PtsAt w w.heap.size A ds) (zs : List Int) (hz : zs.length = m) (hm : m ≤ 1048576) (hq : IntsAt w w.heap.size B zs) (hcap : m ≤ cb) :
    Calls Try.prog 25 #[.agg #[.int .i64 H, .slice A n cap], .slice B m cb] w fun e w' => e = .returned (.int .i64 (needI H ds zs)) ∧ Below w.heap.size w w' := by
  obtain ⟨r, hr⟩ : ∃ r, needI H ds zs = r := ⟨_, rfl⟩
  have HR := Lib.hid hr
  rw [hr]
  clear hr
  have Q1 : Hid (∀ w hp hq, _) := Lib.hid fun w hp hq => HouYspec.orderOk H A n cap B m cb w ds hl hn hp zs hz hm hq hcap
  obtain ⟨c, hc⟩ : ∃ c, orderB H ds zs = c := ⟨_, rfl⟩
  rw [hc] at Q1
  cases c
  · have E : Hid (r = -1) := Lib.hid (by rw [← HR.out]; unfold needI; rw [hc]; rfl)
    clear HR hc hl hz
    go_enter Try.func25, Try.ntmps25
    go_wp2_with fail
    have X0 := HouBox.boxH w H A n cap 30 (k := w.heap.size) (by simp)
    have b0 := PointOk.below1 w (Obj.cells #[.int .i64 H, .slice A n cap] 30)
    have HO : ∀ W W' : World, (HouBox.BoxH W (w.heap.size) H A n cap ∧ PtsAt W w.heap.size A ds ∧ IntsAt W w.heap.size B zs ∧ Below w.heap.size w W) → Below W.heap.size W W' → (HouBox.BoxH W' (w.heap.size) H A n cap ∧ PtsAt W' w.heap.size A ds ∧ IntsAt W' w.heap.size B zs ∧ Below w.heap.size w W') := fun W W' ⟨h0, x0, x1, hb⟩ h => ⟨h0.later h, x0.later (h.mono hb.size), x1.later (h.mono hb.size), hb.trans (h.mono hb.size)⟩
    have hz0_ : Hid (((w.alloc (Obj.cells #[.int .i64 H, .slice A n cap] 30))).heap.size = w.heap.size + 1) := Lib.hid (by simp)
    have Y0 : PtsAt ((w.alloc (Obj.cells #[.int .i64 H, .slice A n cap] 30))) w.heap.size A ds := hp.later b0
    have Y1 : IntsAt ((w.alloc (Obj.cells #[.int .i64 H, .slice A n cap] 30))) w.heap.size B zs := hq.later b0
    generalize (w.alloc (Obj.cells #[.int .i64 H, .slice A n cap] 30)) = w0 at X0 Y0 Y1 b0 hz0_ ⊢
    have S0 := (⟨X0, Y0, Y1, b0⟩ : HouBox.BoxH w0 (w.heap.size) H A n cap ∧ PtsAt w0 w.heap.size A ds ∧ IntsAt w0 w.heap.size B zs ∧ Below w.heap.size w w0)
    clear X0 Y0 Y1 b0
    obtain ⟨⟨_, _⟩, _, _, _⟩ := id S0
    refine (Q1.out _ (S0.2.1.wide S0.2.2.2.size) (S0.2.2.1.wide S0.2.2.2.size)).mono ?_
    rintro e w1 ⟨rfl, hb_⟩
    replace S0 := HO _ _ S0 hb_
    clear hb_
    obtain ⟨⟨_, _⟩, _, _, _⟩ := id S0
    go_wp2_with fail
    go_ret
    exact ⟨ret_i64 E.out.symm, S0.2.2.2⟩
  have hord := hc
  unfold orderB at hord
  simp only [Bool.and_eq_true, decide_eq_true_eq] at hord
  have hf := house_form hord.1
  obtain ⟨N, rfl⟩ := Int.eq_ofNat_of_zero_le (show 0 ≤ H by have := hf.h1; omega)
  have hN1 : 1 ≤ N := by have := hf.h1; omega
  have hN7 : N ≤ 7 := by have := hf.h7; omega
  have HE : Hid (r = needTo N ds zs m) := Lib.hid (by rw [← HR.out, ← hz]; unfold needI; rw [hc]; rfl)
  have HG : Hid (∀ k, k < m → ∃ z : Nat, z < N ∧ zs.getD k 0 = (z : Int)) := Lib.hid (fun k hk => by
    have := halls_get hord.2.2.1 (k := k) (by omega)
    obtain ⟨z, hz⟩ := Int.eq_ofNat_of_zero_le this.1
    exact ⟨z, by omega, hz⟩)
  have HM : Hid (∀ k, k ≤ m → maskTo zs k < 128 ∧ ∀ y, (maskTo zs k).testBit y = inZ (zs.take k) y) := Lib.hid (fun k hk => by
    have h : ∀ j, j < k → 0 ≤ zs.getD j 0 ∧ zs.getD j 0 < 7 := fun j hj => by
      obtain ⟨z, h1, h2⟩ := HG.out j (by omega)
      rw [h2]; omega
    exact ⟨mask_lt h, fun y => mask_bit y (by omega) (fun j hj => (h j hj).1)⟩)
  have HMS : Hid (∀ k, maskTo zs (k + 1) = maskTo zs k ||| 2 ^ (zs.getD k 0).toNat) := Lib.hid (fun k => rfl)
  have HMZ : maskTo zs 0 = 0 := rfl
  have QB := Lib.hid fun (M : Nat) (hM : M < 128) w hp => border N A n cap M w ds hl hn hN1 hN7 hM hp
  have HNS : Hid (∀ k, needTo N ds zs (k + 1) = max (needTo N ds zs k) (((guardTo N ds (inZ (zs.take k)) N).length : Int) + 1)) := Lib.hid (fun k => rfl)
  have HNR : Hid (∀ k, 0 ≤ needTo N ds zs k ∧ needTo N ds zs k ≤ N + 1) := Lib.hid (fun k => needTo_range N ds zs k)
  have HGL : Hid (∀ f, (guardTo N ds f N).length ≤ N) := Lib.hid (fun f => guardTo_len N ds f N)
  have HNZ : needTo N ds zs 0 = 0 := rfl
  generalize needTo N ds zs = nd at *
  generalize maskTo zs = MK at *
  clear HR hc hl hord hf
  go_enter Try.func25, Try.ntmps25
  go_wp2_with fail
  have X0 := HouBox.boxH w N A n cap 30 (k := w.heap.size) (by simp)
  have b0 := PointOk.below1 w (Obj.cells #[.int .i64 N, .slice A n cap] 30)
  have HO : ∀ W W' : World, (HouBox.BoxH W (w.heap.size) N A n cap ∧ PtsAt W w.heap.size A ds ∧ IntsAt W w.heap.size B zs ∧ Below w.heap.size w W) → Below W.heap.size W W' → (HouBox.BoxH W' (w.heap.size) N A n cap ∧ PtsAt W' w.heap.size A ds ∧ IntsAt W' w.heap.size B zs ∧ Below w.heap.size w W') := fun W W' ⟨h0, x0, x1, hb⟩ h => ⟨h0.later h, x0.later (h.mono hb.size), x1.later (h.mono hb.size), hb.trans (h.mono hb.size)⟩
  have hz0_ : Hid (((w.alloc (Obj.cells #[.int .i64 N, .slice A n cap] 30))).heap.size = w.heap.size + 1) := Lib.hid (by simp)
  have Y0 : PtsAt ((w.alloc (Obj.cells #[.int .i64 N, .slice A n cap] 30))) w.heap.size A ds := hp.later b0
  have Y1 : IntsAt ((w.alloc (Obj.cells #[.int .i64 N, .slice A n cap] 30))) w.heap.size B zs := hq.later b0
  generalize (w.alloc (Obj.cells #[.int .i64 N, .slice A n cap] 30)) = w0 at X0 Y0 Y1 b0 hz0_ ⊢
  have S0 := (⟨X0, Y0, Y1, b0⟩ : HouBox.BoxH w0 (w.heap.size) N A n cap ∧ PtsAt w0 w.heap.size A ds ∧ IntsAt w0 w.heap.size B zs ∧ Below w.heap.size w w0)
  clear X0 Y0 Y1 b0
  obtain ⟨⟨_, _⟩, _, _, _⟩ := id S0
  refine (Q1.out _ (S0.2.1.wide S0.2.2.2.size) (S0.2.2.1.wide S0.2.2.2.size)).mono ?_
  rintro e w1 ⟨rfl, hb_⟩
  replace S0 := HO _ _ S0 hb_
  clear hb_
  obtain ⟨⟨_, _⟩, _, _, _⟩ := id S0
  go_wp2_with fail
  go_loopw [5, 6, 7] (fun v n0 i wr => ∃ k : Nat, k ≤ m ∧ i = .int .i64 k ∧ v = .int .i64 ((MK k : Nat) : Int) ∧ n0 = .int .i64 (nd k) ∧ (HouBox.BoxH wr (w.heap.size) N A n cap ∧ PtsAt wr w.heap.size A ds ∧ IntsAt wr w.heap.size B zs ∧ Below w.heap.size w wr))
    (fun _ _ i _ => m - (intOf i).toNat)
  case atStart => exact ⟨0, Nat.zero_le _, rfl, by rw [HMZ]; rfl, by rw [HNZ], S0⟩
  case round =>
    clear S0 HMZ HNZ Q1
    obtain ⟨k, hkm, rfl, rfl, rfl, S0⟩ := hrel
    obtain ⟨⟨_, _⟩, _, _, _⟩ := id S0
    by_cases hlt : k < m
    rotate_left
    · obtain rfl : m = k := by omega
      clear HG HM HMS HNS HNR HGL QB hz
      go_wp2_with fail
      go_ret
      exact ⟨ret_i64 HE.out.symm, S0.2.2.2⟩
    have hk1 : (k : Int) < (m : Int) := by omega
    have hk0 : (0 : Int) ≤ (k : Int) := by omega
    have hM := HM.out k hkm
    have hM7 := hM.1
    have hfun : (fun y => (MK k).testBit y) = inZ (zs.take k) := funext hM.2
    have QB1 := QB.out (MK k) hM7
    rw [hfun] at QB1
    have HN1 := HNS.out k
    have hr0 := HNR.out k
    have hr1 := HNR.out (k + 1)
    have hgl := HGL.out (inZ (zs.take k))
    obtain ⟨g, hg⟩ : ∃ g, (guardTo N ds (inZ (zs.take k)) N).length = g := ⟨_, rfl⟩
    rw [hg] at QB1 HN1 hgl
    replace QB1 := Lib.hid QB1
    have HM1 := HMS.out k
    have p0 := at_d (zs := zs) (k := k) (by omega)
    obtain ⟨z, hzN, hzz⟩ := HG.out k hlt
    rw [hzz] at p0 HM1
    rw [Int.toNat_natCast] at HM1
    obtain ⟨bd, eB, bB, pB⟩ := S0.2.2.1.get p0
    subst eB
    obtain ⟨m0, hm0⟩ : ∃ x, MK k = x := ⟨_, rfl⟩
    rw [hm0] at HM1 hM7 QB1 ⊢
    obtain ⟨n0, hn0⟩ : ∃ x, nd k = x := ⟨_, rfl⟩
    rw [hn0] at HN1 hr0 ⊢
    have hz7 : z < 7 := by omega
    have hz0 : (0 : Int) ≤ (z : Int) := by omega
    have hz64 : (z : Int) < 64 := by omega
    have pA := pow_nat hz7
    have iA := Lib.hid (pow_natI hz7)
    have oA := or_pow hM7 hz7
    obtain ⟨m1, hm1⟩ : ∃ m1, m0 ||| 2 ^ z = m1 := ⟨_, rfl⟩
    rw [hm1] at oA HM1
    obtain ⟨pa, hpa⟩ : ∃ pa, 2 ^ z = pa := ⟨_, rfl⟩
    rw [hpa] at pA oA iA
    replace HM1 := Lib.hid HM1
    replace HN1 := Lib.hid HN1
    have u1 : IntKind.i64.wrap ((g : Int) + 1) = (g : Int) + 1 := IntWalk.i64_in _ (by omega)
    clear HG HM HMS HNS HNR HGL QB hz hM hfun hg hzz p0 hm0 hn0 hm1 hpa HE
    have HO : ∀ W W' : World, (BoxH W w.heap.size (N : Int) A n cap ∧ PtsAt W w.heap.size A ds ∧ IntsAt W w.heap.size (some bd) zs ∧ IntAt W bd k (z : Int) ∧ Below w.heap.size w W) → Below W.heap.size W W' → (BoxH W' w.heap.size (N : Int) A n cap ∧ PtsAt W' w.heap.size A ds ∧ IntsAt W' w.heap.size (some bd) zs ∧ IntAt W' bd k (z : Int) ∧ Below w.heap.size w W') := fun W W' ⟨x0, x1, x2, x3, hb⟩ h => ⟨x0.later h, x1.later (h.mono hb.size), x2.later (h.mono hb.size), x3.later bB (h.mono hb.size), hb.trans (h.mono hb.size)⟩
    replace S0 : (BoxH wr w.heap.size (N : Int) A n cap ∧ PtsAt wr w.heap.size A ds ∧ IntsAt wr w.heap.size (some bd) zs ∧ IntAt wr bd k (z : Int) ∧ Below w.heap.size w wr) := ⟨S0.1, S0.2.1, S0.2.2.1, pB, S0.2.2.2⟩
    clear pB
    obtain ⟨⟨_, _⟩, _, _, ⟨_, _⟩, _⟩ := id S0
    go_wp2_with fail
    refine (QB1.out _ (S0.2.1.wide S0.2.2.2.2.size)).mono ?_
    rintro e wx ⟨rfl, hb_⟩
    replace S0 := HO _ _ S0 hb_
    clear hb_ QB1
    obtain ⟨⟨_, _⟩, _, _, ⟨_, _⟩, _⟩ := id S0
    go_wp2_with fail
    first
      | exact ⟨⟨k + 1, by omega, by go_num, by rw [HM1.out], by rw [HN1.out], S0.1, S0.2.1, S0.2.2.1, S0.2.2.2.2⟩, by simp [intOf]; omega⟩
      | (go_roundw <;> first | exact ⟨k + 1, by omega, by go_num, by rw [HM1.out], by rw [HN1.out], S0.1, S0.2.1, S0.2.2.1, S0.2.2.2.2⟩ | (simp [intOf]; omega))
end Go.Proofs.Ytagokcbldkbdmaa.HouBspec

