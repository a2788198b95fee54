/-
  What the model says of the halls that a ring of keys opens, as contracts.
-/
import Derived.Test.YtagokcbldkbdmaaHouXspec
import Derived.Test.YtagokcbldkbdmaaHouOspec
import Derived.Test.YtagokcbldkbdmaaHouKeys
namespace Go.Proofs.Ytagokcbldkbdmaa.HouKspec
open Go.RowKit Pts Blk HouMath HouMathB HouMathC HouKeys HouBox HouMem Ints
open Go.Proofs.Ytagokcbldkbdmaa.Own (icells icells_length icells_at icells_snoc own_shape own_cell own_below own_base own_empty GivesI)
open PointOk (ret_bool ret_i64 below1 below2 below3)

set_option maxRecDepth 100000 in
set_option maxHeartbeats 3200000 in
theorem reached (N : Nat) (A : Option Addr) (n cap s : Nat) (x : Int) (w : World) (ds : List (Int × Int)) (hl : ds.length = n) (hf : HForm N ds) (hs : s < N) (hp : PtsAt w w.heap.size A ds) :
    Calls Try.prog 55 #[.agg #[.int .i64 N, .slice A n cap], .int .i64 s, .int .i64 x] w fun e w' => e = .returned (.int .i64 ((setM x ds s N : Nat) : Int)) ∧ Below w.heap.size w w' := by
  have hN7 : N ≤ 7 := by have := hf.h7; omega
  have hn12 : n ≤ 12 := by have := hf.len; omega
  have hs0 : (0 : Int) ≤ (s : Int) := by omega
  have hs64 : (s : Int) < 64 := by omega
  have hP := pow_nat (a := s) (by omega)
  have HT0 : setM x ds s 0 = 2 ^ s := rfl
  have HTS : Hid (∀ t, setM x ds s (t + 1) = rndM x ds (setM x ds s t) n) := Lib.hid (fun t => by rw [← hl]; rfl)
  have HT7 : Hid (∀ t, setM x ds s t < 128) := Lib.hid (fun t => Nat.lt_of_lt_of_le (set_lt hf hs t) (Nat.pow_le_pow_right (n := 2) (by decide) hN7))
  have HR7 : Hid (∀ m, m < 2 ^ N → ∀ j, j ≤ n → rndM x ds m j < 128) := Lib.hid (fun m hm j hj => Nat.lt_of_lt_of_le (rnd_lt hf hm j (by omega)) (Nat.pow_le_pow_right (n := 2) (by decide) hN7))
  have HTN : Hid (∀ t, setM x ds s t < 2 ^ N) := Lib.hid (fun t => set_lt hf hs t)
  have HOK : Hid (∀ j, j < n → 0 ≤ (dr ds j).1 ∧ (dr ds j).1 < (dr ds j).2 ∧ (dr ds j).2 < N) := Lib.hid (fun j hj => hf.ok j (by omega))
  generalize setM x ds s = ST at *
  obtain ⟨p0, hp0⟩ : ∃ p, 2 ^ s = p := ⟨_, rfl⟩
  rw [hp0] at hP HT0
  clear hp0
  go_enter Try.func55, Try.ntmps55
  go_wp2_with fail
  have X0 := HouBox.boxH w N A n cap 30 (k := w.heap.size) (by simp)
  have b0 := PointOk.below1 w (Obj.cells #[.int .i64 N, .slice A n cap] 30)
  have HO : ∀ W W' : World, (HouBox.BoxH W (w.heap.size) N A n cap ∧ PtsAt W w.heap.size A ds ∧ Below w.heap.size w W) → Below W.heap.size W W' → (HouBox.BoxH W' (w.heap.size) N A n cap ∧ PtsAt W' w.heap.size A ds ∧ Below w.heap.size w W') := fun W W' ⟨h0, x0, hb⟩ h => ⟨h0.later h, x0.later (h.mono hb.size), hb.trans (h.mono hb.size)⟩
  have hz0_ : Hid (((w.alloc (Obj.cells #[.int .i64 N, .slice A n cap] 30))).heap.size = w.heap.size + 1) := Lib.hid (by simp)
  have Y0 : PtsAt ((w.alloc (Obj.cells #[.int .i64 N, .slice A n cap] 30))) w.heap.size A ds := hp.later b0
  generalize (w.alloc (Obj.cells #[.int .i64 N, .slice A n cap] 30)) = w0 at X0 Y0 b0 hz0_ ⊢
  have S0 := (⟨X0, Y0, b0⟩ : HouBox.BoxH w0 (w.heap.size) N A n cap ∧ PtsAt w0 w.heap.size A ds ∧ Below w.heap.size w w0)
  clear X0 Y0 b0
  obtain ⟨⟨_, _⟩, _, _⟩ := id S0
  try rw [hP]
  go_loopw [7, 8] (fun v i wr => ∃ t : Nat, t ≤ N ∧ i = .int .i64 t ∧ v = .int .i64 ((ST t : Nat) : Int) ∧ (HouBox.BoxH wr (w.heap.size) N A n cap ∧ PtsAt wr w.heap.size A ds ∧ Below w.heap.size w wr))
    (fun _ i _ => N - (intOf i).toNat)
  case atStart => exact ⟨0, Nat.zero_le _, rfl, by rw [HT0], S0⟩
  case round =>
    clear S0
    obtain ⟨t, ht, rfl, rfl, S0⟩ := hrel
    obtain ⟨⟨_, _⟩, _, _⟩ := id S0
    by_cases htN : t < N
    rotate_left
    · obtain rfl : t = N := by omega
      clear HTS HT7 HR7 HTN HOK hl
      go_wp2_with fail
      go_ret
      exact ⟨rfl, S0.2.2⟩
    have ht1 : (t : Int) < (N : Int) := by omega
    have HN := Lib.hid (HTS.out t)
    have H7 := Lib.hid (HR7.out _ (HTN.out t))
    have HZ : rndM x ds (ST t) 0 = ST t := rfl
    have HS1 : Hid (∀ j, rndM x ds (ST t) (j + 1) = stepM x ds (rndM x ds (ST t) j) j) := Lib.hid (fun j => rfl)
    generalize rndM x ds (ST t) = R at *
    go_wp2_with fail
    go_loopw [7, 9] (fun v i wr => ∃ j : Nat, j ≤ n ∧ i = .int .i64 j ∧ v = .int .i64 ((R j : Nat) : Int) ∧ (HouBox.BoxH wr (w.heap.size) N A n cap ∧ PtsAt wr w.heap.size A ds ∧ Below w.heap.size w wr))
      (fun _ i _ => n - (intOf i).toNat)
    case atStart => exact ⟨0, Nat.zero_le _, rfl, by rw [HZ], S0⟩
    case round =>
      clear S0
      obtain ⟨j, hj, rfl, rfl, S0⟩ := hrel
      obtain ⟨⟨_, _⟩, _, _⟩ := id S0
      by_cases hjn : j < n
      rotate_left
      · obtain rfl : j = n := by omega
        clear HTS HT7 HR7 HTN HOK H7 HS1 hl
        go_wp2_with fail
        exact ⟨⟨t + 1, by omega, by go_num, by rw [HN.out], S0⟩, by simp [intOf]; omega⟩
      have hk1 : (j : Int) < (n : Int) := by omega
      have hk0 : (0 : Int) ≤ (j : Int) := by omega
      have hk64 : (j : Int) < 64 := by omega
      have hok := HOK.out j hjn
      have hm7 := H7.out j hj
      have hat := dr_at (ds := ds) (k := j) (by omega)
      obtain ⟨⟨a, b⟩, hab⟩ : ∃ p, dr ds j = p := ⟨_, rfl⟩
      have HS2 : Hid (R (j + 1) = if bitB x j && ((R j).testBit a.toNat || (R j).testBit b.toNat) then R j ||| 2 ^ a.toNat ||| 2 ^ b.toNat else R j) := Lib.hid (by rw [HS1.out]; unfold stepM; rw [hab])
      rw [hab] at hok hat
      obtain ⟨a, rfl⟩ := Int.eq_ofNat_of_zero_le hok.1
      obtain ⟨b, rfl⟩ := Int.eq_ofNat_of_zero_le (show 0 ≤ b by have := hok.2.1; have := hok.1; omega)
      rw [Int.toNat_natCast, Int.toNat_natCast] at HS2
      have ha7 : a < 7 := by omega
      have hb7 : b < 7 := by omega
      have ha0 : (0 : Int) ≤ (a : Int) := by omega
      have hb0 : (0 : Int) ≤ (b : Int) := by omega
      have ha64 : (a : Int) < 64 := by omega
      have hb64 : (b : Int) < 64 := by omega
      have eA := bit_div hm7 ha7
      have eB := bit_div hm7 hb7
      have eK := bit_ring (x := x) (k := j)
      have pA := pow_nat ha7
      have pB := pow_nat hb7
      have iA := Lib.hid (pow_natI ha7)
      have iB := Lib.hid (pow_natI hb7)
      have oA := or_pow hm7 ha7
      have hm8 : R j ||| 2 ^ a < 128 := Nat.or_lt_two_pow (n := 7) hm7 (Nat.pow_lt_pow_right (by decide) ha7)
      have oB := or_pow hm8 hb7
      obtain ⟨m, hm⟩ : ∃ m, R j = m := ⟨_, rfl⟩
      rw [hm] at eA eB HS2 oA oB hm7 hm8 ⊢
      obtain ⟨m1, hm1⟩ : ∃ m1, m ||| 2 ^ a = m1 := ⟨_, rfl⟩
      rw [hm1] at oA oB HS2 hm8
      obtain ⟨m2, hm2⟩ : ∃ m2, m1 ||| 2 ^ b = m2 := ⟨_, rfl⟩
      rw [hm2] at oB HS2
      obtain ⟨pa, hpa⟩ : ∃ pa, 2 ^ a = pa := ⟨_, rfl⟩
      obtain ⟨pb, hpb⟩ : ∃ pb, 2 ^ b = pb := ⟨_, rfl⟩
      rw [hpa] at pA oA iA
      rw [hpb] at pB oB iB
      obtain ⟨ad, eAd, bA, pAt⟩ := S0.2.1.get hat
      subst eAd
      obtain ⟨_, _⟩ := id pAt
      obtain ⟨w1, hw1⟩ : ∃ w1, wr.alloc (.cells #[.int .i64 a, .int .i64 b] 134) = w1 := ⟨_, rfl⟩
      have B1 : Holds w1 wr.heap.size #[.int .i64 a, .int .i64 b] 134 := by rw [← hw1]; exact Holds.new wr _ _
      have hb1 : Below wr.heap.size wr w1 := by rw [← hw1]; exact below1 wr _
      have S1 := HO _ _ S0 hb1
      have BX : PointOk.Box w1 wr.heap.size (a : Int) (b : Int) := ⟨B1.two.1.1, B1.two.1.2⟩
      clear HTS HT7 HR7 HTN HOK H7 HS1 HN hl hab hat hm hm1 hm2 hpa hpb hp S0 HO
      have HO : ∀ W W' : World, (BoxH W w.heap.size (N : Int) (some ad) n cap ∧ PtsAt W w.heap.size (some ad) ds ∧ PointOk.Box W wr.heap.size (a : Int) (b : Int) ∧ Below w.heap.size w W) → Below W.heap.size W W' → (BoxH W' w.heap.size (N : Int) (some ad) n cap ∧ PtsAt W' w.heap.size (some ad) ds ∧ PointOk.Box W' wr.heap.size (a : Int) (b : Int) ∧ Below w.heap.size w W') := fun W W' ⟨x0, x1, x2, hb⟩ h => ⟨x0.later h, x1.later (h.mono hb.size), x2.later h, hb.trans (h.mono hb.size)⟩
      have S0 : (BoxH w1 w.heap.size (N : Int) (some ad) n cap ∧ PtsAt w1 w.heap.size (some ad) ds ∧ PointOk.Box w1 wr.heap.size (a : Int) (b : Int) ∧ Below w.heap.size w w1) := ⟨S1.1, S1.2.1, BX, S1.2.2⟩
      clear S1 BX B1 hb1
      obtain ⟨⟨_, _⟩, _, ⟨_, _⟩, _⟩ := id S0
      obtain ⟨cK, hcK⟩ : ∃ c, bitB x j = c := ⟨_, rfl⟩
      obtain ⟨cA, hcA⟩ : ∃ c, m.testBit a = c := ⟨_, rfl⟩
      obtain ⟨cB, hcB⟩ : ∃ c, m.testBit b = c := ⟨_, rfl⟩
      rw [hcK, hcA, hcB] at HS2
      rw [hcK] at eK
      rw [hcA] at eA
      rw [hcB] at eB
      clear hcK hcA hcB
      cases cK
      · have HS3 : Hid (R (j + 1) = m) := Lib.hid (by rw [HS2.out]; rfl)
        clear HS2 eA eB oA oB pA pB
        go_wp2_with fail
        first
          | exact ⟨⟨j + 1, by omega, by go_num, by rw [HS3.out], S0.1, S0.2.1, S0.2.2.2⟩, by simp [intOf]; omega⟩
          | (go_roundw <;> first | exact ⟨j + 1, by omega, by go_num, by rw [HS3.out], S0.1, S0.2.1, S0.2.2.2⟩ | (simp [intOf]; omega))
      cases cA
      · cases cB
        · have HS3 : Hid (R (j + 1) = m) := Lib.hid (by rw [HS2.out]; rfl)
          clear HS2 oA oB pA pB
          go_wp2_with fail
          first
            | exact ⟨⟨j + 1, by omega, by go_num, by rw [HS3.out], S0.1, S0.2.1, S0.2.2.2⟩, by simp [intOf]; omega⟩
            | (go_roundw <;> first | exact ⟨j + 1, by omega, by go_num, by rw [HS3.out], S0.1, S0.2.1, S0.2.2.2⟩ | (simp [intOf]; omega))
        · have HS3 : Hid (R (j + 1) = m2) := Lib.hid (by rw [HS2.out]; rfl)
          clear HS2
          go_wp2_with fail
          refine Settle.region (fun W => BoxH W w.heap.size (N : Int) (some ad) n cap ∧ PtsAt W w.heap.size (some ad) ds ∧ PointOk.Box W wr.heap.size (a : Int) (b : Int) ∧ Below w.heap.size w W) (by kernel_rfl) (by kernel_rfl) (by kernel_rfl) (by kernel_rfl) (HO _ _ S0 ((Below.refl _ _).drew)) ?_
          clear S0
          repeat (first
            | (refine Settle.Settles.off (by rfl) ?_; simp only [Act.put, List.setIfInBounds_toArray, List.set_cons_zero, List.set_cons_succ])
            | (refine Settle.Settles.quiet (v := ?_) (by rfl) ?_ ?_
               rotate_left
               · (intro W hS; obtain ⟨⟨_, _⟩, _, ⟨_, _⟩, _⟩ := hS; go_simp; with_reducible rfl)
               simp only [Act.put, List.setIfInBounds_toArray, List.set_cons_zero, List.set_cons_succ])
            | (refine Settle.Settles.call (v := ?_) (f := ?_) (args := ?_) (by rfl) ?_ ?_ ?_
               rotate_left 3
               · (intro W; go_simp; refine ⟨?_, ?_⟩ <;> with_reducible rfl)
               · (intro W hS; fail)
               simp only [Act.put, List.setIfInBounds_toArray, List.set_cons_zero, List.set_cons_succ]))
          refine Settle.Settles.nil ?_
          intro wr S0
          obtain ⟨⟨_, _⟩, _, ⟨_, _⟩, _⟩ := id S0
          go_wp2_with fail
          first | exact ⟨⟨j + 1, by omega, by go_num, by rw [HS3.out, iA.out, iB.out, oA, oB], S0.1, S0.2.1, S0.2.2.2⟩, by simp [intOf]; omega⟩ | (go_roundw <;> first | exact ⟨j + 1, by omega, by go_num, by rw [HS3.out, iA.out, iB.out, oA, oB], S0.1, S0.2.1, S0.2.2.2⟩ | (simp [intOf]; omega))
      · have HS3 : Hid (R (j + 1) = m2) := Lib.hid (by rw [HS2.out]; rfl)
        clear HS2
        go_wp2_with fail
        refine Settle.region (fun W => BoxH W w.heap.size (N : Int) (some ad) n cap ∧ PtsAt W w.heap.size (some ad) ds ∧ PointOk.Box W wr.heap.size (a : Int) (b : Int) ∧ Below w.heap.size w W) (by kernel_rfl) (by kernel_rfl) (by kernel_rfl) (by kernel_rfl) (HO _ _ S0 ((Below.refl _ _).drew)) ?_
        clear S0
        repeat (first
          | (refine Settle.Settles.off (by rfl) ?_; simp only [Act.put, List.setIfInBounds_toArray, List.set_cons_zero, List.set_cons_succ])
          | (refine Settle.Settles.quiet (v := ?_) (by rfl) ?_ ?_
             rotate_left
             · (intro W hS; obtain ⟨⟨_, _⟩, _, ⟨_, _⟩, _⟩ := hS; go_simp; with_reducible rfl)
             simp only [Act.put, List.setIfInBounds_toArray, List.set_cons_zero, List.set_cons_succ])
          | (refine Settle.Settles.call (v := ?_) (f := ?_) (args := ?_) (by rfl) ?_ ?_ ?_
             rotate_left 3
             · (intro W; go_simp; refine ⟨?_, ?_⟩ <;> with_reducible rfl)
             · (intro W hS; fail)
             simp only [Act.put, List.setIfInBounds_toArray, List.set_cons_zero, List.set_cons_succ]))
        refine Settle.Settles.nil ?_
        intro wr S0
        obtain ⟨⟨_, _⟩, _, ⟨_, _⟩, _⟩ := id S0
        go_wp2_with fail
        first | exact ⟨⟨j + 1, by omega, by go_num, by rw [HS3.out, iA.out, iB.out, oA, oB], S0.1, S0.2.1, S0.2.2.2⟩, by simp [intOf]; omega⟩ | (go_roundw <;> first | exact ⟨j + 1, by omega, by go_num, by rw [HS3.out, iA.out, iB.out, oA, oB], S0.1, S0.2.1, S0.2.2.2⟩ | (simp [intOf]; omega))
set_option maxRecDepth 100000 in
set_option maxHeartbeats 3200000 in
theorem hallsWith (H : Int) (A : Option Addr) (n cap : Nat) (s x : Int) (w : World) (ds : List (Int × Int)) (hl : ds.length = n) (hn : n ≤ 1048576) (hp : PtsAt w w.heap.size A ds) :
    Calls Try.prog 12 #[.agg #[.int .i64 H, .slice A n cap], .int .i64 s, .int .i64 x] w (GivesI 3 w (withL H ds s x)) := by
  obtain ⟨r, hr⟩ : ∃ r, withL H ds s x = r := ⟨_, rfl⟩
  have HR := Lib.hid hr
  rw [hr]
  clear hr
  have Q1 : Hid (∀ w hp, _) := Lib.hid fun w hp => HouXspec.ringOk H A n cap x w ds hl hn hp
  cases cA : ringB H ds x
  · have E : r = [] := by rw [← HR.out]; exact with_no (by rw [cA]; rfl)
    subst E
    rw [cA] at Q1
    clear HR cA hl
    go_enter Try.func12, Try.ntmps12
    go_wp2_with fail
    have X0 := HouBox.boxH w H A n cap 30 (k := w.heap.size) (by simp)
    have b0 := PointOk.below1 w (Obj.cells #[.int .i64 H, .slice A n cap] 30)
    have HO : ∀ W W' : World, (HouBox.BoxH W (w.heap.size) H A n cap ∧ PtsAt W w.heap.size A ds ∧ Below w.heap.size w W) → Below W.heap.size W W' → (HouBox.BoxH W' (w.heap.size) H A n cap ∧ PtsAt W' w.heap.size A ds ∧ Below w.heap.size w W') := fun W W' ⟨h0, x0, hb⟩ h => ⟨h0.later h, x0.later (h.mono hb.size), hb.trans (h.mono hb.size)⟩
    have hz0_ : Hid (((w.alloc (Obj.cells #[.int .i64 H, .slice A n cap] 30))).heap.size = w.heap.size + 1) := Lib.hid (by simp)
    have Y0 : PtsAt ((w.alloc (Obj.cells #[.int .i64 H, .slice A n cap] 30))) w.heap.size A ds := hp.later b0
    generalize (w.alloc (Obj.cells #[.int .i64 H, .slice A n cap] 30)) = w0 at X0 Y0 b0 hz0_ ⊢
    have S0 := (⟨X0, Y0, b0⟩ : HouBox.BoxH w0 (w.heap.size) H A n cap ∧ PtsAt w0 w.heap.size A ds ∧ Below w.heap.size w w0)
    clear X0 Y0 b0
    obtain ⟨⟨_, _⟩, _, _⟩ := id S0
    have hle0 : w.heap.size ≤ w0.heap.size := by have := hz0_.out; omega
    have hE0 := own_base (own_empty w0 3 1) hle0
    rw [hz0_.out] at hE0
    replace S0 := HO _ _ S0 (below1 w0 (Obj.cells #[] 3))
    replace hE0 := Lib.hid hE0
    obtain ⟨⟨_, _⟩, _, _⟩ := id S0
    go_wp2_with fail
    refine (Q1.out _ (S0.2.1.wide S0.2.2.size)).mono ?_
    rintro e wx ⟨rfl, hb_⟩
    replace S0 := HO _ _ S0 hb_
    obtain ⟨⟨_, _⟩, _, _⟩ := id S0
    replace hE0 := Lib.hid (own_below hE0.out hb_)
    go_wp2_with fail
    go_ret
    exact ⟨_, 0, rfl, hE0.out, S0.2.2⟩
  rw [cA] at Q1
  have Q2 : Hid (∀ w, _) := Lib.hid fun w => PointOk.l01In s 0 (H - 1) w
  have hrg : houseB H ds = true := by unfold ringB at cA; rw [Bool.and_eq_true] at cA; exact cA.1
  have hf := house_form hrg
  have hh1 := hf.h1
  have hh7 := hf.h7
  have u1 : IntKind.i64.wrap (H - 1) = H - 1 := IntWalk.i64_in _ (by omega)
  obtain ⟨c, hc⟩ : ∃ c, decide (0 ≤ s ∧ s ≤ H - 1) = c := ⟨_, rfl⟩
  rw [hc] at Q2
  rw [inH_le] at hc
  cases c
  · have E : r = [] := by rw [← HR.out]; exact with_no (by rw [cA, hc]; rfl)
    subst E
    clear HR cA hc hl hf
    go_enter Try.func12, Try.ntmps12
    go_wp2_with fail
    have X0 := HouBox.boxH w H A n cap 30 (k := w.heap.size) (by simp)
    have b0 := PointOk.below1 w (Obj.cells #[.int .i64 H, .slice A n cap] 30)
    have HO : ∀ W W' : World, (HouBox.BoxH W (w.heap.size) H A n cap ∧ PtsAt W w.heap.size A ds ∧ Below w.heap.size w W) → Below W.heap.size W W' → (HouBox.BoxH W' (w.heap.size) H A n cap ∧ PtsAt W' w.heap.size A ds ∧ Below w.heap.size w W') := fun W W' ⟨h0, x0, hb⟩ h => ⟨h0.later h, x0.later (h.mono hb.size), hb.trans (h.mono hb.size)⟩
    have hz0_ : Hid (((w.alloc (Obj.cells #[.int .i64 H, .slice A n cap] 30))).heap.size = w.heap.size + 1) := Lib.hid (by simp)
    have Y0 : PtsAt ((w.alloc (Obj.cells #[.int .i64 H, .slice A n cap] 30))) w.heap.size A ds := hp.later b0
    generalize (w.alloc (Obj.cells #[.int .i64 H, .slice A n cap] 30)) = w0 at X0 Y0 b0 hz0_ ⊢
    have S0 := (⟨X0, Y0, b0⟩ : HouBox.BoxH w0 (w.heap.size) H A n cap ∧ PtsAt w0 w.heap.size A ds ∧ Below w.heap.size w w0)
    clear X0 Y0 b0
    obtain ⟨⟨_, _⟩, _, _⟩ := id S0
    have hle0 : w.heap.size ≤ w0.heap.size := by have := hz0_.out; omega
    have hE0 := own_base (own_empty w0 3 1) hle0
    rw [hz0_.out] at hE0
    replace S0 := HO _ _ S0 (below1 w0 (Obj.cells #[] 3))
    replace hE0 := Lib.hid hE0
    obtain ⟨⟨_, _⟩, _, _⟩ := id S0
    go_wp2_with fail
    refine (Q1.out _ (S0.2.1.wide S0.2.2.size)).mono ?_
    rintro e wx ⟨rfl, hb_⟩
    replace S0 := HO _ _ S0 hb_
    obtain ⟨⟨_, _⟩, _, _⟩ := id S0
    replace hE0 := Lib.hid (own_below hE0.out hb_)
    go_wp2_with fail
    refine (Q2.out _).mono ?_
    rintro e w_ ⟨rfl, rfl⟩
    go_wp2_with fail
    go_ret
    exact ⟨_, 0, rfl, hE0.out, S0.2.2⟩
  have hs := inH_iff.1 hc
  obtain ⟨N, rfl⟩ := Int.eq_ofNat_of_zero_le (show 0 ≤ H by omega)
  obtain ⟨s, rfl⟩ := Int.eq_ofNat_of_zero_le hs.1
  have hsN : s < N := by omega
  have hN7 : N ≤ 7 := by omega
  have E : r = withN N ds s x := by rw [← HR.out]; exact with_yes (by rw [cA, hc]; rfl)
  have E2 : r = bitTo (setM x ds s N) N := by rw [E]; exact (bit_open hf hsN N (Nat.le_refl _)).symm
  have Q3 := Lib.hid fun w hp => reached N A n cap s x w ds hl hf hsN hp
  have hm7 : setM x ds s N < 128 := Nat.lt_of_lt_of_le (set_lt hf hsN N) (Nat.pow_le_pow_right (n := 2) (by decide) hN7)
  subst E2
  clear HR cA hc hrg hf E hs hl
  generalize setM x ds s N = M at *
  have HS : Hid (∀ k, bitTo M (k + 1) = if M.testBit k then bitTo M k ++ [(k : Int)] else bitTo M k) := Lib.hid (fun k => rfl)
  have HLen : Hid (∀ k, (bitTo M k).length ≤ k) := Lib.hid (fun k => bitTo_len M k)
  have HZ0 : bitTo M 0 = [] := rfl
  have HBit : Hid (∀ k, k < 7 → bits .and .i64 ((M : Int) / 2 ^ k) 1 = if M.testBit k then 1 else 0) := Lib.hid (fun k hk => bit_div hm7 hk)
  generalize bitTo M = nt at *
  generalize Nat.testBit M = tb at *
  obtain ⟨i0, hi, hz0, hz1, hz2⟩ := info_parts HouOspec.infoI
  go_enter Try.func12, Try.ntmps12
  go_wp2_with fail
  have X0 := HouBox.boxH w N A n cap 30 (k := w.heap.size) (by simp)
  have b0 := PointOk.below1 w (Obj.cells #[.int .i64 N, .slice A n cap] 30)
  have HO : ∀ W W' : World, (HouBox.BoxH W (w.heap.size) N A n cap ∧ PtsAt W w.heap.size A ds ∧ Below w.heap.size w W) → Below W.heap.size W W' → (HouBox.BoxH W' (w.heap.size) N A n cap ∧ PtsAt W' w.heap.size A ds ∧ Below w.heap.size w W') := fun W W' ⟨h0, x0, hb⟩ h => ⟨h0.later h, x0.later (h.mono hb.size), hb.trans (h.mono hb.size)⟩
  have hz0_ : Hid (((w.alloc (Obj.cells #[.int .i64 N, .slice A n cap] 30))).heap.size = w.heap.size + 1) := Lib.hid (by simp)
  have Y0 : PtsAt ((w.alloc (Obj.cells #[.int .i64 N, .slice A n cap] 30))) w.heap.size A ds := hp.later b0
  generalize (w.alloc (Obj.cells #[.int .i64 N, .slice A n cap] 30)) = w0 at X0 Y0 b0 hz0_ ⊢
  have S0 := (⟨X0, Y0, b0⟩ : HouBox.BoxH w0 (w.heap.size) N A n cap ∧ PtsAt w0 w.heap.size A ds ∧ Below w.heap.size w w0)
  clear X0 Y0 b0
  obtain ⟨⟨_, _⟩, _, _⟩ := id S0
  have HO2 : ∀ W W' : World, (HouBox.BoxH W (w.heap.size) N A n cap ∧ PtsAt W w.heap.size A ds ∧ Below w.heap.size w W) → Below (w.heap.size + 1) W W' → (HouBox.BoxH W' (w.heap.size) N A n cap ∧ PtsAt W' w.heap.size A ds ∧ Below w.heap.size w W') := fun W W' ⟨h0, h1, hb⟩ h => ⟨⟨(h.cell (p := ⟨w.heap.size, 0, none⟩) (by show w.heap.size < w.heap.size + 1; omega)).trans h0.1, (h.cell (p := ⟨w.heap.size, 1, none⟩) (by show w.heap.size < w.heap.size + 1; omega)).trans h0.2⟩, h1.later (h.mono (by omega)), hb.trans (h.mono (by omega))⟩
  have hle0 : w.heap.size + 1 ≤ w0.heap.size := by have := hz0_.out; omega
  have hE0 := own_base (own_empty w0 3 1) hle0
  rw [hz0_.out] at hE0
  have hsz : w.heap.size + 1 ≤ (w0.alloc (Obj.cells #[] 3)).heap.size := by simp; omega
  replace S0 := HO _ _ S0 (below1 w0 (Obj.cells #[] 3))
  replace hE0 := Lib.hid hE0
  obtain ⟨⟨_, _⟩, _, _⟩ := id S0
  go_wp2_with fail
  generalize w0.alloc (Obj.cells #[] 3) = v0 at *
  refine (Q1.out _ (S0.2.1.wide S0.2.2.size)).mono ?_
  rintro e w1 ⟨rfl, hb_⟩
  replace S0 := HO _ _ S0 hb_
  obtain ⟨⟨_, _⟩, _, _⟩ := id S0
  replace hE0 := Lib.hid (own_below hE0.out hb_)
  replace hsz := Nat.le_trans hsz hb_.size
  go_wp2_with fail
  refine (Q2.out _).mono ?_
  rintro e w_ ⟨rfl, rfl⟩
  go_wp2_with fail
  refine (Q3.out _ (S0.2.1.wide S0.2.2.size)).mono ?_
  rintro e w2 ⟨rfl, hb_⟩
  replace S0 := HO _ _ S0 hb_
  obtain ⟨⟨_, _⟩, _, _⟩ := id S0
  replace hE0 := Lib.hid (own_below hE0.out hb_)
  replace hsz := Nat.le_trans hsz hb_.size
  clear hb_ Q1 Q2 Q3
  go_wp2_with fail
  go_loopw [7, 9] (fun v i wr => ∃ k : Nat, k ≤ N ∧ i = .int .i64 k ∧ wr.ownsRow (w.heap.size + 1) 3 1 v (nt k).length (icells (nt k)) ∧ w.heap.size + 1 ≤ wr.heap.size ∧ (HouBox.BoxH wr (w.heap.size) N A n cap ∧ PtsAt wr w.heap.size A ds ∧ Below w.heap.size w wr))
    (fun _ i _ => N - (intOf i).toNat)
  case atStart => exact ⟨0, Nat.zero_le _, rfl, by rw [HZ0]; exact hE0.out, hsz, S0⟩
  case round =>
    clear S0 HZ0 hE0 hle0 hsz
    obtain ⟨k, hkn, rfl, hown, hsz, S0⟩ := hrel
    obtain ⟨⟨_, _⟩, _, _⟩ := id S0
    by_cases hlt : k < N
    rotate_left
    · obtain rfl : N = k := by omega
      have hown2 := Lib.hid hown
      obtain ⟨A1, c1, rfl⟩ := own_shape hown
      clear hown HS HLen HBit
      go_wp2_with fail
      go_ret
      exact ⟨A1, c1, rfl, own_base hown2.out (by omega), S0.2.2⟩
    have hk1 : (k : Int) < (N : Int) := by omega
    have hk0 : (0 : Int) ≤ (k : Int) := by omega
    have hk64 : (k : Int) < 64 := by omega
    have HL := Lib.hid (HS.out k)
    have hlen := HLen.out k
    have eK := HBit.out k (by omega)
    generalize hl0 : nt k = l0 at *
    obtain ⟨q, hm⟩ : ∃ q, l0.length = q := ⟨_, rfl⟩
    rw [hm] at hown hlen
    obtain ⟨Ao, co, rfl⟩ := own_shape hown
    have hq7 : q ≤ 7 := by omega
    obtain ⟨o, ho⟩ : ∃ o, tb k = o := ⟨_, rfl⟩
    rw [ho] at HL eK
    clear hl0 hlen HLen HS HBit ho
    cases o
    · have HL2 : Hid (nt (k + 1) = l0) := Lib.hid (by rw [HL.out]; rfl)
      have eK2 : bits .and .i64 ((M : Int) / 2 ^ k) 1 = 0 := eK
      clear HL eK
      replace hown := Lib.hid hown
      go_wp2_with fail
      exact ⟨⟨k + 1, by omega, by go_num, by rw [HL2.out, hm]; exact hown.out, hsz, S0⟩, by simp [intOf]; omega⟩
    have HL2 : Hid (nt (k + 1) = l0 ++ [(k : Int)]) := Lib.hid (by rw [HL.out]; rfl)
    have eK2 : bits .and .i64 ((M : Int) / 2 ^ k) 1 = 1 := eK
    clear HL eK
    have S1 := Lib.hid S0
    go_wp2_with (at_builtin; refine wpList_append_own _ rfl _ _ 26 rfl (w.heap.size + 1) 3 i0 (.int .i64 0) 1 8 Try.underlying26 hi hz0 hz1 hz2 rfl (by decide) _ _ _ rfl (hown.alloc _) ⟨wr.heap.size, 0, none⟩ 1 1 [.int .i64 (k : Int)] rfl rfl ?c1 ?c2 ?c3 ?c4 ?c5 ?_)
    case c1 => (intro j u hj; match j, hj with | 0, hj => (simp at hj; subst hj; simp [Addr.add]))
    case c2 => (intro u hu; simp at hu; subst hu; rfl)
    case c3 => (unfold maxLen; omega)
    case c4 => omega
    case c5 => (simp; omega)
    intro v1_ wa_ ho_ hg_ _
    have HN : Hid (wa_.ownsRow (w.heap.size + 1) 3 1 v1_ (nt (k + 1)).length (icells (nt (k + 1))) ∧ w.heap.size + 1 ≤ wa_.heap.size ∧ (HouBox.BoxH wa_ (w.heap.size) N A n cap ∧ PtsAt wa_ w.heap.size A ds ∧ Below w.heap.size w wa_)) := Lib.hid (by
      have hb0 : Below (w.heap.size + 1) wr (wr.alloc (Obj.cells #[.int .i64 (k : Int)] 3)) := (below1 _ _).mono hsz
      have hb1 := hb0.grown hg_ (by simp; omega) (fun g hg => (hown.lt g hg).1)
      rw [HL2.out, icells_snoc, List.length_append, hm]
      exact ⟨ho_, Nat.le_trans hsz hb1.size, HO2 _ _ S1.out hb1⟩)
    clear ho_ hg_ hown HL2 S0 S1
    go_wp2_with fail
    first
      | exact ⟨⟨k + 1, by omega, by go_num, HN.out.1, HN.out.2.1, HN.out.2.2⟩, by simp [intOf]; omega⟩
      | (go_roundw <;> first | exact ⟨k + 1, by omega, by go_num, HN.out.1, HN.out.2.1, HN.out.2.2⟩ | (simp [intOf]; omega))
end Go.Proofs.Ytagokcbldkbdmaa.HouKspec

