/-
  What the model says of the halls behind a hall's doors, as a contract.
-/
import Derived.Test.YtknnekidfhooeaaHouWspec
import Derived.Test.YtknnekidfhooeaaHouMathD
namespace Go.Proofs.Ytknnekidfhooeaa.HouOspec
open Go.RowKit Pts Blk HouMath HouMathB HouMathD HouSeq HouBox HouMem Ints
open Go.Proofs.Ytknnekidfhooeaa.Own (icells icells_length icells_at icells_snoc own_shape own_cell own_below own_base own_empty GivesI)
open PointOk (ret_bool ret_i64 below1 below2 below3)

theorem infoI : (Try.prog.info? 3).map (fun i => (i.zero, i.size, i.bytes)) = some (some (.int .i64 0), 1, 8) := by kernel_rfl

set_option maxRecDepth 100000 in
set_option maxHeartbeats 3200000 in
theorem doorsFrom (H : Int) (A : Option Addr) (n cap : Nat) (x : Int) (w : World) (ds : List (Int × Int)) (hl : ds.length = n) (hn : n ≤ 1048576) (hp : PtsAt w w.heap.size A ds) :
    Calls Try.prog 22 #[.agg #[.int .i64 H, .slice A n cap], .int .i64 x] w (GivesI 3 w (doorsL H ds x)) := by
  obtain ⟨r, hr⟩ : ∃ r, doorsL H ds x = r := ⟨_, rfl⟩
  have HR := Lib.hid hr
  rw [hr]
  clear hr
  have Q1 : Hid (∀ w hp, _) := Lib.hid fun w hp => HouWspec.has H A n cap x w ds hl hn hp
  cases cA : hallOf H ds x
  · have E : r = [] := by rw [← HR.out]; exact doors_no cA
    subst E
    rw [cA] at Q1
    clear HR cA hl
    go_enter Try.func22, Try.ntmps22
    go_wp2_with fail
    have X0 := HouBox.boxH w H A n cap 29 (k := w.heap.size) (by simp)
    have b0 := PointOk.below1 w (Obj.cells #[.int .i64 H, .slice A n cap] 29)
    have HO : ∀ W W' : World, (HouBox.BoxH W (w.heap.size) H A n cap ∧ PtsAt W w.heap.size A ds ∧ Below w.heap.size w W) → Below W.heap.size W W' → (HouBox.BoxH W' (w.heap.size) H A n cap ∧ PtsAt W' w.heap.size A ds ∧ Below w.heap.size w W') := fun W W' ⟨h0, x0, hb⟩ h => ⟨h0.later h, x0.later (h.mono hb.size), hb.trans (h.mono hb.size)⟩
    have hz0_ : Hid (((w.alloc (Obj.cells #[.int .i64 H, .slice A n cap] 29))).heap.size = w.heap.size + 1) := Lib.hid (by simp)
    have Y0 : PtsAt ((w.alloc (Obj.cells #[.int .i64 H, .slice A n cap] 29))) w.heap.size A ds := hp.later b0
    generalize (w.alloc (Obj.cells #[.int .i64 H, .slice A n cap] 29)) = w0 at X0 Y0 b0 hz0_ ⊢
    have S0 := (⟨X0, Y0, b0⟩ : HouBox.BoxH w0 (w.heap.size) H A n cap ∧ PtsAt w0 w.heap.size A ds ∧ Below w.heap.size w w0)
    clear X0 Y0 b0
    obtain ⟨⟨_, _⟩, _, _⟩ := id S0
    have hle0 : w.heap.size ≤ w0.heap.size := by have := hz0_.out; omega
    have hE0 := own_base (own_empty w0 3 1) hle0
    rw [hz0_.out] at hE0
    go_loopw [5, 6] (fun v i wr => i = .int .i64 0 ∧ (∃ g : Nat, v = .slice (some ⟨g, 0, none⟩) 0 0) ∧ wr.ownsRow w.heap.size 3 1 v 0 [] ∧ (HouBox.BoxH wr (w.heap.size) H A n cap ∧ PtsAt wr w.heap.size A ds ∧ Below w.heap.size w wr))
      (fun _ _ _ => 0)
    case atStart => exact ⟨rfl, ⟨_, rfl⟩, hE0, HO _ _ S0 (below1 _ _)⟩
    case round =>
      clear S0 hE0 hle0
      obtain ⟨rfl, ⟨g, rfl⟩, hown, S0⟩ := hrel
      obtain ⟨⟨_, _⟩, _, _⟩ := id S0
      replace hown := Lib.hid hown
      by_cases h0 : 0 < H
      · skip
        go_wp2_with fail
        refine (Q1.out _ (S0.2.1.wide S0.2.2.size)).mono ?_
        rintro e wx ⟨rfl, hb_⟩
        replace S0 := HO _ _ S0 hb_
        obtain ⟨⟨_, _⟩, _, _⟩ := id S0
        replace hown := Lib.hid (own_below hown.out hb_)
        go_wp2_with fail
        go_ret
        exact ⟨_, 0, rfl, hown.out, S0.2.2⟩
      · skip
        go_wp2_with fail
        go_ret
        exact ⟨_, 0, rfl, hown.out, S0.2.2⟩
  obtain ⟨N, a, rfl, rfl, ha, hf⟩ := hall_nat cA
  have E : r = ci (nb N ds a) := by rw [← HR.out]; exact doors_yes cA
  subst E
  have h7 : N ≤ 7 := by have := hf.h7; omega
  have Q2 : Hid (∀ k w hp, _) := Lib.hid fun (k : Nat) w hp => HouSpec.door N A n cap k a w ds hl hn hp
  have HS : Hid (∀ k, nbTo ds a (k + 1) = if isDoor ds (k : Int) (a : Int) = true then nbTo ds a k ++ [k] else nbTo ds a k) := Lib.hid (fun k => nbTo_succ ds a k)
  have HSelf : Hid (isDoor ds (a : Int) (a : Int) = false) := Lib.hid (isDoor_self hf _)
  have HLen : Hid (∀ k, (nbTo ds a k).length ≤ k) := Lib.hid (fun k => nbTo_len ds a k)
  have HE : Hid (nbTo ds a N = nb N ds a) := Lib.hid rfl
  have HZ0 : nbTo ds a 0 = [] := rfl
  obtain ⟨i0, hi, hz0, hz1, hz2⟩ := info_parts infoI
  rw [cA] at Q1
  generalize nb N ds a = res at *
  generalize nbTo ds a = nt at *
  clear HR cA hl hf ha
  go_enter Try.func22, Try.ntmps22
  go_wp2_with fail
  have X0 := HouBox.boxH w N A n cap 29 (k := w.heap.size) (by simp)
  have b0 := PointOk.below1 w (Obj.cells #[.int .i64 N, .slice A n cap] 29)
  have HO : ∀ W W' : World, (HouBox.BoxH W (w.heap.size) N A n cap ∧ PtsAt W w.heap.size A ds ∧ Below w.heap.size w W) → Below W.heap.size W W' → (HouBox.BoxH W' (w.heap.size) N A n cap ∧ PtsAt W' w.heap.size A ds ∧ Below w.heap.size w W') := fun W W' ⟨h0, x0, hb⟩ h => ⟨h0.later h, x0.later (h.mono hb.size), hb.trans (h.mono hb.size)⟩
  have hz0_ : Hid (((w.alloc (Obj.cells #[.int .i64 N, .slice A n cap] 29))).heap.size = w.heap.size + 1) := Lib.hid (by simp)
  have Y0 : PtsAt ((w.alloc (Obj.cells #[.int .i64 N, .slice A n cap] 29))) w.heap.size A ds := hp.later b0
  generalize (w.alloc (Obj.cells #[.int .i64 N, .slice A n cap] 29)) = w0 at X0 Y0 b0 hz0_ ⊢
  have S0 := (⟨X0, Y0, b0⟩ : HouBox.BoxH w0 (w.heap.size) N A n cap ∧ PtsAt w0 w.heap.size A ds ∧ Below w.heap.size w w0)
  clear X0 Y0 b0
  obtain ⟨⟨_, _⟩, _, _⟩ := id S0
  have HO2 : ∀ W W' : World, (HouBox.BoxH W (w.heap.size) N A n cap ∧ PtsAt W w.heap.size A ds ∧ Below w.heap.size w W) → Below (w.heap.size + 1) W W' → (HouBox.BoxH W' (w.heap.size) N A n cap ∧ PtsAt W' w.heap.size A ds ∧ Below w.heap.size w W') := fun W W' ⟨h0, h1, hb⟩ h => ⟨⟨(h.cell (p := ⟨w.heap.size, 0, none⟩) (by show w.heap.size < w.heap.size + 1; omega)).trans h0.1, (h.cell (p := ⟨w.heap.size, 1, none⟩) (by show w.heap.size < w.heap.size + 1; omega)).trans h0.2⟩, h1.later (h.mono (by omega)), hb.trans (h.mono (by omega))⟩
  have hle0 : w.heap.size + 1 ≤ w0.heap.size := by have := hz0_.out; omega
  have hE0 := own_base (own_empty w0 3 1) hle0
  rw [hz0_.out] at hE0
  go_loopw [5, 6] (fun v i wr => ∃ k : Nat, k ≤ N ∧ i = .int .i64 k ∧ wr.ownsRow (w.heap.size + 1) 3 1 v (nt k).length (icells (ci (nt k))) ∧ w.heap.size + 1 ≤ wr.heap.size ∧ (HouBox.BoxH wr (w.heap.size) N A n cap ∧ PtsAt wr w.heap.size A ds ∧ Below w.heap.size w wr))
    (fun _ i _ => N - (intOf i).toNat)
  case atStart => exact ⟨0, Nat.zero_le _, rfl, by rw [HZ0]; exact hE0, by have := hz0_.out; simp; omega, HO _ _ S0 (below1 _ _)⟩
  case round =>
    clear S0 HZ0 hE0 hle0
    obtain ⟨k, hkn, rfl, hown, hsz, S0⟩ := hrel
    obtain ⟨⟨_, _⟩, _, _⟩ := id S0
    by_cases hlt : k < N
    rotate_left
    · obtain rfl : N = k := by omega
      rw [HE.out] at hown
      have hown2 := Lib.hid hown
      obtain ⟨A1, c1, rfl⟩ := own_shape hown
      have hln : (ci res).length = res.length := ci_len _
      clear hown HE Q1 Q2 HS HSelf HLen
      go_wp2_with fail
      go_ret
      exact ⟨A1, c1, by rw [hln]; rfl, by rw [hln]; exact own_base hown2.out (by omega), S0.2.2⟩
    have hk1 : (k : Int) < (N : Int) := by omega
    have hk0 : (0 : Int) ≤ (k : Int) := by omega
    have HL := Lib.hid (HS.out k)
    have hlen := HLen.out k
    have Q : Hid (∀ w hp, _) := Lib.hid fun w hp => Q2.out k w hp
    generalize hl0 : nt k = l0 at *
    obtain ⟨q, hm⟩ : ∃ q, l0.length = q := ⟨_, rfl⟩
    rw [hm] at hown hlen
    obtain ⟨Ao, co, rfl⟩ := own_shape hown
    have hq7 : q ≤ 7 := by omega
    clear hl0 hlen HLen HS HE Q2
    by_cases hka : k = a
    · have HL2 : Hid (nt (k + 1) = l0) := Lib.hid (by rw [HL.out, hka, HSelf.out]; rfl)
      clear HL HSelf Q
      replace hown := Lib.hid hown
      subst hka
      go_wp2_with fail
      refine (Q1.out _ (S0.2.1.wide S0.2.2.size)).mono ?_
      rintro e wx ⟨rfl, hb_⟩
      replace S0 := HO _ _ S0 hb_
      obtain ⟨⟨_, _⟩, _, _⟩ := id S0
      replace hown := Lib.hid (own_below hown.out hb_)
      have hsz2 := Nat.le_trans hsz hb_.size
      go_wp2_with fail
      exact ⟨⟨k + 1, by omega, by go_num, by rw [HL2.out, hm]; exact hown.out, hsz2, S0⟩, by simp [intOf]; omega⟩
    have hka' : ¬ (k : Int) = (a : Int) := by omega
    have hkb : ((k : Int) == (a : Int)) = false := beq_eq_false_iff_ne.2 hka'
    obtain ⟨o, ho⟩ : ∃ o, isDoor ds (k : Int) (a : Int) = o := ⟨_, rfl⟩
    rw [ho] at HL Q
    clear ho HSelf
    replace hown := Lib.hid hown
    go_wp2_with fail
    refine (Q1.out _ (S0.2.1.wide S0.2.2.size)).mono ?_
    rintro e wx ⟨rfl, hb_⟩
    replace S0 := HO _ _ S0 hb_
    obtain ⟨⟨_, _⟩, _, _⟩ := id S0
    replace hown := Lib.hid (own_below hown.out hb_)
    replace hsz := Nat.le_trans hsz hb_.size
    go_wp2_with fail
    refine (Q.out _ (S0.2.1.wide S0.2.2.size)).mono ?_
    rintro e wz ⟨rfl, hb_⟩
    replace S0 := HO _ _ S0 hb_
    obtain ⟨⟨_, _⟩, _, _⟩ := id S0
    replace hown := Lib.hid (own_below hown.out hb_)
    replace hsz := Nat.le_trans hsz hb_.size
    clear Q Q1 hb_
    cases o
    · have HL2 : Hid (nt (k + 1) = l0) := Lib.hid (by rw [HL.out]; rfl)
      clear HL
      go_wp2_with fail
      exact ⟨⟨k + 1, by omega, by go_num, by rw [HL2.out, hm]; exact hown.out, hsz, S0⟩, by simp [intOf]; omega⟩
    have HL2 : Hid (nt (k + 1) = l0 ++ [k]) := Lib.hid (by rw [HL.out]; rfl)
    clear HL
    have S1 := Lib.hid S0
    replace hown := hown.out
    go_wp2_with (at_builtin; refine wpList_append_own _ rfl _ _ 35 rfl (w.heap.size + 1) 3 i0 (.int .i64 0) 1 8 Try.underlying35 hi hz0 hz1 hz2 rfl (by decide) _ _ _ rfl (hown.alloc _) ⟨wz.heap.size, 0, none⟩ 1 1 [.int .i64 (k : Int)] rfl rfl ?c1 ?c2 ?c3 ?c4 ?c5 ?_)
    case c1 => (intro j u hj; match j, hj with | 0, hj => (simp at hj; subst hj; simp [Addr.add]))
    case c2 => (intro u hu; simp at hu; subst hu; rfl)
    case c3 => (unfold maxLen; omega)
    case c4 => omega
    case c5 => (simp; omega)
    intro v1_ wa_ ho_ hg_ _
    have HN : Hid (wa_.ownsRow (w.heap.size + 1) 3 1 v1_ (nt (k + 1)).length (icells (ci (nt (k + 1)))) ∧ w.heap.size + 1 ≤ wa_.heap.size ∧ (HouBox.BoxH wa_ (w.heap.size) N A n cap ∧ PtsAt wa_ w.heap.size A ds ∧ Below w.heap.size w wa_)) := Lib.hid (by
      have hb0 : Below (w.heap.size + 1) wz (wz.alloc (Obj.cells #[.int .i64 (k : Int)] 3)) := (below1 _ _).mono hsz
      have hb1 := hb0.grown hg_ (by simp; omega) (fun g hg => (hown.lt g hg).1)
      rw [HL2.out, ci_snoc, List.length_append, hm]
      exact ⟨ho_, Nat.le_trans hsz hb1.size, HO2 _ _ S1.out hb1⟩)
    clear ho_ hg_ hown HL2 S0 S1
    go_wp2_with fail
    first
      | exact ⟨⟨k + 1, by omega, by go_num, HN.out.1, HN.out.2.1, HN.out.2.2⟩, by simp [intOf]; omega⟩
      | (go_roundw <;> first | exact ⟨k + 1, by omega, by go_num, HN.out.1, HN.out.2.1, HN.out.2.2⟩ | (simp [intOf]; omega))

end Go.Proofs.Ytknnekidfhooeaa.HouOspec

