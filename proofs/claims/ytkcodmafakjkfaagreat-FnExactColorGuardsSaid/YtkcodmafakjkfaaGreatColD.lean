/-
  What the landed code answers on how often a color occurs, as contracts.
-/
import Derived.Test.YtkcodmafakjkfaaGreatColB
import Derived.Test.YtkcodmafakjkfaaGreatColA
import Derived.Test.YtkcodmafakjkfaaGreatIntSl
import Derived.Test.YtkcodmafakjkfaaGreatThatImpl
import Derived.Test.YtkcodmafakjkfaaGreatRoomRes
import Derived.Deep.RegionHeld3

/-
  What the landed ColorCounts does, as a contract: the counts, in a new slice that is nil if there are none.
-/
namespace Go.Proofs.YtkcodmafakjkfaaGreat.CntImpl
open Go.RowKit PointMath WallMath RoomMath Pts Blk AreaMath PlaceMath FloorMath LineMath CutsMath SightMath DiagMath TriMath TrisMath ColMath ColRun CntMath Ints Tup3 TriRow ColLand
open PointOk (ret_bool ret_i64 below1 below2 below3)
open Go.Proofs.YtkcodmafakjkfaaGreat.Own (icells icells_length icells_at icells_snoc own_base own_below own_shape own_cell own_empty grown_of_below grown_trans)

theorem ints_own {W : World} {b e n cap : Nat} {A : Option Addr} {l : List Int} (h : W.ownsRow b e 1 (.slice A n cap) n (icells l)) : IntsAt W W.heap.size A l := by
  intro j hj
  have hn : l.length = n := by have := h.1; simpa [icells] using this
  obtain ⟨g, hA, _, hg, h1, _⟩ := own_cell h (by omega) (icells_at hj)
  refine ⟨_, hA, hg, ?_⟩
  by_cases hj0 : j = 0
  · subst hj0; exact h1
  · simpa [Addr.add, hj0] using h1
theorem row_set {W : World} {b e g n c : Nat} {L : List Int} (h : W.ownsRow b e 1 (.slice (some ⟨g, 0, none⟩) n c) n (icells L)) (j : Nat) (x : Int) :
    (W.setCell ⟨g, j, none⟩ (.int .i64 x)).ownsRow b e 1 (.slice (some ⟨g, 0, none⟩) n c) n (icells (L.set j x)) ∧ W.grownBy (W.setCell ⟨g, j, none⟩ (.int .i64 x)) (some g) := by
  have hs := h.stored j (.int .i64 x)
  have e1 : (icells L).set j (.int .i64 x) = icells (L.set j x) := by unfold icells; rw [List.map_set]
  rw [e1] at hs
  exact hs

set_option maxRecDepth 100000 in
set_option maxHeartbeats 6400000 in
theorem colorCounts (A : Option Addr) (n cap : Nat) (w : World) (ps : List (Int × Int)) (hl : ps.length = n) (hn : n ≤ 1048576) (hp : PtsAt w w.heap.size A ps) :
    Calls Tryz.prog 33 #[.agg #[.slice A n cap]] w (GivesK w (cntL ps)) := by
  obtain ⟨r, hr⟩ : ∃ r, cntL ps = r := ⟨_, rfl⟩
  have HR := Lib.hid hr
  rw [hr]
  clear hr
  have hn0 : ∀ (l c : Nat) (w : World), (binOp .eql 43 (.slice none l c) (.slice none 0 0)).run Tryz.prog w = .ok (.bool true) w := fun _ _ _ => by kernel_rfl
  have hn1 : ∀ (a : Addr) (l c : Nat) (w : World), (binOp .eql 43 (.slice (some a) l c) (.slice none 0 0)).run Tryz.prog w = .ok (.bool false) w := fun _ _ _ _ => by kernel_rfl
  have HE0 : Hid ((colL ps).length = 0 → r = []) := Lib.hid (fun h => by rw [← HR.out]; unfold cntL; rw [if_pos h])
  have HE1 : Hid ((colL ps).length ≠ 0 → cntTo (colL ps) (colL ps).length = r) := Lib.hid (fun h => by rw [← HR.out]; unfold cntL; rw [if_neg h])
  have HC : Hid (∀ k, k < (colL ps).length → ∃ j : Nat, (colL ps).getD k 0 = (j : Int) ∧ j < 3) := Lib.hid (fun k hk => col_in hk)
  have hle : (colL ps).length ≤ 1048576 := Nat.le_trans (colL_le ps) (by omega)
  have QT : Hid (∀ W h, _) := Lib.hid fun W h => ColLand.colorsOf A n cap W ps hl hn h
  unfold GivesK at QT
  generalize colL ps = l at *
  obtain ⟨m, hlm⟩ : ∃ m, l.length = m := ⟨_, rfl⟩
  rw [hlm] at QT HE0 HE1 HC hle
  clear HR
  go_enter Tryz.func33, Tryz.ntmps33
  go_wp2_with fail
  have X0 := Pts.boxR w (.slice A n cap) 30 (k := w.heap.size) (by simp)
  have b0 := PointOk.below1 w (Obj.cells #[.slice A n cap] 30)
  have HO : ∀ W W' : World, (Pts.BoxR W (w.heap.size) (.slice A n cap) ∧ PtsAt W w.heap.size A ps ∧ Below w.heap.size w W) → Below W.heap.size W W' → (Pts.BoxR W' (w.heap.size) (.slice A n cap) ∧ PtsAt W' w.heap.size A ps ∧ Below w.heap.size w W') := fun W W' ⟨h0, x0, hb⟩ h => ⟨h0.later h, x0.later (h.mono hb.size), hb.trans (h.mono hb.size)⟩
  have hz0_ : Hid (((w.alloc (Obj.cells #[.slice A n cap] 30))).heap.size = w.heap.size + 1) := Lib.hid (by simp)
  have Y0 : PtsAt ((w.alloc (Obj.cells #[.slice A n cap] 30))) w.heap.size A ps := hp.later b0
  generalize (w.alloc (Obj.cells #[.slice A n cap] 30)) = w0 at X0 Y0 b0 hz0_ ⊢
  have S0 := (⟨X0, Y0, b0⟩ : Pts.BoxR w0 (w.heap.size) (.slice A n cap) ∧ PtsAt w0 w.heap.size A ps ∧ Below w.heap.size w w0)
  clear X0 Y0 b0
  obtain ⟨⟨_, _⟩, _, _⟩ := id S0
  refine (QT.out _ (S0.2.1.wide S0.2.2.size)).mono ?_
  rintro e w2 ⟨A2, c2, rfl, h4, hnil, hb_⟩
  have hz1 : w.heap.size + 1 ≤ w0.heap.size := World.block_lt_of_cell? _ _ S0.1.1
  replace S0 := HO _ _ S0 hb_
  have T2 := ints_own h4
  have hz2 := Nat.le_trans hz1 hb_.size
  obtain ⟨⟨_, _⟩, _, _⟩ := id S0
  by_cases c0 : m = 0
  · subst c0
    have E : Hid (r = []) := Lib.hid (HE0.out rfl)
    obtain rfl : A2 = none := hnil (List.length_eq_zero_iff.1 hlm)
    have hB := Lib.hid S0.2.2
    clear HE0 HE1 HC hl QT h4 T2 hb_ hnil
    go_wp2_with fail
    go_ret
    exact ⟨none, 0, by rw [E.out]; rfl, by rw [E.out]; exact World.ownsRow_nil _ _ _ _, fun _ => rfl, hB.out⟩
  have HE := Lib.hid (HE1.out c0)
  obtain ⟨g2, cp2, e2, _, _⟩ := h4.form (by omega)
  obtain ⟨ad, rfl⟩ : ∃ ad, A2 = some ad := ⟨⟨g2, 0, none⟩, by injection e2⟩
  have hF : Hid (∀ W, Below w2.heap.size w2 W → IntsAt W w2.heap.size (some ad) l ∧ Below w.heap.size w W) := Lib.hid (fun W hb => ⟨T2.later hb, S0.2.2.trans (hb.mono (by omega))⟩)
  have hnew := Blk.Holds.new w2 #[.int .i64 0, .int .i64 0, .int .i64 0] 3
  have hrow : (w2.alloc (Obj.cells #[.int .i64 0, .int .i64 0, .int .i64 0] 3)).ownsRow w2.heap.size 3 1 (.slice (some ⟨w2.heap.size, 0, none⟩) 3 3) 3 (icells (cntTo l 0)) :=
    ⟨by simp [icells, cntTo], .inr ⟨w2.heap.size, 3, _, rfl, Nat.le_refl _, hnew, Nat.le_refl _, by decide, by simp, by simp [icells, cntTo]⟩⟩
  have hrow := Lib.hid hrow
  have hb5 := below1 w2 (Obj.cells #[.int .i64 0, .int .i64 0, .int .i64 0] 3)
  have hz5 := hb5.size
  have hmk : ∀ w : World, (Instr.makeSlice 43 (.int .i64 3) (.int .i64 3)).run Tryz.prog w = .ok (.slice (some ⟨w.heap.size, 0, none⟩) 3 3) (w.alloc (Obj.cells #[.int .i64 0, .int .i64 0, .int .i64 0] 3)) := fun _ => by kernel_rfl
  clear HE0 HE1 hl QT h4 T2 hb_ hnew S0 hnil e2
  go_wp2_with fail
  generalize w2.alloc (Obj.cells #[.int .i64 0, .int .i64 0, .int .i64 0] 3) = w3 at *
  obtain ⟨g, hg⟩ : ∃ g, g = w2.heap.size := ⟨_, rfl⟩
  rw [← hg] at hrow ⊢
  have hgle : w2.heap.size ≤ g := by omega
  clear hg hmk
  go_loopw [14] (fun q wr => ∃ k : Nat, k ≤ m ∧ q = .int .i64 k ∧ Hid (wr.ownsRow g 3 1 (.slice (some ⟨g, 0, none⟩) 3 3) 3 (icells (cntTo l k))) ∧ w2.heap.size ≤ wr.heap.size ∧ Below w2.heap.size w2 wr)
    (fun q _ => m - (intOf q).toNat)
  case atStart => exact ⟨0, Nat.zero_le _, rfl, hrow, hz5, hb5⟩
  case round =>
    clear hrow hz5 hb5
    obtain ⟨k, hkm, rfl, hown, hsz, hbw⟩ := hrel
    by_cases hlt : k < m
    rotate_left
    · obtain rfl : m = k := by omega
      rw [HE.out] at hown
      have hr3 : Hid (r.length = 3) := Lib.hid (by rw [← HE.out]; exact cntTo_len _ _)
      have hB2 := Lib.hid (hF.out _ hbw).2
      have h6 := Lib.hid (own_base hown.out (show w.heap.size ≤ g by omega))
      clear HE HC hF hown hbw hsz
      go_wp2_with fail
      go_ret
      exact ⟨some ⟨g, 0, none⟩, 3, by rw [hr3.out]; rfl, by rw [hr3.out]; exact h6.out, fun e => (by have := hr3.out; rw [e] at this; simp at this), hB2.out⟩
    obtain ⟨j, hj, hj3⟩ := HC.out k hlt
    have hs : Hid (cntTo l (k + 1) = (cntTo l k).set j ((cntTo l k).getD j 0 + 1)) := Lib.hid (by show (cntTo l k).set (l.getD k 0).toNat ((cntTo l k).getD (l.getD k 0).toNat 0 + 1) = _; rw [hj, Int.toNat_natCast])
    have hin := cntTo_in l k j
    have hcl := cntTo_len l k
    have p0 := getD_at (l := l) (j := k) (by omega)
    rw [hj] at p0
    obtain ⟨ad2, eA, bA, pA⟩ := (hF.out _ hbw).1.get p0
    injection eA with eA
    subst eA
    obtain ⟨_, _⟩ := id pA
    have qj := getD_at (l := cntTo l k) (j := j) (by omega)
    generalize cntTo l k = cc at *
    generalize cc.getD j 0 = v at *
    have d := row_cell hown.out hj3 qj
    have k0 : (0 : Int) ≤ (k : Int) := by omega
    have k1 : (k : Int) < (m : Int) := by omega
    have j0 : (0 : Int) ≤ (j : Int) := by omega
    have j1 : (j : Int) < 3 := by omega
    have uv : IntKind.i64.wrap (v + 1) = v + 1 := IntWalk.i64_in _ (by omega)
    have st := row_set hown.out j (v + 1)
    have st1 := st.1
    rw [← hs.out] at st1
    have st1 := Lib.hid st1
    have hb7 := hbw.grown st.2 hsz (fun k hk => by injection hk with hk; omega)
    have hz7 := Nat.le_trans hsz st.2.size
    obtain ⟨_, _⟩ := d
    clear HE HC hF hs p0 pA st hown hj qj hcl bA hbw
    go_wp2_with fail
    first
      | exact ⟨⟨k + 1, by omega, by go_num, st1, hz7, hb7⟩, by simp [intOf]; omega⟩
      | (go_roundw <;> first | exact ⟨k + 1, by omega, by go_num, st1, hz7, hb7⟩ | (simp [intOf]; omega))
theorem colorCountsI (A : Option Addr) (n cap : Nat) (w : World) (ps : List (Int × Int)) (hl : ps.length = n) (hn : n ≤ 1048576) (hp : PtsAt w w.heap.size A ps) :
    Calls Tryz.prog 33 #[.agg #[.slice A n cap]] w (Go.Proofs.YtkcodmafakjkfaaGreat.Own.GivesI 3 w (cntL ps)) := by
  refine (colorCounts A n cap w ps hl hn hp).mono ?_
  rintro e w' ⟨A1, c1, rfl, h, _, hb⟩
  exact ⟨A1, c1, rfl, h, hb⟩
end Go.Proofs.YtkcodmafakjkfaaGreat.CntImpl

/-
  What the landed RarestColor does, as a contract: what it answers; new memory alone is written.
-/
namespace Go.Proofs.YtkcodmafakjkfaaGreat.RareImpl
open Go.RowKit PointMath WallMath RoomMath Pts Blk AreaMath PlaceMath FloorMath LineMath CutsMath SightMath DiagMath TriMath TrisMath ColMath ColRun CntMath Ints Tup3 TriRow ColLand
open PointOk (ret_bool ret_i64 below1 below2 below3)
open Go.Proofs.YtkcodmafakjkfaaGreat.Own (icells icells_length icells_at icells_snoc own_base own_below own_shape own_cell)

theorem rare_eq (a b c : Int) : (FirstMath.firstI 3 fun k => decide (MinOf.leastTo (fun k => [a, b, c].getD k 0) (3 - 1) = [a, b, c].getD k 0)) = rare3 a b c := by
  have hm : MinOf.leastTo (fun k => [a, b, c].getD k 0) (3 - 1) = min (min a b) c := rfl
  rw [hm]
  unfold rare3
  by_cases h1 : b < a
  · rw [if_pos h1]
    by_cases h2 : c < b
    · rw [if_pos h2]
      refine FirstMath.firstI_at (k := 2) (by omega) (decide_eq_true (show min (min a b) c = c by omega)) (fun j hj => ?_)
      match j, hj with
      | 0, _ => exact decide_eq_false (show ¬ min (min a b) c = a by omega)
      | 1, _ => exact decide_eq_false (show ¬ min (min a b) c = b by omega)
    · rw [if_neg h2, if_pos h1]
      refine FirstMath.firstI_at (k := 1) (by omega) (decide_eq_true (show min (min a b) c = b by omega)) (fun j hj => ?_)
      match j, hj with
      | 0, _ => exact decide_eq_false (show ¬ min (min a b) c = a by omega)
  · rw [if_neg h1]
    by_cases h2 : c < a
    · rw [if_pos h2]
      refine FirstMath.firstI_at (k := 2) (by omega) (decide_eq_true (show min (min a b) c = c by omega)) (fun j hj => ?_)
      match j, hj with
      | 0, _ => exact decide_eq_false (show ¬ min (min a b) c = a by omega)
      | 1, _ => exact decide_eq_false (show ¬ min (min a b) c = b by omega)
    · rw [if_neg h2, if_neg h1]
      refine FirstMath.firstI_at (k := 0) (by omega) (decide_eq_true (show min (min a b) c = a by omega)) (fun j hj => ?_)
      omega

set_option maxRecDepth 100000 in
set_option maxHeartbeats 6400000 in
theorem rarestColor (A : Option Addr) (n cap : Nat) (w : World) (ps : List (Int × Int)) (hl : ps.length = n) (hn : n ≤ 1048576) (hp : PtsAt w w.heap.size A ps) :
    Calls Tryz.prog 35 #[.agg #[.slice A n cap]] w fun e w' => e = .returned (.int .i64 (rareI ps)) ∧ Below w.heap.size w w' := by
  obtain ⟨r, hr⟩ : ∃ r, rareI ps = r := ⟨_, rfl⟩
  have HR := Lib.hid hr
  rw [hr]
  clear hr
  have hn0 : ∀ (l c : Nat) (w : World), (binOp .eql 43 (.slice none l c) (.slice none 0 0)).run Tryz.prog w = .ok (.bool true) w := fun _ _ _ => by kernel_rfl
  have hn1 : ∀ (a : Addr) (l c : Nat) (w : World), (binOp .eql 43 (.slice (some a) l c) (.slice none 0 0)).run Tryz.prog w = .ok (.bool false) w := fun _ _ _ _ => by kernel_rfl
  have HE0 : Hid ((cntL ps).length = 0 → r = -1) := Lib.hid (fun h => by rw [← HR.out]; unfold rareI; rw [if_pos h])
  have HE1 : Hid ((cntL ps).length ≠ 0 → (cntL ps).length = 3 ∧ rare3 ((cntL ps).getD 0 0) ((cntL ps).getD 1 0) ((cntL ps).getD 2 0) = r) := Lib.hid (fun h => ⟨cnt_three h, by rw [← HR.out]; unfold rareI; rw [if_neg h]⟩)
  have QT : Hid (∀ W h, _) := Lib.hid fun W h => CntImpl.colorCounts A n cap W ps hl hn h
  unfold GivesK at QT
  generalize cntL ps = l at *
  obtain ⟨m, hlm⟩ : ∃ m, l.length = m := ⟨_, rfl⟩
  rw [hlm] at QT HE0 HE1
  clear HR
  go_enter Tryz.func35, Tryz.ntmps35
  go_wp2_with fail
  have X0 := Pts.boxR w (.slice A n cap) 30 (k := w.heap.size) (by simp)
  have b0 := PointOk.below1 w (Obj.cells #[.slice A n cap] 30)
  have HO : ∀ W W' : World, (Pts.BoxR W (w.heap.size) (.slice A n cap) ∧ PtsAt W w.heap.size A ps ∧ Below w.heap.size w W) → Below W.heap.size W W' → (Pts.BoxR W' (w.heap.size) (.slice A n cap) ∧ PtsAt W' w.heap.size A ps ∧ Below w.heap.size w W') := fun W W' ⟨h0, x0, hb⟩ h => ⟨h0.later h, x0.later (h.mono hb.size), hb.trans (h.mono hb.size)⟩
  have hz0_ : Hid (((w.alloc (Obj.cells #[.slice A n cap] 30))).heap.size = w.heap.size + 1) := Lib.hid (by simp)
  have Y0 : PtsAt ((w.alloc (Obj.cells #[.slice A n cap] 30))) w.heap.size A ps := hp.later b0
  generalize (w.alloc (Obj.cells #[.slice A n cap] 30)) = w0 at X0 Y0 b0 hz0_ ⊢
  have S0 := (⟨X0, Y0, b0⟩ : Pts.BoxR w0 (w.heap.size) (.slice A n cap) ∧ PtsAt w0 w.heap.size A ps ∧ Below w.heap.size w w0)
  clear X0 Y0 b0
  obtain ⟨⟨_, _⟩, _, _⟩ := id S0
  refine (QT.out _ (S0.2.1.wide S0.2.2.size)).mono ?_
  rintro e w2 ⟨A2, c2, rfl, h4, hnil, hb_⟩
  replace S0 := HO _ _ S0 hb_
  clear hb_ QT
  obtain ⟨⟨_, _⟩, _, _⟩ := id S0
  have T2 := CntImpl.ints_own h4
  by_cases c0 : m = 0
  · subst c0
    have E : Hid (r = -1) := Lib.hid (HE0.out rfl)
    obtain rfl : A2 = none := hnil (List.length_eq_zero_iff.1 hlm)
    have hB := Lib.hid S0.2.2
    clear HE0 HE1 hl h4 T2 hnil
    go_wp2_with fail
    go_ret
    exact ⟨ret_i64 E.out.symm, hB.out⟩
  obtain ⟨h3, hr3⟩ := HE1.out c0
  subst h3
  obtain ⟨a, b, c, rfl⟩ : ∃ a b c, l = [a, b, c] := (match l, hlm with | [a, b, c], _ => ⟨a, b, c, rfl⟩)
  have HE : Hid (rare3 a b c = r) := Lib.hid hr3
  obtain ⟨ad, rfl⟩ : ∃ ad, A2 = some ad := by
    obtain ⟨g, e, _⟩ := own_cell h4 (j := 0) (by omega) (x := .int .i64 a) rfl
    exact ⟨_, e⟩
  have QM := Lib.hid (MinOf.minOf (some ad) 3 c2 w2 [a, b, c] rfl (by omega) (by omega) T2)
  have QI : Hid (∀ z W h, _) := Lib.hid fun z W h => IntSl.index (some ad) 3 c2 z W [a, b, c] rfl (by omega) h
  have HX := Lib.hid (rare_eq a b c)
  clear HE0 HE1 hr3 h4 hl hlm hnil
  generalize MinOf.leastTo (fun k => [a, b, c].getD k 0) (3 - 1) = mn at *
  go_wp2_with fail
  refine QM.out.mono ?_
  rintro e w3 ⟨rfl, hb_⟩
  have T3 := (T2.later hb_).wide hb_.size
  replace S0 := HO _ _ S0 hb_
  clear hb_ QM T2
  go_wp2_with fail
  refine (QI.out mn w3 T3).mono ?_
  rintro e w4 ⟨rfl, hb_⟩
  replace S0 := HO _ _ S0 hb_
  clear hb_ QI T3
  have E : Hid ((FirstMath.firstI 3 fun k => decide (mn = [a, b, c].getD k 0)) = r) := Lib.hid (by rw [HX.out, HE.out])
  generalize (FirstMath.firstI 3 fun k => decide (mn = [a, b, c].getD k 0)) = fi at *
  clear HX HE
  go_wp2_with fail
  go_ret
  exact ⟨ret_i64 E.out, S0.2.2⟩
end Go.Proofs.YtkcodmafakjkfaaGreat.RareImpl

/-
  What the landed ColorGuards does, as a contract: the corners of the rarest color, in new memory.
-/
namespace Go.Proofs.YtkcodmafakjkfaaGreat.CgdImpl
open Go.RowKit PointMath WallMath RoomMath Pts Blk AreaMath PlaceMath FloorMath LineMath CutsMath SightMath DiagMath TriMath TrisMath ColMath ColRun CntMath CgdMath Ints Tup3 TriRow ColLand
open PointOk (ret_bool ret_i64 below1 below2 below3)
open RoomRes (grown_set)
open Go.Proofs.YtkcodmafakjkfaaGreat.Own (icells icells_length icells_at icells_snoc own_base own_below own_shape own_cell kept_ne)

/-- An own row of another type is another block. -/
theorem own_ne {W : World} {b e sz n kb : Nat} {v : Value} {xs : List Value} {cs : Array Value} {T : TypeId} (h : W.ownsRow b e sz v n xs) (hH : Holds W kb cs T) (hT : e ≠ T) : ∀ g, v.ownBlock = some g → g ≠ kb := by
  intro g hg hk
  subst hk
  rcases h.2 with ⟨rfl, _⟩ | ⟨g', cap', cur, rfl, _, hb, _⟩
  · cases hg
  · have e1 : g' = g := Option.some.inj hg
    subst e1
    have h2 := hb.symm.trans hH
    injection h2 with h2
    injection h2 with _ h3
    exact hT h3

set_option maxRecDepth 100000 in
set_option maxHeartbeats 1600000 in
theorem asks (B : Option Addr) (m cb C1 C2 : Nat) (rr : Int) (k : Nat) (w : World) (qs : List Int) (hl : qs.length = m) (_hm : m ≤ 1048576) (hk : k < m) (h1 : Holds w C1 #[.slice B m cb] 43) (h2 : Holds w C2 #[.int .i64 rr] 3) (hq : IntsAt w w.heap.size B qs) :
    Calls Tryz.prog 80 (#[.int .i64 (k : Int)] ++ #[.pointer (some ⟨C1, 0, none⟩), .pointer (some ⟨C2, 0, none⟩)]) w fun e w' => e = .returned (.bool (decide (qs.getD k 0 = rr))) ∧ Below w.heap.size w w' := by
  show Calls Tryz.prog 80 #[.int .i64 (k : Int), .pointer (some ⟨C1, 0, none⟩), .pointer (some ⟨C2, 0, none⟩)] w _
  obtain ⟨r, hr⟩ : ∃ r, decide (qs.getD k 0 = rr) = r := ⟨_, rfl⟩
  have HR := Lib.hid hr
  rw [hr]
  clear hr
  have p0 := getD_at (l := qs) (j := k) (by omega)
  have HE : Hid (r = decide (qs.getD k 0 = rr)) := Lib.hid HR.out.symm
  generalize qs.getD k 0 = x at *
  obtain ⟨ad, rfl, bA, pA⟩ := hq.get p0
  have k0 : (0 : Int) ≤ (k : Int) := by omega
  have k1 : (k : Int) < (m : Int) := by omega
  obtain ⟨c1, _⟩ := h1.one
  obtain ⟨c2, _⟩ := h2.one
  have l1 := h1.lt
  have l2 := h2.lt
  clear p0 HR
  go_enter Tryz.func80, Tryz.ntmps80
  have HO : ∀ W W' : World, ((W.cell? ⟨C1, 0, none⟩ = some (.slice (some ad) m cb) ∧ C1 < W.heap.size) ∧ (W.cell? ⟨C2, 0, none⟩ = some (.int .i64 rr) ∧ C2 < W.heap.size) ∧ IntAt W ad k x ∧ Below w.heap.size w W) → Below W.heap.size W W' → ((W'.cell? ⟨C1, 0, none⟩ = some (.slice (some ad) m cb) ∧ C1 < W'.heap.size) ∧ (W'.cell? ⟨C2, 0, none⟩ = some (.int .i64 rr) ∧ C2 < W'.heap.size) ∧ IntAt W' ad k x ∧ Below w.heap.size w W') := fun W W' ⟨x0, x1, x2, hb⟩ h => ⟨⟨(h.cell x0.2).trans x0.1, Nat.lt_of_lt_of_le x0.2 h.size⟩, ⟨(h.cell x1.2).trans x1.1, Nat.lt_of_lt_of_le x1.2 h.size⟩, x2.later bA (h.mono hb.size), hb.trans (h.mono hb.size)⟩
  have S0 : (w.cell? ⟨C1, 0, none⟩ = some (.slice (some ad) m cb) ∧ C1 < w.heap.size) ∧ (w.cell? ⟨C2, 0, none⟩ = some (.int .i64 rr) ∧ C2 < w.heap.size) ∧ IntAt w ad k x ∧ Below w.heap.size w w := ⟨⟨c1, l1⟩, ⟨c2, l2⟩, pA, Below.refl _ _⟩
  clear h1 h2 hq c1 c2 l1 l2 pA
  obtain ⟨⟨_, _⟩, ⟨_, _⟩, ⟨_, _⟩, _⟩ := id S0
  by_cases e : x = rr
  · have g1 : (x == rr) = true := by simpa using e
    have E : Hid (r = true) := Lib.hid (by rw [HE.out, decide_eq_true e])
    clear HE e
    go_wp2_with fail
    refine Settle.region (fun W => (W.cell? ⟨C1, 0, none⟩ = some (.slice (some ad) m cb) ∧ C1 < W.heap.size) ∧ (W.cell? ⟨C2, 0, none⟩ = some (.int .i64 rr) ∧ C2 < W.heap.size) ∧ IntAt W ad k x ∧ Below w.heap.size w W) (by kernel_rfl) (by kernel_rfl) (by kernel_rfl) (by kernel_rfl) (HO _ _ S0 ((Below.refl _ _).drew)) ?_
    clear S0
    repeat (first
      | (refine Settle.Settles.off (by rfl) ?_; simp only [Act.put, List.setIfInBounds_toArray, List.set_cons_zero, List.set_cons_succ])
      | (refine Settle.Settles.quiet (v := ?_) (by rfl) ?_ ?_
         rotate_left
         · (intro W hS; obtain ⟨⟨_, _⟩, ⟨_, _⟩, ⟨_, _⟩, _⟩ := hS; go_simp; with_reducible rfl)
         simp only [Act.put, List.setIfInBounds_toArray, List.set_cons_zero, List.set_cons_succ])
      | (refine Settle.Settles.call (v := ?_) (f := ?_) (args := ?_) (by rfl) ?_ ?_ ?_
         rotate_left 3
         · (intro W; go_simp; refine ⟨?_, ?_⟩ <;> with_reducible rfl)
         · (intro W hS; fail)
         simp only [Act.put, List.setIfInBounds_toArray, List.set_cons_zero, List.set_cons_succ]))
    refine Settle.Settles.nil ?_
    intro wr S0
    obtain ⟨⟨_, _⟩, ⟨_, _⟩, ⟨_, _⟩, _⟩ := id S0
    go_wp2_with fail
    go_ret
    exact ⟨ret_bool E.out.symm, S0.2.2.2⟩
  · have g1 : (x == rr) = false := by simpa using e
    have E : Hid (r = false) := Lib.hid (by rw [HE.out, decide_eq_false e])
    clear HE e
    go_wp2_with fail
    refine Settle.region (fun W => (W.cell? ⟨C1, 0, none⟩ = some (.slice (some ad) m cb) ∧ C1 < W.heap.size) ∧ (W.cell? ⟨C2, 0, none⟩ = some (.int .i64 rr) ∧ C2 < W.heap.size) ∧ IntAt W ad k x ∧ Below w.heap.size w W) (by kernel_rfl) (by kernel_rfl) (by kernel_rfl) (by kernel_rfl) (HO _ _ S0 ((Below.refl _ _).drew)) ?_
    clear S0
    repeat (first
      | (refine Settle.Settles.off (by rfl) ?_; simp only [Act.put, List.setIfInBounds_toArray, List.set_cons_zero, List.set_cons_succ])
      | (refine Settle.Settles.quiet (v := ?_) (by rfl) ?_ ?_
         rotate_left
         · (intro W hS; obtain ⟨⟨_, _⟩, ⟨_, _⟩, ⟨_, _⟩, _⟩ := hS; go_simp; with_reducible rfl)
         simp only [Act.put, List.setIfInBounds_toArray, List.set_cons_zero, List.set_cons_succ])
      | (refine Settle.Settles.call (v := ?_) (f := ?_) (args := ?_) (by rfl) ?_ ?_ ?_
         rotate_left 3
         · (intro W; go_simp; refine ⟨?_, ?_⟩ <;> with_reducible rfl)
         · (intro W hS; fail)
         simp only [Act.put, List.setIfInBounds_toArray, List.set_cons_zero, List.set_cons_succ]))
    refine Settle.Settles.nil ?_
    intro wr S0
    obtain ⟨⟨_, _⟩, ⟨_, _⟩, ⟨_, _⟩, _⟩ := id S0
    go_wp2_with fail
    go_ret
    exact ⟨ret_bool E.out.symm, S0.2.2.2⟩

set_option maxRecDepth 100000 in
set_option maxHeartbeats 12800000 in
theorem colorGuards (A : Option Addr) (n cap : Nat) (w : World) (ps : List (Int × Int)) (hl : ps.length = n) (hn : n ≤ 1048576) (hp : PtsAt w w.heap.size A ps) :
    Calls Tryz.prog 40 #[.agg #[.slice A n cap]] w (Go.Proofs.YtkcodmafakjkfaaGreat.Own.GivesI 3 w (cgdL ps)) := by
  obtain ⟨r, hr⟩ : ∃ r, cgdL ps = r := ⟨_, rfl⟩
  have HR := Lib.hid hr
  rw [hr]
  clear hr
  have hn0 : ∀ (l c : Nat) (w : World), (binOp .eql 43 (.slice none l c) (.slice none 0 0)).run Tryz.prog w = .ok (.bool true) w := fun _ _ _ => by kernel_rfl
  have hn1 : ∀ (a : Addr) (l c : Nat) (w : World), (binOp .eql 43 (.slice (some a) l c) (.slice none 0 0)).run Tryz.prog w = .ok (.bool false) w := fun _ _ _ _ => by kernel_rfl
  have HE : Hid (thatTo (fun k => decide ((colL ps).getD k 0 = rareI ps)) (colL ps).length = r) := Lib.hid HR.out
  have HL : Hid ((colL ps).length ≠ 0 → (colL ps).length = n) := Lib.hid (fun h => by rw [← hl]; exact col_full h)
  have hle : (colL ps).length ≤ 1048576 := Nat.le_trans (colL_le ps) (by omega)
  have QC : Hid (∀ W h, _) := Lib.hid fun W h => ColLand.colorsOf A n cap W ps hl hn h
  have QR : Hid (∀ W h, _) := Lib.hid fun W h => RareImpl.rarestColor A n cap W ps hl hn h
  unfold GivesK at QC
  generalize colL ps = l at *
  generalize rareI ps = rr at *
  obtain ⟨m, hlm⟩ : ∃ m, l.length = m := ⟨_, rfl⟩
  rw [hlm] at QC HE HL hle
  clear HR
  go_enter Tryz.func40, Tryz.ntmps40
  go_wp2_with fail
  have X0 := Pts.boxR w (.slice A n cap) 30 (k := w.heap.size) (by simp)
  have b0 := PointOk.below1 w (Obj.cells #[.slice A n cap] 30)
  have HO : ∀ W W' : World, (Pts.BoxR W (w.heap.size) (.slice A n cap) ∧ PtsAt W w.heap.size A ps ∧ Below w.heap.size w W) → Below W.heap.size W W' → (Pts.BoxR W' (w.heap.size) (.slice A n cap) ∧ PtsAt W' w.heap.size A ps ∧ Below w.heap.size w W') := fun W W' ⟨h0, x0, hb⟩ h => ⟨h0.later h, x0.later (h.mono hb.size), hb.trans (h.mono hb.size)⟩
  have hz0_ : Hid (((w.alloc (Obj.cells #[.slice A n cap] 30))).heap.size = w.heap.size + 1) := Lib.hid (by simp)
  have Y0 : PtsAt ((w.alloc (Obj.cells #[.slice A n cap] 30))) w.heap.size A ps := hp.later b0
  generalize (w.alloc (Obj.cells #[.slice A n cap] 30)) = w0 at X0 Y0 b0 hz0_ ⊢
  have S0 := (⟨X0, Y0, b0⟩ : Pts.BoxR w0 (w.heap.size) (.slice A n cap) ∧ PtsAt w0 w.heap.size A ps ∧ Below w.heap.size w w0)
  clear X0 Y0 b0
  obtain ⟨⟨_, _⟩, _, _⟩ := id S0
  have hF : Hid (∀ W, Below w0.heap.size w0 W → (BoxR W w.heap.size (.slice A n cap) ∧ PtsAt W w.heap.size A ps ∧ Below w.heap.size w W)) := Lib.hid (fun W hb => HO _ _ S0 hb)
  have hz1 : w.heap.size + 1 ≤ w0.heap.size := World.block_lt_of_cell? _ _ S0.1.1
  clear S0
  refine Code.wp_mono (Q := fun e a' w' => ∃ (A1 : Option Addr) (c1 k4 k5 : Nat), e = .normal ∧ a' = ⟨#[.agg #[.slice A n cap], .pointer (some ⟨w.heap.size, 0, none⟩), .slice none 0 0, .pointer (some ⟨k4, 0, none⟩), .pointer (some ⟨k5, 0, none⟩), .agg #[.slice A n cap], .slice A1 m c1, .agg #[.slice A n cap], .int .i64 rr, undef, undef, undef, undef, undef], []⟩ ∧ w'.ownsRow w0.heap.size 3 1 (.slice A1 m c1) m (icells l) ∧ (l = [] → A1 = none) ∧ Holds w' k4 #[.slice A1 m c1] 43 ∧ Holds w' k5 #[.int .i64 rr] 3 ∧ w0.heap.size ≤ k4 ∧ w0.heap.size ≤ k5 ∧ Below w0.heap.size w0 w') ?_ ?_
  rotate_left
  · skip
    have HB : Below w0.drew.heap.size w0.drew w0.drew := Below.refl _ _
    have hd_ : Below w0.heap.size w0 w0.drew := (Below.refl _ _).drew
    have hdz_ : Hid (w0.drew.heap.size = w0.heap.size) := Lib.hid rfl
    have HS : Hid (∀ W, Below w0.drew.heap.size w0.drew W → (W.cell? ⟨w.heap.size, 0, none⟩ = some (.slice A n cap))) := Lib.hid (fun W hb => (hF.out W (hd_.trans (by rw [hdz_.out] at hb; exact hb))).1.1)
    have HP : Hid (∀ W, Below w0.drew.heap.size w0.drew W → PtsAt W W.heap.size A ps) := Lib.hid (fun W hb => by have h := hF.out W (hd_.trans (by rw [hdz_.out] at hb; exact hb)); exact h.2.1.wide h.2.2.size)
    have HS1_ := HS.out _ HB
    clear HE HL hF HO
    refine wp_region_held_drew (S := fun W => W.cell? ⟨w.heap.size, 0, none⟩ = some (.slice A n cap)) (by kernel_rfl) HS1_ (fun hHeld => ?_)
    clear HS1_
    generalize w0.drew = v0 at *
    refine wpAnyH_take (i := 0) (oi := ⟨some 5, _, _, _, _, _⟩) (v := ?_) rfl (by kernel_rfl) (by kernel_rfl) (by kernel_rfl) (by rintro _ _ _ ⟨_, _, _, _, h, _⟩; cases h) (Or.inl ⟨by rfl, ?_⟩) (by assumption) ?_
    rotate_left 1
    · (intro w hSw; (try dsimp only at hSw); go_simp; try with_reducible rfl)
    try simp only [Act.put, List.setIfInBounds_toArray, List.set_cons_zero, List.set_cons_succ]
    refine wpAnyH_take (i := 2) (oi := ⟨some 7, _, _, _, _, _⟩) (v := ?_) rfl (by kernel_rfl) (by kernel_rfl) (by kernel_rfl) (by rintro _ _ _ ⟨_, _, _, _, h, _⟩; cases h) (Or.inl ⟨by rfl, ?_⟩) (by assumption) ?_
    rotate_left 1
    · (intro w hSw; (try dsimp only at hSw); go_simp; try with_reducible rfl)
    try simp only [Act.put, List.setIfInBounds_toArray, List.set_cons_zero, List.set_cons_succ]
    refine wpAnyH_ready (rs := [1, 4, 5]) (by kernel_rfl) (by simp) ?_
    refine AllReadyH.cons (o := ⟨some 6, _, _, _, _, _⟩) rfl (fun K hK => ?_) ?_
    · skip
      have hsz_ := HB.size
      go_simp
      go_at_call 28
      refine (QC.out _ (HP.out _ HB)).mono ?_
      rintro e v1_1 ⟨A1, c1, rfl, O1, hnil, hb_⟩
      replace O1 := own_base O1 hsz_
      replace HB := HB.trans (hb_.mono hsz_)
      clear hb_ hsz_
      refine hK.out _ _ (HS.out _ HB) (fun hHeld => ?_)
      clear hK K
      try simp only [Act.put, List.setIfInBounds_toArray, List.set_cons_zero, List.set_cons_succ]
      refine wpAnyH_ready (rs := [3, 4, 5]) (by kernel_rfl) (by simp) ?_
      refine AllReadyH.cons (o := ⟨some 8, _, _, _, _, _⟩) rfl (fun K hK => ?_) ?_
      · skip
        have hsz_ := HB.size
        go_simp
        go_at_call 35
        refine (QR.out _ (HP.out _ HB)).mono ?_
        rintro e v2_3 ⟨rfl, hb_⟩
        replace O1 := own_below O1 hb_
        replace HB := HB.trans (hb_.mono hsz_)
        clear hb_ hsz_
        refine hK.out _ _ (HS.out _ HB) (fun hHeld => ?_)
        clear hK K
        try simp only [Act.put, List.setIfInBounds_toArray, List.set_cons_zero, List.set_cons_succ]
        refine wpAnyH_ready (rs := [4, 5]) (by kernel_rfl) (by simp) ?_
        refine AllReadyH.cons (o := ⟨some 3, _, _, _, _, _⟩) rfl (fun K hK => ?_) ?_
        · skip
          have hsz_ := HB.size
          obtain ⟨k4, hk4⟩ : ∃ b, b = v2_3.heap.size := ⟨_, rfl⟩
          have lo4 : v0.heap.size ≤ k4 := by omega
          have H4 := Blk.Holds.box v2_3 #[.slice none 0 0] 43 hk4
          have hb_ := below1 v2_3 (Obj.cells #[.slice none 0 0] 43)
          replace O1 := own_below O1 hb_
          replace HB := HB.trans (hb_.mono hsz_)
          go_simp
          try rw [← hk4]
          generalize v2_3.alloc (Obj.cells #[.slice none 0 0] 43) = v3_4 at *
          clear hb_ hk4 hsz_
          refine hK.out _ _ (HS.out _ HB) (fun hHeld => ?_)
          clear hK K
          try simp only [Act.put, List.setIfInBounds_toArray, List.set_cons_zero, List.set_cons_succ]
          refine wpAnyH_ready (rs := [5]) (by kernel_rfl) (by simp) ?_
          refine AllReadyH.cons (o := ⟨some 4, _, _, _, _, _⟩) rfl (fun K hK => ?_) ?_
          rotate_left 1
          · exact AllReadyH.nil
          have hsz_ := HB.size
          obtain ⟨k5, hk5⟩ : ∃ b, b = v3_4.heap.size := ⟨_, rfl⟩
          have lo5 : v0.heap.size ≤ k5 := by omega
          have H5 := Blk.Holds.box v3_4 #[.int .i64 0] 3 hk5
          have n15 : ∀ g, (Value.slice A1 m c1).ownBlock = some g → g ≠ k5 := fun g hg => by have := (O1.lt g hg).2; omega
          have n45 : k4 ≠ k5 := by have := H4.lt; omega
          have hb_ := below1 v3_4 (Obj.cells #[.int .i64 0] 3)
          replace O1 := own_below O1 hb_
          replace H4 := H4.later hb_
          replace HB := HB.trans (hb_.mono hsz_)
          go_simp
          try rw [← hk5]
          generalize v3_4.alloc (Obj.cells #[.int .i64 0] 3) = v4_5 at *
          clear hb_ hk5 hsz_
          refine hK.out _ _ (HS.out _ HB) (fun hHeld => ?_)
          clear hK K
          try simp only [Act.put, List.setIfInBounds_toArray, List.set_cons_zero, List.set_cons_succ]
          refine wpAnyH_ready (rs := [6]) (by kernel_rfl) (by simp) ?_
          refine AllReadyH.cons (o := ⟨none, _, _, _, _, _⟩) rfl (fun K hK => ?_) ?_
          rotate_left 1
          · exact AllReadyH.nil
          have hsz_ := HB.size
          obtain ⟨_, _⟩ := H4.one
          have hg_ := grown_set v4_5 k4 0 (.slice A1 m c1)
          have n14 : ∀ g, (Value.slice A1 m c1).ownBlock = some g → g ≠ k4 := fun g hg => own_ne O1 H4 (by decide) g hg
          replace O1 := kept_ne O1 hg_ n14
          replace H4 : Holds (v4_5.setCell ⟨k4, 0, none⟩ (.slice A1 m c1)) k4 #[(.slice A1 m c1)] 43 := Blk.set_own H4 0 (.slice A1 m c1)
          replace H5 := H5.far ⟨k4, 0, none⟩ (.slice A1 m c1) (fun e => n45 e.symm)
          replace HB := HB.grown hg_ hsz_ (fun k hk => by injection hk with hk; omega)
          go_simp
          generalize v4_5.setCell ⟨k4, 0, none⟩ (.slice A1 m c1) = v5_6 at *
          clear hg_ hsz_
          refine hK.out _ _ (HS.out _ HB) (fun hHeld => ?_)
          clear hK K
          try simp only [Act.put]
          refine wpAnyH_ready (rs := [7]) (by kernel_rfl) (by simp) ?_
          refine AllReadyH.cons (o := ⟨none, _, _, _, _, _⟩) rfl (fun K hK => ?_) ?_
          rotate_left 1
          · exact AllReadyH.nil
          have hsz_ := HB.size
          obtain ⟨_, _⟩ := H5.one
          have hg_ := grown_set v5_6 k5 0 (.int .i64 rr)
          replace O1 := kept_ne O1 hg_ n15
          replace H5 : Holds (v5_6.setCell ⟨k5, 0, none⟩ (.int .i64 rr)) k5 #[(.int .i64 rr)] 3 := Blk.set_own H5 0 (.int .i64 rr)
          replace H4 := H4.far ⟨k5, 0, none⟩ (.int .i64 rr) n45
          replace HB := HB.grown hg_ hsz_ (fun k hk => by injection hk with hk; omega)
          go_simp
          generalize v5_6.setCell ⟨k5, 0, none⟩ (.int .i64 rr) = v6_7 at *
          clear hg_ hsz_
          refine hK.out _ _ (HS.out _ HB) (fun hHeld => ?_)
          clear hK K
          try simp only [Act.put]
          refine wpAnyH_done (by kernel_rfl) ?_ _
          exact ⟨A1, c1, k4, k5, rfl, rfl, own_base O1 (Nat.le_of_eq hdz_.out.symm), hnil, H4, H5, by rw [← hdz_.out]; exact lo4, by rw [← hdz_.out]; exact lo5, hd_.trans (by rw [← hdz_.out]; exact HB)⟩
        refine AllReadyH.cons (o := ⟨some 4, _, _, _, _, _⟩) rfl (fun K hK => ?_) ?_
        · skip
          have hsz_ := HB.size
          obtain ⟨k5, hk5⟩ : ∃ b, b = v2_3.heap.size := ⟨_, rfl⟩
          have lo5 : v0.heap.size ≤ k5 := by omega
          have H5 := Blk.Holds.box v2_3 #[.int .i64 0] 3 hk5
          have n15 : ∀ g, (Value.slice A1 m c1).ownBlock = some g → g ≠ k5 := fun g hg => by have := (O1.lt g hg).2; omega
          have hb_ := below1 v2_3 (Obj.cells #[.int .i64 0] 3)
          replace O1 := own_below O1 hb_
          replace HB := HB.trans (hb_.mono hsz_)
          go_simp
          try rw [← hk5]
          generalize v2_3.alloc (Obj.cells #[.int .i64 0] 3) = v3_5 at *
          clear hb_ hk5 hsz_
          refine hK.out _ _ (HS.out _ HB) (fun hHeld => ?_)
          clear hK K
          try simp only [Act.put, List.setIfInBounds_toArray, List.set_cons_zero, List.set_cons_succ]
          refine wpAnyH_ready (rs := [4]) (by kernel_rfl) (by simp) ?_
          refine AllReadyH.cons (o := ⟨some 3, _, _, _, _, _⟩) rfl (fun K hK => ?_) ?_
          rotate_left 1
          · exact AllReadyH.nil
          have hsz_ := HB.size
          obtain ⟨k4, hk4⟩ : ∃ b, b = v3_5.heap.size := ⟨_, rfl⟩
          have lo4 : v0.heap.size ≤ k4 := by omega
          have H4 := Blk.Holds.box v3_5 #[.slice none 0 0] 43 hk4
          have n45 : k4 ≠ k5 := by have := H5.lt; omega
          have hb_ := below1 v3_5 (Obj.cells #[.slice none 0 0] 43)
          replace O1 := own_below O1 hb_
          replace H5 := H5.later hb_
          replace HB := HB.trans (hb_.mono hsz_)
          go_simp
          try rw [← hk4]
          generalize v3_5.alloc (Obj.cells #[.slice none 0 0] 43) = v4_4 at *
          clear hb_ hk4 hsz_
          refine hK.out _ _ (HS.out _ HB) (fun hHeld => ?_)
          clear hK K
          try simp only [Act.put, List.setIfInBounds_toArray, List.set_cons_zero, List.set_cons_succ]
          refine wpAnyH_ready (rs := [6]) (by kernel_rfl) (by simp) ?_
          refine AllReadyH.cons (o := ⟨none, _, _, _, _, _⟩) rfl (fun K hK => ?_) ?_
          rotate_left 1
          · exact AllReadyH.nil
          have hsz_ := HB.size
          obtain ⟨_, _⟩ := H4.one
          have hg_ := grown_set v4_4 k4 0 (.slice A1 m c1)
          have n14 : ∀ g, (Value.slice A1 m c1).ownBlock = some g → g ≠ k4 := fun g hg => own_ne O1 H4 (by decide) g hg
          replace O1 := kept_ne O1 hg_ n14
          replace H4 : Holds (v4_4.setCell ⟨k4, 0, none⟩ (.slice A1 m c1)) k4 #[(.slice A1 m c1)] 43 := Blk.set_own H4 0 (.slice A1 m c1)
          replace H5 := H5.far ⟨k4, 0, none⟩ (.slice A1 m c1) (fun e => n45 e.symm)
          replace HB := HB.grown hg_ hsz_ (fun k hk => by injection hk with hk; omega)
          go_simp
          generalize v4_4.setCell ⟨k4, 0, none⟩ (.slice A1 m c1) = v5_6 at *
          clear hg_ hsz_
          refine hK.out _ _ (HS.out _ HB) (fun hHeld => ?_)
          clear hK K
          try simp only [Act.put]
          refine wpAnyH_ready (rs := [7]) (by kernel_rfl) (by simp) ?_
          refine AllReadyH.cons (o := ⟨none, _, _, _, _, _⟩) rfl (fun K hK => ?_) ?_
          rotate_left 1
          · exact AllReadyH.nil
          have hsz_ := HB.size
          obtain ⟨_, _⟩ := H5.one
          have hg_ := grown_set v5_6 k5 0 (.int .i64 rr)
          replace O1 := kept_ne O1 hg_ n15
          replace H5 : Holds (v5_6.setCell ⟨k5, 0, none⟩ (.int .i64 rr)) k5 #[(.int .i64 rr)] 3 := Blk.set_own H5 0 (.int .i64 rr)
          replace H4 := H4.far ⟨k5, 0, none⟩ (.int .i64 rr) n45
          replace HB := HB.grown hg_ hsz_ (fun k hk => by injection hk with hk; omega)
          go_simp
          generalize v5_6.setCell ⟨k5, 0, none⟩ (.int .i64 rr) = v6_7 at *
          clear hg_ hsz_
          refine hK.out _ _ (HS.out _ HB) (fun hHeld => ?_)
          clear hK K
          try simp only [Act.put]
          refine wpAnyH_done (by kernel_rfl) ?_ _
          exact ⟨A1, c1, k4, k5, rfl, rfl, own_base O1 (Nat.le_of_eq hdz_.out.symm), hnil, H4, H5, by rw [← hdz_.out]; exact lo4, by rw [← hdz_.out]; exact lo5, hd_.trans (by rw [← hdz_.out]; exact HB)⟩
        exact AllReadyH.nil
      refine AllReadyH.cons (o := ⟨some 3, _, _, _, _, _⟩) rfl (fun K hK => ?_) ?_
      · skip
        have hsz_ := HB.size
        obtain ⟨k4, hk4⟩ : ∃ b, b = v1_1.heap.size := ⟨_, rfl⟩
        have lo4 : v0.heap.size ≤ k4 := by omega
        have H4 := Blk.Holds.box v1_1 #[.slice none 0 0] 43 hk4
        have hb_ := below1 v1_1 (Obj.cells #[.slice none 0 0] 43)
        replace O1 := own_below O1 hb_
        replace HB := HB.trans (hb_.mono hsz_)
        go_simp
        try rw [← hk4]
        generalize v1_1.alloc (Obj.cells #[.slice none 0 0] 43) = v2_4 at *
        clear hb_ hk4 hsz_
        refine hK.out _ _ (HS.out _ HB) (fun hHeld => ?_)
        clear hK K
        try simp only [Act.put, List.setIfInBounds_toArray, List.set_cons_zero, List.set_cons_succ]
        refine wpAnyH_ready (rs := [3, 5]) (by kernel_rfl) (by simp) ?_
        refine AllReadyH.cons (o := ⟨some 8, _, _, _, _, _⟩) rfl (fun K hK => ?_) ?_
        · skip
          have hsz_ := HB.size
          go_simp
          go_at_call 35
          refine (QR.out _ (HP.out _ HB)).mono ?_
          rintro e v3_3 ⟨rfl, hb_⟩
          replace O1 := own_below O1 hb_
          replace H4 := H4.later hb_
          replace HB := HB.trans (hb_.mono hsz_)
          clear hb_ hsz_
          refine hK.out _ _ (HS.out _ HB) (fun hHeld => ?_)
          clear hK K
          try simp only [Act.put, List.setIfInBounds_toArray, List.set_cons_zero, List.set_cons_succ]
          refine wpAnyH_ready (rs := [5]) (by kernel_rfl) (by simp) ?_
          refine AllReadyH.cons (o := ⟨some 4, _, _, _, _, _⟩) rfl (fun K hK => ?_) ?_
          rotate_left 1
          · exact AllReadyH.nil
          have hsz_ := HB.size
          obtain ⟨k5, hk5⟩ : ∃ b, b = v3_3.heap.size := ⟨_, rfl⟩
          have lo5 : v0.heap.size ≤ k5 := by omega
          have H5 := Blk.Holds.box v3_3 #[.int .i64 0] 3 hk5
          have n15 : ∀ g, (Value.slice A1 m c1).ownBlock = some g → g ≠ k5 := fun g hg => by have := (O1.lt g hg).2; omega
          have n45 : k4 ≠ k5 := by have := H4.lt; omega
          have hb_ := below1 v3_3 (Obj.cells #[.int .i64 0] 3)
          replace O1 := own_below O1 hb_
          replace H4 := H4.later hb_
          replace HB := HB.trans (hb_.mono hsz_)
          go_simp
          try rw [← hk5]
          generalize v3_3.alloc (Obj.cells #[.int .i64 0] 3) = v4_5 at *
          clear hb_ hk5 hsz_
          refine hK.out _ _ (HS.out _ HB) (fun hHeld => ?_)
          clear hK K
          try simp only [Act.put, List.setIfInBounds_toArray, List.set_cons_zero, List.set_cons_succ]
          refine wpAnyH_ready (rs := [6]) (by kernel_rfl) (by simp) ?_
          refine AllReadyH.cons (o := ⟨none, _, _, _, _, _⟩) rfl (fun K hK => ?_) ?_
          rotate_left 1
          · exact AllReadyH.nil
          have hsz_ := HB.size
          obtain ⟨_, _⟩ := H4.one
          have hg_ := grown_set v4_5 k4 0 (.slice A1 m c1)
          have n14 : ∀ g, (Value.slice A1 m c1).ownBlock = some g → g ≠ k4 := fun g hg => own_ne O1 H4 (by decide) g hg
          replace O1 := kept_ne O1 hg_ n14
          replace H4 : Holds (v4_5.setCell ⟨k4, 0, none⟩ (.slice A1 m c1)) k4 #[(.slice A1 m c1)] 43 := Blk.set_own H4 0 (.slice A1 m c1)
          replace H5 := H5.far ⟨k4, 0, none⟩ (.slice A1 m c1) (fun e => n45 e.symm)
          replace HB := HB.grown hg_ hsz_ (fun k hk => by injection hk with hk; omega)
          go_simp
          generalize v4_5.setCell ⟨k4, 0, none⟩ (.slice A1 m c1) = v5_6 at *
          clear hg_ hsz_
          refine hK.out _ _ (HS.out _ HB) (fun hHeld => ?_)
          clear hK K
          try simp only [Act.put]
          refine wpAnyH_ready (rs := [7]) (by kernel_rfl) (by simp) ?_
          refine AllReadyH.cons (o := ⟨none, _, _, _, _, _⟩) rfl (fun K hK => ?_) ?_
          rotate_left 1
          · exact AllReadyH.nil
          have hsz_ := HB.size
          obtain ⟨_, _⟩ := H5.one
          have hg_ := grown_set v5_6 k5 0 (.int .i64 rr)
          replace O1 := kept_ne O1 hg_ n15
          replace H5 : Holds (v5_6.setCell ⟨k5, 0, none⟩ (.int .i64 rr)) k5 #[(.int .i64 rr)] 3 := Blk.set_own H5 0 (.int .i64 rr)
          replace H4 := H4.far ⟨k5, 0, none⟩ (.int .i64 rr) n45
          replace HB := HB.grown hg_ hsz_ (fun k hk => by injection hk with hk; omega)
          go_simp
          generalize v5_6.setCell ⟨k5, 0, none⟩ (.int .i64 rr) = v6_7 at *
          clear hg_ hsz_
          refine hK.out _ _ (HS.out _ HB) (fun hHeld => ?_)
          clear hK K
          try simp only [Act.put]
          refine wpAnyH_done (by kernel_rfl) ?_ _
          exact ⟨A1, c1, k4, k5, rfl, rfl, own_base O1 (Nat.le_of_eq hdz_.out.symm), hnil, H4, H5, by rw [← hdz_.out]; exact lo4, by rw [← hdz_.out]; exact lo5, hd_.trans (by rw [← hdz_.out]; exact HB)⟩
        refine AllReadyH.cons (o := ⟨some 4, _, _, _, _, _⟩) rfl (fun K hK => ?_) ?_
        · skip
          have hsz_ := HB.size
          obtain ⟨k5, hk5⟩ : ∃ b, b = v2_4.heap.size := ⟨_, rfl⟩
          have lo5 : v0.heap.size ≤ k5 := by omega
          have H5 := Blk.Holds.box v2_4 #[.int .i64 0] 3 hk5
          have n15 : ∀ g, (Value.slice A1 m c1).ownBlock = some g → g ≠ k5 := fun g hg => by have := (O1.lt g hg).2; omega
          have n45 : k4 ≠ k5 := by have := H4.lt; omega
          have hb_ := below1 v2_4 (Obj.cells #[.int .i64 0] 3)
          replace O1 := own_below O1 hb_
          replace H4 := H4.later hb_
          replace HB := HB.trans (hb_.mono hsz_)
          go_simp
          try rw [← hk5]
          generalize v2_4.alloc (Obj.cells #[.int .i64 0] 3) = v3_5 at *
          clear hb_ hk5 hsz_
          refine hK.out _ _ (HS.out _ HB) (fun hHeld => ?_)
          clear hK K
          try simp only [Act.put, List.setIfInBounds_toArray, List.set_cons_zero, List.set_cons_succ]
          refine wpAnyH_ready (rs := [3]) (by kernel_rfl) (by simp) ?_
          refine AllReadyH.cons (o := ⟨some 8, _, _, _, _, _⟩) rfl (fun K hK => ?_) ?_
          rotate_left 1
          · exact AllReadyH.nil
          have hsz_ := HB.size
          go_simp
          go_at_call 35
          refine (QR.out _ (HP.out _ HB)).mono ?_
          rintro e v4_3 ⟨rfl, hb_⟩
          replace O1 := own_below O1 hb_
          replace H4 := H4.later hb_
          replace H5 := H5.later hb_
          replace HB := HB.trans (hb_.mono hsz_)
          clear hb_ hsz_
          refine hK.out _ _ (HS.out _ HB) (fun hHeld => ?_)
          clear hK K
          try simp only [Act.put, List.setIfInBounds_toArray, List.set_cons_zero, List.set_cons_succ]
          refine wpAnyH_ready (rs := [6]) (by kernel_rfl) (by simp) ?_
          refine AllReadyH.cons (o := ⟨none, _, _, _, _, _⟩) rfl (fun K hK => ?_) ?_
          rotate_left 1
          · exact AllReadyH.nil
          have hsz_ := HB.size
          obtain ⟨_, _⟩ := H4.one
          have hg_ := grown_set v4_3 k4 0 (.slice A1 m c1)
          have n14 : ∀ g, (Value.slice A1 m c1).ownBlock = some g → g ≠ k4 := fun g hg => own_ne O1 H4 (by decide) g hg
          replace O1 := kept_ne O1 hg_ n14
          replace H4 : Holds (v4_3.setCell ⟨k4, 0, none⟩ (.slice A1 m c1)) k4 #[(.slice A1 m c1)] 43 := Blk.set_own H4 0 (.slice A1 m c1)
          replace H5 := H5.far ⟨k4, 0, none⟩ (.slice A1 m c1) (fun e => n45 e.symm)
          replace HB := HB.grown hg_ hsz_ (fun k hk => by injection hk with hk; omega)
          go_simp
          generalize v4_3.setCell ⟨k4, 0, none⟩ (.slice A1 m c1) = v5_6 at *
          clear hg_ hsz_
          refine hK.out _ _ (HS.out _ HB) (fun hHeld => ?_)
          clear hK K
          try simp only [Act.put]
          refine wpAnyH_ready (rs := [7]) (by kernel_rfl) (by simp) ?_
          refine AllReadyH.cons (o := ⟨none, _, _, _, _, _⟩) rfl (fun K hK => ?_) ?_
          rotate_left 1
          · exact AllReadyH.nil
          have hsz_ := HB.size
          obtain ⟨_, _⟩ := H5.one
          have hg_ := grown_set v5_6 k5 0 (.int .i64 rr)
          replace O1 := kept_ne O1 hg_ n15
          replace H5 : Holds (v5_6.setCell ⟨k5, 0, none⟩ (.int .i64 rr)) k5 #[(.int .i64 rr)] 3 := Blk.set_own H5 0 (.int .i64 rr)
          replace H4 := H4.far ⟨k5, 0, none⟩ (.int .i64 rr) n45
          replace HB := HB.grown hg_ hsz_ (fun k hk => by injection hk with hk; omega)
          go_simp
          generalize v5_6.setCell ⟨k5, 0, none⟩ (.int .i64 rr) = v6_7 at *
          clear hg_ hsz_
          refine hK.out _ _ (HS.out _ HB) (fun hHeld => ?_)
          clear hK K
          try simp only [Act.put]
          refine wpAnyH_done (by kernel_rfl) ?_ _
          exact ⟨A1, c1, k4, k5, rfl, rfl, own_base O1 (Nat.le_of_eq hdz_.out.symm), hnil, H4, H5, by rw [← hdz_.out]; exact lo4, by rw [← hdz_.out]; exact lo5, hd_.trans (by rw [← hdz_.out]; exact HB)⟩
        exact AllReadyH.nil
      refine AllReadyH.cons (o := ⟨some 4, _, _, _, _, _⟩) rfl (fun K hK => ?_) ?_
      · skip
        have hsz_ := HB.size
        obtain ⟨k5, hk5⟩ : ∃ b, b = v1_1.heap.size := ⟨_, rfl⟩
        have lo5 : v0.heap.size ≤ k5 := by omega
        have H5 := Blk.Holds.box v1_1 #[.int .i64 0] 3 hk5
        have n15 : ∀ g, (Value.slice A1 m c1).ownBlock = some g → g ≠ k5 := fun g hg => by have := (O1.lt g hg).2; omega
        have hb_ := below1 v1_1 (Obj.cells #[.int .i64 0] 3)
        replace O1 := own_below O1 hb_
        replace HB := HB.trans (hb_.mono hsz_)
        go_simp
        try rw [← hk5]
        generalize v1_1.alloc (Obj.cells #[.int .i64 0] 3) = v2_5 at *
        clear hb_ hk5 hsz_
        refine hK.out _ _ (HS.out _ HB) (fun hHeld => ?_)
        clear hK K
        try simp only [Act.put, List.setIfInBounds_toArray, List.set_cons_zero, List.set_cons_succ]
        refine wpAnyH_ready (rs := [3, 4]) (by kernel_rfl) (by simp) ?_
        refine AllReadyH.cons (o := ⟨some 8, _, _, _, _, _⟩) rfl (fun K hK => ?_) ?_
        · skip
          have hsz_ := HB.size
          go_simp
          go_at_call 35
          refine (QR.out _ (HP.out _ HB)).mono ?_
          rintro e v3_3 ⟨rfl, hb_⟩
          replace O1 := own_below O1 hb_
          replace H5 := H5.later hb_
          replace HB := HB.trans (hb_.mono hsz_)
          clear hb_ hsz_
          refine hK.out _ _ (HS.out _ HB) (fun hHeld => ?_)
          clear hK K
          try simp only [Act.put, List.setIfInBounds_toArray, List.set_cons_zero, List.set_cons_succ]
          refine wpAnyH_ready (rs := [4]) (by kernel_rfl) (by simp) ?_
          refine AllReadyH.cons (o := ⟨some 3, _, _, _, _, _⟩) rfl (fun K hK => ?_) ?_
          rotate_left 1
          · exact AllReadyH.nil
          have hsz_ := HB.size
          obtain ⟨k4, hk4⟩ : ∃ b, b = v3_3.heap.size := ⟨_, rfl⟩
          have lo4 : v0.heap.size ≤ k4 := by omega
          have H4 := Blk.Holds.box v3_3 #[.slice none 0 0] 43 hk4
          have n45 : k4 ≠ k5 := by have := H5.lt; omega
          have hb_ := below1 v3_3 (Obj.cells #[.slice none 0 0] 43)
          replace O1 := own_below O1 hb_
          replace H5 := H5.later hb_
          replace HB := HB.trans (hb_.mono hsz_)
          go_simp
          try rw [← hk4]
          generalize v3_3.alloc (Obj.cells #[.slice none 0 0] 43) = v4_4 at *
          clear hb_ hk4 hsz_
          refine hK.out _ _ (HS.out _ HB) (fun hHeld => ?_)
          clear hK K
          try simp only [Act.put, List.setIfInBounds_toArray, List.set_cons_zero, List.set_cons_succ]
          refine wpAnyH_ready (rs := [6]) (by kernel_rfl) (by simp) ?_
          refine AllReadyH.cons (o := ⟨none, _, _, _, _, _⟩) rfl (fun K hK => ?_) ?_
          rotate_left 1
          · exact AllReadyH.nil
          have hsz_ := HB.size
          obtain ⟨_, _⟩ := H4.one
          have hg_ := grown_set v4_4 k4 0 (.slice A1 m c1)
          have n14 : ∀ g, (Value.slice A1 m c1).ownBlock = some g → g ≠ k4 := fun g hg => own_ne O1 H4 (by decide) g hg
          replace O1 := kept_ne O1 hg_ n14
          replace H4 : Holds (v4_4.setCell ⟨k4, 0, none⟩ (.slice A1 m c1)) k4 #[(.slice A1 m c1)] 43 := Blk.set_own H4 0 (.slice A1 m c1)
          replace H5 := H5.far ⟨k4, 0, none⟩ (.slice A1 m c1) (fun e => n45 e.symm)
          replace HB := HB.grown hg_ hsz_ (fun k hk => by injection hk with hk; omega)
          go_simp
          generalize v4_4.setCell ⟨k4, 0, none⟩ (.slice A1 m c1) = v5_6 at *
          clear hg_ hsz_
          refine hK.out _ _ (HS.out _ HB) (fun hHeld => ?_)
          clear hK K
          try simp only [Act.put]
          refine wpAnyH_ready (rs := [7]) (by kernel_rfl) (by simp) ?_
          refine AllReadyH.cons (o := ⟨none, _, _, _, _, _⟩) rfl (fun K hK => ?_) ?_
          rotate_left 1
          · exact AllReadyH.nil
          have hsz_ := HB.size
          obtain ⟨_, _⟩ := H5.one
          have hg_ := grown_set v5_6 k5 0 (.int .i64 rr)
          replace O1 := kept_ne O1 hg_ n15
          replace H5 : Holds (v5_6.setCell ⟨k5, 0, none⟩ (.int .i64 rr)) k5 #[(.int .i64 rr)] 3 := Blk.set_own H5 0 (.int .i64 rr)
          replace H4 := H4.far ⟨k5, 0, none⟩ (.int .i64 rr) n45
          replace HB := HB.grown hg_ hsz_ (fun k hk => by injection hk with hk; omega)
          go_simp
          generalize v5_6.setCell ⟨k5, 0, none⟩ (.int .i64 rr) = v6_7 at *
          clear hg_ hsz_
          refine hK.out _ _ (HS.out _ HB) (fun hHeld => ?_)
          clear hK K
          try simp only [Act.put]
          refine wpAnyH_done (by kernel_rfl) ?_ _
          exact ⟨A1, c1, k4, k5, rfl, rfl, own_base O1 (Nat.le_of_eq hdz_.out.symm), hnil, H4, H5, by rw [← hdz_.out]; exact lo4, by rw [← hdz_.out]; exact lo5, hd_.trans (by rw [← hdz_.out]; exact HB)⟩
        refine AllReadyH.cons (o := ⟨some 3, _, _, _, _, _⟩) rfl (fun K hK => ?_) ?_
        · skip
          have hsz_ := HB.size
          obtain ⟨k4, hk4⟩ : ∃ b, b = v2_5.heap.size := ⟨_, rfl⟩
          have lo4 : v0.heap.size ≤ k4 := by omega
          have H4 := Blk.Holds.box v2_5 #[.slice none 0 0] 43 hk4
          have n45 : k4 ≠ k5 := by have := H5.lt; omega
          have hb_ := below1 v2_5 (Obj.cells #[.slice none 0 0] 43)
          replace O1 := own_below O1 hb_
          replace H5 := H5.later hb_
          replace HB := HB.trans (hb_.mono hsz_)
          go_simp
          try rw [← hk4]
          generalize v2_5.alloc (Obj.cells #[.slice none 0 0] 43) = v3_4 at *
          clear hb_ hk4 hsz_
          refine hK.out _ _ (HS.out _ HB) (fun hHeld => ?_)
          clear hK K
          try simp only [Act.put, List.setIfInBounds_toArray, List.set_cons_zero, List.set_cons_succ]
          refine wpAnyH_ready (rs := [3]) (by kernel_rfl) (by simp) ?_
          refine AllReadyH.cons (o := ⟨some 8, _, _, _, _, _⟩) rfl (fun K hK => ?_) ?_
          rotate_left 1
          · exact AllReadyH.nil
          have hsz_ := HB.size
          go_simp
          go_at_call 35
          refine (QR.out _ (HP.out _ HB)).mono ?_
          rintro e v4_3 ⟨rfl, hb_⟩
          replace O1 := own_below O1 hb_
          replace H4 := H4.later hb_
          replace H5 := H5.later hb_
          replace HB := HB.trans (hb_.mono hsz_)
          clear hb_ hsz_
          refine hK.out _ _ (HS.out _ HB) (fun hHeld => ?_)
          clear hK K
          try simp only [Act.put, List.setIfInBounds_toArray, List.set_cons_zero, List.set_cons_succ]
          refine wpAnyH_ready (rs := [6]) (by kernel_rfl) (by simp) ?_
          refine AllReadyH.cons (o := ⟨none, _, _, _, _, _⟩) rfl (fun K hK => ?_) ?_
          rotate_left 1
          · exact AllReadyH.nil
          have hsz_ := HB.size
          obtain ⟨_, _⟩ := H4.one
          have hg_ := grown_set v4_3 k4 0 (.slice A1 m c1)
          have n14 : ∀ g, (Value.slice A1 m c1).ownBlock = some g → g ≠ k4 := fun g hg => own_ne O1 H4 (by decide) g hg
          replace O1 := kept_ne O1 hg_ n14
          replace H4 : Holds (v4_3.setCell ⟨k4, 0, none⟩ (.slice A1 m c1)) k4 #[(.slice A1 m c1)] 43 := Blk.set_own H4 0 (.slice A1 m c1)
          replace H5 := H5.far ⟨k4, 0, none⟩ (.slice A1 m c1) (fun e => n45 e.symm)
          replace HB := HB.grown hg_ hsz_ (fun k hk => by injection hk with hk; omega)
          go_simp
          generalize v4_3.setCell ⟨k4, 0, none⟩ (.slice A1 m c1) = v5_6 at *
          clear hg_ hsz_
          refine hK.out _ _ (HS.out _ HB) (fun hHeld => ?_)
          clear hK K
          try simp only [Act.put]
          refine wpAnyH_ready (rs := [7]) (by kernel_rfl) (by simp) ?_
          refine AllReadyH.cons (o := ⟨none, _, _, _, _, _⟩) rfl (fun K hK => ?_) ?_
          rotate_left 1
          · exact AllReadyH.nil
          have hsz_ := HB.size
          obtain ⟨_, _⟩ := H5.one
          have hg_ := grown_set v5_6 k5 0 (.int .i64 rr)
          replace O1 := kept_ne O1 hg_ n15
          replace H5 : Holds (v5_6.setCell ⟨k5, 0, none⟩ (.int .i64 rr)) k5 #[(.int .i64 rr)] 3 := Blk.set_own H5 0 (.int .i64 rr)
          replace H4 := H4.far ⟨k5, 0, none⟩ (.int .i64 rr) n45
          replace HB := HB.grown hg_ hsz_ (fun k hk => by injection hk with hk; omega)
          go_simp
          generalize v5_6.setCell ⟨k5, 0, none⟩ (.int .i64 rr) = v6_7 at *
          clear hg_ hsz_
          refine hK.out _ _ (HS.out _ HB) (fun hHeld => ?_)
          clear hK K
          try simp only [Act.put]
          refine wpAnyH_done (by kernel_rfl) ?_ _
          exact ⟨A1, c1, k4, k5, rfl, rfl, own_base O1 (Nat.le_of_eq hdz_.out.symm), hnil, H4, H5, by rw [← hdz_.out]; exact lo4, by rw [← hdz_.out]; exact lo5, hd_.trans (by rw [← hdz_.out]; exact HB)⟩
        exact AllReadyH.nil
      exact AllReadyH.nil
    refine AllReadyH.cons (o := ⟨some 3, _, _, _, _, _⟩) rfl (fun K hK => ?_) ?_
    · skip
      have hsz_ := HB.size
      obtain ⟨k4, hk4⟩ : ∃ b, b = v0.heap.size := ⟨_, rfl⟩
      have lo4 : v0.heap.size ≤ k4 := by omega
      have H4 := Blk.Holds.box v0 #[.slice none 0 0] 43 hk4
      have hb_ := below1 v0 (Obj.cells #[.slice none 0 0] 43)
      replace HB := HB.trans (hb_.mono hsz_)
      go_simp
      try rw [← hk4]
      generalize v0.alloc (Obj.cells #[.slice none 0 0] 43) = v1_4 at *
      clear hb_ hk4 hsz_
      refine hK.out _ _ (HS.out _ HB) (fun hHeld => ?_)
      clear hK K
      try simp only [Act.put, List.setIfInBounds_toArray, List.set_cons_zero, List.set_cons_succ]
      refine wpAnyH_ready (rs := [1, 5]) (by kernel_rfl) (by simp) ?_
      refine AllReadyH.cons (o := ⟨some 6, _, _, _, _, _⟩) rfl (fun K hK => ?_) ?_
      · skip
        have hsz_ := HB.size
        go_simp
        go_at_call 28
        refine (QC.out _ (HP.out _ HB)).mono ?_
        rintro e v2_1 ⟨A1, c1, rfl, O1, hnil, hb_⟩
        replace O1 := own_base O1 hsz_
        replace H4 := H4.later hb_
        replace HB := HB.trans (hb_.mono hsz_)
        clear hb_ hsz_
        refine hK.out _ _ (HS.out _ HB) (fun hHeld => ?_)
        clear hK K
        try simp only [Act.put, List.setIfInBounds_toArray, List.set_cons_zero, List.set_cons_succ]
        refine wpAnyH_ready (rs := [3, 5]) (by kernel_rfl) (by simp) ?_
        refine AllReadyH.cons (o := ⟨some 8, _, _, _, _, _⟩) rfl (fun K hK => ?_) ?_
        · skip
          have hsz_ := HB.size
          go_simp
          go_at_call 35
          refine (QR.out _ (HP.out _ HB)).mono ?_
          rintro e v3_3 ⟨rfl, hb_⟩
          replace O1 := own_below O1 hb_
          replace H4 := H4.later hb_
          replace HB := HB.trans (hb_.mono hsz_)
          clear hb_ hsz_
          refine hK.out _ _ (HS.out _ HB) (fun hHeld => ?_)
          clear hK K
          try simp only [Act.put, List.setIfInBounds_toArray, List.set_cons_zero, List.set_cons_succ]
          refine wpAnyH_ready (rs := [5]) (by kernel_rfl) (by simp) ?_
          refine AllReadyH.cons (o := ⟨some 4, _, _, _, _, _⟩) rfl (fun K hK => ?_) ?_
          rotate_left 1
          · exact AllReadyH.nil
          have hsz_ := HB.size
          obtain ⟨k5, hk5⟩ : ∃ b, b = v3_3.heap.size := ⟨_, rfl⟩
          have lo5 : v0.heap.size ≤ k5 := by omega
          have H5 := Blk.Holds.box v3_3 #[.int .i64 0] 3 hk5
          have n15 : ∀ g, (Value.slice A1 m c1).ownBlock = some g → g ≠ k5 := fun g hg => by have := (O1.lt g hg).2; omega
          have n45 : k4 ≠ k5 := by have := H4.lt; omega
          have hb_ := below1 v3_3 (Obj.cells #[.int .i64 0] 3)
          replace O1 := own_below O1 hb_
          replace H4 := H4.later hb_
          replace HB := HB.trans (hb_.mono hsz_)
          go_simp
          try rw [← hk5]
          generalize v3_3.alloc (Obj.cells #[.int .i64 0] 3) = v4_5 at *
          clear hb_ hk5 hsz_
          refine hK.out _ _ (HS.out _ HB) (fun hHeld => ?_)
          clear hK K
          try simp only [Act.put, List.setIfInBounds_toArray, List.set_cons_zero, List.set_cons_succ]
          refine wpAnyH_ready (rs := [6]) (by kernel_rfl) (by simp) ?_
          refine AllReadyH.cons (o := ⟨none, _, _, _, _, _⟩) rfl (fun K hK => ?_) ?_
          rotate_left 1
          · exact AllReadyH.nil
          have hsz_ := HB.size
          obtain ⟨_, _⟩ := H4.one
          have hg_ := grown_set v4_5 k4 0 (.slice A1 m c1)
          have n14 : ∀ g, (Value.slice A1 m c1).ownBlock = some g → g ≠ k4 := fun g hg => own_ne O1 H4 (by decide) g hg
          replace O1 := kept_ne O1 hg_ n14
          replace H4 : Holds (v4_5.setCell ⟨k4, 0, none⟩ (.slice A1 m c1)) k4 #[(.slice A1 m c1)] 43 := Blk.set_own H4 0 (.slice A1 m c1)
          replace H5 := H5.far ⟨k4, 0, none⟩ (.slice A1 m c1) (fun e => n45 e.symm)
          replace HB := HB.grown hg_ hsz_ (fun k hk => by injection hk with hk; omega)
          go_simp
          generalize v4_5.setCell ⟨k4, 0, none⟩ (.slice A1 m c1) = v5_6 at *
          clear hg_ hsz_
          refine hK.out _ _ (HS.out _ HB) (fun hHeld => ?_)
          clear hK K
          try simp only [Act.put]
          refine wpAnyH_ready (rs := [7]) (by kernel_rfl) (by simp) ?_
          refine AllReadyH.cons (o := ⟨none, _, _, _, _, _⟩) rfl (fun K hK => ?_) ?_
          rotate_left 1
          · exact AllReadyH.nil
          have hsz_ := HB.size
          obtain ⟨_, _⟩ := H5.one
          have hg_ := grown_set v5_6 k5 0 (.int .i64 rr)
          replace O1 := kept_ne O1 hg_ n15
          replace H5 : Holds (v5_6.setCell ⟨k5, 0, none⟩ (.int .i64 rr)) k5 #[(.int .i64 rr)] 3 := Blk.set_own H5 0 (.int .i64 rr)
          replace H4 := H4.far ⟨k5, 0, none⟩ (.int .i64 rr) n45
          replace HB := HB.grown hg_ hsz_ (fun k hk => by injection hk with hk; omega)
          go_simp
          generalize v5_6.setCell ⟨k5, 0, none⟩ (.int .i64 rr) = v6_7 at *
          clear hg_ hsz_
          refine hK.out _ _ (HS.out _ HB) (fun hHeld => ?_)
          clear hK K
          try simp only [Act.put]
          refine wpAnyH_done (by kernel_rfl) ?_ _
          exact ⟨A1, c1, k4, k5, rfl, rfl, own_base O1 (Nat.le_of_eq hdz_.out.symm), hnil, H4, H5, by rw [← hdz_.out]; exact lo4, by rw [← hdz_.out]; exact lo5, hd_.trans (by rw [← hdz_.out]; exact HB)⟩
        refine AllReadyH.cons (o := ⟨some 4, _, _, _, _, _⟩) rfl (fun K hK => ?_) ?_
        · skip
          have hsz_ := HB.size
          obtain ⟨k5, hk5⟩ : ∃ b, b = v2_1.heap.size := ⟨_, rfl⟩
          have lo5 : v0.heap.size ≤ k5 := by omega
          have H5 := Blk.Holds.box v2_1 #[.int .i64 0] 3 hk5
          have n15 : ∀ g, (Value.slice A1 m c1).ownBlock = some g → g ≠ k5 := fun g hg => by have := (O1.lt g hg).2; omega
          have n45 : k4 ≠ k5 := by have := H4.lt; omega
          have hb_ := below1 v2_1 (Obj.cells #[.int .i64 0] 3)
          replace O1 := own_below O1 hb_
          replace H4 := H4.later hb_
          replace HB := HB.trans (hb_.mono hsz_)
          go_simp
          try rw [← hk5]
          generalize v2_1.alloc (Obj.cells #[.int .i64 0] 3) = v3_5 at *
          clear hb_ hk5 hsz_
          refine hK.out _ _ (HS.out _ HB) (fun hHeld => ?_)
          clear hK K
          try simp only [Act.put, List.setIfInBounds_toArray, List.set_cons_zero, List.set_cons_succ]
          refine wpAnyH_ready (rs := [3]) (by kernel_rfl) (by simp) ?_
          refine AllReadyH.cons (o := ⟨some 8, _, _, _, _, _⟩) rfl (fun K hK => ?_) ?_
          rotate_left 1
          · exact AllReadyH.nil
          have hsz_ := HB.size
          go_simp
          go_at_call 35
          refine (QR.out _ (HP.out _ HB)).mono ?_
          rintro e v4_3 ⟨rfl, hb_⟩
          replace O1 := own_below O1 hb_
          replace H4 := H4.later hb_
          replace H5 := H5.later hb_
          replace HB := HB.trans (hb_.mono hsz_)
          clear hb_ hsz_
          refine hK.out _ _ (HS.out _ HB) (fun hHeld => ?_)
          clear hK K
          try simp only [Act.put, List.setIfInBounds_toArray, List.set_cons_zero, List.set_cons_succ]
          refine wpAnyH_ready (rs := [6]) (by kernel_rfl) (by simp) ?_
          refine AllReadyH.cons (o := ⟨none, _, _, _, _, _⟩) rfl (fun K hK => ?_) ?_
          rotate_left 1
          · exact AllReadyH.nil
          have hsz_ := HB.size
          obtain ⟨_, _⟩ := H4.one
          have hg_ := grown_set v4_3 k4 0 (.slice A1 m c1)
          have n14 : ∀ g, (Value.slice A1 m c1).ownBlock = some g → g ≠ k4 := fun g hg => own_ne O1 H4 (by decide) g hg
          replace O1 := kept_ne O1 hg_ n14
          replace H4 : Holds (v4_3.setCell ⟨k4, 0, none⟩ (.slice A1 m c1)) k4 #[(.slice A1 m c1)] 43 := Blk.set_own H4 0 (.slice A1 m c1)
          replace H5 := H5.far ⟨k4, 0, none⟩ (.slice A1 m c1) (fun e => n45 e.symm)
          replace HB := HB.grown hg_ hsz_ (fun k hk => by injection hk with hk; omega)
          go_simp
          generalize v4_3.setCell ⟨k4, 0, none⟩ (.slice A1 m c1) = v5_6 at *
          clear hg_ hsz_
          refine hK.out _ _ (HS.out _ HB) (fun hHeld => ?_)
          clear hK K
          try simp only [Act.put]
          refine wpAnyH_ready (rs := [7]) (by kernel_rfl) (by simp) ?_
          refine AllReadyH.cons (o := ⟨none, _, _, _, _, _⟩) rfl (fun K hK => ?_) ?_
          rotate_left 1
          · exact AllReadyH.nil
          have hsz_ := HB.size
          obtain ⟨_, _⟩ := H5.one
          have hg_ := grown_set v5_6 k5 0 (.int .i64 rr)
          replace O1 := kept_ne O1 hg_ n15
          replace H5 : Holds (v5_6.setCell ⟨k5, 0, none⟩ (.int .i64 rr)) k5 #[(.int .i64 rr)] 3 := Blk.set_own H5 0 (.int .i64 rr)
          replace H4 := H4.far ⟨k5, 0, none⟩ (.int .i64 rr) n45
          replace HB := HB.grown hg_ hsz_ (fun k hk => by injection hk with hk; omega)
          go_simp
          generalize v5_6.setCell ⟨k5, 0, none⟩ (.int .i64 rr) = v6_7 at *
          clear hg_ hsz_
          refine hK.out _ _ (HS.out _ HB) (fun hHeld => ?_)
          clear hK K
          try simp only [Act.put]
          refine wpAnyH_done (by kernel_rfl) ?_ _
          exact ⟨A1, c1, k4, k5, rfl, rfl, own_base O1 (Nat.le_of_eq hdz_.out.symm), hnil, H4, H5, by rw [← hdz_.out]; exact lo4, by rw [← hdz_.out]; exact lo5, hd_.trans (by rw [← hdz_.out]; exact HB)⟩
        exact AllReadyH.nil
      refine AllReadyH.cons (o := ⟨some 4, _, _, _, _, _⟩) rfl (fun K hK => ?_) ?_
      · skip
        have hsz_ := HB.size
        obtain ⟨k5, hk5⟩ : ∃ b, b = v1_4.heap.size := ⟨_, rfl⟩
        have lo5 : v0.heap.size ≤ k5 := by omega
        have H5 := Blk.Holds.box v1_4 #[.int .i64 0] 3 hk5
        have n45 : k4 ≠ k5 := by have := H4.lt; omega
        have hb_ := below1 v1_4 (Obj.cells #[.int .i64 0] 3)
        replace H4 := H4.later hb_
        replace HB := HB.trans (hb_.mono hsz_)
        go_simp
        try rw [← hk5]
        generalize v1_4.alloc (Obj.cells #[.int .i64 0] 3) = v2_5 at *
        clear hb_ hk5 hsz_
        refine hK.out _ _ (HS.out _ HB) (fun hHeld => ?_)
        clear hK K
        try simp only [Act.put, List.setIfInBounds_toArray, List.set_cons_zero, List.set_cons_succ]
        refine wpAnyH_ready (rs := [1]) (by kernel_rfl) (by simp) ?_
        refine AllReadyH.cons (o := ⟨some 6, _, _, _, _, _⟩) rfl (fun K hK => ?_) ?_
        rotate_left 1
        · exact AllReadyH.nil
        have hsz_ := HB.size
        go_simp
        go_at_call 28
        refine (QC.out _ (HP.out _ HB)).mono ?_
        rintro e v3_1 ⟨A1, c1, rfl, O1, hnil, hb_⟩
        have n15 : ∀ g, (Value.slice A1 m c1).ownBlock = some g → g ≠ k5 := fun g hg => by have := (O1.lt g hg).1; have := H5.lt; omega
        replace O1 := own_base O1 hsz_
        replace H4 := H4.later hb_
        replace H5 := H5.later hb_
        replace HB := HB.trans (hb_.mono hsz_)
        clear hb_ hsz_
        refine hK.out _ _ (HS.out _ HB) (fun hHeld => ?_)
        clear hK K
        try simp only [Act.put, List.setIfInBounds_toArray, List.set_cons_zero, List.set_cons_succ]
        refine wpAnyH_ready (rs := [3]) (by kernel_rfl) (by simp) ?_
        refine AllReadyH.cons (o := ⟨some 8, _, _, _, _, _⟩) rfl (fun K hK => ?_) ?_
        rotate_left 1
        · exact AllReadyH.nil
        have hsz_ := HB.size
        go_simp
        go_at_call 35
        refine (QR.out _ (HP.out _ HB)).mono ?_
        rintro e v4_3 ⟨rfl, hb_⟩
        replace O1 := own_below O1 hb_
        replace H4 := H4.later hb_
        replace H5 := H5.later hb_
        replace HB := HB.trans (hb_.mono hsz_)
        clear hb_ hsz_
        refine hK.out _ _ (HS.out _ HB) (fun hHeld => ?_)
        clear hK K
        try simp only [Act.put, List.setIfInBounds_toArray, List.set_cons_zero, List.set_cons_succ]
        refine wpAnyH_ready (rs := [6]) (by kernel_rfl) (by simp) ?_
        refine AllReadyH.cons (o := ⟨none, _, _, _, _, _⟩) rfl (fun K hK => ?_) ?_
        rotate_left 1
        · exact AllReadyH.nil
        have hsz_ := HB.size
        obtain ⟨_, _⟩ := H4.one
        have hg_ := grown_set v4_3 k4 0 (.slice A1 m c1)
        have n14 : ∀ g, (Value.slice A1 m c1).ownBlock = some g → g ≠ k4 := fun g hg => own_ne O1 H4 (by decide) g hg
        replace O1 := kept_ne O1 hg_ n14
        replace H4 : Holds (v4_3.setCell ⟨k4, 0, none⟩ (.slice A1 m c1)) k4 #[(.slice A1 m c1)] 43 := Blk.set_own H4 0 (.slice A1 m c1)
        replace H5 := H5.far ⟨k4, 0, none⟩ (.slice A1 m c1) (fun e => n45 e.symm)
        replace HB := HB.grown hg_ hsz_ (fun k hk => by injection hk with hk; omega)
        go_simp
        generalize v4_3.setCell ⟨k4, 0, none⟩ (.slice A1 m c1) = v5_6 at *
        clear hg_ hsz_
        refine hK.out _ _ (HS.out _ HB) (fun hHeld => ?_)
        clear hK K
        try simp only [Act.put]
        refine wpAnyH_ready (rs := [7]) (by kernel_rfl) (by simp) ?_
        refine AllReadyH.cons (o := ⟨none, _, _, _, _, _⟩) rfl (fun K hK => ?_) ?_
        rotate_left 1
        · exact AllReadyH.nil
        have hsz_ := HB.size
        obtain ⟨_, _⟩ := H5.one
        have hg_ := grown_set v5_6 k5 0 (.int .i64 rr)
        replace O1 := kept_ne O1 hg_ n15
        replace H5 : Holds (v5_6.setCell ⟨k5, 0, none⟩ (.int .i64 rr)) k5 #[(.int .i64 rr)] 3 := Blk.set_own H5 0 (.int .i64 rr)
        replace H4 := H4.far ⟨k5, 0, none⟩ (.int .i64 rr) n45
        replace HB := HB.grown hg_ hsz_ (fun k hk => by injection hk with hk; omega)
        go_simp
        generalize v5_6.setCell ⟨k5, 0, none⟩ (.int .i64 rr) = v6_7 at *
        clear hg_ hsz_
        refine hK.out _ _ (HS.out _ HB) (fun hHeld => ?_)
        clear hK K
        try simp only [Act.put]
        refine wpAnyH_done (by kernel_rfl) ?_ _
        exact ⟨A1, c1, k4, k5, rfl, rfl, own_base O1 (Nat.le_of_eq hdz_.out.symm), hnil, H4, H5, by rw [← hdz_.out]; exact lo4, by rw [← hdz_.out]; exact lo5, hd_.trans (by rw [← hdz_.out]; exact HB)⟩
      exact AllReadyH.nil
    refine AllReadyH.cons (o := ⟨some 4, _, _, _, _, _⟩) rfl (fun K hK => ?_) ?_
    · skip
      have hsz_ := HB.size
      obtain ⟨k5, hk5⟩ : ∃ b, b = v0.heap.size := ⟨_, rfl⟩
      have lo5 : v0.heap.size ≤ k5 := by omega
      have H5 := Blk.Holds.box v0 #[.int .i64 0] 3 hk5
      have hb_ := below1 v0 (Obj.cells #[.int .i64 0] 3)
      replace HB := HB.trans (hb_.mono hsz_)
      go_simp
      try rw [← hk5]
      generalize v0.alloc (Obj.cells #[.int .i64 0] 3) = v1_5 at *
      clear hb_ hk5 hsz_
      refine hK.out _ _ (HS.out _ HB) (fun hHeld => ?_)
      clear hK K
      try simp only [Act.put, List.setIfInBounds_toArray, List.set_cons_zero, List.set_cons_succ]
      refine wpAnyH_ready (rs := [1, 4]) (by kernel_rfl) (by simp) ?_
      refine AllReadyH.cons (o := ⟨some 6, _, _, _, _, _⟩) rfl (fun K hK => ?_) ?_
      · skip
        have hsz_ := HB.size
        go_simp
        go_at_call 28
        refine (QC.out _ (HP.out _ HB)).mono ?_
        rintro e v2_1 ⟨A1, c1, rfl, O1, hnil, hb_⟩
        have n15 : ∀ g, (Value.slice A1 m c1).ownBlock = some g → g ≠ k5 := fun g hg => by have := (O1.lt g hg).1; have := H5.lt; omega
        replace O1 := own_base O1 hsz_
        replace H5 := H5.later hb_
        replace HB := HB.trans (hb_.mono hsz_)
        clear hb_ hsz_
        refine hK.out _ _ (HS.out _ HB) (fun hHeld => ?_)
        clear hK K
        try simp only [Act.put, List.setIfInBounds_toArray, List.set_cons_zero, List.set_cons_succ]
        refine wpAnyH_ready (rs := [3, 4]) (by kernel_rfl) (by simp) ?_
        refine AllReadyH.cons (o := ⟨some 8, _, _, _, _, _⟩) rfl (fun K hK => ?_) ?_
        · skip
          have hsz_ := HB.size
          go_simp
          go_at_call 35
          refine (QR.out _ (HP.out _ HB)).mono ?_
          rintro e v3_3 ⟨rfl, hb_⟩
          replace O1 := own_below O1 hb_
          replace H5 := H5.later hb_
          replace HB := HB.trans (hb_.mono hsz_)
          clear hb_ hsz_
          refine hK.out _ _ (HS.out _ HB) (fun hHeld => ?_)
          clear hK K
          try simp only [Act.put, List.setIfInBounds_toArray, List.set_cons_zero, List.set_cons_succ]
          refine wpAnyH_ready (rs := [4]) (by kernel_rfl) (by simp) ?_
          refine AllReadyH.cons (o := ⟨some 3, _, _, _, _, _⟩) rfl (fun K hK => ?_) ?_
          rotate_left 1
          · exact AllReadyH.nil
          have hsz_ := HB.size
          obtain ⟨k4, hk4⟩ : ∃ b, b = v3_3.heap.size := ⟨_, rfl⟩
          have lo4 : v0.heap.size ≤ k4 := by omega
          have H4 := Blk.Holds.box v3_3 #[.slice none 0 0] 43 hk4
          have n45 : k4 ≠ k5 := by have := H5.lt; omega
          have hb_ := below1 v3_3 (Obj.cells #[.slice none 0 0] 43)
          replace O1 := own_below O1 hb_
          replace H5 := H5.later hb_
          replace HB := HB.trans (hb_.mono hsz_)
          go_simp
          try rw [← hk4]
          generalize v3_3.alloc (Obj.cells #[.slice none 0 0] 43) = v4_4 at *
          clear hb_ hk4 hsz_
          refine hK.out _ _ (HS.out _ HB) (fun hHeld => ?_)
          clear hK K
          try simp only [Act.put, List.setIfInBounds_toArray, List.set_cons_zero, List.set_cons_succ]
          refine wpAnyH_ready (rs := [6]) (by kernel_rfl) (by simp) ?_
          refine AllReadyH.cons (o := ⟨none, _, _, _, _, _⟩) rfl (fun K hK => ?_) ?_
          rotate_left 1
          · exact AllReadyH.nil
          have hsz_ := HB.size
          obtain ⟨_, _⟩ := H4.one
          have hg_ := grown_set v4_4 k4 0 (.slice A1 m c1)
          have n14 : ∀ g, (Value.slice A1 m c1).ownBlock = some g → g ≠ k4 := fun g hg => own_ne O1 H4 (by decide) g hg
          replace O1 := kept_ne O1 hg_ n14
          replace H4 : Holds (v4_4.setCell ⟨k4, 0, none⟩ (.slice A1 m c1)) k4 #[(.slice A1 m c1)] 43 := Blk.set_own H4 0 (.slice A1 m c1)
          replace H5 := H5.far ⟨k4, 0, none⟩ (.slice A1 m c1) (fun e => n45 e.symm)
          replace HB := HB.grown hg_ hsz_ (fun k hk => by injection hk with hk; omega)
          go_simp
          generalize v4_4.setCell ⟨k4, 0, none⟩ (.slice A1 m c1) = v5_6 at *
          clear hg_ hsz_
          refine hK.out _ _ (HS.out _ HB) (fun hHeld => ?_)
          clear hK K
          try simp only [Act.put]
          refine wpAnyH_ready (rs := [7]) (by kernel_rfl) (by simp) ?_
          refine AllReadyH.cons (o := ⟨none, _, _, _, _, _⟩) rfl (fun K hK => ?_) ?_
          rotate_left 1
          · exact AllReadyH.nil
          have hsz_ := HB.size
          obtain ⟨_, _⟩ := H5.one
          have hg_ := grown_set v5_6 k5 0 (.int .i64 rr)
          replace O1 := kept_ne O1 hg_ n15
          replace H5 : Holds (v5_6.setCell ⟨k5, 0, none⟩ (.int .i64 rr)) k5 #[(.int .i64 rr)] 3 := Blk.set_own H5 0 (.int .i64 rr)
          replace H4 := H4.far ⟨k5, 0, none⟩ (.int .i64 rr) n45
          replace HB := HB.grown hg_ hsz_ (fun k hk => by injection hk with hk; omega)
          go_simp
          generalize v5_6.setCell ⟨k5, 0, none⟩ (.int .i64 rr) = v6_7 at *
          clear hg_ hsz_
          refine hK.out _ _ (HS.out _ HB) (fun hHeld => ?_)
          clear hK K
          try simp only [Act.put]
          refine wpAnyH_done (by kernel_rfl) ?_ _
          exact ⟨A1, c1, k4, k5, rfl, rfl, own_base O1 (Nat.le_of_eq hdz_.out.symm), hnil, H4, H5, by rw [← hdz_.out]; exact lo4, by rw [← hdz_.out]; exact lo5, hd_.trans (by rw [← hdz_.out]; exact HB)⟩
        refine AllReadyH.cons (o := ⟨some 3, _, _, _, _, _⟩) rfl (fun K hK => ?_) ?_
        · skip
          have hsz_ := HB.size
          obtain ⟨k4, hk4⟩ : ∃ b, b = v2_1.heap.size := ⟨_, rfl⟩
          have lo4 : v0.heap.size ≤ k4 := by omega
          have H4 := Blk.Holds.box v2_1 #[.slice none 0 0] 43 hk4
          have n45 : k4 ≠ k5 := by have := H5.lt; omega
          have hb_ := below1 v2_1 (Obj.cells #[.slice none 0 0] 43)
          replace O1 := own_below O1 hb_
          replace H5 := H5.later hb_
          replace HB := HB.trans (hb_.mono hsz_)
          go_simp
          try rw [← hk4]
          generalize v2_1.alloc (Obj.cells #[.slice none 0 0] 43) = v3_4 at *
          clear hb_ hk4 hsz_
          refine hK.out _ _ (HS.out _ HB) (fun hHeld => ?_)
          clear hK K
          try simp only [Act.put, List.setIfInBounds_toArray, List.set_cons_zero, List.set_cons_succ]
          refine wpAnyH_ready (rs := [3]) (by kernel_rfl) (by simp) ?_
          refine AllReadyH.cons (o := ⟨some 8, _, _, _, _, _⟩) rfl (fun K hK => ?_) ?_
          rotate_left 1
          · exact AllReadyH.nil
          have hsz_ := HB.size
          go_simp
          go_at_call 35
          refine (QR.out _ (HP.out _ HB)).mono ?_
          rintro e v4_3 ⟨rfl, hb_⟩
          replace O1 := own_below O1 hb_
          replace H4 := H4.later hb_
          replace H5 := H5.later hb_
          replace HB := HB.trans (hb_.mono hsz_)
          clear hb_ hsz_
          refine hK.out _ _ (HS.out _ HB) (fun hHeld => ?_)
          clear hK K
          try simp only [Act.put, List.setIfInBounds_toArray, List.set_cons_zero, List.set_cons_succ]
          refine wpAnyH_ready (rs := [6]) (by kernel_rfl) (by simp) ?_
          refine AllReadyH.cons (o := ⟨none, _, _, _, _, _⟩) rfl (fun K hK => ?_) ?_
          rotate_left 1
          · exact AllReadyH.nil
          have hsz_ := HB.size
          obtain ⟨_, _⟩ := H4.one
          have hg_ := grown_set v4_3 k4 0 (.slice A1 m c1)
          have n14 : ∀ g, (Value.slice A1 m c1).ownBlock = some g → g ≠ k4 := fun g hg => own_ne O1 H4 (by decide) g hg
          replace O1 := kept_ne O1 hg_ n14
          replace H4 : Holds (v4_3.setCell ⟨k4, 0, none⟩ (.slice A1 m c1)) k4 #[(.slice A1 m c1)] 43 := Blk.set_own H4 0 (.slice A1 m c1)
          replace H5 := H5.far ⟨k4, 0, none⟩ (.slice A1 m c1) (fun e => n45 e.symm)
          replace HB := HB.grown hg_ hsz_ (fun k hk => by injection hk with hk; omega)
          go_simp
          generalize v4_3.setCell ⟨k4, 0, none⟩ (.slice A1 m c1) = v5_6 at *
          clear hg_ hsz_
          refine hK.out _ _ (HS.out _ HB) (fun hHeld => ?_)
          clear hK K
          try simp only [Act.put]
          refine wpAnyH_ready (rs := [7]) (by kernel_rfl) (by simp) ?_
          refine AllReadyH.cons (o := ⟨none, _, _, _, _, _⟩) rfl (fun K hK => ?_) ?_
          rotate_left 1
          · exact AllReadyH.nil
          have hsz_ := HB.size
          obtain ⟨_, _⟩ := H5.one
          have hg_ := grown_set v5_6 k5 0 (.int .i64 rr)
          replace O1 := kept_ne O1 hg_ n15
          replace H5 : Holds (v5_6.setCell ⟨k5, 0, none⟩ (.int .i64 rr)) k5 #[(.int .i64 rr)] 3 := Blk.set_own H5 0 (.int .i64 rr)
          replace H4 := H4.far ⟨k5, 0, none⟩ (.int .i64 rr) n45
          replace HB := HB.grown hg_ hsz_ (fun k hk => by injection hk with hk; omega)
          go_simp
          generalize v5_6.setCell ⟨k5, 0, none⟩ (.int .i64 rr) = v6_7 at *
          clear hg_ hsz_
          refine hK.out _ _ (HS.out _ HB) (fun hHeld => ?_)
          clear hK K
          try simp only [Act.put]
          refine wpAnyH_done (by kernel_rfl) ?_ _
          exact ⟨A1, c1, k4, k5, rfl, rfl, own_base O1 (Nat.le_of_eq hdz_.out.symm), hnil, H4, H5, by rw [← hdz_.out]; exact lo4, by rw [← hdz_.out]; exact lo5, hd_.trans (by rw [← hdz_.out]; exact HB)⟩
        exact AllReadyH.nil
      refine AllReadyH.cons (o := ⟨some 3, _, _, _, _, _⟩) rfl (fun K hK => ?_) ?_
      · skip
        have hsz_ := HB.size
        obtain ⟨k4, hk4⟩ : ∃ b, b = v1_5.heap.size := ⟨_, rfl⟩
        have lo4 : v0.heap.size ≤ k4 := by omega
        have H4 := Blk.Holds.box v1_5 #[.slice none 0 0] 43 hk4
        have n45 : k4 ≠ k5 := by have := H5.lt; omega
        have hb_ := below1 v1_5 (Obj.cells #[.slice none 0 0] 43)
        replace H5 := H5.later hb_
        replace HB := HB.trans (hb_.mono hsz_)
        go_simp
        try rw [← hk4]
        generalize v1_5.alloc (Obj.cells #[.slice none 0 0] 43) = v2_4 at *
        clear hb_ hk4 hsz_
        refine hK.out _ _ (HS.out _ HB) (fun hHeld => ?_)
        clear hK K
        try simp only [Act.put, List.setIfInBounds_toArray, List.set_cons_zero, List.set_cons_succ]
        refine wpAnyH_ready (rs := [1]) (by kernel_rfl) (by simp) ?_
        refine AllReadyH.cons (o := ⟨some 6, _, _, _, _, _⟩) rfl (fun K hK => ?_) ?_
        rotate_left 1
        · exact AllReadyH.nil
        have hsz_ := HB.size
        go_simp
        go_at_call 28
        refine (QC.out _ (HP.out _ HB)).mono ?_
        rintro e v3_1 ⟨A1, c1, rfl, O1, hnil, hb_⟩
        have n15 : ∀ g, (Value.slice A1 m c1).ownBlock = some g → g ≠ k5 := fun g hg => by have := (O1.lt g hg).1; have := H5.lt; omega
        replace O1 := own_base O1 hsz_
        replace H4 := H4.later hb_
        replace H5 := H5.later hb_
        replace HB := HB.trans (hb_.mono hsz_)
        clear hb_ hsz_
        refine hK.out _ _ (HS.out _ HB) (fun hHeld => ?_)
        clear hK K
        try simp only [Act.put, List.setIfInBounds_toArray, List.set_cons_zero, List.set_cons_succ]
        refine wpAnyH_ready (rs := [3]) (by kernel_rfl) (by simp) ?_
        refine AllReadyH.cons (o := ⟨some 8, _, _, _, _, _⟩) rfl (fun K hK => ?_) ?_
        rotate_left 1
        · exact AllReadyH.nil
        have hsz_ := HB.size
        go_simp
        go_at_call 35
        refine (QR.out _ (HP.out _ HB)).mono ?_
        rintro e v4_3 ⟨rfl, hb_⟩
        replace O1 := own_below O1 hb_
        replace H4 := H4.later hb_
        replace H5 := H5.later hb_
        replace HB := HB.trans (hb_.mono hsz_)
        clear hb_ hsz_
        refine hK.out _ _ (HS.out _ HB) (fun hHeld => ?_)
        clear hK K
        try simp only [Act.put, List.setIfInBounds_toArray, List.set_cons_zero, List.set_cons_succ]
        refine wpAnyH_ready (rs := [6]) (by kernel_rfl) (by simp) ?_
        refine AllReadyH.cons (o := ⟨none, _, _, _, _, _⟩) rfl (fun K hK => ?_) ?_
        rotate_left 1
        · exact AllReadyH.nil
        have hsz_ := HB.size
        obtain ⟨_, _⟩ := H4.one
        have hg_ := grown_set v4_3 k4 0 (.slice A1 m c1)
        have n14 : ∀ g, (Value.slice A1 m c1).ownBlock = some g → g ≠ k4 := fun g hg => own_ne O1 H4 (by decide) g hg
        replace O1 := kept_ne O1 hg_ n14
        replace H4 : Holds (v4_3.setCell ⟨k4, 0, none⟩ (.slice A1 m c1)) k4 #[(.slice A1 m c1)] 43 := Blk.set_own H4 0 (.slice A1 m c1)
        replace H5 := H5.far ⟨k4, 0, none⟩ (.slice A1 m c1) (fun e => n45 e.symm)
        replace HB := HB.grown hg_ hsz_ (fun k hk => by injection hk with hk; omega)
        go_simp
        generalize v4_3.setCell ⟨k4, 0, none⟩ (.slice A1 m c1) = v5_6 at *
        clear hg_ hsz_
        refine hK.out _ _ (HS.out _ HB) (fun hHeld => ?_)
        clear hK K
        try simp only [Act.put]
        refine wpAnyH_ready (rs := [7]) (by kernel_rfl) (by simp) ?_
        refine AllReadyH.cons (o := ⟨none, _, _, _, _, _⟩) rfl (fun K hK => ?_) ?_
        rotate_left 1
        · exact AllReadyH.nil
        have hsz_ := HB.size
        obtain ⟨_, _⟩ := H5.one
        have hg_ := grown_set v5_6 k5 0 (.int .i64 rr)
        replace O1 := kept_ne O1 hg_ n15
        replace H5 : Holds (v5_6.setCell ⟨k5, 0, none⟩ (.int .i64 rr)) k5 #[(.int .i64 rr)] 3 := Blk.set_own H5 0 (.int .i64 rr)
        replace H4 := H4.far ⟨k5, 0, none⟩ (.int .i64 rr) n45
        replace HB := HB.grown hg_ hsz_ (fun k hk => by injection hk with hk; omega)
        go_simp
        generalize v5_6.setCell ⟨k5, 0, none⟩ (.int .i64 rr) = v6_7 at *
        clear hg_ hsz_
        refine hK.out _ _ (HS.out _ HB) (fun hHeld => ?_)
        clear hK K
        try simp only [Act.put]
        refine wpAnyH_done (by kernel_rfl) ?_ _
        exact ⟨A1, c1, k4, k5, rfl, rfl, own_base O1 (Nat.le_of_eq hdz_.out.symm), hnil, H4, H5, by rw [← hdz_.out]; exact lo4, by rw [← hdz_.out]; exact lo5, hd_.trans (by rw [← hdz_.out]; exact HB)⟩
      exact AllReadyH.nil
    exact AllReadyH.nil

  rintro _ _ w5 ⟨A1, c1, k4, k5, rfl, rfl, O1, hnil, H4, H5, lo4, lo5, hb5⟩
  obtain ⟨hbx, hpt, hBw⟩ := hF.out _ hb5
  obtain ⟨c4_, _⟩ := H4.one
  have hsz5 := hb5.size
  by_cases c0 : m = 0
  · subst c0
    have E : Hid (r = []) := Lib.hid (by rw [← HE.out]; rfl)
    obtain rfl : A1 = none := hnil (List.length_eq_zero_iff.1 hlm)
    have hB := Lib.hid hBw
    clear HE HL hl O1 hF HO QC QR hnil
    go_wp2_with fail
    go_ret
    exact ⟨none, 0, by rw [E.out]; rfl, by rw [E.out]; exact World.ownsRow_nil _ _ _ _, hB.out⟩
  obtain rfl : m = n := HL.out c0
  obtain ⟨g2, cp2, e2, _, _⟩ := O1.form (by omega)
  have T5 := CntImpl.ints_own O1
  obtain ⟨ad, rfl⟩ : ∃ ad, A1 = some ad := ⟨⟨g2, 0, none⟩, by injection e2⟩
  have QT : Hid (∀ eF, _) := Lib.hid fun eF => ThatImpl.cornersThat 80 #[.pointer (some ⟨k4, 0, none⟩), .pointer (some ⟨k5, 0, none⟩)] (fun k => decide (l.getD k 0 = rr)) A m cap w5 hn eF
    (fun W k hk hb => asks (some ad) m c1 k4 k5 rr k W l hlm (by omega) hk (H4.later hb) (H5.later hb) ((T5.later hb).wide hb.size))
  obtain ⟨_, _⟩ := id hbx
  have hB := Lib.hid hBw
  have hBz := hBw.size
  rw [HE.out] at QT
  clear HE HL hl O1 hF HO QC QR hnil e2 hpt T5
  go_wp2_with fail
  refine (QT.out ?eF).mono ?_
  case eF => (intro args w; first | exact Tryz.call80 args w | rfl)
  rintro e w6 ⟨A3, c3, rfl, O3, hb_⟩
  have O4 := Lib.hid (own_base O3 hBz)
  have hB6 := Lib.hid (hB.out.trans (hb_.mono hBz))
  obtain ⟨q, hq⟩ : ∃ q, r.length = q := ⟨_, rfl⟩
  rw [hq] at O4 ⊢
  clear QT O3 hb_
  go_wp2_with fail
  go_ret
  subst hq
  exact ⟨A3, c3, rfl, O4.out, hB6.out⟩
end Go.Proofs.YtkcodmafakjkfaaGreat.CgdImpl
