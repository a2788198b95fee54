/-
  Halls that must be guarded, as the landed code finds them: contracts.
-/
import Derived.Test.YtagokcbldkbdmaaHouOut
namespace Go.Proofs.Ytagokcbldkbdmaa.HouGimpl
open Go.RowKit Pts Blk HouMath HouMathB HouMathC HouGmath HouOut HouBox HouMem Ints JoinMath
open Go.Proofs.Ytagokcbldkbdmaa.Own (icells icells_length icells_at icells_snoc own_shape own_cell own_below own_base own_empty GivesI)
open PointOk (ret_bool ret_i64 below1 below2 below3)

theorem infoI : (Try.prog.info? 3).map (fun i => (i.zero, i.size, i.bytes)) = some (some (.int .i64 0), 1, 8) := by kernel_rfl
set_option maxRecDepth 100000 in
theorem mk (N : Nat) (h : 1 ≤ N ∧ N ≤ 7) : ∀ w, (Instr.makeSlice 144 (.int .i64 (N : Int)) (.int .i64 (N : Int))).run Try.prog w = .ok (.slice (some ⟨w.heap.size, 0, none⟩) N N) (w.alloc (.cells (bs (List.replicate N false)) 4)) := by
  intro w
  obtain h | h | h | h | h | h | h : N = 1 ∨ N = 2 ∨ N = 3 ∨ N = 4 ∨ N = 5 ∨ N = 6 ∨ N = 7 := by omega
  all_goals subst h
  all_goals kernel_rfl
theorem bs_set (M : List Bool) (z : Nat) (x : Bool) : (bs M).setIfInBounds z (.bool x) = bs (M.set z x) := by
  unfold bs
  rw [List.setIfInBounds_toArray, List.map_set]
theorem out_eq {N : Nat} {ds : List (Int × Int)} {M : List Bool} {f : Nat → Bool} (h : ∀ y, y < N → M.getD y false = f y) {a : Nat} (ha : a < N) : bordB N ds f a = (M.getD a false && outB N ds M a) := by
  unfold bordB outB
  rw [← h a ha, ← outTo_congr (f := fun y => M.getD y false) h, outTo_any]
  rfl

set_option maxRecDepth 100000 in
set_option maxHeartbeats 6400000 in
theorem guardsIn (N : Nat) (A : Option Addr) (n cap : Nat) (B : Option Addr) (m cb : Nat) (w : World) (ds : List (Int × Int)) (hl : ds.length = n) (hf : HForm N ds) (hp : PtsAt w w.heap.size A ds) (zs : List Int) (hz : zs.length = m) (hm : m ≤ 1048576) (hall : hallsB N zs = true) (hq : IntsAt w w.heap.size B zs) :
    Calls Try.prog 70 #[.agg #[.int .i64 N, .slice A n cap], .slice B m cb] w (GivesI 3 w (guardTo N ds (inZ zs) N)) := by
  have hN1 : 1 ≤ N := by have := hf.h1; omega
  have hN7 : N ≤ 7 := by have := hf.h7; omega
  have hmk := mk N ⟨hN1, hN7⟩
  have HZ : Hid (∀ k, k < m → ∃ z : Nat, z < N ∧ zs.getD k 0 = (z : Int)) := Lib.hid (fun k hk => by
    have := halls_get hall (k := k) (by omega)
    obtain ⟨z, hz⟩ := Int.eq_ofNat_of_zero_le this.1
    exact ⟨z, by omega, hz⟩)
  have HSet : Hid (∀ (M : List Bool) k, M.length = N → (∀ y, y < N → M.getD y false = inZ (zs.take k) y) → k < m → ∀ z : Nat, zs.getD k 0 = (z : Int) → ∀ y, y < N → (M.set z true).getD y false = inZ (zs.take (k + 1)) y) := Lib.hid (fun M k hM h hk z hz2 => set_in hM h (by omega) hz2)
  have QL := Lib.hid fun (M : List Bool) (hM : M.length = N) (g a : Nat) w hp hG => leadsOut N n cap a g A ds M hf hl hM w hp hG
  have HEnd : Hid (zs.take m = zs) := Lib.hid (by rw [← hz, List.take_length])
  have HBord : Hid (∀ (M : List Bool), (∀ y, y < N → M.getD y false = inZ zs y) → ∀ a, a < N → bordB N ds (inZ zs) a = (M.getD a false && outB N ds M a)) := Lib.hid (fun M h a ha => out_eq h ha)
  have HS : Hid (∀ k, guardTo N ds (inZ zs) (k + 1) = if bordB N ds (inZ zs) k then guardTo N ds (inZ zs) k ++ [(k : Int)] else guardTo N ds (inZ zs) k) := Lib.hid (fun k => rfl)
  have HLen : Hid (∀ k, (guardTo N ds (inZ zs) k).length ≤ k) := Lib.hid (fun k => guardTo_len N ds (inZ zs) k)
  have HZ0 : guardTo N ds (inZ zs) 0 = [] := rfl
  have HR : Hid (guardTo N ds (inZ zs) N = guardTo N ds (inZ zs) N) := Lib.hid rfl
  obtain ⟨i0, hi, hz0, hz1, hz2⟩ := info_parts infoI
  generalize hnt : guardTo N ds (inZ zs) = nt at *
  clear hf hl hall hnt HR
  go_enter Try.func70, Try.ntmps70
  go_wp2_with fail
  have X0 := HouBox.boxH w N A n cap 30 (k := w.heap.size) (by simp)
  have b0 := PointOk.below1 w (Obj.cells #[.int .i64 N, .slice A n cap] 30)
  have HO : ∀ W W' : World, (HouBox.BoxH W (w.heap.size) N A n cap ∧ PtsAt W w.heap.size A ds ∧ IntsAt W w.heap.size B zs ∧ Below w.heap.size w W) → Below W.heap.size W W' → (HouBox.BoxH W' (w.heap.size) N A n cap ∧ PtsAt W' w.heap.size A ds ∧ IntsAt W' w.heap.size B zs ∧ Below w.heap.size w W') := fun W W' ⟨h0, x0, x1, hb⟩ h => ⟨h0.later h, x0.later (h.mono hb.size), x1.later (h.mono hb.size), hb.trans (h.mono hb.size)⟩
  have hz0_ : Hid (((w.alloc (Obj.cells #[.int .i64 N, .slice A n cap] 30))).heap.size = w.heap.size + 1) := Lib.hid (by simp)
  have Y0 : PtsAt ((w.alloc (Obj.cells #[.int .i64 N, .slice A n cap] 30))) w.heap.size A ds := hp.later b0
  have Y1 : IntsAt ((w.alloc (Obj.cells #[.int .i64 N, .slice A n cap] 30))) w.heap.size B zs := hq.later b0
  generalize (w.alloc (Obj.cells #[.int .i64 N, .slice A n cap] 30)) = w0 at X0 Y0 Y1 b0 hz0_ ⊢
  have S0 := (⟨X0, Y0, Y1, b0⟩ : HouBox.BoxH w0 (w.heap.size) N A n cap ∧ PtsAt w0 w.heap.size A ds ∧ IntsAt w0 w.heap.size B zs ∧ Below w.heap.size w w0)
  clear X0 Y0 Y1 b0
  obtain ⟨⟨_, _⟩, _, _, _⟩ := id S0
  have HO2 : ∀ W W' : World, (HouBox.BoxH W (w.heap.size) N A n cap ∧ PtsAt W w.heap.size A ds ∧ IntsAt W w.heap.size B zs ∧ Below w.heap.size w W) → Below (w.heap.size + 1) W W' → (HouBox.BoxH W' (w.heap.size) N A n cap ∧ PtsAt W' w.heap.size A ds ∧ IntsAt W' w.heap.size B zs ∧ Below w.heap.size w W') := fun W W' ⟨h0, h1, h2, hb⟩ h => ⟨⟨(h.cell (p := ⟨w.heap.size, 0, none⟩) (by show w.heap.size < w.heap.size + 1; omega)).trans h0.1, (h.cell (p := ⟨w.heap.size, 1, none⟩) (by show w.heap.size < w.heap.size + 1; omega)).trans h0.2⟩, h1.later (h.mono (by omega)), h2.later (h.mono (by omega)), hb.trans (h.mono (by omega))⟩
  have G0 := Holds.new w0 (bs (List.replicate N false)) 4
  rw [hz0_.out] at G0
  replace S0 := HO _ _ S0 (below1 w0 (Obj.cells (bs (List.replicate N false)) 4))
  try rw [hz0_.out]
  go_loopw [15] (fun i wr => ∃ (k : Nat) (M : List Bool), k ≤ m ∧ i = .int .i64 k ∧ M.length = N ∧ Hid (∀ y, y < N → M.getD y false = inZ (zs.take k) y) ∧ Holds wr (w.heap.size + 1) (bs M) 4 ∧ (HouBox.BoxH wr (w.heap.size) N A n cap ∧ PtsAt wr w.heap.size A ds ∧ IntsAt wr w.heap.size B zs ∧ Below w.heap.size w wr))
    (fun i _ => m - (intOf i).toNat)
  case atStart => exact ⟨0, List.replicate N false, Nat.zero_le _, rfl, by simp, Lib.hid (fun y hy => by simp [inZ, List.getD_eq_getElem?_getD, hy]), G0, S0⟩
  case round =>
    clear S0 G0
    obtain ⟨k, M, hkm, rfl, hM, hMy, hG, S0⟩ := hrel
    obtain ⟨⟨_, _⟩, _, _, _⟩ := id S0
    by_cases hlt : k < m
    · have hk1 : (k : Int) < (m : Int) := by omega
      have hk0 : (0 : Int) ≤ (k : Int) := by omega
      have p0 := at_d (zs := zs) (k := k) (by omega)
      obtain ⟨z, hzN, hzz⟩ := HZ.out k hlt
      have HM1 := Lib.hid (HSet.out M k hM hMy.out hlt z hzz)
      rw [hzz] at p0
      obtain ⟨bd, eB, bB, pB⟩ := S0.2.2.1.get p0
      subst eB
      obtain ⟨_, _⟩ := id pB
      have hz0' : (0 : Int) ≤ (z : Int) := by omega
      have hz1' : (z : Int) < (N : Int) := by omega
      have hcell := HouDist.cellF hG (bs_at (M := M) (j := z) (by omega))
      obtain ⟨_, _⟩ := hcell
      have G1 := Lib.hid (set_own hG z (.bool true))
      rw [bs_set] at G1
      have hb1 : Below (w.heap.size + 1) wr (wr.setCell ⟨w.heap.size + 1, z, none⟩ (.bool true)) := (Below.refl _ wr).setCell (p := ⟨w.heap.size + 1, z, none⟩) (Nat.le_refl _) _
      have S1 := Lib.hid (HO2 _ _ S0 hb1)
      clear HZ HSet QL HBord HS HLen HZ0 hMy p0 hzz hb1
      go_wp2_with fail
      exact ⟨⟨k + 1, M.set z true, by omega, by go_num, by simp [hM], HM1, G1.out, S1.out⟩, by simp [intOf]; omega⟩
    obtain rfl : m = k := by omega
    rw [HEnd.out] at hMy
    have HB := Lib.hid (HBord.out M hMy.out)
    have QL1 := Lib.hid (QL.out M hM (w.heap.size + 1))
    have hlt5 : w.heap.size + 1 < wr.heap.size := hG.lt
    have HSB : Hid (∀ W W' : World, ((HouBox.BoxH W (w.heap.size) N A n cap ∧ PtsAt W w.heap.size A ds ∧ IntsAt W w.heap.size B zs ∧ Below w.heap.size w W) ∧ Holds W (w.heap.size + 1) (bs M) 4) → Below (w.heap.size + 2) W W' → ((HouBox.BoxH W' (w.heap.size) N A n cap ∧ PtsAt W' w.heap.size A ds ∧ IntsAt W' w.heap.size B zs ∧ Below w.heap.size w W') ∧ Holds W' (w.heap.size + 1) (bs M) 4)) := Lib.hid (fun W W' h hb => ⟨HO2 _ _ h.1 (hb.mono (by omega)), (hb.block _ (by omega)).trans h.2⟩)
    have T0 := And.intro S0 hG
    clear HZ HSet QL HBord HEnd hMy S0 hG
    go_wp2_with fail
    go_loopw [8, 25] (fun v i wr => ∃ k : Nat, k ≤ N ∧ i = .int .i64 k ∧ wr.ownsRow (w.heap.size + 2) 3 1 v (nt k).length (icells (nt k)) ∧ w.heap.size + 2 ≤ wr.heap.size ∧ ((HouBox.BoxH wr (w.heap.size) N A n cap ∧ PtsAt wr w.heap.size A ds ∧ IntsAt wr w.heap.size B zs ∧ Below w.heap.size w wr) ∧ Holds wr (w.heap.size + 1) (bs M) 4))
      (fun _ i _ => N - (intOf i).toNat)
    case atStart => exact ⟨0, Nat.zero_le _, rfl, by rw [HZ0]; exact World.ownsRow_nil _ _ _ _, by omega, T0⟩
    case round =>
      clear T0 HZ0 hlt5
      obtain ⟨k, hkn, rfl, hown, hsz, T0⟩ := hrel
      obtain ⟨⟨⟨_, _⟩, _, _, _⟩, hG⟩ := id T0
      by_cases hlt : k < N
      rotate_left
      · obtain rfl : N = k := by omega
        have hown2 := Lib.hid hown
        obtain ⟨A1, c1, rfl⟩ := own_shape hown
        clear hown HS HLen QL1 HB
        go_wp2_with fail
        go_ret
        exact ⟨A1, c1, rfl, own_base hown2.out (show w.heap.size ≤ w.heap.size + 2 by omega), T0.1.2.2.2⟩
      have hk1 : (k : Int) < (N : Int) := by omega
      have hk0 : (0 : Int) ≤ (k : Int) := by omega
      have HL := HS.out k
      rw [HB.out k hlt] at HL
      have Q := Lib.hid (QL1.out k)
      have hlen := HLen.out k
      obtain ⟨ck, _⟩ := HouDist.cellF hG (bs_at (M := M) (j := k) (by omega))
      generalize hl0 : nt k = l0 at *
      obtain ⟨q, hmq⟩ : ∃ q, l0.length = q := ⟨_, rfl⟩
      rw [hmq] at hown hlen
      obtain ⟨Ao, co, rfl⟩ := own_shape hown
      have hq7 : q ≤ 7 := by omega
      obtain ⟨c, hc⟩ : ∃ c, M.getD k false = c := ⟨_, rfl⟩
      obtain ⟨o, ho⟩ : ∃ o, outB N ds M k = o := ⟨_, rfl⟩
      rw [hc, ho] at HL
      rw [hc] at ck
      rw [ho] at Q
      replace HL := Lib.hid HL
      have T1 := Lib.hid T0
      replace hown := Lib.hid hown
      clear hl0 hlen HLen HS QL1 HB hc ho
      cases c
      · have HL2 : Hid (nt (k + 1) = l0) := Lib.hid (by rw [HL.out]; rfl)
        clear HL Q
        go_wp2_with fail
        exact ⟨⟨k + 1, by omega, by go_num, by rw [HL2.out, hmq]; exact hown.out, hsz, T1.out⟩, by simp [intOf]; omega⟩
      go_wp2_with fail
      refine (Q.out _ (T1.out.1.2.1.wide T1.out.1.2.2.2.size) hG).mono ?_
      rintro e wz ⟨rfl, hb_⟩
      have T2 := Lib.hid (HSB.out _ _ T1.out (hb_.mono hsz))
      replace hown := Lib.hid (own_below hown.out hb_)
      replace hsz := Nat.le_trans hsz hb_.size
      clear Q hb_ T1 T0 hG ck
      obtain ⟨⟨⟨_, _⟩, _, _, _⟩, _⟩ := id T2.out
      cases o
      · have HL2 : Hid (nt (k + 1) = l0) := Lib.hid (by rw [HL.out]; rfl)
        clear HL
        go_wp2_with fail
        exact ⟨⟨k + 1, by omega, by go_num, by rw [HL2.out, hmq]; exact hown.out, hsz, T2.out⟩, by simp [intOf]; omega⟩
      have HL2 : Hid (nt (k + 1) = l0 ++ [(k : Int)]) := Lib.hid (by rw [HL.out]; rfl)
      clear HL
      replace hown := hown.out
      go_wp2_with (at_builtin; refine wpList_append_own _ rfl _ _ 26 rfl (w.heap.size + 2) 3 i0 (.int .i64 0) 1 8 Try.underlying26 hi hz0 hz1 hz2 rfl (by decide) _ _ _ rfl (hown.alloc _) ⟨wz.heap.size, 0, none⟩ 1 1 [.int .i64 (k : Int)] rfl rfl ?c1 ?c2 ?c3 ?c4 ?c5 ?_)
      case c1 => (intro j u hj; match j, hj with | 0, hj => (simp at hj; subst hj; simp [Addr.add]))
      case c2 => (intro u hu; simp at hu; subst hu; rfl)
      case c3 => (unfold maxLen; omega)
      case c4 => omega
      case c5 => (simp; omega)
      intro v1_ wa_ ho_ hg_ _
      have hb0 : Below (w.heap.size + 2) wz (wz.alloc (Obj.cells #[.int .i64 (k : Int)] 3)) := (below1 _ _).mono hsz
      have hb1 := hb0.grown hg_ (by simp; omega) (fun g hg => (hown.lt g hg).1)
      have HN1 := Lib.hid (HSB.out _ _ T2.out hb1)
      have HN : Hid (wa_.ownsRow (w.heap.size + 2) 3 1 v1_ (nt (k + 1)).length (icells (nt (k + 1))) ∧ w.heap.size + 2 ≤ wa_.heap.size) := Lib.hid (by
        rw [HL2.out, icells_snoc, List.length_append, hmq]
        exact ⟨ho_, Nat.le_trans hsz hb1.size⟩)
      clear ho_ hg_ hown HL2 T2 hb0 hb1
      go_wp2_with fail
      first
        | exact ⟨⟨k + 1, by omega, by go_num, HN.out.1, HN.out.2, HN1.out⟩, by simp [intOf]; omega⟩
        | (go_roundw <;> first | exact ⟨k + 1, by omega, by go_num, HN.out.1, HN.out.2, HN1.out⟩ | (simp [intOf]; omega))

set_option maxRecDepth 100000 in
set_option maxHeartbeats 1600000 in
theorem guardsAfter (H : Int) (A : Option Addr) (n cap : Nat) (B : Option Addr) (m cb : Nat) (w : World) (ds : List (Int × Int)) (hl : ds.length = n) (hn : n ≤ 1048576) (hp : PtsAt w w.heap.size A ds) (zs : List Int) (hz : zs.length = m) (hm : m ≤ 1048576) (hq : IntsAt w w.heap.size B zs) :
    Calls Try.prog 24 #[.agg #[.int .i64 H, .slice A n cap], .slice B m cb] w (GivesI 3 w (guardL H ds zs)) := by
  obtain ⟨r, hr⟩ : ∃ r, guardL H ds zs = r := ⟨_, rfl⟩
  have HR := Lib.hid hr
  rw [hr]
  clear hr
  have Q1 : Hid (∀ w hp, _) := Lib.hid fun w hp => HouImpl.houseOk H A n cap w ds hl hn hp
  have Q2 : Hid (∀ w hq, _) := Lib.hid fun w hq => HouWimpl.areHalls H A n cap B m cb w zs hz hm hq
  cases cA : houseB H ds
  · have E : r = [] := by rw [← HR.out]; exact guard_no (by rw [cA]; rfl)
    subst E
    rw [cA] at Q1
    clear HR cA hl Q2
    go_enter Try.func24, Try.ntmps24
    go_wp2_with fail
    have X0 := HouBox.boxH w H A n cap 30 (k := w.heap.size) (by simp)
    have b0 := PointOk.below1 w (Obj.cells #[.int .i64 H, .slice A n cap] 30)
    have HO : ∀ W W' : World, (HouBox.BoxH W (w.heap.size) H A n cap ∧ PtsAt W w.heap.size A ds ∧ IntsAt W w.heap.size B zs ∧ Below w.heap.size w W) → Below W.heap.size W W' → (HouBox.BoxH W' (w.heap.size) H A n cap ∧ PtsAt W' w.heap.size A ds ∧ IntsAt W' w.heap.size B zs ∧ Below w.heap.size w W') := fun W W' ⟨h0, x0, x1, hb⟩ h => ⟨h0.later h, x0.later (h.mono hb.size), x1.later (h.mono hb.size), hb.trans (h.mono hb.size)⟩
    have hz0_ : Hid (((w.alloc (Obj.cells #[.int .i64 H, .slice A n cap] 30))).heap.size = w.heap.size + 1) := Lib.hid (by simp)
    have Y0 : PtsAt ((w.alloc (Obj.cells #[.int .i64 H, .slice A n cap] 30))) w.heap.size A ds := hp.later b0
    have Y1 : IntsAt ((w.alloc (Obj.cells #[.int .i64 H, .slice A n cap] 30))) w.heap.size B zs := hq.later b0
    generalize (w.alloc (Obj.cells #[.int .i64 H, .slice A n cap] 30)) = w0 at X0 Y0 Y1 b0 hz0_ ⊢
    have S0 := (⟨X0, Y0, Y1, b0⟩ : HouBox.BoxH w0 (w.heap.size) H A n cap ∧ PtsAt w0 w.heap.size A ds ∧ IntsAt w0 w.heap.size B zs ∧ Below w.heap.size w w0)
    clear X0 Y0 Y1 b0
    obtain ⟨⟨_, _⟩, _, _, _⟩ := id S0
    refine (Q1.out _ (S0.2.1.wide S0.2.2.2.size)).mono ?_
    rintro e w1 ⟨rfl, hb_⟩
    replace S0 := HO _ _ S0 hb_
    clear hb_
    obtain ⟨⟨_, _⟩, _, _, _⟩ := id S0
    go_wp2_with fail
    go_ret
    exact ⟨none, 0, rfl, World.ownsRow_nil _ _ _ _, S0.2.2.2⟩
  rw [cA] at Q1
  cases hc : hallsB H zs
  · have E : r = [] := by rw [← HR.out]; exact guard_no (by rw [cA, hc]; rfl)
    subst E
    rw [hc] at Q2
    clear HR cA hc hl
    go_enter Try.func24, Try.ntmps24
    go_wp2_with fail
    have X0 := HouBox.boxH w H A n cap 30 (k := w.heap.size) (by simp)
    have b0 := PointOk.below1 w (Obj.cells #[.int .i64 H, .slice A n cap] 30)
    have HO : ∀ W W' : World, (HouBox.BoxH W (w.heap.size) H A n cap ∧ PtsAt W w.heap.size A ds ∧ IntsAt W w.heap.size B zs ∧ Below w.heap.size w W) → Below W.heap.size W W' → (HouBox.BoxH W' (w.heap.size) H A n cap ∧ PtsAt W' w.heap.size A ds ∧ IntsAt W' w.heap.size B zs ∧ Below w.heap.size w W') := fun W W' ⟨h0, x0, x1, hb⟩ h => ⟨h0.later h, x0.later (h.mono hb.size), x1.later (h.mono hb.size), hb.trans (h.mono hb.size)⟩
    have hz0_ : Hid (((w.alloc (Obj.cells #[.int .i64 H, .slice A n cap] 30))).heap.size = w.heap.size + 1) := Lib.hid (by simp)
    have Y0 : PtsAt ((w.alloc (Obj.cells #[.int .i64 H, .slice A n cap] 30))) w.heap.size A ds := hp.later b0
    have Y1 : IntsAt ((w.alloc (Obj.cells #[.int .i64 H, .slice A n cap] 30))) w.heap.size B zs := hq.later b0
    generalize (w.alloc (Obj.cells #[.int .i64 H, .slice A n cap] 30)) = w0 at X0 Y0 Y1 b0 hz0_ ⊢
    have S0 := (⟨X0, Y0, Y1, b0⟩ : HouBox.BoxH w0 (w.heap.size) H A n cap ∧ PtsAt w0 w.heap.size A ds ∧ IntsAt w0 w.heap.size B zs ∧ Below w.heap.size w w0)
    clear X0 Y0 Y1 b0
    obtain ⟨⟨_, _⟩, _, _, _⟩ := id S0
    refine (Q1.out _ (S0.2.1.wide S0.2.2.2.size)).mono ?_
    rintro e w1 ⟨rfl, hb_⟩
    replace S0 := HO _ _ S0 hb_
    clear hb_
    obtain ⟨⟨_, _⟩, _, _, _⟩ := id S0
    go_wp2_with fail
    refine (Q2.out _ (S0.2.2.1.wide S0.2.2.2.size)).mono ?_
    rintro e w2 ⟨rfl, hb_⟩
    replace S0 := HO _ _ S0 hb_
    clear hb_
    obtain ⟨⟨_, _⟩, _, _, _⟩ := id S0
    go_wp2_with fail
    go_ret
    exact ⟨none, 0, rfl, World.ownsRow_nil _ _ _ _, S0.2.2.2⟩
  rw [hc] at Q2
  have hf := house_form cA
  obtain ⟨N, rfl⟩ := Int.eq_ofNat_of_zero_le (show 0 ≤ H by have := hf.h1; omega)
  have E : r = guardTo N ds (inZ zs) N := by rw [← HR.out]; exact guard_yes (by rw [cA, hc]; rfl)
  have Q3 := Lib.hid fun w hp hq => guardsIn N A n cap B m cb w ds hl hf hp zs hz hm hc hq
  subst E
  unfold GivesI at Q3
  generalize guardTo N ds (inZ zs) N = l at *
  clear HR cA hc hf hl
  go_enter Try.func24, Try.ntmps24
  go_wp2_with fail
  have X0 := HouBox.boxH w N A n cap 30 (k := w.heap.size) (by simp)
  have b0 := PointOk.below1 w (Obj.cells #[.int .i64 N, .slice A n cap] 30)
  have HO : ∀ W W' : World, (HouBox.BoxH W (w.heap.size) N A n cap ∧ PtsAt W w.heap.size A ds ∧ IntsAt W w.heap.size B zs ∧ Below w.heap.size w W) → Below W.heap.size W W' → (HouBox.BoxH W' (w.heap.size) N A n cap ∧ PtsAt W' w.heap.size A ds ∧ IntsAt W' w.heap.size B zs ∧ Below w.heap.size w W') := fun W W' ⟨h0, x0, x1, hb⟩ h => ⟨h0.later h, x0.later (h.mono hb.size), x1.later (h.mono hb.size), hb.trans (h.mono hb.size)⟩
  have hz0_ : Hid (((w.alloc (Obj.cells #[.int .i64 N, .slice A n cap] 30))).heap.size = w.heap.size + 1) := Lib.hid (by simp)
  have Y0 : PtsAt ((w.alloc (Obj.cells #[.int .i64 N, .slice A n cap] 30))) w.heap.size A ds := hp.later b0
  have Y1 : IntsAt ((w.alloc (Obj.cells #[.int .i64 N, .slice A n cap] 30))) w.heap.size B zs := hq.later b0
  generalize (w.alloc (Obj.cells #[.int .i64 N, .slice A n cap] 30)) = w0 at X0 Y0 Y1 b0 hz0_ ⊢
  have S0 := (⟨X0, Y0, Y1, b0⟩ : HouBox.BoxH w0 (w.heap.size) N A n cap ∧ PtsAt w0 w.heap.size A ds ∧ IntsAt w0 w.heap.size B zs ∧ Below w.heap.size w w0)
  clear X0 Y0 Y1 b0
  obtain ⟨⟨_, _⟩, _, _, _⟩ := id S0
  refine (Q1.out _ (S0.2.1.wide S0.2.2.2.size)).mono ?_
  rintro e w1 ⟨rfl, hb_⟩
  replace S0 := HO _ _ S0 hb_
  clear hb_
  obtain ⟨⟨_, _⟩, _, _, _⟩ := id S0
  go_wp2_with fail
  refine (Q2.out _ (S0.2.2.1.wide S0.2.2.2.size)).mono ?_
  rintro e w2 ⟨rfl, hb_⟩
  replace S0 := HO _ _ S0 hb_
  clear hb_
  obtain ⟨⟨_, _⟩, _, _, _⟩ := id S0
  go_wp2_with fail
  refine (Q3.out _ (S0.2.1.wide S0.2.2.2.size) (S0.2.2.1.wide S0.2.2.2.size)).mono ?_
  rintro e w5 ⟨A2, c2, rfl, H2, hb_⟩
  replace H2 := Lib.hid (own_base H2 (b' := w.heap.size) S0.2.2.2.size)
  replace S0 := HO _ _ S0 hb_
  clear hb_ Q3 Q1 Q2
  go_wp2_with fail
  go_ret
  exact ⟨A2, c2, rfl, H2.out, S0.2.2.2⟩
end Go.Proofs.Ytagokcbldkbdmaa.HouGimpl

