/-
  What the landed text says of the nearest of some halls, as a contract.
-/
import Derived.Test.YtknnekidfhooeaaHouWimpl
import Derived.Test.YtknnekidfhooeaaHouMathN
import Derived.Test.YtknnekidfhooeaaIntSl
namespace Go.Proofs.Ytknnekidfhooeaa.HouNimpl
open Go.RowKit Pts Blk HouMath HouMathB HouMathC HouMathN HouBox HouMem Ints JoinMath RoomMath
open Go.Proofs.Ytknnekidfhooeaa.Own (icells icells_length icells_at icells_snoc own_shape own_cell own_below own_base GivesI)
open PointOk (ret_bool ret_i64 below1 below2 below3)

theorem own_ints {w : World} {b e cap : Nat} {A : Option Addr} {l : List Int} (h : w.ownsRow b e 1 (.slice A l.length cap) l.length (icells l)) : IntsAt w w.heap.size A l := by
  intro j hj
  obtain ⟨g, rfl, _, hlt, hc, _⟩ := own_cell h hj (icells_at hj)
  exact ⟨_, rfl, hlt, by rw [Pts.add_head]; exact hc⟩

theorem infoI : (Try.prog.info? 3).map (fun i => (i.zero, i.size, i.bytes)) = some (some (.int .i64 0), 1, 8) := by kernel_rfl

set_option maxRecDepth 100000 in
set_option maxHeartbeats 1600000 in
theorem waysTo (A : Option Addr) (n cap N a : Nat) (ds : List (Int × Int)) (hf : HForm N ds) (hl : ds.length = n) (ha : a < N) (B : Option Addr) (m cb : Nat) (zs : List Int) (hz : zs.length = m) (hm : m ≤ 1048576)
    (HZ : ∀ k, k < m → ∃ z : Nat, z < N ∧ zs.getD k 0 = (z : Int)) (w : World) (hp : PtsAt w w.heap.size A ds) (hq : IntsAt w w.heap.size B zs) :
    Calls Try.prog 69 #[.agg #[.int .i64 N, .slice A n cap], .slice B m cb, .int .i64 a] w (GivesI 3 w (wayL (dist N ds a) zs)) := by
  have Q1 := Lib.hid fun w hp => HouDist.distancesIn A n cap N a ds hf hl ha w hp
  have hDl := dist_len (ds := ds) ha
  have h7 : N ≤ 7 := by have := hf.h7; omega
  generalize dist N ds a = D at *
  obtain ⟨i0, hi, hz0, hz1, hz2⟩ := info_parts infoI
  replace HZ := Lib.hid HZ
  clear hf hl ha
  go_enter Try.func69, Try.ntmps69
  go_wp2_with fail
  have X0 := HouBox.boxH w N A n cap 29 (k := w.heap.size) (by simp)
  have b0 := PointOk.below1 w (Obj.cells #[.int .i64 N, .slice A n cap] 29)
  have HO : ∀ W W' : World, (HouBox.BoxH W (w.heap.size) N A n cap ∧ PtsAt W w.heap.size A ds ∧ IntsAt W w.heap.size B zs ∧ Below w.heap.size w W) → Below W.heap.size W W' → (HouBox.BoxH W' (w.heap.size) N A n cap ∧ PtsAt W' w.heap.size A ds ∧ IntsAt W' w.heap.size B zs ∧ Below w.heap.size w W') := fun W W' ⟨h0, x0, x1, hb⟩ h => ⟨h0.later h, x0.later (h.mono hb.size), x1.later (h.mono hb.size), hb.trans (h.mono hb.size)⟩
  have hz0_ : Hid (((w.alloc (Obj.cells #[.int .i64 N, .slice A n cap] 29))).heap.size = w.heap.size + 1) := Lib.hid (by simp)
  have Y0 : PtsAt ((w.alloc (Obj.cells #[.int .i64 N, .slice A n cap] 29))) w.heap.size A ds := hp.later b0
  have Y1 : IntsAt ((w.alloc (Obj.cells #[.int .i64 N, .slice A n cap] 29))) w.heap.size B zs := hq.later b0
  generalize (w.alloc (Obj.cells #[.int .i64 N, .slice A n cap] 29)) = w0 at X0 Y0 Y1 b0 hz0_ ⊢
  have S0 := (⟨X0, Y0, Y1, b0⟩ : HouBox.BoxH w0 (w.heap.size) N A n cap ∧ PtsAt w0 w.heap.size A ds ∧ IntsAt w0 w.heap.size B zs ∧ Below w.heap.size w w0)
  clear X0 Y0 Y1 b0
  obtain ⟨⟨_, _⟩, _, _, _⟩ := id S0
  refine (Q1.out _ (S0.2.1.wide S0.2.2.2.size)).mono ?_
  rintro e w3 ⟨g, rfl, hG, hg, hb_⟩
  replace S0 := HO _ _ S0 hb_
  obtain ⟨bb, hbb⟩ : ∃ b, w3.heap.size = b := ⟨_, rfl⟩
  have hgl := hG.lt
  have hwb : w.heap.size ≤ w3.heap.size := S0.2.2.2.size
  rw [hbb] at hgl hwb
  have hS1 : Hid (IntsAt w3 w.heap.size B zs ∧ Holds w3 g (icells D).toArray 3 ∧ bb ≤ w3.heap.size ∧ Below w.heap.size w w3) := Lib.hid ⟨S0.2.2.1, hG, by omega, S0.2.2.2⟩
  clear Q1 hb_ hg hG S0 hp hq HO hbb
  have S0 := hS1.out
  clear hS1
  have HO : ∀ W W' : World, (IntsAt W w.heap.size B zs ∧ Holds W g (icells D).toArray 3 ∧ bb ≤ W.heap.size ∧ Below w.heap.size w W) → Below W.heap.size W W' → (IntsAt W' w.heap.size B zs ∧ Holds W' g (icells D).toArray 3 ∧ bb ≤ W'.heap.size ∧ Below w.heap.size w W') := fun W W' ⟨x0, x1, x2, hb⟩ h => ⟨x0.later (h.mono hb.size), x1.later h, Nat.le_trans x2 h.size, hb.trans (h.mono hb.size)⟩
  have HO2 : ∀ W W' : World, (IntsAt W w.heap.size B zs ∧ Holds W g (icells D).toArray 3 ∧ bb ≤ W.heap.size ∧ Below w.heap.size w W) → Below bb W W' → (IntsAt W' w.heap.size B zs ∧ Holds W' g (icells D).toArray 3 ∧ bb ≤ W'.heap.size ∧ Below w.heap.size w W') := fun W W' ⟨h0, h1, h2, hb⟩ h => ⟨h0.later (h.mono hwb), (h.block _ hgl).trans h1, Nat.le_trans h2 h.size, hb.trans (h.mono hwb)⟩
  obtain ⟨_, _, _, _⟩ := id S0
  go_wp2_with fail
  go_loopw [8, 16] (fun v i wr => ∃ k : Nat, k ≤ m ∧ i = .int .i64 k ∧ wr.ownsRow bb 3 1 v k (icells (wayL D (zs.take k))) ∧ (IntsAt wr w.heap.size B zs ∧ Holds wr g (icells D).toArray 3 ∧ bb ≤ wr.heap.size ∧ Below w.heap.size w wr))
    (fun _ i _ => m - (intOf i).toNat)
  case atStart => exact ⟨0, Nat.zero_le _, rfl, World.ownsRow_nil _ _ _ _, S0⟩
  case round =>
    clear S0
    obtain ⟨k, hk, rfl, hown, S0⟩ := hrel
    obtain ⟨_, _, _, _⟩ := id S0
    by_cases hkm : k < m
    rotate_left
    · obtain rfl : k = m := by omega
      have e1 : zs.take k = zs := List.take_of_length_le (by omega)
      rw [e1] at hown
      have hown2 := Lib.hid hown
      obtain ⟨A1, c1, rfl⟩ := own_shape hown
      have hlw : (wayL D zs).length = k := by rw [wayL_len, hz]
      clear hown HZ hDl e1
      go_wp2_with fail
      go_ret
      exact ⟨A1, c1, by rw [hlw]; rfl, by rw [hlw]; exact own_base hown2.out hwb, S0.2.2.2⟩
    have hk1 : (k : Int) < (m : Int) := by omega
    have hk0 : (0 : Int) ≤ (k : Int) := by omega
    have p0 := at_d (zs := zs) (k := k) (by omega)
    obtain ⟨z, hzN, hzz⟩ := HZ.out k hkm
    rw [hzz] at p0
    have hx0 : (0 : Int) ≤ (z : Int) := by omega
    have hx1 : (z : Int) < (N : Int) := by omega
    obtain ⟨bd, eB, bB, pB⟩ := S0.1.get p0
    subst eB
    have cz := HouVspec.dist_cell S0.2.1 hDl hzN
    have HL := Lib.hid (wayL_snoc D (k := k) (z := z) (by omega) hzz)
    obtain ⟨dz, hdz⟩ : ∃ d, D.getD z 0 = d := ⟨_, rfl⟩
    rw [hdz] at cz HL
    obtain ⟨_, _⟩ := id pB
    obtain ⟨Ao, co, rfl⟩ := own_shape hown
    clear p0 hdz HZ hDl pB
    have hsz := S0.2.2.1
    have S1 := Lib.hid S0
    go_wp2_with (at_builtin; refine wpList_append_own _ rfl _ _ 35 rfl (bb) 3 i0 (.int .i64 0) 1 8 Try.underlying35 hi hz0 hz1 hz2 rfl (by decide) _ _ _ rfl (hown.alloc _) ⟨wr.heap.size, 0, none⟩ 1 1 [.int .i64 dz] rfl rfl ?c1 ?c2 ?c3 ?c4 ?c5 ?_)
    case c1 => (intro j u hj; match j, hj with | 0, hj => (simp at hj; subst hj; simp [Addr.add]))
    case c2 => (intro u hu; simp at hu; subst hu; rfl)
    case c3 => (unfold maxLen; omega)
    case c4 => omega
    case c5 => (simp; omega)
    intro v1_ wa_ ho_ hg_ _
    have HN : Hid (wa_.ownsRow bb 3 1 v1_ (k + 1) (icells (wayL D (zs.take (k + 1)))) ∧ (IntsAt wa_ w.heap.size (some bd) zs ∧ Holds wa_ g (icells D).toArray 3 ∧ bb ≤ wa_.heap.size ∧ Below w.heap.size w wa_)) := Lib.hid (by
      have hb0 : Below bb wr (wr.alloc (Obj.cells #[.int .i64 dz] 3)) := (below1 _ _).mono hsz
      have hb1 := hb0.grown hg_ (by simp; omega) (fun g hg => (hown.lt g hg).1)
      rw [HL.out, icells_snoc]
      exact ⟨ho_, HO2 _ _ S1.out hb1⟩)
    clear ho_ hg_ hown HL S0 S1
    go_wp2_with fail
    first
      | exact ⟨⟨k + 1, by omega, by go_num, HN.out.1, HN.out.2⟩, by simp [intOf]; omega⟩
      | (go_roundw <;> first | exact ⟨k + 1, by omega, by go_num, HN.out.1, HN.out.2⟩ | (simp [intOf]; omega))

set_option maxRecDepth 100000 in
set_option maxHeartbeats 1600000 in
theorem minOf (B : Option Addr) (m cb : Nat) (w : World) (zs : List Int) (hz : zs.length = m) (hm : m ≤ 1048576) (h0 : 0 < m) (hq : IntsAt w w.heap.size B zs) :
    Calls Try.prog 71 #[.slice B m cb] w fun e w' => e = .returned (.int .i64 (leastTo (fun k => zs.getD k 0) (m - 1))) ∧ Below w.heap.size w w' := by
  obtain ⟨r, hr⟩ : ∃ r, leastTo (fun k => zs.getD k 0) (m - 1) = r := ⟨_, rfl⟩
  have HR := Lib.hid hr
  rw [hr]
  clear hr
  have HZ : leastTo (fun k => zs.getD k 0) 0 = zs.getD 0 0 := rfl
  have HS : Hid (∀ k, leastTo (fun k => zs.getD k 0) (k + 1) = min (leastTo (fun k => zs.getD k 0) k) (zs.getD (k + 1) 0)) := Lib.hid (fun k => rfl)
  generalize leastTo (fun k => zs.getD k 0) = lt at *
  have p0 := at_d (zs := zs) (k := 0) (by omega)
  obtain ⟨x, hx⟩ : ∃ x, zs.getD 0 0 = x := ⟨_, rfl⟩
  rw [hx] at p0 HZ
  obtain ⟨bd, eB, bB, pB⟩ := hq.get p0
  subst eB
  obtain ⟨_, _⟩ := here pB
  have hm1 : ¬ (m : Int) < 1 := by omega
  have hm0 : (0 : Int) < (m : Int) := by omega
  clear p0 hx
  go_enter Try.func71, Try.ntmps71
  go_wp2_with fail
  have HO : ∀ W W' : World, (IntsAt W w.heap.size (some bd) zs ∧ Below w.heap.size w W) → Below W.heap.size W W' → (IntsAt W' w.heap.size (some bd) zs ∧ Below w.heap.size w W') := fun W W' ⟨x0, hb⟩ h => ⟨x0.later (h.mono hb.size), hb.trans (h.mono hb.size)⟩
  have S0 : IntsAt w w.heap.size (some bd) zs ∧ Below w.heap.size w w := ⟨hq, Below.refl _ _⟩
  clear hq pB
  go_loopw [3, 4] (fun v q wr => ∃ k : Nat, k + 1 ≤ m ∧ q = .int .i64 (k + 1 : Nat) ∧ v = .int .i64 (lt k) ∧ (IntsAt wr w.heap.size (some bd) zs ∧ Below w.heap.size w wr))
    (fun _ q _ => m - (intOf q).toNat)
  case atStart => exact ⟨0, by omega, rfl, by rw [HZ], S0⟩
  case round =>
    clear S0
    obtain ⟨k, hk, rfl, rfl, S0⟩ := hrel
    obtain ⟨_, _⟩ := id S0
    obtain ⟨q, hqk⟩ : ∃ q, k + 1 = q := ⟨_, rfl⟩
    have hS := HS.out k
    rw [hqk] at hk hS ⊢
    by_cases hkm : q < m
    · have hk1 : (q : Int) < (m : Int) := by omega
      have hk0 : (0 : Int) ≤ (q : Int) := by omega
      have p0 := at_d (zs := zs) (k := q) (by omega)
      obtain ⟨x, hx⟩ : ∃ x, zs.getD q 0 = x := ⟨_, rfl⟩
      rw [hx] at p0 hS
      obtain ⟨ad, eA, bA, pA⟩ := S0.1.get p0
      cases eA
      obtain ⟨_, _⟩ := id pA
      replace hS := Lib.hid hS
      clear p0 hx pA HS HZ hz
      generalize lt k = lk at *
      go_wp2_with fail
      exact ⟨⟨q, by omega, by go_num, by rw [hS.out], S0⟩, by simp [intOf]; omega⟩
    · have hqm : m - 1 = k := by omega
      rw [hqm] at HR
      clear hS HS HZ hz
      generalize lt k = lk at *
      go_wp2_with fail
      go_ret
      exact ⟨ret_i64 (by first | exact HR.out | exact HR.out.symm), S0.2⟩

set_option maxRecDepth 100000 in
set_option maxHeartbeats 1600000 in
theorem nearestTo (H : Int) (A : Option Addr) (n cap : Nat) (B : Option Addr) (m cb : Nat) (x : Int) (w : World) (ds : List (Int × Int)) (hl : ds.length = n) (hn : n ≤ 1048576) (hp : PtsAt w w.heap.size A ds) (zs : List Int) (hz : zs.length = m) (hm : m ≤ 1048576) (hq : IntsAt w w.heap.size B zs) :
    Calls Try.prog 34 #[.agg #[.int .i64 H, .slice A n cap], .slice B m cb, .int .i64 x] w fun e w' => e = .returned (.int .i64 (nearI H ds zs x)) ∧ Below w.heap.size w w' := by
  obtain ⟨r, hr⟩ : ∃ r, nearI H ds zs x = r := ⟨_, rfl⟩
  have HR := Lib.hid hr
  rw [hr]
  clear hr
  have Q1 : Hid (∀ w hp, _) := Lib.hid fun w hp => HouImpl.houseOk H A n cap w ds hl hn hp
  have Q2 : Hid (∀ w hq, _) := Lib.hid fun w hq => HouWimpl.areHalls H A n cap B m cb w zs hz hm hq
  have Q3 : Hid (∀ w, _) := Lib.hid fun w => HouWimpl.hasHall H A n cap x w
  have HNo : Hid ((houseB H ds && (hallsB H zs && inH H x)) = false → r = -1) := Lib.hid (fun h => by
    rw [← HR.out]
    refine near_no ?_
    unfold hallOf
    revert h
    cases hallsB H zs <;> cases houseB H ds <;> cases inH H x <;> simp)
  have HN0 : Hid (m = 0 → r = -1) := Lib.hid (fun h => by
    rw [← HR.out]
    unfold nearI
    rw [hz, h]
    split <;> rfl)
  by_cases hm0 : m = 0
  · subst hm0
    have E := Lib.hid (HN0.out rfl)
    clear HR HNo HN0 Q1 Q2 Q3 hl hz
    go_enter Try.func34, Try.ntmps34
    go_wp2_with fail
    have X0 := HouBox.boxH w H A n cap 29 (k := w.heap.size) (by simp)
    have b0 := PointOk.below1 w (Obj.cells #[.int .i64 H, .slice A n cap] 29)
    have HO : ∀ W W' : World, (HouBox.BoxH W (w.heap.size) H A n cap ∧ PtsAt W w.heap.size A ds ∧ IntsAt W w.heap.size B zs ∧ Below w.heap.size w W) → Below W.heap.size W W' → (HouBox.BoxH W' (w.heap.size) H A n cap ∧ PtsAt W' w.heap.size A ds ∧ IntsAt W' w.heap.size B zs ∧ Below w.heap.size w W') := fun W W' ⟨h0, x0, x1, hb⟩ h => ⟨h0.later h, x0.later (h.mono hb.size), x1.later (h.mono hb.size), hb.trans (h.mono hb.size)⟩
    have hz0_ : Hid (((w.alloc (Obj.cells #[.int .i64 H, .slice A n cap] 29))).heap.size = w.heap.size + 1) := Lib.hid (by simp)
    have Y0 : PtsAt ((w.alloc (Obj.cells #[.int .i64 H, .slice A n cap] 29))) w.heap.size A ds := hp.later b0
    have Y1 : IntsAt ((w.alloc (Obj.cells #[.int .i64 H, .slice A n cap] 29))) w.heap.size B zs := hq.later b0
    generalize (w.alloc (Obj.cells #[.int .i64 H, .slice A n cap] 29)) = w0 at X0 Y0 Y1 b0 hz0_ ⊢
    have S0 := (⟨X0, Y0, Y1, b0⟩ : HouBox.BoxH w0 (w.heap.size) H A n cap ∧ PtsAt w0 w.heap.size A ds ∧ IntsAt w0 w.heap.size B zs ∧ Below w.heap.size w w0)
    clear X0 Y0 Y1 b0
    obtain ⟨⟨_, _⟩, _, _, _⟩ := id S0
    go_ret
    exact ⟨ret_i64 E.out.symm, S0.2.2.2⟩
  have hmz : ((m : Int) == 0) = false := beq_eq_false_iff_ne.2 (by omega)
  have hmz2 : ¬ (m : Int) = 0 := by omega
  clear HN0
  cases ch : houseB H ds
  · have E := Lib.hid (HNo.out (by rw [ch]; rfl))
    rw [ch] at Q1
    clear HR HNo Q2 Q3 hl hz ch
    go_enter Try.func34, Try.ntmps34
    go_wp2_with fail
    have X0 := HouBox.boxH w H A n cap 29 (k := w.heap.size) (by simp)
    have b0 := PointOk.below1 w (Obj.cells #[.int .i64 H, .slice A n cap] 29)
    have HO : ∀ W W' : World, (HouBox.BoxH W (w.heap.size) H A n cap ∧ PtsAt W w.heap.size A ds ∧ IntsAt W w.heap.size B zs ∧ Below w.heap.size w W) → Below W.heap.size W W' → (HouBox.BoxH W' (w.heap.size) H A n cap ∧ PtsAt W' w.heap.size A ds ∧ IntsAt W' w.heap.size B zs ∧ Below w.heap.size w W') := fun W W' ⟨h0, x0, x1, hb⟩ h => ⟨h0.later h, x0.later (h.mono hb.size), x1.later (h.mono hb.size), hb.trans (h.mono hb.size)⟩
    have hz0_ : Hid (((w.alloc (Obj.cells #[.int .i64 H, .slice A n cap] 29))).heap.size = w.heap.size + 1) := Lib.hid (by simp)
    have Y0 : PtsAt ((w.alloc (Obj.cells #[.int .i64 H, .slice A n cap] 29))) w.heap.size A ds := hp.later b0
    have Y1 : IntsAt ((w.alloc (Obj.cells #[.int .i64 H, .slice A n cap] 29))) w.heap.size B zs := hq.later b0
    generalize (w.alloc (Obj.cells #[.int .i64 H, .slice A n cap] 29)) = w0 at X0 Y0 Y1 b0 hz0_ ⊢
    have S0 := (⟨X0, Y0, Y1, b0⟩ : HouBox.BoxH w0 (w.heap.size) H A n cap ∧ PtsAt w0 w.heap.size A ds ∧ IntsAt w0 w.heap.size B zs ∧ Below w.heap.size w w0)
    clear X0 Y0 Y1 b0
    obtain ⟨⟨_, _⟩, _, _, _⟩ := id S0
    refine (Q1.out _ (S0.2.1.wide S0.2.2.2.size)).mono ?_
    rintro e w1 ⟨rfl, hb_⟩
    replace S0 := HO _ _ S0 hb_
    clear hb_
    obtain ⟨⟨_, _⟩, _, _, _⟩ := id S0
    go_wp2_with fail
    go_ret
    exact ⟨ret_i64 E.out.symm, S0.2.2.2⟩
  cases c2 : hallsB H zs
  · have E := Lib.hid (HNo.out (by rw [ch, c2]; rfl))
    rw [ch] at Q1
    rw [c2] at Q2
    clear HR HNo Q3 hl hz ch c2
    go_enter Try.func34, Try.ntmps34
    go_wp2_with fail
    have X0 := HouBox.boxH w H A n cap 29 (k := w.heap.size) (by simp)
    have b0 := PointOk.below1 w (Obj.cells #[.int .i64 H, .slice A n cap] 29)
    have HO : ∀ W W' : World, (HouBox.BoxH W (w.heap.size) H A n cap ∧ PtsAt W w.heap.size A ds ∧ IntsAt W w.heap.size B zs ∧ Below w.heap.size w W) → Below W.heap.size W W' → (HouBox.BoxH W' (w.heap.size) H A n cap ∧ PtsAt W' w.heap.size A ds ∧ IntsAt W' w.heap.size B zs ∧ Below w.heap.size w W') := fun W W' ⟨h0, x0, x1, hb⟩ h => ⟨h0.later h, x0.later (h.mono hb.size), x1.later (h.mono hb.size), hb.trans (h.mono hb.size)⟩
    have hz0_ : Hid (((w.alloc (Obj.cells #[.int .i64 H, .slice A n cap] 29))).heap.size = w.heap.size + 1) := Lib.hid (by simp)
    have Y0 : PtsAt ((w.alloc (Obj.cells #[.int .i64 H, .slice A n cap] 29))) w.heap.size A ds := hp.later b0
    have Y1 : IntsAt ((w.alloc (Obj.cells #[.int .i64 H, .slice A n cap] 29))) w.heap.size B zs := hq.later b0
    generalize (w.alloc (Obj.cells #[.int .i64 H, .slice A n cap] 29)) = w0 at X0 Y0 Y1 b0 hz0_ ⊢
    have S0 := (⟨X0, Y0, Y1, b0⟩ : HouBox.BoxH w0 (w.heap.size) H A n cap ∧ PtsAt w0 w.heap.size A ds ∧ IntsAt w0 w.heap.size B zs ∧ Below w.heap.size w w0)
    clear X0 Y0 Y1 b0
    obtain ⟨⟨_, _⟩, _, _, _⟩ := id S0
    refine (Q1.out _ (S0.2.1.wide S0.2.2.2.size)).mono ?_
    rintro e w1 ⟨rfl, hb_⟩
    replace S0 := HO _ _ S0 hb_
    clear hb_
    obtain ⟨⟨_, _⟩, _, _, _⟩ := id S0
    go_wp2_with fail
    refine (Q2.out _ (S0.2.2.1.wide S0.2.2.2.size)).mono ?_
    rintro e w2 ⟨rfl, hb_⟩
    replace S0 := HO _ _ S0 hb_
    clear hb_
    obtain ⟨⟨_, _⟩, _, _, _⟩ := id S0
    go_wp2_with fail
    go_ret
    exact ⟨ret_i64 E.out.symm, S0.2.2.2⟩
  cases c3 : inH H x
  · have E := Lib.hid (HNo.out (by rw [ch, c2, c3]; rfl))
    rw [ch] at Q1
    rw [c2] at Q2
    rw [c3] at Q3
    clear HR HNo hl hz ch c2 c3
    go_enter Try.func34, Try.ntmps34
    go_wp2_with fail
    have X0 := HouBox.boxH w H A n cap 29 (k := w.heap.size) (by simp)
    have b0 := PointOk.below1 w (Obj.cells #[.int .i64 H, .slice A n cap] 29)
    have HO : ∀ W W' : World, (HouBox.BoxH W (w.heap.size) H A n cap ∧ PtsAt W w.heap.size A ds ∧ IntsAt W w.heap.size B zs ∧ Below w.heap.size w W) → Below W.heap.size W W' → (HouBox.BoxH W' (w.heap.size) H A n cap ∧ PtsAt W' w.heap.size A ds ∧ IntsAt W' w.heap.size B zs ∧ Below w.heap.size w W') := fun W W' ⟨h0, x0, x1, hb⟩ h => ⟨h0.later h, x0.later (h.mono hb.size), x1.later (h.mono hb.size), hb.trans (h.mono hb.size)⟩
    have hz0_ : Hid (((w.alloc (Obj.cells #[.int .i64 H, .slice A n cap] 29))).heap.size = w.heap.size + 1) := Lib.hid (by simp)
    have Y0 : PtsAt ((w.alloc (Obj.cells #[.int .i64 H, .slice A n cap] 29))) w.heap.size A ds := hp.later b0
    have Y1 : IntsAt ((w.alloc (Obj.cells #[.int .i64 H, .slice A n cap] 29))) w.heap.size B zs := hq.later b0
    generalize (w.alloc (Obj.cells #[.int .i64 H, .slice A n cap] 29)) = w0 at X0 Y0 Y1 b0 hz0_ ⊢
    have S0 := (⟨X0, Y0, Y1, b0⟩ : HouBox.BoxH w0 (w.heap.size) H A n cap ∧ PtsAt w0 w.heap.size A ds ∧ IntsAt w0 w.heap.size B zs ∧ Below w.heap.size w w0)
    clear X0 Y0 Y1 b0
    obtain ⟨⟨_, _⟩, _, _, _⟩ := id S0
    refine (Q1.out _ (S0.2.1.wide S0.2.2.2.size)).mono ?_
    rintro e w1 ⟨rfl, hb_⟩
    replace S0 := HO _ _ S0 hb_
    clear hb_
    obtain ⟨⟨_, _⟩, _, _, _⟩ := id S0
    go_wp2_with fail
    refine (Q2.out _ (S0.2.2.1.wide S0.2.2.2.size)).mono ?_
    rintro e w2 ⟨rfl, hb_⟩
    replace S0 := HO _ _ S0 hb_
    clear hb_
    obtain ⟨⟨_, _⟩, _, _, _⟩ := id S0
    go_wp2_with fail
    refine (Q3.out _).mono ?_
    rintro e w3 ⟨rfl, hb_⟩
    replace S0 := HO _ _ S0 hb_
    clear hb_
    obtain ⟨⟨_, _⟩, _, _, _⟩ := id S0
    go_wp2_with fail
    go_ret
    exact ⟨ret_i64 E.out.symm, S0.2.2.2⟩
  have cA : hallOf H ds x = true := by unfold hallOf; rw [ch, c3]; rfl
  obtain ⟨N, a, rfl, rfl, ha, hf⟩ := hall_nat cA
  have hNE : r = nearTo (wayAt (dist N ds a) zs) m := by rw [← HR.out, near_yes (by rw [c2, cA]; rfl), hz]
  have hmp : 0 < m := by omega
  rw [← near_firstL hmp hz] at hNE
  have HE := Lib.hid hNE
  clear hNE
  have Q4 := Lib.hid fun w hp hq => waysTo A n cap N a ds hf hl ha B m cb zs hz hm (fun k hk => halls_nat c2 (by omega)) w hp hq
  have hDl := wayL_len (dist N ds a) zs
  rw [hz] at hDl
  generalize wayL (dist N ds a) zs = L at *
  rw [ch] at Q1
  rw [c2] at Q2
  rw [c3] at Q3
  clear HR HNo ch c2 c3 cA hf hl hz ha
  go_enter Try.func34, Try.ntmps34
  go_wp2_with fail
  have X0 := HouBox.boxH w N A n cap 29 (k := w.heap.size) (by simp)
  have b0 := PointOk.below1 w (Obj.cells #[.int .i64 N, .slice A n cap] 29)
  have HO : ∀ W W' : World, (HouBox.BoxH W (w.heap.size) N A n cap ∧ PtsAt W w.heap.size A ds ∧ IntsAt W w.heap.size B zs ∧ Below w.heap.size w W) → Below W.heap.size W W' → (HouBox.BoxH W' (w.heap.size) N A n cap ∧ PtsAt W' w.heap.size A ds ∧ IntsAt W' w.heap.size B zs ∧ Below w.heap.size w W') := fun W W' ⟨h0, x0, x1, hb⟩ h => ⟨h0.later h, x0.later (h.mono hb.size), x1.later (h.mono hb.size), hb.trans (h.mono hb.size)⟩
  have hz0_ : Hid (((w.alloc (Obj.cells #[.int .i64 N, .slice A n cap] 29))).heap.size = w.heap.size + 1) := Lib.hid (by simp)
  have Y0 : PtsAt ((w.alloc (Obj.cells #[.int .i64 N, .slice A n cap] 29))) w.heap.size A ds := hp.later b0
  have Y1 : IntsAt ((w.alloc (Obj.cells #[.int .i64 N, .slice A n cap] 29))) w.heap.size B zs := hq.later b0
  generalize (w.alloc (Obj.cells #[.int .i64 N, .slice A n cap] 29)) = w0 at X0 Y0 Y1 b0 hz0_ ⊢
  have S0 := (⟨X0, Y0, Y1, b0⟩ : HouBox.BoxH w0 (w.heap.size) N A n cap ∧ PtsAt w0 w.heap.size A ds ∧ IntsAt w0 w.heap.size B zs ∧ Below w.heap.size w w0)
  clear X0 Y0 Y1 b0
  obtain ⟨⟨_, _⟩, _, _, _⟩ := id S0
  refine (Q1.out _ (S0.2.1.wide S0.2.2.2.size)).mono ?_
  rintro e w1 ⟨rfl, hb_⟩
  replace S0 := HO _ _ S0 hb_
  clear hb_
  obtain ⟨⟨_, _⟩, _, _, _⟩ := id S0
  go_wp2_with fail
  refine (Q2.out _ (S0.2.2.1.wide S0.2.2.2.size)).mono ?_
  rintro e w2 ⟨rfl, hb_⟩
  replace S0 := HO _ _ S0 hb_
  clear hb_
  obtain ⟨⟨_, _⟩, _, _, _⟩ := id S0
  go_wp2_with fail
  refine (Q3.out _).mono ?_
  rintro e w3 ⟨rfl, hb_⟩
  replace S0 := HO _ _ S0 hb_
  clear hb_
  obtain ⟨⟨_, _⟩, _, _, _⟩ := id S0
  go_wp2_with fail
  refine (Q4.out _ (S0.2.1.wide S0.2.2.2.size) (S0.2.2.1.wide S0.2.2.2.size)).mono ?_
  rintro e w5 ⟨A1, c1, rfl, hO, hb_⟩
  replace S0 := HO _ _ S0 hb_
  have hL := own_ints hO
  rw [hDl]
  clear Q1 Q2 Q3 Q4 hb_ hO
  have Q5 := Lib.hid (minOf A1 m c1 w5 L hDl hm hmp hL)
  generalize leastTo (fun k => L.getD k 0) (m - 1) = mn at *
  go_wp2_with fail
  refine Q5.out.mono ?_
  rintro e w6 ⟨rfl, hb_⟩
  replace S0 := HO _ _ S0 hb_
  have Q6 := Lib.hid (IntSl.index A1 m c1 mn w6 L hDl hm ((hL.later hb_).wide hb_.size))
  clear Q5 hb_ hL hDl
  rw [← HE.out] at Q6
  go_wp2_with fail
  refine Q6.out.mono ?_
  rintro e w7 ⟨rfl, hb_⟩
  replace S0 := HO _ _ S0 hb_
  go_wp2_with fail
  go_ret
  exact ⟨rfl, S0.2.2.2⟩

end Go.Proofs.Ytknnekidfhooeaa.HouNimpl

