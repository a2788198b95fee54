/-
  What the model's MoveRoom does, as a contract: the room in new memory and whether it may stand; no old cell is written.
-/
import Derived.Test.YtgelkpaiabhklaaMovRoom
import Derived.Test.YtgelkpaiabhklaaCopySpec
import Derived.Test.YtgelkpaiabhklaaRoomOkSpec
import Derived.BigRegion
namespace Go.Proofs.Ytgelkpaiabhklaa.MovSpec
open Go.RowKit Own PointMath WallMath RoomMath Pts Blk AreaMath TurnrMath MovMath RoomRes MovRoom
open PointOk (ret_bool ret_i64 below1 below2 below3)

set_option maxRecDepth 100000 in
set_option maxHeartbeats 4000000 in
theorem moveRoom (A : Option Addr) (n cap : Nat) (dx dy : Int) (w : World) (ps : List (Int × Int)) (hl : ps.length = n) (hn : n ≤ 1048576) (hp : PtsAt w w.heap.size A ps) :
    Calls Try.prog 34 #[.agg #[.slice A n cap], .int .i64 dx, .int .i64 dy] w (GivesRB 118 w (if movOk dx dy ps then movL dx dy ps else []) (movOk dx dy ps)) := by
  obtain ⟨o, ho⟩ : ∃ o, movOk dx dy ps = o := ⟨_, rfl⟩
  have HR := Lib.hid ho
  rw [ho]
  clear ho
  obtain ⟨l0, hl0⟩ : ∃ l0, (if o = true then movL dx dy ps else []) = l0 := ⟨_, rfl⟩
  have HL0 := Lib.hid hl0
  rw [hl0]
  clear hl0
  go_enter Try.func34, Try.ntmps34
  go_wp2_with fail
  have X0 := (Pts.boxR w (.slice A n cap) 50 (k := w.heap.size) (by simp)).alloc (Obj.cells #[.slice none 0 0] 50)
  have X1 := Blk.Holds.box (w.alloc (Obj.cells #[.slice A n cap] 50)) #[.slice none 0 0] 50 (k := w.heap.size + 1) (by simp)
  have b0 := PointOk.below2 w (Obj.cells #[.slice A n cap] 50) (Obj.cells #[.slice none 0 0] 50)
  have HO : ∀ W W' : World, (Pts.BoxR W (w.heap.size) (.slice A n cap) ∧ Blk.Holds W (w.heap.size + 1) #[.slice none 0 0] 50 ∧ PtsAt W w.heap.size A ps ∧ w.heap.size + 2 ≤ W.heap.size ∧ Below w.heap.size w W) → Below W.heap.size W W' → (Pts.BoxR W' (w.heap.size) (.slice A n cap) ∧ Blk.Holds W' (w.heap.size + 1) #[.slice none 0 0] 50 ∧ PtsAt W' w.heap.size A ps ∧ w.heap.size + 2 ≤ W'.heap.size ∧ Below w.heap.size w W') := fun W W' ⟨h0, h1, x0, x1, hb⟩ h => ⟨h0.later h, h1.later h, x0.later (h.mono hb.size), Nat.le_trans x1 h.size, hb.trans (h.mono hb.size)⟩
  have hz0_ : Hid ((((w.alloc (Obj.cells #[.slice A n cap] 50)).alloc (Obj.cells #[.slice none 0 0] 50))).heap.size = w.heap.size + 1 + 1) := Lib.hid (by simp)
  have Y0 : PtsAt (((w.alloc (Obj.cells #[.slice A n cap] 50)).alloc (Obj.cells #[.slice none 0 0] 50))) w.heap.size A ps := hp.later b0
  have Y1 : w.heap.size + 2 ≤ (((w.alloc (Obj.cells #[.slice A n cap] 50)).alloc (Obj.cells #[.slice none 0 0] 50))).heap.size := by simp
  generalize ((w.alloc (Obj.cells #[.slice A n cap] 50)).alloc (Obj.cells #[.slice none 0 0] 50)) = w0 at X0 X1 Y0 Y1 b0 hz0_ ⊢
  have S0 := (⟨X0, X1, Y0, Y1, b0⟩ : Pts.BoxR w0 (w.heap.size) (.slice A n cap) ∧ Blk.Holds w0 (w.heap.size + 1) #[.slice none 0 0] 50 ∧ PtsAt w0 w.heap.size A ps ∧ w.heap.size + 2 ≤ w0.heap.size ∧ Below w.heap.size w w0)
  clear X0 X1 Y0 Y1 b0
  obtain ⟨⟨_, _⟩, _, _, _, _⟩ := id S0
  refine (RoomOkSpec.roomOk A n cap _ ps hl hn (S0.2.2.1.wide S0.2.2.2.2.size)).mono ?_
  rintro e w1 ⟨rfl, hb_⟩
  replace S0 := HO _ _ S0 hb_
  clear hb_
  obtain ⟨⟨_, _⟩, _, _, _, _⟩ := id S0
  have QX : Hid (∀ w, _) := Lib.hid fun w => PointOk.l01In dx (-80) 80 w
  have QY : Hid (∀ w, _) := Lib.hid fun w => PointOk.l01In dy (-80) 80 w
  have HE : Hid (o = (roomB ps && decide (-80 ≤ dx ∧ dx ≤ 80) && decide (-80 ≤ dy ∧ dy ≤ 80) && roomB (movL dx dy ps))) := Lib.hid (by rw [← HR.out]; rfl)
  have hR := S0.2.1
  have E_ := Blk.set_own hR 0 (.slice none 0 0)
  obtain ⟨r0_, _⟩ := Blk.Holds.one E_
  have hb4 := Lib.hid (S0.2.2.2.2.trans (below_set w1 w.heap.size (w.heap.size + 1) 0 (.slice none 0 0) (by omega)))
  obtain ⟨_, _⟩ := hR.one
  cases hr : roomB ps
  · have E : Hid (o = false) := Lib.hid (by rw [HE.out, hr]; rfl)
    have EL : Hid (l0 = []) := Lib.hid (by rw [← HL0.out, E.out]; rfl)
    clear hl HR HE HL0 hR QX QY
    go_wp2_with fail
    refine bodyPost_ret (v := .tuple #[.agg #[.slice none 0 0], .bool false]) (by simp [results, Try.results34, go_sem, r0_]) rfl ⟨none, 0, by rw [E.out, EL.out]; rfl, by rw [EL.out]; exact World.ownsRow_nil _ _ _ _, hb4.out⟩
  go_wp2_with fail
  refine (QX.out _).mono ?_
  rintro e w_ ⟨rfl, rfl⟩
  cases hx : decide (-80 ≤ dx ∧ dx ≤ 80)
  · have E : Hid (o = false) := Lib.hid (by rw [HE.out, hr, hx]; rfl)
    have EL : Hid (l0 = []) := Lib.hid (by rw [← HL0.out, E.out]; rfl)
    clear hl HR HE HL0 hR QX QY
    go_wp2_with fail
    refine bodyPost_ret (v := .tuple #[.agg #[.slice none 0 0], .bool false]) (by simp [results, Try.results34, go_sem, r0_]) rfl ⟨none, 0, by rw [E.out, EL.out]; rfl, by rw [EL.out]; exact World.ownsRow_nil _ _ _ _, hb4.out⟩
  go_wp2_with fail
  refine (QY.out _).mono ?_
  rintro e w_ ⟨rfl, rfl⟩
  cases hy : decide (-80 ≤ dy ∧ dy ≤ 80)
  · have E : Hid (o = false) := Lib.hid (by rw [HE.out, hr, hx, hy]; rfl)
    have EL : Hid (l0 = []) := Lib.hid (by rw [← HL0.out, E.out]; rfl)
    clear hl HR HE HL0 hR QX QY
    go_wp2_with fail
    refine bodyPost_ret (v := .tuple #[.agg #[.slice none 0 0], .bool false]) (by simp [results, Try.results34, go_sem, r0_]) rfl ⟨none, 0, by rw [E.out, EL.out]; rfl, by rw [EL.out]; exact World.ownsRow_nil _ _ _ _, hb4.out⟩
  have hoka := (roomB_yes hr).2.1
  have h3 := (roomB_yes hr).1
  have hok : Hid (∀ k, k < n → okP (pt ps k).1 (pt ps k).2 = true) := Lib.hid (fun k hk => okAll_at hoka (k := k) (by omega))
  have hdx := of_decide_eq_true hx
  have hdy := of_decide_eq_true hy
  obtain ⟨q, hq⟩ : ∃ q, mvTo (gPlus dx dy ps) n = q := ⟨_, rfl⟩
  have hql : q.length = n := by rw [← hq, mvTo_len]
  have hqm : movL dx dy ps = q := by unfold movL; rw [hl]; exact hq
  have HE2 : Hid (o = roomB q) := Lib.hid (by rw [HE.out, hr, hx, hy, hqm]; rfl)
  rw [hqm] at HL0
  obtain ⟨ad, eA, bA, _⟩ := S0.2.2.1.get (pt_at (ps := ps) (k := 0) (by omega))
  subst eA
  have QC : Hid (∀ w hp, _) := Lib.hid fun w hp => CopySpec.copy ad n cap w ps hl hn hp
  unfold GivesR at QC
  rw [hl] at QC
  have hn0 : 0 < n := by omega
  clear HR HE hr hoka hqm hx hy QX QY r0_ hb4 hR h3
  go_wp2_with fail
  refine (QC.out _ (S0.2.2.1.wide S0.2.2.2.2.size)).mono ?_
  rintro e w5 ⟨A1, c1, rfl, H1, hb_⟩
  have hw1 : w.heap.size + 2 ≤ w1.heap.size := S0.2.2.2.1
  replace S0 := HO _ _ S0 hb_
  replace H1 := own_base H1 (b' := w.heap.size + 2) hw1
  clear hb_ QC hw1
  obtain ⟨g, c1', hv, hbg, hlt⟩ := H1.form hn0
  obtain ⟨rfl, rfl⟩ : A1 = some ⟨g, 0, none⟩ ∧ c1 = c1' := by injection hv with h1 _ h3; exact ⟨h1, h3⟩
  clear hv
  obtain ⟨kb, hkb⟩ : ∃ kb, kb = w5.heap.size := ⟨_, rfl⟩
  have HB := Blk.Holds.box w5 #[.slice (some ⟨g, 0, none⟩) n c1] 50 (k := kb) hkb
  have H2 := own_below H1 (below1 w5 (Obj.cells #[.slice (some ⟨g, 0, none⟩) n c1] 50))
  replace S0 := HO _ _ S0 (below1 w5 (Obj.cells #[.slice (some ⟨g, 0, none⟩) n c1] 50))
  have hgk : g < kb := by omega
  have hkw : w.heap.size + 2 ≤ kb := by omega
  clear H1 hlt
  go_wp2_with fail
  try rw [← hkb]
  generalize w5.alloc (Obj.cells #[.slice (some ⟨g, 0, none⟩) n c1] 50) = w6 at *
  try clear hkb
  have HO : ∀ W W' : World, (Pts.BoxR W (w.heap.size) (.slice (some ad) n cap) ∧ Blk.Holds W (w.heap.size + 1) #[.slice none 0 0] 50 ∧ PtsAt W w.heap.size (some ad) ps ∧ w.heap.size + 2 ≤ W.heap.size ∧ Below w.heap.size w W) → Below W.heap.size W W' → (Pts.BoxR W' (w.heap.size) (.slice (some ad) n cap) ∧ Blk.Holds W' (w.heap.size + 1) #[.slice none 0 0] 50 ∧ PtsAt W' w.heap.size (some ad) ps ∧ w.heap.size + 2 ≤ W'.heap.size ∧ Below w.heap.size w W') := fun W W' ⟨h0, h1, x0, x1, hb⟩ h => ⟨h0.later h, h1.later h, x0.later (h.mono hb.size), Nat.le_trans x1 h.size, hb.trans (h.mono hb.size)⟩
  have HO2 : ∀ W W' : World, (Pts.BoxR W (w.heap.size) (.slice (some ad) n cap) ∧ Blk.Holds W (w.heap.size + 1) #[.slice none 0 0] 50 ∧ PtsAt W w.heap.size (some ad) ps ∧ w.heap.size + 2 ≤ W.heap.size ∧ Below w.heap.size w W) → Below (w.heap.size + 2) W W' → (Pts.BoxR W' (w.heap.size) (.slice (some ad) n cap) ∧ Blk.Holds W' (w.heap.size + 1) #[.slice none 0 0] 50 ∧ PtsAt W' w.heap.size (some ad) ps ∧ w.heap.size + 2 ≤ W'.heap.size ∧ Below w.heap.size w W') := fun W W' ⟨h0, h1, h2, h3, hb⟩ h => ⟨⟨(h.cell (by simp)).trans h0.1, trivial⟩, (h.block _ (by omega)).trans h1, h2.later (h.mono (by omega)), Nat.le_trans h3 h.size, hb.trans (h.mono (by omega))⟩
  go_loopw [9] (fun i wr => ∃ k : Nat, k ≤ n ∧ i = .int .i64 k ∧ Blk.Holds wr kb #[.slice (some ⟨g, 0, none⟩) n c1] 50 ∧ wr.ownsRow (w.heap.size + 2) 118 2 (.slice (some ⟨g, 0, none⟩) n c1) n (cellsP (mixTo dx dy ps k)) ∧ (Pts.BoxR wr (w.heap.size) (.slice (some ad) n cap) ∧ Blk.Holds wr (w.heap.size + 1) #[.slice none 0 0] 50 ∧ PtsAt wr w.heap.size (some ad) ps ∧ w.heap.size + 2 ≤ wr.heap.size ∧ Below w.heap.size w wr))
    (fun i _ => n - (intOf i).toNat)
  case atStart => exact ⟨0, Nat.zero_le _, rfl, HB, by rw [mixTo_zero]; exact H2, S0⟩
  case round =>
    clear S0 HB H2
    obtain ⟨k, hkn, rfl, HB, H2, S0⟩ := hrel
    obtain ⟨⟨_, _⟩, _, _, _, _⟩ := id S0
    obtain ⟨_, _⟩ := HB.one
    by_cases hlt : k < n
    · have hk1 : (k : Int) < (n : Int) := by omega
      have hk0 : (0 : Int) ≤ (k : Int) := by omega
      have p0 := pt_at (ps := ps) (k := k) (by omega)
      have o0 := okP_yes (hok.out k hlt)
      have HM := Lib.hid (mixTo_step dx dy ps (i := k) (by omega))
      have hgp : gPlus dx dy ps k = (dx + (pt ps k).1, dy + (pt ps k).2) := rfl
      obtain ⟨x, y, hxy⟩ : ∃ x y, pt ps k = (x, y) := ⟨_, _, rfl⟩
      rw [hxy] at p0 o0 hgp
      rw [hgp] at HM
      have u1 : IntKind.i64.wrap (x + dx) = dx + x := by rw [IntWalk.i64_in _ (by simp only at o0; omega)]; omega
      have u2 : IntKind.i64.wrap (y + dy) = dy + y := by rw [IntWalk.i64_in _ (by simp only at o0; omega)]; omega
      obtain ⟨ad2, eA2, _, pA⟩ := S0.2.2.1.get p0
      injection eA2 with eA2
      subst eA2
      obtain ⟨_, _⟩ := pA
      have hcl : (cellsP (mixTo dx dy ps k)).length = n * 2 := by rw [cellsP_length, mixTo_len dx dy ps (by omega), hl]
      have d0 : ∃ v, wr.cell? ⟨g, k * 2, none⟩ = some v := ⟨_, (H2.cellAt (k * 2) (by omega)).trans (List.getElem?_eq_getElem (by omega))⟩
      have d1 : ∃ v, wr.cell? ⟨g, k * 2 + 1, none⟩ = some v := ⟨_, (H2.cellAt (k * 2 + 1) (by omega)).trans (List.getElem?_eq_getElem (by omega))⟩
      obtain ⟨d0v, d0⟩ := d0
      obtain ⟨d1v, d1⟩ := d1
      have f0 := H2.frozenAt (k * 2)
      have f1 := H2.frozenAt (k * 2 + 1)
      obtain ⟨s1, g1⟩ := World.ownsRow.stored H2 (k * 2) (.int .i64 (dx + x))
      obtain ⟨s2, g2⟩ := World.ownsRow.stored s1 (k * 2 + 1) (.int .i64 (dy + y))
      rw [cellsP_set, HM.out] at s2
      have s2 := Lib.hid s2
      have HB2 := Lib.hid ((HB.far ⟨g, k * 2, none⟩ (.int .i64 (dx + x)) (by simp; omega)).far ⟨g, k * 2 + 1, none⟩ (.int .i64 (dy + y)) (by simp; omega))
      have S2 := Lib.hid (HO2 _ _ S0 ((below_set wr (w.heap.size + 2) g (k * 2) (.int .i64 (dx + x)) hbg).trans (below_set _ (w.heap.size + 2) g (k * 2 + 1) (.int .i64 (dy + y)) hbg)))
      have S0 := Lib.hid S0
      have HB := Lib.hid HB
      have hcl := Lib.hid hcl
      clear H2 s1 g1 g2 HM hgp hxy p0 o0 hp
      go_wp2_with fail
      go_region
      go_wp2_with fail
      have D : ∀ W : World, Below W.heap.size W W.drew := fun W => ⟨rfl, rfl, rfl, Nat.le_refl _, fun _ _ => rfl⟩
      have s3 := Lib.hid (own_below s2.out (D _))
      have HB3 := Lib.hid (HB2.out.later (D _))
      have S3 := Lib.hid (HO _ _ S2.out (D _))
      first
        | exact ⟨⟨k + 1, by omega, by go_num, HB3.out, s3.out, S3.out⟩, by simp [intOf]; omega⟩
        | (go_roundw <;> first | exact ⟨k + 1, by omega, by go_num, HB3.out, s3.out, S3.out⟩ | (simp [intOf]; omega))
    · obtain rfl : n = k := by omega
      rw [mixTo_all dx dy ps hl, hq] at H2
      have QV := Lib.hid (RoomOkSpec.roomOk (some ⟨g, 0, none⟩) n c1 wr q hql hn (own_pts H2 hql))
      clear hok hq
      go_wp2_with fail
      refine QV.out.mono ?_
      rintro e w8 ⟨rfl, hb_⟩
      replace S0 := HO _ _ S0 hb_
      replace HB := HB.later hb_
      replace H2 := own_below H2 hb_
      clear hb_ QV
      obtain ⟨_, _⟩ := HB.one
      have hR := S0.2.1
      obtain ⟨_, _⟩ := hR.one
      cases hq2 : roomB q
      · have E : Hid (o = false) := Lib.hid (by rw [HE2.out, hq2])
        have EL : Hid (l0 = []) := Lib.hid (by rw [← HL0.out, E.out]; rfl)
        have E_ := Blk.set_own hR 0 (.slice none 0 0)
        obtain ⟨r0_, _⟩ := Blk.Holds.one E_
        have hb4 := Lib.hid (S0.2.2.2.2.trans (below_set w8 w.heap.size (w.heap.size + 1) 0 (.slice none 0 0) (by omega)))
        clear HE2 HL0 hR H2 hql
        go_wp2_with fail
        refine bodyPost_ret (v := .tuple #[.agg #[.slice none 0 0], .bool false]) (by simp [results, Try.results34, go_sem, r0_]) rfl ⟨none, 0, by rw [E.out, EL.out]; rfl, by rw [EL.out]; exact World.ownsRow_nil _ _ _ _, hb4.out⟩
      · have E : Hid (o = true) := Lib.hid (by rw [HE2.out, hq2])
        have EL : Hid (l0 = q) := Lib.hid (by rw [← HL0.out, E.out]; rfl)
        have E_ := Blk.set_own hR 0 (.slice (some ⟨g, 0, none⟩) n c1)
        obtain ⟨r0_, _⟩ := Blk.Holds.one E_
        have hown4 := Lib.hid (own_set H2 (w.heap.size + 1) 0 (.slice (some ⟨g, 0, none⟩) n c1) (by omega))
        have hb4 := Lib.hid (S0.2.2.2.2.trans (below_set w8 w.heap.size (w.heap.size + 1) 0 (.slice (some ⟨g, 0, none⟩) n c1) (by omega)))
        have hql := Lib.hid hql
        clear HE2 HL0 hR H2
        go_wp2_with fail
        refine bodyPost_ret (v := .tuple #[.agg #[.slice (some ⟨g, 0, none⟩) n c1], .bool true]) (by simp [results, Try.results34, go_sem, r0_]) rfl ⟨some ⟨g, 0, none⟩, c1, by rw [E.out, EL.out, hql.out], by rw [EL.out, hql.out]; exact own_base hown4.out (by omega), hb4.out⟩


end Go.Proofs.Ytgelkpaiabhklaa.MovSpec

