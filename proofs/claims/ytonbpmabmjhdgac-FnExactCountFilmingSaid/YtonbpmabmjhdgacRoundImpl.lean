/-
  What SeenOn and LongestGap do, as contracts: what each answers; new memory alone is written.
-/
import Derived.Test.YtonbpmabmjhdgacWalkImpl
import Derived.Test.YtonbpmabmjhdgacGround
import Derived.Test.YtonbpmabmjhdgacLawInts
namespace Go.Proofs.Ytonbpmabmjhdgac.RoundImpl
open Go.RowKit Own PointMath WallMath RoomMath Pts Blk AreaMath PlaceMath FloorMath LineMath CutsMath SightMath KernMath DiagMath PtofMath WalkMath Ints FromImpl
open PointOk (ret_bool ret_i64 below1 below2 below3)

theorem infoI : (Try.prog.info? 3).map (fun i => (i.zero, i.size, i.bytes)) = some (some (.int .i64 0), 1, 8) := by kernel_rfl
/-- A row of numbers, as a slice of numbers in memory. -/
theorem ints_own {w : World} {b n c : Nat} {A : Option Addr} {zs : List Int} (h : w.ownsRow b 3 1 (.slice A n c) n (icells zs)) (hz : zs.length = n) : IntsAt w w.heap.size A zs := by
  intro j hj
  have hx : (icells zs)[j]? = some (.int .i64 zs[j]) := icells_at hj
  obtain ⟨g, hA, _, hg, hc, _⟩ := LawInt.own_cellN h (by omega) (j := j) (by rw [h.1]; omega) hx
  subst hA
  exact ⟨_, rfl, hg, by rw [Pts.add_head]; exact hc⟩
set_option maxRecDepth 100000 in
set_option maxHeartbeats 6400000 in
theorem momentsThat (F : FuncId) (cs : Array Value) (f : Nat → Bool) (Al : Option Addr) (m cl : Nat) (w : World) (l : List (Int × Int)) (hm : l.length = m) (hle : m ≤ 1048576) (hp : PtsAt w w.heap.size Al l) (eF : ∀ (args : Array Value) (w : World), (callFunc F args).run Try.prog w = .ok (.enter F args) w)
    (Q : ∀ (W : World) (k : Nat), k < m → Below w.heap.size w W → Calls Try.prog F (#[.agg #[.int .i64 (pt l k).1, .int .i64 (pt l k).2]] ++ cs) W fun e w' => e = .returned (.bool (f k)) ∧ Below W.heap.size W w') :
    Calls Try.prog 115 #[.agg #[.slice Al m cl], .func (.func F) #[] cs] w (GivesI 3 w (thatTo f m)) := by
  obtain ⟨r, hr⟩ : ∃ r, thatTo f m = r := ⟨_, rfl⟩
  have HR := Lib.hid hr
  rw [hr]
  clear hr
  obtain ⟨i0, hi, hz0, hz1, hz2⟩ := info_parts infoI
  have Q := Lib.hid Q
  go_enter Try.func115, Try.ntmps115
  go_wp2_with fail
  have X0 := Pts.boxR w (.slice Al m cl) 87 (k := w.heap.size) (by simp)
  have b0 := PointOk.below1 w (Obj.cells #[.slice Al m cl] 87)
  have HO : ∀ W W' : World, (Pts.BoxR W (w.heap.size) (.slice Al m cl) ∧ PtsAt W w.heap.size Al l ∧ Below w.heap.size w W) → Below W.heap.size W W' → (Pts.BoxR W' (w.heap.size) (.slice Al m cl) ∧ PtsAt W' w.heap.size Al l ∧ Below w.heap.size w W') := fun W W' ⟨h0, x0, hb⟩ h => ⟨h0.later h, x0.later (h.mono hb.size), hb.trans (h.mono hb.size)⟩
  have hz0_ : Hid (((w.alloc (Obj.cells #[.slice Al m cl] 87))).heap.size = w.heap.size + 1) := Lib.hid (by simp)
  have Y0 : PtsAt ((w.alloc (Obj.cells #[.slice Al m cl] 87))) w.heap.size Al l := hp.later b0
  generalize (w.alloc (Obj.cells #[.slice Al m cl] 87)) = w0 at X0 Y0 b0 hz0_ ⊢
  have S0 := (⟨X0, Y0, b0⟩ : Pts.BoxR w0 (w.heap.size) (.slice Al m cl) ∧ PtsAt w0 w.heap.size Al l ∧ Below w.heap.size w w0)
  clear X0 Y0 b0
  obtain ⟨⟨_, _⟩, _, _⟩ := id S0
  have HO2 : ∀ W W' : World, (Pts.BoxR W (w.heap.size) (.slice Al m cl) ∧ PtsAt W w.heap.size Al l ∧ Below w.heap.size w W) → Below (w.heap.size + 1) W W' → (Pts.BoxR W' (w.heap.size) (.slice Al m cl) ∧ PtsAt W' w.heap.size Al l ∧ Below w.heap.size w W') := fun W W' ⟨h0, h1, hb⟩ h => ⟨⟨(h.cell (by simp)).trans h0.1, trivial⟩, h1.later (h.mono (by omega)), hb.trans (h.mono (by omega))⟩
  go_loopw [5, 11] (fun v q wr => ∃ k : Nat, k ≤ m ∧ q = .int .i64 k ∧ wr.ownsRow (w.heap.size + 1) 3 1 v (thatTo f k).length (icells (thatTo f k)) ∧ w.heap.size + 1 ≤ wr.heap.size ∧ (Pts.BoxR wr (w.heap.size) (.slice Al m cl) ∧ PtsAt wr w.heap.size Al l ∧ Below w.heap.size w wr))
    (fun _ q _ => m - (intOf q).toNat)
  case atStart => exact ⟨0, Nat.zero_le _, rfl, World.ownsRow_nil _ _ _ _, World.block_lt_of_cell? _ _ S0.1.1, S0⟩
  case round =>
    clear S0
    obtain ⟨k, hkm, rfl, hown, hsz, S0⟩ := hrel
    obtain ⟨⟨_, _⟩, _, _⟩ := id S0
    by_cases hlt : k < m
    · have hk1 : (k : Int) < (m : Int) := by omega
      have hk0 : (0 : Int) ≤ (k : Int) := by omega
      have hcl := thatTo_len f k
      have HS : Hid (thatTo f (k + 1) = if f k then thatTo f k ++ [(k : Int)] else thatTo f k) := Lib.hid rfl
      have QK : Hid (∀ W hb, _) := Lib.hid fun W hb => Q.out W k hlt hb
      generalize thatTo f k = l0 at *
      obtain ⟨mc, hmc⟩ : ∃ x, l0.length = x := ⟨_, rfl⟩
      rw [hmc] at hown hcl
      have p0 := pt_at (ps := l) (k := k) (by omega)
      obtain ⟨x, y, hx⟩ : ∃ x y, pt l k = (x, y) := ⟨_, _, rfl⟩
      rw [hx] at p0 QK
      obtain ⟨ad, eA, bA, pA⟩ := S0.2.1.get p0
      subst eA
      have HO : ∀ W W' : World, (Pts.BoxR W (w.heap.size) (.slice (some ad) m cl) ∧ PtsAt W w.heap.size (some ad) l ∧ Below w.heap.size w W) → Below W.heap.size W W' → (Pts.BoxR W' (w.heap.size) (.slice (some ad) m cl) ∧ PtsAt W' w.heap.size (some ad) l ∧ Below w.heap.size w W') := fun W W' ⟨h0, x0, hb⟩ h => ⟨h0.later h, x0.later (h.mono hb.size), hb.trans (h.mono hb.size)⟩
      obtain ⟨_, _⟩ := id pA
      obtain ⟨o, ho⟩ : ∃ o, f k = o := ⟨_, rfl⟩
      rw [ho] at QK HS
      have X3 := PointOk.box1 wr x y 42 (k := wr.heap.size) rfl
      have b1_ := below1 wr (Obj.cells #[.int .i64 x, .int .i64 y] 42)
      replace S0 := HO _ _ S0 b1_
      replace hown := own_below hown b1_
      replace hsz := Nat.le_trans hsz b1_.size
      obtain ⟨_, _⟩ := id X3
      obtain ⟨kb, hkb⟩ : ∃ K, wr.heap.size = K := ⟨_, rfl⟩
      rw [hkb] at X3
      replace hown := Lib.hid hown
      clear b1_ p0 hx ho pA Q HR
      go_wp2_with fail
      generalize wr.alloc (Obj.cells #[.int .i64 x, .int .i64 y] 42) = v1 at *
      try rw [hkb]
      clear hkb
      obtain ⟨⟨_, _⟩, _, _⟩ := id S0
      refine (QK.out _ S0.2.2).mono ?_
      rintro e w4 ⟨rfl, hb_⟩
      replace S0 := HO _ _ S0 hb_
      replace hown := Lib.hid (own_below hown.out hb_)
      replace hsz := Nat.le_trans hsz hb_.size
      clear hb_ QK X3
      obtain ⟨⟨_, _⟩, _, _⟩ := id S0
      cases o
      · have HS2 : Hid (thatTo f (k + 1) = l0) := Lib.hid (by rw [HS.out]; rfl)
        clear HS
        go_wp2_with fail
        first
          | exact ⟨⟨k + 1, by omega, by go_num, by rw [HS2.out, hmc]; exact hown.out, hsz, S0⟩, by simp [intOf]; omega⟩
          | (go_roundw <;> first | exact ⟨k + 1, by omega, by go_num, by rw [HS2.out, hmc]; exact hown.out, hsz, S0⟩ | (simp [intOf]; omega))
      · have HS2 : Hid (thatTo f (k + 1) = l0 ++ [(k : Int)]) := Lib.hid (by rw [HS.out]; rfl)
        have hown2 := hown.out
        clear HS
        go_wp2_with (at_builtin; refine wpList_append_own _ rfl _ _ 72 rfl (w.heap.size + 1) 3 i0 (.int .i64 0) 1 8 Try.underlying72 hi hz0 hz1 hz2 rfl (by decide) _ _ _ rfl (hown2.alloc _) ⟨w4.heap.size, 0, none⟩ 1 1 [.int .i64 (k : Int)] rfl rfl ?c1 ?c2 ?c3 ?c4 ?c5 ?_)
        case c1 => (intro j u hj; match j, hj with | 0, hj => (simp at hj; subst hj; simp [Addr.add]))
        case c2 => (intro u hu; simp at hu; subst hu; rfl)
        case c3 => (unfold maxLen; omega)
        case c4 => omega
        case c5 => (simp; omega)
        intro v1_ wa_ ho_ hg_ _
        have HN : Hid (wa_.ownsRow (w.heap.size + 1) 3 1 v1_ (thatTo f (k + 1)).length (icells (thatTo f (k + 1))) ∧ w.heap.size + 1 ≤ wa_.heap.size ∧ (Pts.BoxR wa_ (w.heap.size) (.slice (some ad) m cl) ∧ PtsAt wa_ w.heap.size (some ad) l ∧ Below w.heap.size w wa_)) := Lib.hid (by
          have hb0 : Below (w.heap.size + 1) w4 (w4.alloc (Obj.cells #[.int .i64 (k : Int)] 3)) := (below1 _ _).mono hsz
          have hb1 := hb0.grown hg_ (by simp; omega) (fun g hg => (hown2.lt g hg).1)
          rw [HS2.out, icells_snoc, List.length_append, hmc]
          exact ⟨ho_, Nat.le_trans hsz hb1.size, HO2 _ _ S0 hb1⟩)
        clear ho_ hg_ hown hown2 HS2 S0
        go_wp2_with fail
        first
          | exact ⟨⟨k + 1, by omega, by go_num, HN.out.1, HN.out.2.1, HN.out.2.2⟩, by simp [intOf]; omega⟩
          | (go_roundw <;> first | exact ⟨k + 1, by omega, by go_num, HN.out.1, HN.out.2.1, HN.out.2.2⟩ | (simp [intOf]; omega))
    · obtain rfl : m = k := by omega
      rw [HR.out] at hown
      have hown2 := Lib.hid hown
      obtain ⟨A1, c1, rfl⟩ := own_shape hown
      clear hm hown HR
      go_wp2_with fail
      go_ret
      exact ⟨A1, c1, rfl, own_base hown2.out (by omega), S0.2.2⟩

set_option maxRecDepth 100000 in
set_option maxHeartbeats 6400000 in
theorem gapOf (F : FuncId) (cs : Array Value) (f : Nat → Bool) (Al : Option Addr) (m cl : Nat) (w : World) (l : List (Int × Int)) (hm : l.length = m) (hle : m ≤ 1048576) (hp : PtsAt w w.heap.size Al l) (eF : ∀ (args : Array Value) (w : World), (callFunc F args).run Try.prog w = .ok (.enter F args) w)
    (Q : ∀ (W : World) (k : Nat), k < m → Below w.heap.size w W → Calls Try.prog F (#[.agg #[.int .i64 (pt l k).1, .int .i64 (pt l k).2]] ++ cs) W fun e w' => e = .returned (.bool (f k)) ∧ Below W.heap.size W w') :
    Calls Try.prog 69 #[.agg #[.slice Al m cl], .func (.func F) #[] cs] w fun e w' => e = .returned (.int .i64 (gapI (thatTo f m) (m : Int))) ∧ Below w.heap.size w w' := by
  obtain ⟨r, hr⟩ : ∃ r, gapI (thatTo f m) (m : Int) = r := ⟨_, rfl⟩
  have HR := Lib.hid hr
  rw [hr]
  clear hr
  have QM := Lib.hid fun W (hb : Below w.heap.size w W) hp => momentsThat F cs f Al m cl W l hm hle hp eF (fun W2 k hk hb2 => Q W2 k hk (hb.trans (hb2.mono hb.size)))
  have hW := Lib.hid (fun k hk => that_in (f := f) m (k := k) hk)
  have hlen := thatTo_len f m
  unfold GivesI at QM
  clear Q eF
  generalize thatTo f m = z at *
  obtain ⟨n, hn⟩ : ∃ n, z.length = n := ⟨_, rfl⟩
  have HW : Hid (Within z (m : Int)) := Lib.hid hW.out
  rw [hn] at QM hlen
  clear hW
  go_enter Try.func69, Try.ntmps69
  go_wp2_with fail
  have X0 := Pts.boxR w (.slice Al m cl) 87 (k := w.heap.size) (by simp)
  have b0 := PointOk.below1 w (Obj.cells #[.slice Al m cl] 87)
  have HO : ∀ W W' : World, (Pts.BoxR W (w.heap.size) (.slice Al m cl) ∧ PtsAt W w.heap.size Al l ∧ Below w.heap.size w W) → Below W.heap.size W W' → (Pts.BoxR W' (w.heap.size) (.slice Al m cl) ∧ PtsAt W' w.heap.size Al l ∧ Below w.heap.size w W') := fun W W' ⟨h0, x0, hb⟩ h => ⟨h0.later h, x0.later (h.mono hb.size), hb.trans (h.mono hb.size)⟩
  have hz0_ : Hid (((w.alloc (Obj.cells #[.slice Al m cl] 87))).heap.size = w.heap.size + 1) := Lib.hid (by simp)
  have Y0 : PtsAt ((w.alloc (Obj.cells #[.slice Al m cl] 87))) w.heap.size Al l := hp.later b0
  generalize (w.alloc (Obj.cells #[.slice Al m cl] 87)) = w0 at X0 Y0 b0 hz0_ ⊢
  have S0 := (⟨X0, Y0, b0⟩ : Pts.BoxR w0 (w.heap.size) (.slice Al m cl) ∧ PtsAt w0 w.heap.size Al l ∧ Below w.heap.size w w0)
  clear X0 Y0 b0
  obtain ⟨⟨_, _⟩, _, _⟩ := id S0
  refine (QM.out w0 S0.2.2 (S0.2.1.wide S0.2.2.size)).mono ?_
  rintro e w5 ⟨A2, c2, rfl, H2, hb_⟩
  replace S0 := HO _ _ S0 hb_
  have HI := ints_own H2 hn
  clear hb_ QM H2
  obtain ⟨⟨_, _⟩, _, _⟩ := id S0
  by_cases h0 : n = 0
  · subst h0
    have E : Hid (r = -1) := Lib.hid (by rw [← HR.out]; unfold gapI; rw [hn]; rfl)
    clear hm HI hn
    go_wp2_with fail
    go_ret
    exact ⟨ret_i64 E.out.symm, S0.2.2⟩
  have HE : Hid (gapTo z (m : Int) n = r) := Lib.hid (by rw [← HR.out]; unfold gapI; rw [hn, if_neg h0])
  have hn0 : ¬ ((n : Int) = 0) := by omega
  obtain ⟨j, hj⟩ : ∃ j, n - 1 = j := ⟨_, rfl⟩
  have uj : IntKind.i64.wrap ((n : Int) - 1) = (j : Int) := by rw [IntWalk.i64_in _ (by omega)]; omega
  have hj1 : (j : Int) < (n : Int) := by omega
  have hj0 : (0 : Int) ≤ (j : Int) := by omega
  have b1 := HW.out j (by omega)
  have p1 := at0_at (zs := z) (k := j) (by omega)
  have HL0 : Hid (lastTo z (m : Int) 0 = at0 z j - (m : Int)) := Lib.hid (by rw [← hj, ← hn]; rfl)
  clear HR
  generalize at0 z j = a at *
  obtain ⟨bd, eB, bB, pB⟩ := HI.get p1
  subst eB
  have u1 : IntKind.i64.wrap (a - (m : Int)) = a - (m : Int) := IntWalk.i64_in _ (by omega)
  obtain ⟨KW, hKW⟩ : ∃ K, w5.heap.size = K := ⟨_, rfl⟩
  rw [hKW] at bB HI
  have HO : ∀ W W' : World, (Pts.BoxR W w.heap.size (.slice Al m cl) ∧ IntsAt W KW (some bd) z ∧ IntAt W bd j a ∧ KW ≤ W.heap.size ∧ Below w.heap.size w W) → Below W.heap.size W W' → (Pts.BoxR W' w.heap.size (.slice Al m cl) ∧ IntsAt W' KW (some bd) z ∧ IntAt W' bd j a ∧ KW ≤ W'.heap.size ∧ Below w.heap.size w W') := fun W W' ⟨x0, x1, x2, x3, hb⟩ h => ⟨x0.later h, x1.later (h.mono x3), x2.later bB (h.mono x3), Nat.le_trans x3 h.size, hb.trans (h.mono hb.size)⟩
  have S1 : Pts.BoxR w5 w.heap.size (.slice Al m cl) ∧ IntsAt w5 KW (some bd) z ∧ IntAt w5 bd j a ∧ KW ≤ w5.heap.size ∧ Below w.heap.size w w5 := ⟨S0.1, HI, pB, Nat.le_of_eq hKW.symm, S0.2.2⟩
  clear S0 HI pB p1 hKW
  have S0 := S1
  clear S1
  obtain ⟨⟨_, _⟩, _, ⟨_, _⟩, _, _⟩ := id S0
  go_wp2_with fail
  refine Settle.region (fun W => Pts.BoxR W w.heap.size (.slice Al m cl) ∧ IntsAt W KW (some bd) z ∧ IntAt W bd j a ∧ KW ≤ W.heap.size ∧ Below w.heap.size w W) (by kernel_rfl) (by kernel_rfl) (by kernel_rfl) (by kernel_rfl) (HO _ _ S0 ((Below.refl _ _).drew)) ?_
  clear S0
  repeat (first
    | (refine Settle.Settles.off (by rfl) ?_; simp only [Act.put, List.setIfInBounds_toArray, List.set_cons_zero, List.set_cons_succ])
    | (refine Settle.Settles.quiet (v := ?_) (by rfl) ?_ ?_
       rotate_left
       · (intro W hS; obtain ⟨⟨_, _⟩, _, ⟨_, _⟩, _, _⟩ := hS; go_simp; with_reducible rfl)
       simp only [Act.put, List.setIfInBounds_toArray, List.set_cons_zero, List.set_cons_succ])
    | (refine Settle.Settles.call (v := ?_) (f := ?_) (args := ?_) (by rfl) ?_ ?_ ?_
       rotate_left 3
       · (intro W; go_simp; refine ⟨?_, ?_⟩ <;> with_reducible rfl)
       · (intro W hS; fail)
       simp only [Act.put, List.setIfInBounds_toArray, List.set_cons_zero, List.set_cons_succ]))
  refine Settle.Settles.nil ?_
  intro wr S0
  obtain ⟨⟨_, _⟩, _, ⟨_, _⟩, _, _⟩ := id S0
  go_wp2_with fail
  replace S0 := (show IntsAt wr KW (some bd) z ∧ KW ≤ wr.heap.size ∧ Below w.heap.size w wr from ⟨S0.2.1, S0.2.2.2.1, S0.2.2.2.2⟩)
  clear u1 b1 uj hj1 hj0
  have HO : ∀ W W' : World, (IntsAt W KW (some bd) z ∧ KW ≤ W.heap.size ∧ Below w.heap.size w W) → Below W.heap.size W W' → (IntsAt W' KW (some bd) z ∧ KW ≤ W'.heap.size ∧ Below w.heap.size w W') := fun W W' ⟨x0, x1, hb⟩ h => ⟨x0.later (h.mono x1), Nat.le_trans x1 h.size, hb.trans (h.mono hb.size)⟩
  go_loopw [6, 7, 28] (fun u v q wr => ∃ k : Nat, k ≤ n ∧ q = .int .i64 k ∧ u = .int .i64 (lastTo z (m : Int) k) ∧ v = .int .i64 (gapTo z (m : Int) k) ∧ (IntsAt wr KW (some bd) z ∧ KW ≤ wr.heap.size ∧ Below w.heap.size w wr))
    (fun _ _ q _ => n - (intOf q).toNat)
  case atStart => exact ⟨0, Nat.zero_le _, rfl, by rw [HL0.out], rfl, S0⟩
  case round =>
    clear S0 HL0
    obtain ⟨k, hkn, rfl, rfl, rfl, S0⟩ := hrel
    by_cases hlt : k < n
    rotate_left
    · obtain rfl : n = k := by omega
      rw [HE.out]
      clear hm HE HW hn
      go_wp2_with fail
      go_ret
      exact ⟨rfl, S0.2.2⟩
    have hk1 : (k : Int) < (n : Int) := by omega
    have hk0 : (0 : Int) ≤ (k : Int) := by omega
    have b2 := HW.out k (by omega)
    have p0 := at0_at (zs := z) (k := k) (by omega)
    have HN := Lib.hid (gap_step HW.out (k := k) (by omega))
    have hb := last_bound HW.out (k := k) (by omega)
    generalize at0 z k = x at *
    generalize gapTo z (m : Int) k = v at *
    generalize lastTo z (m : Int) k = y at *
    obtain ⟨_, eA, _, pA⟩ := S0.1.get p0
    injection eA with eA
    subst eA
    have u1 : IntKind.i64.wrap (x - y) = x - y := IntWalk.i64_in _ (by omega)
    have HO : ∀ W W' : World, (IntsAt W KW (some bd) z ∧ IntAt W bd k x ∧ KW ≤ W.heap.size ∧ Below w.heap.size w W) → Below W.heap.size W W' → (IntsAt W' KW (some bd) z ∧ IntAt W' bd k x ∧ KW ≤ W'.heap.size ∧ Below w.heap.size w W') := fun W W' ⟨x0, x1, x2, hb⟩ h => ⟨x0.later (h.mono x2), x1.later bB (h.mono x2), Nat.le_trans x2 h.size, hb.trans (h.mono hb.size)⟩
    replace S0 : IntsAt wr KW (some bd) z ∧ IntAt wr bd k x ∧ KW ≤ wr.heap.size ∧ Below w.heap.size w wr := ⟨S0.1, pA, S0.2⟩
    clear pA p0 HE HW hm hn
    obtain ⟨_, ⟨_, _⟩, _, _⟩ := id S0
    go_wp2_with fail
    first
      | exact ⟨⟨k + 1, by omega, by go_num, by rw [HN.out.2], by rw [HN.out.1], S0.1, S0.2.2.1, S0.2.2.2⟩, by simp [intOf]; omega⟩
      | (go_roundw <;> first | exact ⟨k + 1, by omega, by go_num, by rw [HN.out.2], by rw [HN.out.1], S0.1, S0.2.2.1, S0.2.2.2⟩ | (simp [intOf]; omega))

end Go.Proofs.Ytonbpmabmjhdgac.RoundImpl

