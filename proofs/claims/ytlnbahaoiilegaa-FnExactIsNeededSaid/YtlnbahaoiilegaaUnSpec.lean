/-
  What the model's UnseenBy and SeesAll do, as contracts: what each answers; new memory alone is written.
-/
import Derived.Test.YtlnbahaoiilegaaInSpec
namespace Go.Proofs.Ytlnbahaoiilegaa.UnSpec
open Go.RowKit Own PointMath WallMath RoomMath Pts Blk AreaMath PlaceMath FloorMath LineMath CutsMath SightMath KernMath
open PointOk (ret_bool ret_i64 below1 below2 below3)
open SightSpec (infoP cellsP_app pts_own)

theorem any_mono {ps gs : List (Int × Int)} {p : Int × Int} {i : Nat} : ∀ {m : Nat}, i ≤ m → anySees ps gs p i = true → anySees ps gs p m = true
  | 0, h, h1 => by obtain rfl : i = 0 := by omega
                   exact h1
  | m + 1, h, h1 => by
    rcases Nat.lt_or_ge i (m + 1) with h2 | h2
    · show (anySees ps gs p m || seesM ps (pt gs m) p) = true
      rw [any_mono (by omega) h1]; rfl
    · obtain rfl : i = m + 1 := by omega
      exact h1

set_option maxRecDepth 100000 in
set_option maxHeartbeats 6400000 in
theorem unseenBy (A : Option Addr) (n cap : Nat) (B : Option Addr) (m cb : Nat) (w : World) (ps : List (Int × Int)) (hl : ps.length = n) (hn : n ≤ 1048576) (hp : PtsAt w w.heap.size A ps) (gs : List (Int × Int)) (hl2 : gs.length = m) (hn2 : m ≤ 1048576) (hq : PtsAt w w.heap.size B gs) :
    Calls Try.prog 62 #[.agg #[.slice A n cap], .slice B m cb] w (GivesC 54 2 w (unL ps gs).length (cellsP (unL ps gs))) := by
  obtain ⟨r, hr⟩ : ∃ r, unL ps gs = r := ⟨_, rfl⟩
  have HR := Lib.hid hr
  rw [hr]
  clear hr
  obtain ⟨i0, hi, hz0, hz1, hz2⟩ := info_parts infoP
  go_enter Try.func62, Try.ntmps62
  go_wp2_with fail
  have X0 := Pts.boxR w (.slice A n cap) 30 (k := w.heap.size) (by simp)
  have b0 := PointOk.below1 w (Obj.cells #[.slice A n cap] 30)
  have HO : ∀ W W' : World, (Pts.BoxR W (w.heap.size) (.slice A n cap) ∧ PtsAt W w.heap.size A ps ∧ PtsAt W w.heap.size B gs ∧ Below w.heap.size w W) → Below W.heap.size W W' → (Pts.BoxR W' (w.heap.size) (.slice A n cap) ∧ PtsAt W' w.heap.size A ps ∧ PtsAt W' w.heap.size B gs ∧ Below w.heap.size w W') := fun W W' ⟨h0, x0, x1, hb⟩ h => ⟨h0.later h, x0.later (h.mono hb.size), x1.later (h.mono hb.size), hb.trans (h.mono hb.size)⟩
  have hz0_ : Hid (((w.alloc (Obj.cells #[.slice A n cap] 30))).heap.size = w.heap.size + 1) := Lib.hid (by simp)
  have Y0 : PtsAt ((w.alloc (Obj.cells #[.slice A n cap] 30))) w.heap.size A ps := hp.later b0
  have Y1 : PtsAt ((w.alloc (Obj.cells #[.slice A n cap] 30))) w.heap.size B gs := hq.later b0
  generalize (w.alloc (Obj.cells #[.slice A n cap] 30)) = w0 at X0 Y0 Y1 b0 hz0_ ⊢
  have S0 := (⟨X0, Y0, Y1, b0⟩ : Pts.BoxR w0 (w.heap.size) (.slice A n cap) ∧ PtsAt w0 w.heap.size A ps ∧ PtsAt w0 w.heap.size B gs ∧ Below w.heap.size w w0)
  clear X0 Y0 Y1 b0
  obtain ⟨⟨_, _⟩, _, _, _⟩ := id S0
  have HO2 : ∀ W W' : World, (Pts.BoxR W (w.heap.size) (.slice A n cap) ∧ PtsAt W w.heap.size A ps ∧ PtsAt W w.heap.size B gs ∧ Below w.heap.size w W) → Below (w.heap.size + 1) W W' → (Pts.BoxR W' (w.heap.size) (.slice A n cap) ∧ PtsAt W' w.heap.size A ps ∧ PtsAt W' w.heap.size B gs ∧ Below w.heap.size w W') := fun W W' ⟨h0, h1, h2, hb⟩ h => ⟨⟨(h.cell (by simp)).trans h0.1, trivial⟩, h1.later (h.mono (by omega)), h2.later (h.mono (by omega)), hb.trans (h.mono (by omega))⟩
  have hz1_ := hz0_.out
  have hown := own_empty w0 54 2
  rw [hz1_] at hown
  replace hown : (w0.alloc (Obj.cells #[] 54)).ownsRow (w.heap.size + 1) 54 2 (.slice (some ⟨w.heap.size + 1, 0, none⟩) 0 0) 0 [] := hown
  replace S0 := HO _ _ S0 (below1 w0 (Obj.cells #[] 54))
  have hsz : w.heap.size + 1 ≤ (w0.alloc (Obj.cells #[] 54)).heap.size := by simp; omega
  replace hown := Lib.hid hown
  replace hsz := Lib.hid hsz
  obtain ⟨⟨_, _⟩, _, _, _⟩ := id S0
  have QI : Hid (∀ w hp hq, _) := Lib.hid fun w hp hq => InSpec.l13In A n cap B m cb w ps hl hn hp gs hl2 hn2 hq
  go_wp2_with fail
  generalize w0.alloc (Obj.cells #[] 54) = v0 at *
  refine (QI.out _ (S0.2.1.wide S0.2.2.2.size) (S0.2.2.1.wide S0.2.2.2.size)).mono ?_
  rintro e w1 ⟨rfl, hb_⟩
  replace S0 := HO _ _ S0 hb_
  replace hown := Lib.hid (own_below hown.out hb_)
  replace hsz := Lib.hid (Nat.le_trans hsz.out hb_.size)
  clear hb_ QI
  obtain ⟨⟨_, _⟩, _, _, _⟩ := id S0
  cases hi : allIn ps gs
  · have E : Hid (r = []) := Lib.hid (by rw [← HR.out]; unfold unL; rw [hi]; rfl)
    clear hl hl2 HR
    go_wp2_with fail
    go_ret
    exact ⟨some ⟨w.heap.size + 1, 0, none⟩, 0, by rw [E.out]; rfl, by rw [E.out]; exact own_base hown.out (by omega), S0.2.2.2⟩
  have hall := Lib.hid (allIn_at hi)
  have HR2 : Hid (unTo ps gs (floorL ps) (floorL ps).length = r) := Lib.hid (by rw [← HR.out]; unfold unL; rw [hi]; rfl)
  have hin : Hid (∀ k, k < (floorL ps).length → inB ps (pt (floorL ps) k).1 (pt (floorL ps) k).2 = true) := Lib.hid (fun k hk => floorL_in (pt_mem hk))
  have QF : Hid (∀ w hp, _) := Lib.hid fun w hp => FloorSpec.floorPoints A n cap w ps hl hn hp
  have hle := floorL_le ps
  clear HR hi
  generalize floorL ps = l at *
  obtain ⟨q, hm⟩ : ∃ m, l.length = m := ⟨_, rfl⟩
  unfold GivesC at QF
  rw [hm] at QF hle HR2 hin
  go_wp2_with fail
  refine (QF.out _ (S0.2.1.wide S0.2.2.2.size)).mono ?_
  rintro e w2 ⟨Al, cl, rfl, HL, hb_⟩
  have hD : Hid (∀ i j, (Value.slice (some ⟨w.heap.size + 1, 0, none⟩) 0 0).ownBlock = some i → (Value.slice Al q cl).ownBlock = some j → i ≠ j) := Lib.hid (fun i j h1 h2 => by
    have := (hown.out.lt i h1).2
    have := (HL.lt j h2).1
    omega)
  replace HL := Lib.hid (own_base HL (b' := w.heap.size) S0.2.2.2.size)
  replace S0 := HO _ _ S0 hb_
  replace hown := Lib.hid (own_below hown.out hb_)
  replace hsz := Lib.hid (Nat.le_trans hsz.out hb_.size)
  clear hb_ QF
  obtain ⟨⟨_, _⟩, _, _, _⟩ := id S0
  go_wp2_with fail
  go_loopw [5, 7] (fun v kq wr => ∃ k : Nat, k ≤ q ∧ kq = .int .i64 k ∧ wr.ownsRow (w.heap.size + 1) 54 2 v (unTo ps gs l k).length (cellsP (unTo ps gs l k)) ∧ wr.ownsRow w.heap.size 54 2 (.slice Al q cl) q (cellsP l) ∧ Hid (∀ i j, v.ownBlock = some i → (Value.slice Al q cl).ownBlock = some j → i ≠ j) ∧ w.heap.size + 1 ≤ wr.heap.size ∧ (Pts.BoxR wr (w.heap.size) (.slice A n cap) ∧ PtsAt wr w.heap.size A ps ∧ PtsAt wr w.heap.size B gs ∧ Below w.heap.size w wr))
    (fun _ kq _ => q - (intOf kq).toNat)
  case atStart => exact ⟨0, Nat.zero_le _, rfl, hown.out, HL.out, hD, hsz.out, S0⟩
  case round =>
    clear S0 hown HL hsz hD
    obtain ⟨k, hkm, rfl, hown, HL, hD, hsz, S0⟩ := hrel
    obtain ⟨⟨_, _⟩, _, _, _⟩ := id S0
    by_cases hlt : k < q
    · have hk1 : (k : Int) < (q : Int) := by omega
      have hk0 : (0 : Int) ≤ (k : Int) := by omega
      have hcl := unTo_len ps gs l k
      have HS : Hid (unTo ps gs l (k + 1) = if anySees ps gs (pt l k) gs.length then unTo ps gs l k else unTo ps gs l k ++ [pt l k]) := Lib.hid rfl
      generalize unTo ps gs l k = l0 at *
      obtain ⟨mc, hmc⟩ : ∃ x, l0.length = x := ⟨_, rfl⟩
      rw [hmc] at hown hcl
      have p0 := pt_at (ps := l) (k := k) (by omega)
      have hi2 := hin.out k hlt
      obtain ⟨x, y, hx⟩ : ∃ x y, pt l k = (x, y) := ⟨_, _, rfl⟩
      rw [hx] at p0 HS hi2
      obtain ⟨ad, eA, bA, pA⟩ := (pts_own HL).get p0
      subst eA
      obtain ⟨Ao, co, rfl⟩ := own_shape hown
      obtain ⟨o, ho⟩ : ∃ o, anySees ps gs (x, y) gs.length = o := ⟨_, rfl⟩
      rw [ho] at HS
      rw [hl2] at ho
      clear p0 hx
      obtain ⟨KW, hKW⟩ : ∃ K, wr.heap.size = K := ⟨_, rfl⟩
      rw [hKW] at bA
      have HO : ∀ W W' : World, (BoxR W w.heap.size (.slice A n cap) ∧ PtsAt W w.heap.size A ps ∧ PtsAt W w.heap.size B gs ∧ PtAt W ad k x y ∧ W.ownsRow (w.heap.size + 1) 54 2 (.slice Ao mc co) mc (cellsP l0) ∧ W.ownsRow w.heap.size 54 2 (.slice (some ad) q cl) q (cellsP l) ∧ w.heap.size + 1 ≤ W.heap.size ∧ KW ≤ W.heap.size ∧ Below w.heap.size w W) → Below W.heap.size W W' → (BoxR W' w.heap.size (.slice A n cap) ∧ PtsAt W' w.heap.size A ps ∧ PtsAt W' w.heap.size B gs ∧ PtAt W' ad k x y ∧ W'.ownsRow (w.heap.size + 1) 54 2 (.slice Ao mc co) mc (cellsP l0) ∧ W'.ownsRow w.heap.size 54 2 (.slice (some ad) q cl) q (cellsP l) ∧ w.heap.size + 1 ≤ W'.heap.size ∧ KW ≤ W'.heap.size ∧ Below w.heap.size w W') := fun W W' ⟨x0, x1, x2, x3, x4, x5, x6, x7, hb⟩ h => ⟨x0.later h, x1.later (h.mono hb.size), x2.later (h.mono hb.size), x3.later (Nat.lt_of_lt_of_le bA x7) h, own_below x4 h, own_below x5 h, Nat.le_trans x6 h.size, Nat.le_trans x7 h.size, hb.trans (h.mono hb.size)⟩
      replace S0 : BoxR wr w.heap.size (.slice A n cap) ∧ PtsAt wr w.heap.size A ps ∧ PtsAt wr w.heap.size B gs ∧ PtAt wr ad k x y ∧ wr.ownsRow (w.heap.size + 1) 54 2 (.slice Ao mc co) mc (cellsP l0) ∧ wr.ownsRow w.heap.size 54 2 (.slice (some ad) q cl) q (cellsP l) ∧ w.heap.size + 1 ≤ wr.heap.size ∧ KW ≤ wr.heap.size ∧ Below w.heap.size w wr := ⟨S0.1, S0.2.1, S0.2.2.1, pA, hown, HL, hsz, Nat.le_of_eq hKW.symm, S0.2.2.2⟩
      clear pA hown HL hsz
      obtain ⟨⟨_, _⟩, _, _, ⟨_, _⟩, _, _, _, _, _⟩ := id S0
      go_wp2_with fail
      go_loopw [8, 9] (fun v iq wr => ∃ i : Nat, i ≤ m ∧ iq = .int .i64 i ∧ v = .bool (anySees ps gs (x, y) i) ∧ (BoxR wr w.heap.size (.slice A n cap) ∧ PtsAt wr w.heap.size A ps ∧ PtsAt wr w.heap.size B gs ∧ PtAt wr ad k x y ∧ wr.ownsRow (w.heap.size + 1) 54 2 (.slice Ao mc co) mc (cellsP l0) ∧ wr.ownsRow w.heap.size 54 2 (.slice (some ad) q cl) q (cellsP l) ∧ w.heap.size + 1 ≤ wr.heap.size ∧ KW ≤ wr.heap.size ∧ Below w.heap.size w wr))
        (fun _ iq _ => m - (intOf iq).toNat)
      case atStart => exact ⟨0, Nat.zero_le _, rfl, rfl, S0⟩
      case round =>
        clear S0
        obtain ⟨i, him, rfl, rfl, S0⟩ := hrel
        obtain ⟨⟨_, _⟩, _, _, ⟨_, _⟩, _, _, _, _, _⟩ := id S0
        by_cases hend : i < m ∧ anySees ps gs (x, y) i = false
        · obtain ⟨hlt2, hns⟩ := hend
          have hi1 : (i : Int) < (m : Int) := by omega
          have hi0 : (0 : Int) ≤ (i : Int) := by omega
          have p1 := pt_at (ps := gs) (k := i) (by omega)
          have in1 := hall.out.2 i (by omega)
          have HA : Hid (anySees ps gs (x, y) (i + 1) = seesM ps (pt gs i) (x, y)) := Lib.hid (by show (anySees ps gs (x, y) i || seesM ps (pt gs i) (x, y)) = _; rw [hns]; rfl)
          obtain ⟨gx, gy, hg⟩ : ∃ x y, pt gs i = (x, y) := ⟨_, _, rfl⟩
          rw [hg] at p1 in1 HA
          obtain ⟨bd, eB, bB, pB⟩ := S0.2.2.1.get p1
          subst eB
          have Q : Hid (∀ w hp, _) := Lib.hid fun w hp => SeenSpec.seesIn A n cap gx gy x y w ps hl in1 hi2 hp
          obtain ⟨s, hs⟩ : ∃ s, seesM ps (gx, gy) (x, y) = s := ⟨_, rfl⟩
          rw [hs] at Q HA
          rw [hns]
          clear p1 hg hs hns
          have HO : ∀ W W' : World, (BoxR W w.heap.size (.slice A n cap) ∧ PtsAt W w.heap.size A ps ∧ PtsAt W w.heap.size (some bd) gs ∧ PtAt W ad k x y ∧ W.ownsRow (w.heap.size + 1) 54 2 (.slice Ao mc co) mc (cellsP l0) ∧ W.ownsRow w.heap.size 54 2 (.slice (some ad) q cl) q (cellsP l) ∧ w.heap.size + 1 ≤ W.heap.size ∧ KW ≤ W.heap.size ∧ PtAt W bd i gx gy ∧ Below w.heap.size w W) → Below W.heap.size W W' → (BoxR W' w.heap.size (.slice A n cap) ∧ PtsAt W' w.heap.size A ps ∧ PtsAt W' w.heap.size (some bd) gs ∧ PtAt W' ad k x y ∧ W'.ownsRow (w.heap.size + 1) 54 2 (.slice Ao mc co) mc (cellsP l0) ∧ W'.ownsRow w.heap.size 54 2 (.slice (some ad) q cl) q (cellsP l) ∧ w.heap.size + 1 ≤ W'.heap.size ∧ KW ≤ W'.heap.size ∧ PtAt W' bd i gx gy ∧ Below w.heap.size w W') := fun W W' ⟨x0, x1, x2, x3, x4, x5, x6, x7, x8, hb⟩ h => ⟨x0.later h, x1.later (h.mono hb.size), x2.later (h.mono hb.size), x3.later (Nat.lt_of_lt_of_le bA x7) h, own_below x4 h, own_below x5 h, Nat.le_trans x6 h.size, Nat.le_trans x7 h.size, x8.later bB (h.mono hb.size), hb.trans (h.mono hb.size)⟩
          replace S0 : BoxR wr w.heap.size (.slice A n cap) ∧ PtsAt wr w.heap.size A ps ∧ PtsAt wr w.heap.size (some bd) gs ∧ PtAt wr ad k x y ∧ wr.ownsRow (w.heap.size + 1) 54 2 (.slice Ao mc co) mc (cellsP l0) ∧ wr.ownsRow w.heap.size 54 2 (.slice (some ad) q cl) q (cellsP l) ∧ w.heap.size + 1 ≤ wr.heap.size ∧ KW ≤ wr.heap.size ∧ PtAt wr bd i gx gy ∧ Below w.heap.size w wr := ⟨S0.1, S0.2.1, S0.2.2.1, S0.2.2.2.1, S0.2.2.2.2.1, S0.2.2.2.2.2.1, S0.2.2.2.2.2.2.1, S0.2.2.2.2.2.2.2.1, pB, S0.2.2.2.2.2.2.2.2⟩
          clear pB
          obtain ⟨⟨_, _⟩, _, _, ⟨_, _⟩, _, _, _, _, ⟨_, _⟩, _⟩ := id S0
          go_wp2_with fail
          refine Settle.region (fun W => BoxR W w.heap.size (.slice A n cap) ∧ PtsAt W w.heap.size A ps ∧ PtsAt W w.heap.size (some bd) gs ∧ PtAt W ad k x y ∧ W.ownsRow (w.heap.size + 1) 54 2 (.slice Ao mc co) mc (cellsP l0) ∧ W.ownsRow w.heap.size 54 2 (.slice (some ad) q cl) q (cellsP l) ∧ w.heap.size + 1 ≤ W.heap.size ∧ KW ≤ W.heap.size ∧ PtAt W bd i gx gy ∧ Below w.heap.size w W) (by kernel_rfl) (by kernel_rfl) (by kernel_rfl) (by kernel_rfl) (HO _ _ S0 ((Below.refl _ _).drew)) ?_
          clear S0
          repeat (first
            | (refine Settle.Settles.off (by rfl) ?_; simp only [Act.put, List.setIfInBounds_toArray, List.set_cons_zero, List.set_cons_succ])
            | (refine Settle.Settles.quiet (v := ?_) (by rfl) ?_ ?_
               rotate_left
               · (intro W hS; obtain ⟨⟨_, _⟩, _, _, ⟨_, _⟩, _, _, _, _, ⟨_, _⟩, _⟩ := hS; go_simp; with_reducible rfl)
               simp only [Act.put, List.setIfInBounds_toArray, List.set_cons_zero, List.set_cons_succ])
            | (refine Settle.Settles.call (v := ?_) (f := ?_) (args := ?_) (by rfl) ?_ ?_ ?_
               rotate_left 3
               · (intro W; go_simp; refine ⟨?_, ?_⟩ <;> with_reducible rfl)
               · (intro W hS; first | (go_at_call 42; (with_reducible refine (Q.out _ (hS.2.1.wide hS.2.2.2.2.2.2.2.2.2.size)).mono ?_); rintro e W1 ⟨rfl, hb⟩; refine ⟨?_, HO _ _ hS hb⟩; with_reducible rfl))
               simp only [Act.put, List.setIfInBounds_toArray, List.set_cons_zero, List.set_cons_succ]))
          refine Settle.Settles.nil ?_
          intro wr S0
          obtain ⟨⟨_, _⟩, _, _, ⟨_, _⟩, _, _, _, _, ⟨_, _⟩, _⟩ := id S0
          go_wp2_with fail
          first
            | exact ⟨⟨i + 1, by omega, by go_num, by rw [HA.out], S0.1, S0.2.1, S0.2.2.1, S0.2.2.2.1, S0.2.2.2.2.1, S0.2.2.2.2.2.1, S0.2.2.2.2.2.2.1, S0.2.2.2.2.2.2.2.1, S0.2.2.2.2.2.2.2.2.2⟩, by simp [intOf]; omega⟩
            | (go_roundw <;> first | exact ⟨i + 1, by omega, by go_num, by rw [HA.out], S0.1, S0.2.1, S0.2.2.1, S0.2.2.2.1, S0.2.2.2.2.1, S0.2.2.2.2.2.1, S0.2.2.2.2.2.2.1, S0.2.2.2.2.2.2.2.1, S0.2.2.2.2.2.2.2.2.2⟩ | (simp [intOf]; omega))
        have hfin : Hid (anySees ps gs (x, y) i = o) := Lib.hid (by
          rw [← ho]
          by_cases h1 : i < m
          · cases hc : anySees ps gs (x, y) i
            · exact absurd ⟨h1, hc⟩ hend
            · exact (any_mono him hc).symm
          · obtain rfl : i = m := by omega
            rfl)
        have hcond : i = m ∨ anySees ps gs (x, y) i = true := by
          by_cases h1 : i < m
          · cases hc : anySees ps gs (x, y) i
            · exact absurd ⟨h1, hc⟩ hend
            · exact .inr rfl
          · exact .inl (by omega)
        rw [hfin.out] at hcond ⊢
        have hown := S0.2.2.2.2.1
        have HL := S0.2.2.2.2.2.1
        have hsz := S0.2.2.2.2.2.2.1
        have hcond2 : Hid (if o then True else i = m) := Lib.hid (by rcases hcond with h | h <;> cases o <;> simp_all)
        clear hcond hend him hfin
        cases o
        · have HS2 : Hid (unTo ps gs l (k + 1) = l0 ++ [(x, y)]) := Lib.hid (by rw [HS.out]; rfl)
          obtain rfl : i = m := hcond2.out
          clear HS
          go_wp2_with (at_builtin; refine wpList_append_lies _ rfl _ _ 28 rfl (w.heap.size + 1) 54 i0 (.agg #[.int .i64 0, .int .i64 0]) 2 16 Try.underlying28 hi hz0 hz1 hz2 rfl (by decide) _ _ _ rfl (hown.alloc _) ⟨_, 0, none⟩ 1 1 [.int .i64 x, .int .i64 y] rfl rfl ?c1 ?c2 (by decide) ?c3 ?c4 ?c5 _ rfl ?_)
          try (case c1 => (intro a u ha; match a, ha with | 0, ha => (simp at ha; subst ha; simp [Addr.add]) | 1, ha => (simp at ha; subst ha; simp [Addr.add])))
          case c2 => (first | exact ⟨rfl, rfl⟩ | (intro u hu; simp at hu; rcases hu with rfl | rfl <;> rfl))
          case c3 => (unfold maxLen; omega)
          case c4 => omega
          case c5 => (first | omega | (simp; omega))
          intro g_ cap_ wa_ ho_ hg_ hgo_ hlt_
          have HN : Hid (wa_.ownsRow (w.heap.size + 1) 54 2 (.slice (some ⟨g_, 0, none⟩) (mc + 1) cap_) (unTo ps gs l (k + 1)).length (cellsP (unTo ps gs l (k + 1))) ∧ wa_.ownsRow w.heap.size 54 2 (.slice (some ad) q cl) q (cellsP l) ∧ Hid (∀ i j, (Value.slice (some ⟨g_, 0, none⟩) (mc + 1) cap_).ownBlock = some i → (Value.slice (some ad) q cl).ownBlock = some j → i ≠ j) ∧ w.heap.size + 1 ≤ wa_.heap.size ∧ (Pts.BoxR wa_ (w.heap.size) (.slice A n cap) ∧ PtsAt wa_ w.heap.size A ps ∧ PtsAt wa_ w.heap.size B gs ∧ Below w.heap.size w wa_)) := Lib.hid (by
            have hb0 := (below1 wr (Obj.cells #[.int .i64 x, .int .i64 y] 54)).mono hsz
            have hb1 := hb0.grown hg_ (by simp; omega) (fun g hg => (hown.lt g hg).1)
            have hc2 := kept_apart (own_below HL (below1 wr (Obj.cells #[.int .i64 x, .int .i64 y] 54))) hg_ (fun i j h1 h2 => (hD.out j i h2 h1).symm)
            refine ⟨by rw [HS2.out, cellsP_app, List.length_append, hmc]; exact ho_, hc2, Lib.hid (fun i j h1 h2 => ?_), Nat.le_trans hsz hb1.size, HO2 _ _ ⟨S0.1, S0.2.1, S0.2.2.1, S0.2.2.2.2.2.2.2.2⟩ hb1⟩
            injection h1 with h1
            subst h1
            rcases hgo_ with h | h
            · exact hD.out _ j h h2
            · have := (HL.lt j h2).2
              try simp at h
              show g_ ≠ j
              omega)
          clear ho_ hg_ hgo_ hown HL S0 hD hlt_ HS2
          go_wp2_with fail
          first
            | exact ⟨⟨k + 1, by omega, by go_num, HN.out.1, HN.out.2.1, HN.out.2.2.1, HN.out.2.2.2.1, HN.out.2.2.2.2⟩, by simp [intOf]; omega⟩
            | (go_roundw <;> first | exact ⟨k + 1, by omega, by go_num, HN.out.1, HN.out.2.1, HN.out.2.2.1, HN.out.2.2.2.1, HN.out.2.2.2.2⟩ | (simp [intOf]; omega))
        · have HS2 : Hid (unTo ps gs l (k + 1) = l0) := Lib.hid (by rw [HS.out]; rfl)
          replace hown := Lib.hid hown
          replace HL := Lib.hid HL
          clear HS
          rcases Int.lt_or_le (i : Int) (m : Int) with hx | hx
          all_goals go_wp2_with fail
          all_goals (first | exact ⟨⟨k + 1, by omega, by go_num, by rw [HS2.out, hmc]; exact hown.out, HL.out, hD, hsz, S0.1, S0.2.1, S0.2.2.1, S0.2.2.2.2.2.2.2.2⟩, by simp [intOf]; omega⟩ | (go_roundw <;> first | exact ⟨k + 1, by omega, by go_num, by rw [HS2.out, hmc]; exact hown.out, HL.out, hD, hsz, S0.1, S0.2.1, S0.2.2.1, S0.2.2.2.2.2.2.2.2⟩ | (simp [intOf]; omega)))
    · obtain rfl : q = k := by omega
      rw [HR2.out] at hown
      have hown2 := Lib.hid hown
      obtain ⟨A1, c1, rfl⟩ := own_shape hown
      clear hown HL HR2
      go_wp2_with fail
      go_ret
      exact ⟨A1, c1, rfl, own_base hown2.out (by omega), S0.2.2.2⟩

set_option maxRecDepth 100000 in
set_option maxHeartbeats 1600000 in
theorem seesAll (A : Option Addr) (n cap : Nat) (B : Option Addr) (m cb : Nat) (w : World) (ps : List (Int × Int)) (hl : ps.length = n) (hn : n ≤ 1048576) (hp : PtsAt w w.heap.size A ps) (gs : List (Int × Int)) (hl2 : gs.length = m) (hn2 : m ≤ 1048576) (hq : PtsAt w w.heap.size B gs) :
    Calls Try.prog 37 #[.agg #[.slice A n cap], .slice B m cb] w fun e w' => e = .returned (.bool (seesAllB ps gs)) ∧ Below w.heap.size w w' := by
  obtain ⟨r, hr⟩ : ∃ r, seesAllB ps gs = r := ⟨_, rfl⟩
  have HR := Lib.hid hr
  rw [hr]
  clear hr
  go_enter Try.func37, Try.ntmps37
  go_wp2_with fail
  have X0 := Pts.boxR w (.slice A n cap) 30 (k := w.heap.size) (by simp)
  have b0 := PointOk.below1 w (Obj.cells #[.slice A n cap] 30)
  have HO : ∀ W W' : World, (Pts.BoxR W (w.heap.size) (.slice A n cap) ∧ PtsAt W w.heap.size A ps ∧ PtsAt W w.heap.size B gs ∧ Below w.heap.size w W) → Below W.heap.size W W' → (Pts.BoxR W' (w.heap.size) (.slice A n cap) ∧ PtsAt W' w.heap.size A ps ∧ PtsAt W' w.heap.size B gs ∧ Below w.heap.size w W') := fun W W' ⟨h0, x0, x1, hb⟩ h => ⟨h0.later h, x0.later (h.mono hb.size), x1.later (h.mono hb.size), hb.trans (h.mono hb.size)⟩
  have hz0_ : Hid (((w.alloc (Obj.cells #[.slice A n cap] 30))).heap.size = w.heap.size + 1) := Lib.hid (by simp)
  have Y0 : PtsAt ((w.alloc (Obj.cells #[.slice A n cap] 30))) w.heap.size A ps := hp.later b0
  have Y1 : PtsAt ((w.alloc (Obj.cells #[.slice A n cap] 30))) w.heap.size B gs := hq.later b0
  generalize (w.alloc (Obj.cells #[.slice A n cap] 30)) = w0 at X0 Y0 Y1 b0 hz0_ ⊢
  have S0 := (⟨X0, Y0, Y1, b0⟩ : Pts.BoxR w0 (w.heap.size) (.slice A n cap) ∧ PtsAt w0 w.heap.size A ps ∧ PtsAt w0 w.heap.size B gs ∧ Below w.heap.size w w0)
  clear X0 Y0 Y1 b0
  obtain ⟨⟨_, _⟩, _, _, _⟩ := id S0
  refine (InSpec.l13In A n cap B m cb _ ps hl hn (S0.2.1.wide S0.2.2.2.size) gs hl2 hn2 (S0.2.2.1.wide S0.2.2.2.size)).mono ?_
  rintro e w1 ⟨rfl, hb_⟩
  replace S0 := HO _ _ S0 hb_
  clear hb_
  obtain ⟨⟨_, _⟩, _, _, _⟩ := id S0
  cases hi : allIn ps gs
  · have E : Hid (r = false) := Lib.hid (by rw [← HR.out]; unfold seesAllB; rw [hi]; rfl)
    clear hl hl2 HR
    go_wp2_with fail
    go_ret
    exact ⟨ret_bool E.out.symm, S0.2.2.2⟩
  have E : Hid (r = decide ((unL ps gs).length = 0)) := Lib.hid (by rw [← HR.out]; unfold seesAllB; rw [hi]; rfl)
  have Q : Hid (∀ w hp hq, _) := Lib.hid fun w hp hq => unseenBy A n cap B m cb w ps hl hn hp gs hl2 hn2 hq
  unfold GivesC at Q
  generalize unL ps gs = l at *
  generalize cellsP l = cs at *
  generalize l.length = z at *
  clear hl hl2 HR hi
  go_wp2_with fail
  refine (Q.out _ (S0.2.1.wide S0.2.2.2.size) (S0.2.2.1.wide S0.2.2.2.size)).mono ?_
  rintro e w5 ⟨A2, c2, rfl, _, hb_⟩
  replace S0 := HO _ _ S0 hb_
  clear hb_ Q
  go_wp2_with fail
  go_ret
  exact ⟨ret_bool (by rw [E.out, Bool.eq_iff_iff]; simp), S0.2.2.2⟩

end Go.Proofs.Ytlnbahaoiilegaa.UnSpec

