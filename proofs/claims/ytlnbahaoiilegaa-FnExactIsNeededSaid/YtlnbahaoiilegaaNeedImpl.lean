/-
  Whether a guard at a corner is needed, as the landed code says it: a contract.
-/
import Derived.Test.YtlnbahaoiilegaaUnImpl
import Derived.Test.YtlnbahaoiilegaaPtofImpl
import Derived.Test.YtlnbahaoiilegaaNeedMath
import Derived.Test.YtlnbahaoiilegaaConcatI
import Derived.Deep.RegionHeld3
namespace Go.Proofs.Ytlnbahaoiilegaa.NeedImpl
open Go.RowKit Own PointMath WallMath RoomMath Pts Blk AreaMath PlaceMath FloorMath CutsMath KernMath PtofMath NeedMath Ints
open PointOk (ret_bool ret_i64 below1 below2 below3)
open FiltImpl (infoP pts_own)

theorem ints_own {w : World} {b n c : Nat} {A : Option Addr} {zs : List Int} (h : w.ownsRow b 3 1 (.slice A n c) n (icells zs)) (hz : zs.length = n) : IntsAt w w.heap.size A zs := by
  intro j hj
  obtain ⟨g, rfl, _, hlt, hc, _⟩ := own_cell h (by omega) (icells_at hj)
  exact ⟨_, rfl, hlt, by rw [Pts.add_head]; exact hc⟩
theorem ints_take {w : World} {b : Nat} {A : Option Addr} {zs : List Int} (h : IntsAt w b A zs) (k : Nat) : IntsAt w b A (zs.take k) := by
  intro j hj
  rw [List.length_take] at hj
  obtain ⟨ad, h1, h2, h3⟩ := h j (by omega)
  exact ⟨ad, h1, h2, by rw [List.getElem_take]; exact h3⟩

/-- What is left of a slice behind its first elements, where the capacity may end there. -/
def dropA (B : Option Addr) (cb j : Nat) : Option Addr := if cb = j then B else B.map fun x => { block := x.block, off := x.off + j }
theorem ints_drop {w : World} {b : Nat} {A : Option Addr} {zs : List Int} (h : IntsAt w b A zs) {cb j : Nat} (hj0 : 0 < j) (hcb : zs.length ≤ cb) : IntsAt w b (dropA A cb j) (zs.drop j) := by
  intro i hi
  rw [List.length_drop] at hi
  obtain ⟨ad, rfl, h2, h3⟩ := h (j + i) (by omega)
  unfold dropA
  rw [if_neg (by omega)]
  refine ⟨_, rfl, h2, ?_⟩
  rw [List.getElem_drop]
  have e : (⟨ad.block, ad.off + j, none⟩ : Addr).add i = ad.add (j + i) := by
    unfold Addr.add
    by_cases hi0 : i = 0
    · subst hi0
      simp
      intro h; omega
    · rw [if_neg hi0, if_neg (by omega)]
      simp [Nat.add_assoc]
  rw [e]
  exact h3

set_option maxRecDepth 100000 in
set_option maxHeartbeats 3200000 in
theorem isNeeded (A : Option Addr) (n cap : Nat) (B : Option Addr) (m cb : Nat) (k : Int) (w : World) (ps : List (Int × Int)) (hl : ps.length = n) (hn : n ≤ 1048576) (hp : PtsAt w w.heap.size A ps) (zs : List Int) (hl2 : zs.length = m) (hn2 : m ≤ 1048576) (hq : IntsAt w w.heap.size B zs) (hcb : m ≤ cb) :
    Calls Try.prog 12 #[.agg #[.slice A n cap], .slice B m cb, .int .i64 k] w fun e w' => e = .returned (.bool (needB ps zs k)) ∧ Below w.heap.size w w' := by
  obtain ⟨r, hr⟩ : ∃ r, needB ps zs k = r := ⟨_, rfl⟩
  have HR := Lib.hid hr
  rw [hr]
  clear hr
  by_cases h0 : 0 ≤ k
  rotate_left
  · have E : Hid (r = false) := Lib.hid (by rw [← HR.out]; exact need_no (by omega))
    have h1 : k < 0 := by omega
    clear HR hl hl2
    go_enter Try.func12, Try.ntmps12
    go_wp2_with fail
    have X0 := Pts.boxR w (.slice A n cap) 30 (k := w.heap.size) (by simp)
    have b0 := PointOk.below1 w (Obj.cells #[.slice A n cap] 30)
    have HO : ∀ W W' : World, (Pts.BoxR W (w.heap.size) (.slice A n cap) ∧ PtsAt W w.heap.size A ps ∧ IntsAt W w.heap.size B zs ∧ Below w.heap.size w W) → Below W.heap.size W W' → (Pts.BoxR W' (w.heap.size) (.slice A n cap) ∧ PtsAt W' w.heap.size A ps ∧ IntsAt W' w.heap.size B zs ∧ Below w.heap.size w W') := fun W W' ⟨h0, x0, x1, hb⟩ h => ⟨h0.later h, x0.later (h.mono hb.size), x1.later (h.mono hb.size), hb.trans (h.mono hb.size)⟩
    have hz0_ : Hid (((w.alloc (Obj.cells #[.slice A n cap] 30))).heap.size = w.heap.size + 1) := Lib.hid (by simp)
    have Y0 : PtsAt ((w.alloc (Obj.cells #[.slice A n cap] 30))) w.heap.size A ps := hp.later b0
    have Y1 : IntsAt ((w.alloc (Obj.cells #[.slice A n cap] 30))) w.heap.size B zs := hq.later b0
    generalize (w.alloc (Obj.cells #[.slice A n cap] 30)) = w0 at X0 Y0 Y1 b0 hz0_ ⊢
    have S0 := (⟨X0, Y0, Y1, b0⟩ : Pts.BoxR w0 (w.heap.size) (.slice A n cap) ∧ PtsAt w0 w.heap.size A ps ∧ IntsAt w0 w.heap.size B zs ∧ Below w.heap.size w w0)
    clear X0 Y0 Y1 b0
    obtain ⟨⟨_, _⟩, _, _, _⟩ := id S0
    refine Settle.region (fun W => Pts.BoxR W (w.heap.size) (.slice A n cap) ∧ PtsAt W w.heap.size A ps ∧ IntsAt W w.heap.size B zs ∧ Below w.heap.size w W) (by kernel_rfl) (by kernel_rfl) (by kernel_rfl) (by kernel_rfl) (HO _ _ S0 ((Below.refl _ _).drew)) ?_
    clear S0
    repeat (first
      | (refine Settle.Settles.off (by rfl) ?_; simp only [Act.put, List.setIfInBounds_toArray, List.set_cons_zero, List.set_cons_succ])
      | (refine Settle.Settles.quiet (v := ?_) (by rfl) ?_ ?_
         rotate_left
         · (intro W hS; obtain ⟨⟨_, _⟩, _, _, _⟩ := hS; go_simp; with_reducible rfl)
         simp only [Act.put, List.setIfInBounds_toArray, List.set_cons_zero, List.set_cons_succ])
      | (refine Settle.Settles.call (v := ?_) (f := ?_) (args := ?_) (by rfl) ?_ ?_ ?_
         rotate_left 3
         · (intro W; go_simp; refine ⟨?_, ?_⟩ <;> with_reducible rfl)
         · (intro W hS; fail)
         simp only [Act.put, List.setIfInBounds_toArray, List.set_cons_zero, List.set_cons_succ]))
    refine Settle.Settles.nil ?_
    intro wr S0
    obtain ⟨⟨_, _⟩, _, _, _⟩ := id S0
    go_wp2_with fail
    go_ret
    exact ⟨ret_bool E.out.symm, S0.2.2.2⟩
  obtain ⟨k, rfl⟩ := Int.eq_ofNat_of_zero_le h0
  have h2 : ¬ (k : Int) < 0 := by omega
  by_cases h1 : k < m
  rotate_left
  · have E : Hid (r = false) := Lib.hid (by rw [← HR.out]; exact need_no (by omega))
    have h1' : (m : Int) ≤ (k : Int) := by omega
    have h3 : decide ((m : Int) ≤ (k : Int)) = true := decide_eq_true h1'
    clear HR hl hl2
    go_enter Try.func12, Try.ntmps12
    go_wp2_with fail
    have X0 := Pts.boxR w (.slice A n cap) 30 (k := w.heap.size) (by simp)
    have b0 := PointOk.below1 w (Obj.cells #[.slice A n cap] 30)
    have HO : ∀ W W' : World, (Pts.BoxR W (w.heap.size) (.slice A n cap) ∧ PtsAt W w.heap.size A ps ∧ IntsAt W w.heap.size B zs ∧ Below w.heap.size w W) → Below W.heap.size W W' → (Pts.BoxR W' (w.heap.size) (.slice A n cap) ∧ PtsAt W' w.heap.size A ps ∧ IntsAt W' w.heap.size B zs ∧ Below w.heap.size w W') := fun W W' ⟨h0, x0, x1, hb⟩ h => ⟨h0.later h, x0.later (h.mono hb.size), x1.later (h.mono hb.size), hb.trans (h.mono hb.size)⟩
    have hz0_ : Hid (((w.alloc (Obj.cells #[.slice A n cap] 30))).heap.size = w.heap.size + 1) := Lib.hid (by simp)
    have Y0 : PtsAt ((w.alloc (Obj.cells #[.slice A n cap] 30))) w.heap.size A ps := hp.later b0
    have Y1 : IntsAt ((w.alloc (Obj.cells #[.slice A n cap] 30))) w.heap.size B zs := hq.later b0
    generalize (w.alloc (Obj.cells #[.slice A n cap] 30)) = w0 at X0 Y0 Y1 b0 hz0_ ⊢
    have S0 := (⟨X0, Y0, Y1, b0⟩ : Pts.BoxR w0 (w.heap.size) (.slice A n cap) ∧ PtsAt w0 w.heap.size A ps ∧ IntsAt w0 w.heap.size B zs ∧ Below w.heap.size w w0)
    clear X0 Y0 Y1 b0
    obtain ⟨⟨_, _⟩, _, _, _⟩ := id S0
    refine Settle.region (fun W => Pts.BoxR W (w.heap.size) (.slice A n cap) ∧ PtsAt W w.heap.size A ps ∧ IntsAt W w.heap.size B zs ∧ Below w.heap.size w W) (by kernel_rfl) (by kernel_rfl) (by kernel_rfl) (by kernel_rfl) (HO _ _ S0 ((Below.refl _ _).drew)) ?_
    clear S0
    repeat (first
      | (refine Settle.Settles.off (by rfl) ?_; simp only [Act.put, List.setIfInBounds_toArray, List.set_cons_zero, List.set_cons_succ])
      | (refine Settle.Settles.quiet (v := ?_) (by rfl) ?_ ?_
         rotate_left
         · (intro W hS; obtain ⟨⟨_, _⟩, _, _, _⟩ := hS; go_simp; with_reducible rfl)
         simp only [Act.put, List.setIfInBounds_toArray, List.set_cons_zero, List.set_cons_succ])
      | (refine Settle.Settles.call (v := ?_) (f := ?_) (args := ?_) (by rfl) ?_ ?_ ?_
         rotate_left 3
         · (intro W; go_simp; refine ⟨?_, ?_⟩ <;> with_reducible rfl)
         · (intro W hS; fail)
         simp only [Act.put, List.setIfInBounds_toArray, List.set_cons_zero, List.set_cons_succ]))
    refine Settle.Settles.nil ?_
    intro wr S0
    obtain ⟨⟨_, _⟩, _, _, _⟩ := id S0
    go_wp2_with fail
    go_ret
    exact ⟨ret_bool E.out.symm, S0.2.2.2⟩
  have h1' : ¬ (m : Int) ≤ (k : Int) := by omega
  have hk1 : (k : Int) < (m : Int) := by omega
  have d1 : decide ((k : Int) < 0) = false := decide_eq_false h2
  have d2 : decide ((m : Int) ≤ (k : Int)) = false := decide_eq_false h1'
  have d3 : decide (m ≤ k) = false := decide_eq_false (by omega)
  have hle := ptofL_le ps zs (by omega)
  have QP := Lib.hid fun (A2 : Option Addr) (m2 c2 : Nat) w hp (z2 : List Int) hz2 hn3 hq => PtofImpl.pointsOf A n cap A2 m2 c2 w ps hl hn hp z2 hz2 hn3 hq
  unfold GivesC at QP
  have QS := Lib.hid fun (l : List (Int × Int)) (Bl : Option Addr) (ml cl : Nat) w hp hl3 hn3 hq => UnImpl.seesAll A n cap Bl ml cl w ps hl hn hp l hl3 hn3 hq
  have E := Lib.hid (And.intro (fun (h : seesAllB ps (ptofL ps zs) = false) => (need_not (k := (k : Int)) h).symm.trans HR.out) (fun (h : seesAllB ps (ptofL ps zs) = true) => (need_at (k := k) (by omega) h).symm.trans HR.out))
  go_enter Try.func12, Try.ntmps12
  go_wp2_with fail
  have X0 := Pts.boxR w (.slice A n cap) 30 (k := w.heap.size) (by simp)
  have b0 := PointOk.below1 w (Obj.cells #[.slice A n cap] 30)
  have HO : ∀ W W' : World, (Pts.BoxR W (w.heap.size) (.slice A n cap) ∧ PtsAt W w.heap.size A ps ∧ IntsAt W w.heap.size B zs ∧ Below w.heap.size w W) → Below W.heap.size W W' → (Pts.BoxR W' (w.heap.size) (.slice A n cap) ∧ PtsAt W' w.heap.size A ps ∧ IntsAt W' w.heap.size B zs ∧ Below w.heap.size w W') := fun W W' ⟨h0, x0, x1, hb⟩ h => ⟨h0.later h, x0.later (h.mono hb.size), x1.later (h.mono hb.size), hb.trans (h.mono hb.size)⟩
  have hz0_ : Hid (((w.alloc (Obj.cells #[.slice A n cap] 30))).heap.size = w.heap.size + 1) := Lib.hid (by simp)
  have Y0 : PtsAt ((w.alloc (Obj.cells #[.slice A n cap] 30))) w.heap.size A ps := hp.later b0
  have Y1 : IntsAt ((w.alloc (Obj.cells #[.slice A n cap] 30))) w.heap.size B zs := hq.later b0
  generalize (w.alloc (Obj.cells #[.slice A n cap] 30)) = w0 at X0 Y0 Y1 b0 hz0_ ⊢
  have S0 := (⟨X0, Y0, Y1, b0⟩ : Pts.BoxR w0 (w.heap.size) (.slice A n cap) ∧ PtsAt w0 w.heap.size A ps ∧ IntsAt w0 w.heap.size B zs ∧ Below w.heap.size w w0)
  clear X0 Y0 Y1 b0
  obtain ⟨⟨_, _⟩, _, _, _⟩ := id S0
  obtain ⟨l, hll⟩ : ∃ l, ptofL ps zs = l := ⟨_, rfl⟩
  have QP1 := Lib.hid fun w hp hq => QP.out B m cb w hp zs hl2 hn2 hq
  rw [hll] at QP1 E hle
  obtain ⟨q, hq_⟩ : ∃ q, l.length = q := ⟨_, rfl⟩
  rw [hq_] at QP1 hle
  have QS1 := Lib.hid fun Bl cl w hp hq => QS.out l Bl q cl w hp hq_ hle hq
  obtain ⟨c, hc⟩ : ∃ c, seesAllB ps l = c := ⟨_, rfl⟩
  rw [hc] at QS1 E
  have S0_ := HO _ _ S0 ((Below.refl _ _).drew)
  have HS0_ : w0.drew.cell? ⟨w.heap.size, 0, none⟩ = some (.slice A n cap) := (by obtain ⟨⟨_, _⟩, _, _, _⟩ := id S0_; exact by assumption)
  go_region_held3 (fun W => W.cell? ⟨w.heap.size, 0, none⟩ = some (.slice A n cap)) (first | exact HS0_ | assumption) (first | (go_at_call 39; refine (QP1.out _ (S0_.2.1.wide S0_.2.2.2.size) (S0_.2.2.1.wide S0_.2.2.2.size)).mono ?_; rintro e w1 ⟨Al, cl, rfl, HL, hb0_⟩; have S1_ := HO _ _ S0_ hb0_; have HL_1 := HL; have HS1_ : w1.cell? ⟨w.heap.size, 0, none⟩ = some (.slice A n cap) := (by obtain ⟨⟨_, _⟩, _, _, _⟩ := id S1_; exact by assumption)) | (go_at_call 38; refine (QS1.out Al cl _ (S1_.2.1.wide S1_.2.2.2.size) (pts_own HL_1)).mono ?_; rintro e w2 ⟨rfl, hb1_⟩; have S2_ := HO _ _ S1_ hb1_; have HL_2 := own_below HL_1 hb1_; have HS2_ : w2.cell? ⟨w.heap.size, 0, none⟩ = some (.slice A n cap) := (by obtain ⟨⟨_, _⟩, _, _, _⟩ := id S2_; exact by assumption)))
  replace S0 := S2_
  have HL := HL_2
  obtain ⟨⟨_, _⟩, _, _, _⟩ := id S0
  cases c
  · have E2 : Hid (r = false) := Lib.hid (E.out.1 rfl).symm
    clear E QP QS QP1 QS1 HL
    go_wp2_with fail
    go_ret
    exact ⟨ret_bool E2.out.symm, S0.2.2.2⟩
  have E2 : Hid ((!seesAllB ps (ptofL ps (cutL zs k))) = r) := Lib.hid (E.out.2 rfl)
  clear E QP1 QS1 HL
  obtain ⟨ad, rfl⟩ : ∃ ad, B = some ad := by
    obtain ⟨ad, e, _⟩ := hq 0 (by omega)
    exact ⟨ad, e⟩
  have hkc : (k : Int) ≤ (cb : Int) := by omega
  have hk2 : (k : Int) + 1 ≤ (m : Int) := by omega
  have hk3 : (0 : Int) ≤ (k : Int) := by omega
  have hk4 : (0 : Int) ≤ (k : Int) + 1 := by omega
  have hk5 : k ≤ cb := by omega
  have hk6 : k + 1 ≤ m := by omega
  have hk7 : (m : Int) ≤ (cb : Int) := by omega
  have u1 : IntKind.i64.wrap ((k : Int) + 1) = (k : Int) + 1 := IntWalk.i64_in _ (by omega)
  have hlc : (zs.take k).length = k := by rw [List.length_take]; omega
  have hld : (zs.drop (k + 1)).length = m - (k + 1) := by rw [List.length_drop]; omega
  have hNc : k + (m - (k + 1)) = m - 1 := by omega
  have HO : ∀ W W' : World, (Pts.BoxR W (w.heap.size) (.slice A n cap) ∧ PtsAt W w.heap.size A ps ∧ IntsAt W w.heap.size (some ad) zs ∧ Below w.heap.size w W) → Below W.heap.size W W' → (Pts.BoxR W' (w.heap.size) (.slice A n cap) ∧ PtsAt W' w.heap.size A ps ∧ IntsAt W' w.heap.size (some ad) zs ∧ Below w.heap.size w W') := fun W W' ⟨h0, x0, x1, hb⟩ h => ⟨h0.later h, x0.later (h.mono hb.size), x1.later (h.mono hb.size), hb.trans (h.mono hb.size)⟩
  have QC := Lib.hid fun (W W2 : World) (hS : (Pts.BoxR W (w.heap.size) (.slice A n cap) ∧ PtsAt W w.heap.size A ps ∧ IntsAt W w.heap.size (some ad) zs ∧ Below w.heap.size w W)) (hW2 : W2 = (W.alloc (Obj.cells #[Value.slice (some ad) k cb, Value.slice (dropA (some ad) cb (k + 1)) (m - (k + 1)) (cb - (k + 1))] 25)).drew) =>
    (show Calls Try.prog 40 #[.slice (some ⟨W.heap.size, 0, none⟩) 2 2] W2 (fun e w' => ∃ A c, e = .returned (.slice A (m - 1) c) ∧ w'.ownsRow W2.heap.size 3 1 (.slice A (m - 1) c) (m - 1) (icells (cutL zs k)) ∧ Below W2.heap.size W2 w') from by
      have hb1 : Below W.heap.size W W2 := by rw [hW2]; exact (below1 W _).trans (Below.refl _ _).drew
      have hB2 : Holds W2 W.heap.size #[Value.slice (some ad) k cb, Value.slice (dropA (some ad) cb (k + 1)) (m - (k + 1)) (cb - (k + 1))] 25 := by rw [hW2]; exact (Holds.new W _ _).later (Below.refl _ _).drew
      have hq2 := ((HO _ _ hS hb1).2.2.1).wide (HO _ _ hS hb1).2.2.2.size
      exact ConcatI.concat W.heap.size (some ad) (dropA (some ad) cb (k + 1)) k cb (m - (k + 1)) (cb - (k + 1)) (m - 1) (zs.take k) (zs.drop (k + 1)) hlc hld hNc (by omega) W2 (ints_take hq2 k) (ints_drop hq2 (by omega) (by omega)) hB2.lt hB2.two.1.1 hB2.two.1.2 2)
  have hlk : (cutL zs k).length = m - 1 := by have := cut_len (l := zs) (k := k) (by omega); omega
  have hle2 := ptofL_le ps (cutL zs k) (by omega)
  have QP2 := Lib.hid fun (Ac : Option Addr) (c3 : Nat) w hp hq => QP.out Ac (m - 1) c3 w hp (cutL zs k) hlk (by omega) hq
  generalize cutL zs k = z2 at *
  obtain ⟨l2, hl2_⟩ : ∃ l, ptofL ps z2 = l := ⟨_, rfl⟩
  rw [hl2_] at QP2 hle2 E2
  obtain ⟨q2, hq2_⟩ : ∃ q, l2.length = q := ⟨_, rfl⟩
  rw [hq2_] at QP2 hle2
  have QS2 := Lib.hid fun Bl cl w hp hq => QS.out l2 Bl q2 cl w hp hq2_ hle2 hq
  generalize seesAllB ps l2 = c2 at *
  clear QP QS hlc hld hl2_ hq_ hq2_ hll hc hle hle2 hl hl2
  by_cases hcase : cb = k + 1
  · have hd : dropA (some ad) cb (k + 1) = some ad := by unfold dropA; rw [if_pos hcase]
    have hT : (cb = k + 1) = True := eq_true hcase
    rw [hd] at QC
    clear hd hcase
    go_wp2_with fail
    go_region_held3 (fun _ => True) (exact True.intro) (first | (go_at_call 40; refine (QC.out w2 _ S0 rfl).mono ?_; rintro e wv ⟨Ac, c3, rfl, HC, hb3_⟩))
    have hb4 : Below w2.heap.size w2 wv := (((below1 w2 _).trans (Below.refl _ _).drew)).trans (Below.mono hb3_ (by simp))
    have S4 := Lib.hid (HO _ _ S0 hb4)
    have PI := Lib.hid (ints_own HC hlk)
    clear QC hb3_ hb4 HC hlk S0 HO
    have HO : ∀ W W' : World, (BoxR W w.heap.size (.slice A n cap) ∧ PtsAt W w.heap.size A ps ∧ IntsAt W wv.heap.size Ac z2 ∧ wv.heap.size ≤ W.heap.size ∧ Below w.heap.size w W) → Below W.heap.size W W' → (BoxR W' w.heap.size (.slice A n cap) ∧ PtsAt W' w.heap.size A ps ∧ IntsAt W' wv.heap.size Ac z2 ∧ wv.heap.size ≤ W'.heap.size ∧ Below w.heap.size w W') := fun W W' ⟨x0, x1, x2, x3, hb⟩ h => ⟨x0.later h, x1.later (h.mono hb.size), x2.later (h.mono x3), Nat.le_trans x3 h.size, hb.trans (h.mono hb.size)⟩
    have S0 : (BoxR wv w.heap.size (.slice A n cap) ∧ PtsAt wv w.heap.size A ps ∧ IntsAt wv wv.heap.size Ac z2 ∧ wv.heap.size ≤ wv.heap.size ∧ Below w.heap.size w wv) := ⟨S4.out.1, S4.out.2.1, PI.out, Nat.le_refl _, S4.out.2.2.2⟩
    clear S4 PI
    obtain ⟨⟨_, _⟩, _, _, _, _⟩ := id S0
    go_wp2_with fail
    have S0_ := HO _ _ S0 ((Below.refl _ _).drew)
    have HS0_ : wv.drew.cell? ⟨w.heap.size, 0, none⟩ = some (.slice A n cap) := (by obtain ⟨⟨_, _⟩, _, _, _, _⟩ := id S0_; exact by assumption)
    go_region_held3 (fun W => W.cell? ⟨w.heap.size, 0, none⟩ = some (.slice A n cap)) (first | exact HS0_ | assumption) (first | (go_at_call 39; refine (QP2.out _ _ _ (S0_.2.1.wide S0_.2.2.2.2.size) (S0_.2.2.1.wide S0_.2.2.2.1)).mono ?_; rintro e w3 ⟨Al2, cl2, rfl, HL2, hb0_⟩; have S1_ := HO _ _ S0_ hb0_; have HL2_1 := HL2; have HS1_ : w3.cell? ⟨w.heap.size, 0, none⟩ = some (.slice A n cap) := (by obtain ⟨⟨_, _⟩, _, _, _, _⟩ := id S1_; exact by assumption)) | (go_at_call 38; refine (QS2.out Al2 cl2 _ (S1_.2.1.wide S1_.2.2.2.2.size) (pts_own HL2_1)).mono ?_; rintro e w4 ⟨rfl, hb1_⟩; have S2_ := HO _ _ S1_ hb1_; have HL2_2 := own_below HL2_1 hb1_; have HS2_ : w4.cell? ⟨w.heap.size, 0, none⟩ = some (.slice A n cap) := (by obtain ⟨⟨_, _⟩, _, _, _, _⟩ := id S2_; exact by assumption)))
    replace S0 := S2_
    have HL2 := HL2_2
    obtain ⟨⟨_, _⟩, _, _, _, _⟩ := id S0
    go_wp2_with fail
    go_ret
    exact ⟨ret_bool E2.out, S0.2.2.2.2⟩
  · have hd : dropA (some ad) cb (k + 1) = some ⟨ad.block, ad.off + (k + 1), none⟩ := by simp [dropA, hcase]
    rw [hd] at QC
    clear hd
    go_wp2_with fail
    go_region_held3 (fun _ => True) (exact True.intro) (first | (go_at_call 40; refine (QC.out w2 _ S0 rfl).mono ?_; rintro e wv ⟨Ac, c3, rfl, HC, hb3_⟩))
    have hb4 : Below w2.heap.size w2 wv := (((below1 w2 _).trans (Below.refl _ _).drew)).trans (Below.mono hb3_ (by simp))
    have S4 := Lib.hid (HO _ _ S0 hb4)
    have PI := Lib.hid (ints_own HC hlk)
    clear QC hb3_ hb4 HC hlk S0 HO
    have HO : ∀ W W' : World, (BoxR W w.heap.size (.slice A n cap) ∧ PtsAt W w.heap.size A ps ∧ IntsAt W wv.heap.size Ac z2 ∧ wv.heap.size ≤ W.heap.size ∧ Below w.heap.size w W) → Below W.heap.size W W' → (BoxR W' w.heap.size (.slice A n cap) ∧ PtsAt W' w.heap.size A ps ∧ IntsAt W' wv.heap.size Ac z2 ∧ wv.heap.size ≤ W'.heap.size ∧ Below w.heap.size w W') := fun W W' ⟨x0, x1, x2, x3, hb⟩ h => ⟨x0.later h, x1.later (h.mono hb.size), x2.later (h.mono x3), Nat.le_trans x3 h.size, hb.trans (h.mono hb.size)⟩
    have S0 : (BoxR wv w.heap.size (.slice A n cap) ∧ PtsAt wv w.heap.size A ps ∧ IntsAt wv wv.heap.size Ac z2 ∧ wv.heap.size ≤ wv.heap.size ∧ Below w.heap.size w wv) := ⟨S4.out.1, S4.out.2.1, PI.out, Nat.le_refl _, S4.out.2.2.2⟩
    clear S4 PI
    obtain ⟨⟨_, _⟩, _, _, _, _⟩ := id S0
    go_wp2_with fail
    have S0_ := HO _ _ S0 ((Below.refl _ _).drew)
    have HS0_ : wv.drew.cell? ⟨w.heap.size, 0, none⟩ = some (.slice A n cap) := (by obtain ⟨⟨_, _⟩, _, _, _, _⟩ := id S0_; exact by assumption)
    go_region_held3 (fun W => W.cell? ⟨w.heap.size, 0, none⟩ = some (.slice A n cap)) (first | exact HS0_ | assumption) (first | (go_at_call 39; refine (QP2.out _ _ _ (S0_.2.1.wide S0_.2.2.2.2.size) (S0_.2.2.1.wide S0_.2.2.2.1)).mono ?_; rintro e w1 ⟨Al2, cl2, rfl, HL2, hb0_⟩; have S1_ := HO _ _ S0_ hb0_; have HL2_1 := HL2; have HS1_ : w1.cell? ⟨w.heap.size, 0, none⟩ = some (.slice A n cap) := (by obtain ⟨⟨_, _⟩, _, _, _, _⟩ := id S1_; exact by assumption)) | (go_at_call 38; refine (QS2.out Al2 cl2 _ (S1_.2.1.wide S1_.2.2.2.2.size) (pts_own HL2_1)).mono ?_; rintro e w2 ⟨rfl, hb1_⟩; have S2_ := HO _ _ S1_ hb1_; have HL2_2 := own_below HL2_1 hb1_; have HS2_ : w2.cell? ⟨w.heap.size, 0, none⟩ = some (.slice A n cap) := (by obtain ⟨⟨_, _⟩, _, _, _, _⟩ := id S2_; exact by assumption)))
    replace S0 := S2_
    have HL2 := HL2_2
    obtain ⟨⟨_, _⟩, _, _, _, _⟩ := id S0
    go_wp2_with fail
    go_ret
    exact ⟨ret_bool E2.out, S0.2.2.2.2⟩
end Go.Proofs.Ytlnbahaoiilegaa.NeedImpl

