/-
  Whether a guard at a corner is needed, as the model says it: a contract.
-/
import Derived.Test.YtlnbahaoiilegaaUnSpec
import Derived.Test.YtlnbahaoiilegaaPtofSpec
import Derived.Test.YtlnbahaoiilegaaNeedMath
import Derived.Test.YtlnbahaoiilegaaConcat
import Derived.Deep.RegionHeld3
import Derived.Lib.Walk
namespace Go.Proofs.Ytlnbahaoiilegaa.NeedSpec
open Go.RowKit Own PointMath WallMath RoomMath Pts Blk AreaMath PlaceMath FloorMath CutsMath KernMath PtofMath NeedMath Ints
open PointOk (ret_bool ret_i64 below1 below2 below3)
open SightSpec (infoP pts_own)

theorem cells_take (ps : List (Int × Int)) (k : Nat) : cellsP (ps.take k ++ ps.drop (k + 1)) = cellsP (ps.take k) ++ cellsP (ps.drop (k + 1)) := Concat.cellsP_append _ _

/-- append of a slice of points, an empty one too, at a step of a region that draws its order. -/
theorem step_append_pts (w : World) {ops : Array Oper} {o : Oper} {a : Act} {K : Act → World → Prop} {Q : Exit → Act → World → Prop} {E : Prop} (hgd : o.guard = none) (s x : Operand)
    (ho : o.op = .call { callee := .builtin .append, args := #[s, x], argTypes := #[28, 28] })
    (B : Nat) (v : Value) (n : Nat) (xs : List Value) (hs : a.eval s = v) (hown : w.ownsRow B 54 2 v n xs)
    (A2 : Option Addr) (m c : Nat) (zs : List (Int × Int)) (hz : zs.length = m) (hx : a.eval x = .slice A2 m c) (hq : PtsAt w w.heap.size A2 zs) (hN : n + m ≤ 1048576) (hB : B ≤ w.heap.size)
    (h : ∀ v' w', w'.ownsRow B 54 2 v' (n + m) (xs ++ cellsP zs) → w.grownBy w' v.ownBlock → K (a.put o.dst v') w') :
    if Region.wanted o (yielded ops a.tmps) = true then Oper.wp Try.prog o a w K Q else E := by
  have hw : Region.wanted o (yielded ops a.tmps) = true := by simp [Region.wanted, hgd]
  rw [if_pos hw]
  obtain ⟨i0, hi, hz0, hz1, hz2⟩ := info_parts infoP
  obtain ⟨A0, c0, rfl⟩ := own_shape hown
  by_cases hm : m = 0
  · subst hm
    obtain rfl : zs = [] := List.length_eq_zero_iff.1 hz
    have hc : n ≤ c0 := by
      rcases hown.2 with ⟨h1, _⟩ | ⟨g', cap', cur, h1, _, _, h4, _⟩
      · injection h1 with _ h2 h3; omega
      · injection h1 with _ h2 h3; omega
    refine Lib.wp_append_run w s x _ _ ho _ _ hs hx _ _ (run_append_nothing w _ _ o.type _ i0 Try.underlying28 hi _ _ _ hc _ ?_) ?_
    · cases A2 with
      | none => exact Src.ofNil w Try.underlying28 _
      | some ad => exact Src.ofSlice w Try.underlying28 ad 0 c [] (by simp) (by simp) (by simp)
    · exact h _ _ (by simpa [cellsP] using hown) ⟨rfl, rfl, rfl, Nat.le_refl _, fun _ _ _ => rfl⟩
  · obtain ⟨ad, rfl⟩ : ∃ ad, A2 = some ad := by
      obtain ⟨ad, e, _⟩ := hq 0 (by omega)
      exact ⟨ad, e⟩
    refine wp_append_lies w s x _ ho B 54 i0 _ 2 16 Try.underlying28 hi hz0 hz1 hz2 rfl (by decide) _ n xs hs hown ad m c (cellsP zs) hx (by rw [cellsP_length, hz]) (Concat.news hq) (Concat.one zs) (by omega) (by unfold maxLen; omega) (by omega) hB _ rfl ?_
    intro g cap w' ho' hg _ _
    exact h _ _ ho' hg
theorem pts_take {w : World} {b : Nat} {A : Option Addr} {zs : List (Int × Int)} (h : PtsAt w b A zs) (k : Nat) : PtsAt w b A (zs.take k) := by
  intro j hj
  rw [List.length_take] at hj
  obtain ⟨ad, h1, h2, h3, h4⟩ := h j (by omega)
  exact ⟨ad, h1, h2, by rw [List.getElem_take]; exact h3, by rw [List.getElem_take]; exact h4⟩
/-- What is left of a slice behind its first elements, where the capacity may end there. -/
def dropA (B : Option Addr) (cb j : Nat) : Option Addr := if cb = j then B else B.map fun x => { block := x.block, off := x.off + j * 2 }
theorem pts_drop {w : World} {b : Nat} {A : Option Addr} {zs : List (Int × Int)} (h : PtsAt w b A zs) {cb j : Nat} (hj0 : 0 < j) (hcb : zs.length ≤ cb) : PtsAt w b (dropA A cb j) (zs.drop j) := by
  intro i hi
  rw [List.length_drop] at hi
  obtain ⟨ad, rfl, h2, h3, h4⟩ := h (j + i) (by omega)
  unfold dropA
  rw [if_neg (by omega)]
  have e : (⟨ad.block, ad.off + j * 2, none⟩ : Addr).add (i * 2) = ad.add ((j + i) * 2) := by
    unfold Addr.add
    by_cases hi0 : i = 0
    · subst hi0
      simp
      intro h; omega
    · rw [if_neg (by omega), if_neg (by omega)]
      simp [Nat.add_assoc, Nat.add_mul]
  refine ⟨_, rfl, h2, ?_, ?_⟩
  · rw [List.getElem_drop, e]; exact h3
  · rw [List.getElem_drop, e]; exact h4

set_option maxRecDepth 100000 in
set_option maxHeartbeats 3200000 in
theorem isNeeded (A : Option Addr) (n cap : Nat) (B : Option Addr) (m cb : Nat) (k : Int) (w : World) (ps : List (Int × Int)) (hl : ps.length = n) (hn : n ≤ 1048576) (hp : PtsAt w w.heap.size A ps) (zs : List Int) (hl2 : zs.length = m) (hn2 : m ≤ 1048576) (hq : IntsAt w w.heap.size B zs) (_hcb : m ≤ cb) :
    Calls Try.prog 9 #[.agg #[.slice A n cap], .slice B m cb, .int .i64 k] w fun e w' => e = .returned (.bool (needB ps zs k)) ∧ Below w.heap.size w w' := by
  obtain ⟨r, hr⟩ : ∃ r, needB ps zs k = r := ⟨_, rfl⟩
  have HR := Lib.hid hr
  rw [hr]
  clear hr
  have hle := ptofL_le ps zs (by omega)
  have QP : Hid (∀ w hp hq, _) := Lib.hid fun w hp hq => PtofSpec.pointsOf A n cap B m cb w ps hl hn hp zs hl2 hn2 hq
  unfold GivesC at QP
  have E := Lib.hid (need_spec ps zs k)
  rw [HR.out] at E
  have QS := Lib.hid fun (l : List (Int × Int)) (Bl : Option Addr) (ml cl : Nat) w hp hl3 hn3 hq => UnSpec.seesAll A n cap Bl ml cl w ps hl hn hp l hl3 hn3 hq
  generalize ptofL ps zs = l at *
  obtain ⟨q, hq_⟩ : ∃ q, l.length = q := ⟨_, rfl⟩
  rw [hq_] at QP E hle
  clear HR hl hl2
  go_enter Try.func9, Try.ntmps9
  go_wp2_with fail
  have X0 := Pts.boxR w (.slice A n cap) 30 (k := w.heap.size) (by simp)
  have b0 := PointOk.below1 w (Obj.cells #[.slice A n cap] 30)
  have HO : ∀ W W' : World, (Pts.BoxR W (w.heap.size) (.slice A n cap) ∧ PtsAt W w.heap.size A ps ∧ IntsAt W w.heap.size B zs ∧ Below w.heap.size w W) → Below W.heap.size W W' → (Pts.BoxR W' (w.heap.size) (.slice A n cap) ∧ PtsAt W' w.heap.size A ps ∧ IntsAt W' w.heap.size B zs ∧ Below w.heap.size w W') := fun W W' ⟨h0, x0, x1, hb⟩ h => ⟨h0.later h, x0.later (h.mono hb.size), x1.later (h.mono hb.size), hb.trans (h.mono hb.size)⟩
  have hz0_ : Hid (((w.alloc (Obj.cells #[.slice A n cap] 30))).heap.size = w.heap.size + 1) := Lib.hid (by simp)
  have Y0 : PtsAt ((w.alloc (Obj.cells #[.slice A n cap] 30))) w.heap.size A ps := hp.later b0
  have Y1 : IntsAt ((w.alloc (Obj.cells #[.slice A n cap] 30))) w.heap.size B zs := hq.later b0
  generalize (w.alloc (Obj.cells #[.slice A n cap] 30)) = w0 at X0 Y0 Y1 b0 hz0_ ⊢
  have S0 := (⟨X0, Y0, Y1, b0⟩ : Pts.BoxR w0 (w.heap.size) (.slice A n cap) ∧ PtsAt w0 w.heap.size A ps ∧ IntsAt w0 w.heap.size B zs ∧ Below w.heap.size w w0)
  clear X0 Y0 Y1 b0
  obtain ⟨⟨_, _⟩, _, _, _⟩ := id S0
  refine (QP.out _ (S0.2.1.wide S0.2.2.2.size) (S0.2.2.1.wide S0.2.2.2.size)).mono ?_
  rintro e w1 ⟨Al, cl, rfl, HL, hb_⟩
  replace S0 := HO _ _ S0 hb_
  have hcl : q ≤ cl := by
    rcases HL.2 with ⟨h1, _⟩ | ⟨g', cap', cur, h1, _, _, h4, _⟩
    · injection h1 with _ h2 h3; omega
    · injection h1 with _ h2 h3; omega
  have PL := pts_own HL
  clear hb_ QP HL
  obtain ⟨⟨_, _⟩, _, _, _⟩ := id S0
  have Q1 : Hid (∀ w, _) := Lib.hid fun w => PointOk.l01In k 0 ((q : Int) - 1) w
  have u1 : IntKind.i64.wrap ((q : Int) - 1) = (q : Int) - 1 := IntWalk.i64_in _ (by omega)
  obtain ⟨c, hc⟩ : ∃ c, decide (0 ≤ k ∧ k ≤ (q : Int) - 1) = c := ⟨_, rfl⟩
  rw [hc] at Q1 E
  cases c
  · have E2 : Hid (r = false) := Lib.hid (by rw [E.out]; rfl)
    clear E
    go_wp2_with fail
    refine (Q1.out _).mono ?_
    rintro e w_ ⟨rfl, rfl⟩
    go_wp2_with fail
    go_ret
    exact ⟨ret_bool E2.out.symm, S0.2.2.2⟩
  have hk := of_decide_eq_true hc
  obtain ⟨k, rfl⟩ := Int.eq_ofNat_of_zero_le hk.1
  have hkq : k < q := by omega
  rw [Int.toNat_natCast] at E
  go_wp2_with fail
  refine (Q1.out _).mono ?_
  rintro e w_ ⟨rfl, rfl⟩
  go_wp2_with fail
  refine (QS.out l Al q cl _ (S0.2.1.wide S0.2.2.2.size) hq_ hle PL).mono ?_
  rintro e w2 ⟨rfl, hb_⟩
  replace S0 := HO _ _ S0 hb_
  replace PL := PL.later hb_
  replace PL := PL.wide hb_.size
  clear hb_ Q1 hc
  obtain ⟨⟨_, _⟩, _, _, _⟩ := id S0
  cases cs : seesAllB ps l
  · have E2 : Hid (r = false) := Lib.hid (by rw [E.out, cs]; rfl)
    clear E QS
    go_wp2_with fail
    go_ret
    exact ⟨ret_bool E2.out.symm, S0.2.2.2⟩
  have E2 : Hid ((!seesAllB ps (cutL l k)) = r) := Lib.hid (by rw [E.out, cs]; simp)
  clear E cs
  obtain ⟨ad, rfl⟩ : ∃ ad, Al = some ad := by
    obtain ⟨ad, e, _⟩ := PL 0 (by omega)
    exact ⟨ad, e⟩
  have hkc : (k : Int) ≤ (cl : Int) := by omega
  have hk2 : (k : Int) + 1 ≤ (q : Int) := by omega
  have hk3 : (0 : Int) ≤ (k : Int) := by omega
  have hk4 : (0 : Int) ≤ (k : Int) + 1 := by omega
  have hk5 : k ≤ cl := by omega
  have hk6 : k + 1 ≤ q := by omega
  have hk7 : (q : Int) ≤ (cl : Int) := by omega
  have u2 : IntKind.i64.wrap ((k : Int) + 1) = (k : Int) + 1 := IntWalk.i64_in _ (by omega)
  have hlc : (l.take k).length = k := by rw [List.length_take]; omega
  have hld : (l.drop (k + 1)).length = q - (k + 1) := by rw [List.length_drop]; omega
  have hlk : (cutL l k).length = q - 1 := by have := cut_len (l := l) (k := k) (by omega); omega
  have PT := Lib.hid (pts_take PL k)
  have PD := Lib.hid (pts_drop (cb := cl) (j := k + 1) PL (by omega) (by omega))
  have QS2 := Lib.hid fun Bl cl w hp hq => QS.out (cutL l k) Bl (q - 1) cl w hp hlk (by omega) hq
  have hcut : cutL l k = l.take k ++ l.drop (k + 1) := rfl
  have hcells := cells_take l k
  rw [← hcut] at hcells
  replace hcells := Lib.hid hcells
  generalize cutL l k = l2 at *
  generalize l.take k = la at *
  generalize l.drop (k + 1) = lb at *
  generalize seesAllB ps l2 = c2 at *
  clear QS hcut hq_ hk PL
  go_wp2_with fail
  obtain ⟨w5, hw5⟩ : ∃ W, (w2.alloc (Obj.cells #[] 54)).drew = W := ⟨_, rfl⟩
  have hb5 : Below w2.heap.size w2 w5 := by rw [← hw5]; exact (below1 w2 _).trans (Below.refl _ _).drew
  have hE := Lib.hid (own_below (own_empty w2 54 2) (Below.refl _ _).drew)
  rw [hw5] at hE
  have HB6 : Hid (∀ w6, w5.grownBy w6 (Value.slice (some ⟨w2.heap.size, 0, none⟩) 0 0).ownBlock → Below w2.heap.size w2 w6) := Lib.hid (fun w6 g6 => hb5.grown g6 hb5.size (fun g hg => (hE.out.lt g hg).1))
  have PT5 := Lib.hid ((PT.out.later hb5).wide hb5.size)
  have hsz5 := hb5.size
  have HS5_ : w5.cell? ⟨w.heap.size, 0, none⟩ = some (.slice A n cap) := (HO _ _ S0 hb5).1.1
  have hNc : Hid (k + (q - (k + 1)) = q - 1) := Lib.hid (by omega)
  clear PT hb5
  rw [← hw5] at hE HB6 PT5 hsz5 HS5_
  clear hw5 w5
  by_cases hcase : cl = k + 1
  · have hd : dropA (some ad) cl (k + 1) = some ad := by unfold dropA; rw [if_pos hcase]
    have hT : (cl = k + 1) = True := eq_true hcase
    rw [hd] at PD
    clear hd hcase
    have HS0_ : w2.drew.cell? ⟨w.heap.size, 0, none⟩ = some (.slice A n cap) := S0.1.1
    go_region_held3 (fun W => W.cell? ⟨w.heap.size, 0, none⟩ = some (.slice A n cap)) (first | exact HS0_ | exact HS5_ | assumption | go_keep) (first | (refine step_append_pts _ (by rfl) _ _ (by rfl) w2.heap.size _ 0 [] (by rfl) hE.out _ k cl la hlc (by rfl) PT5.out (by omega) hsz5 ?_; intro v6 w6 h6 g6; have h6' : w6.ownsRow w2.heap.size 54 2 v6 k (cellsP la) := (by simpa using h6); have hb6 := HB6.out w6 g6; have PD6 := (PD.out.later hb6).wide hb6.size; have S6 := HO _ _ S0 hb6; have HS6_ : w6.cell? ⟨w.heap.size, 0, none⟩ = some (.slice A n cap) := S6.1.1; clear h6 g6; obtain ⟨A6, c6, rfl⟩ := own_shape h6') | (refine step_append_pts _ (by rfl) _ _ (by rfl) w2.heap.size _ k (cellsP la) (by rfl) h6' _ (q - (k + 1)) (cl - (k + 1)) lb hld (by rfl) PD6 (by omega) hb6.size ?_; intro v7 w7 h7 g7; have h7' : w7.ownsRow w2.heap.size 54 2 v7 (q - 1) (cellsP l2) := (by rw [hcells.out]; rw [hNc.out] at h7; exact h7); have hb7 := hb6.grown g7 hb6.size (fun g hg => (h6'.lt g hg).1); obtain ⟨A8, c8, rfl⟩ := own_shape h7'; have P7 := pts_own h7'; have S7 := HO _ _ S0 hb7; have HS7_ : w7.cell? ⟨w.heap.size, 0, none⟩ = some (.slice A n cap) := S7.1.1; clear h7 g7) | (go_at_call 37; refine (QS2.out _ _ _ (S7.2.1.wide S7.2.2.2.size) P7).mono ?_; rintro e w8 ⟨rfl, hb8⟩; have S8 := HO _ _ S7 hb8; have HS8_ : w8.cell? ⟨w.heap.size, 0, none⟩ = some (.slice A n cap) := S8.1.1))
    go_wp2_with fail
    go_ret
    exact ⟨ret_bool E2.out, S8.2.2.2⟩
  · have hd : dropA (some ad) cl (k + 1) = some ⟨ad.block, ad.off + (k + 1) * 2, none⟩ := by simp [dropA, hcase]
    rw [hd] at PD
    clear hd
    have HS0_ : w2.drew.cell? ⟨w.heap.size, 0, none⟩ = some (.slice A n cap) := S0.1.1
    go_region_held3 (fun W => W.cell? ⟨w.heap.size, 0, none⟩ = some (.slice A n cap)) (first | exact HS0_ | exact HS5_ | assumption | go_keep) (first | (refine step_append_pts _ (by rfl) _ _ (by rfl) w2.heap.size _ 0 [] (by rfl) hE.out _ k cl la hlc (by rfl) PT5.out (by omega) hsz5 ?_; intro v6 w6 h6 g6; have h6' : w6.ownsRow w2.heap.size 54 2 v6 k (cellsP la) := (by simpa using h6); have hb6 := HB6.out w6 g6; have PD6 := (PD.out.later hb6).wide hb6.size; have S6 := HO _ _ S0 hb6; have HS6_ : w6.cell? ⟨w.heap.size, 0, none⟩ = some (.slice A n cap) := S6.1.1; clear h6 g6; obtain ⟨A6, c6, rfl⟩ := own_shape h6') | (refine step_append_pts _ (by rfl) _ _ (by rfl) w2.heap.size _ k (cellsP la) (by rfl) h6' _ (q - (k + 1)) (cl - (k + 1)) lb hld (by rfl) PD6 (by omega) hb6.size ?_; intro v7 w7 h7 g7; have h7' : w7.ownsRow w2.heap.size 54 2 v7 (q - 1) (cellsP l2) := (by rw [hcells.out]; rw [hNc.out] at h7; exact h7); have hb7 := hb6.grown g7 hb6.size (fun g hg => (h6'.lt g hg).1); obtain ⟨A8, c8, rfl⟩ := own_shape h7'; have P7 := pts_own h7'; have S7 := HO _ _ S0 hb7; have HS7_ : w7.cell? ⟨w.heap.size, 0, none⟩ = some (.slice A n cap) := S7.1.1; clear h7 g7) | (go_at_call 37; refine (QS2.out _ _ _ (S7.2.1.wide S7.2.2.2.size) P7).mono ?_; rintro e w8 ⟨rfl, hb8⟩; have S8 := HO _ _ S7 hb8; have HS8_ : w8.cell? ⟨w.heap.size, 0, none⟩ = some (.slice A n cap) := S8.1.1))
    go_wp2_with fail
    go_ret
    exact ⟨ret_bool E2.out, S8.2.2.2⟩
end Go.Proofs.Ytlnbahaoiilegaa.NeedSpec

