/-
  What the model's Suspects does, as a contract: what it answers; new memory alone is written.
-/
import Derived.Test.YtdcekbhfbkiflaaDoorSuspMath
import Derived.Test.YtdcekbhfbkiflaaDoorGoneSpec
import Derived.Test.YtdcekbhfbkiflaaDoorGround
import Derived.Test.YtdcekbhfbkiflaaDoorJoinMath
import Derived.Lib.MinMax
import Derived.OwnWalk
import Derived.BigRegion
namespace Go.Proofs.YtdcekbhfbkiflaaDoor.SuspSpec
open Go.RowKit Own StockMath GoneMath SuspMath Ints JoinMath Blk
open PointOk (ret_bool ret_i64 below1 below2 below3)

theorem infoI : (Tryd.prog.info? 3).map (fun i => (i.zero, i.size, i.bytes)) = some (some (.int .i64 0), 1, 8) := by kernel_rfl
theorem ints_own {W : World} {b e n cap : Nat} {A : Option Addr} {l : List Int} (h : W.ownsRow b e 1 (.slice A n cap) n (icells l)) : IntsAt W W.heap.size A l := by
  intro j hj
  have hn : l.length = n := by have := h.1; simpa [icells] using this
  obtain ⟨g, hA, _, hg, h1, _⟩ := own_cell h (by omega) (icells_at hj)
  refine ⟨_, hA, hg, ?_⟩
  by_cases hj0 : j = 0
  · subst hj0; exact h1
  · simpa [Addr.add, hj0] using h1
/-- An own row of another type is another block. -/
theorem own_ne {W : World} {b e sz n kb : Nat} {v : Value} {xs : List Value} {cs : Array Value} {T : TypeId} (h : W.ownsRow b e sz v n xs) (hH : Holds W kb cs T) (hT : e ≠ T) : ∀ g, v.ownBlock = some g → g ≠ kb := by
  intro g hg hk
  subst hk
  rcases h.2 with ⟨rfl, _⟩ | ⟨g', cap', cur, rfl, _, hb, _⟩
  · cases hg
  · have e1 : g' = g := Option.some.inj hg
    subst e1
    have h2 := hb.symm.trans hH
    injection h2 with h2
    injection h2 with _ h3
    exact hT h3
theorem row_cell {W : World} {b e g n c j : Nat} {L : List Int} {x : Int} (h : W.ownsRow b e 1 (.slice (some ⟨g, 0, none⟩) n c) n (icells L)) (hj : j < n) (hx : L[j]? = some x) :
    W.cell? ⟨g, j, none⟩ = some (.int .i64 x) ∧ W.frozen? ⟨g, j, none⟩ = false := by
  obtain ⟨g', hA, _, _, h1, h2⟩ := own_cell h hj (x := .int .i64 x) (by unfold icells; rw [List.getElem?_map, hx]; rfl)
  injection hA with hA
  injection hA with hA
  subst hA
  exact ⟨h1, h2⟩
theorem row_set {W : World} {b e g n c : Nat} {L : List Int} (h : W.ownsRow b e 1 (.slice (some ⟨g, 0, none⟩) n c) n (icells L)) (j : Nat) (x : Int) :
    (W.setCell ⟨g, j, none⟩ (.int .i64 x)).ownsRow b e 1 (.slice (some ⟨g, 0, none⟩) n c) n (icells (L.set j x)) ∧ W.grownBy (W.setCell ⟨g, j, none⟩ (.int .i64 x)) (some g) := by
  have hs := h.stored j (.int .i64 x)
  have e1 : (icells L).set j (.int .i64 x) = icells (L.set j x) := by unfold icells; rw [List.map_set]
  rw [e1] at hs
  exact hs
theorem put_at {l : List Int} {j : Nat} (y : Int) (hj : j ≤ l.length) : (l.take j ++ y :: l.drop j)[j]? = some y := by
  have e : (l.take j).length = j := by rw [List.length_take]; omega
  rw [List.getElem?_append_right (by omega), e, Nat.sub_self]
  rfl
theorem holds_grown {W W' : World} {k : Nat} {cs : Array Value} {T : TypeId} {row : Option Nat} (h : Holds W k cs T) (hg : W.grownBy W' row) (hne : ∀ g, row = some g → g ≠ k) : Holds W' k cs T :=
  (hg.block k h.lt (fun e => hne k e.symm rfl)).trans h

set_option maxRecDepth 100000 in
set_option maxHeartbeats 1600000 in
theorem hasI (B : Option Addr) (m cb : Nat) (z : Int) (w : World) (zs : List Int) (hz : zs.length = m) (hm : m ≤ 1048576) (hq : IntsAt w w.heap.size B zs) :
    Calls Tryd.prog 51 #[.slice B m cb, .int .i64 z] w fun e w' => e = .returned (.bool (zs.contains z)) ∧ Below w.heap.size w w' := by
  obtain ⟨r, hr⟩ : ∃ r, zs.contains z = r := ⟨_, rfl⟩
  have HR := Lib.hid hr
  rw [hr]
  clear hr
  have HA : Hid (∀ k, k < m → zs.getD k 0 = z → r = true) := Lib.hid (fun k hk h => by
    rw [← HR.out, List.contains_iff_mem, ← h]
    have hk : k < zs.length := by omega
    simp [List.getD, hk])
  have HN : Hid ((∀ k, k < m → zs.getD k 0 ≠ z) → r = false) := Lib.hid (fun h => by
    rw [← HR.out, Bool.eq_false_iff]
    intro hc
    rw [List.contains_iff_mem] at hc
    obtain ⟨k, hk, e⟩ := List.mem_iff_getElem.1 hc
    exact h k (by omega) (by simp [List.getD, hk, e]))
  clear HR
  go_enter Tryd.func51, Tryd.ntmps51
  go_wp2_with fail
  have HO : ∀ W W' : World, (IntsAt W w.heap.size B zs ∧ Below w.heap.size w W) → Below W.heap.size W W' → (IntsAt W' w.heap.size B zs ∧ Below w.heap.size w W') := fun W W' ⟨x0, hb⟩ h => ⟨x0.later (h.mono hb.size), hb.trans (h.mono hb.size)⟩
  have S0 : IntsAt w w.heap.size B zs ∧ Below w.heap.size w w := ⟨hq, Below.refl _ _⟩
  clear hq
  go_loopw [5] (fun q wr => ∃ k : Nat, k ≤ m ∧ q = .int .i64 k ∧ Hid (∀ j, j < k → zs.getD j 0 ≠ z) ∧ (IntsAt wr w.heap.size B zs ∧ Below w.heap.size w wr))
    (fun q _ => m - (intOf q).toNat)
  case atStart => exact ⟨0, Nat.zero_le _, rfl, Lib.hid (fun t ht => absurd ht (by omega)), S0⟩
  case round =>
    clear S0
    obtain ⟨k, hk, rfl, hno, S0⟩ := hrel
    obtain ⟨_, _⟩ := id S0
    by_cases hkm : k < m
    · have hk1 : (k : Int) < (m : Int) := by omega
      have hk0 : (0 : Int) ≤ (k : Int) := by omega
      have p0 := at_d (zs := zs) (k := k) (by omega)
      have HAk := Lib.hid (fun h => HA.out k hkm h)
      have HW : Hid (zs.getD k 0 ≠ z → ∀ j, j < k + 1 → zs.getD j 0 ≠ z) := Lib.hid (fun h j hj => by
        rcases Nat.lt_or_ge j k with h1 | h1
        · exact hno.out j h1
        · obtain rfl : j = k := by omega
          exact h)
      obtain ⟨x, hx⟩ : ∃ x, zs.getD k 0 = x := ⟨_, rfl⟩
      rw [hx] at p0 HAk HW
      obtain ⟨ad, eA, bA, pA⟩ := S0.1.get p0
      subst eA
      obtain ⟨_, _⟩ := id pA
      clear p0 hx pA HA HN hno hz
      by_cases hzx : x = z
      · have E : Hid (r = true) := Lib.hid (HAk.out hzx)
        subst hzx
        clear HAk HW
        go_wp2_with fail
        go_ret
        exact ⟨ret_bool E.out.symm, S0.2⟩
      · have hb : (x == z) = false := beq_eq_false_iff_ne.2 hzx
        have HW2 := Lib.hid (HW.out hzx)
        clear HAk HW
        go_wp2_with fail
        exact ⟨⟨k + 1, by omega, by go_num, HW2, S0⟩, by simp [intOf]; omega⟩
    · obtain rfl : m = k := by omega
      have E : Hid (r = false) := Lib.hid (HN.out hno.out)
      clear hno hz HA HN
      go_wp2_with fail
      go_ret
      exact ⟨ret_bool E.out.symm, S0.2⟩

set_option maxRecDepth 100000 in
set_option maxHeartbeats 6400000 in
theorem suspects (B : Option Addr) (m cb : Nat) (hall : Int) (A : Option Addr) (n cap : Nat) (o : Int) (w : World) (qs : List Tup4.Tu) (hlq : qs.length = m) (hnq : m ≤ 1048576) (hq : Tup4.TsAt w w.heap.size B qs) (ps : List TupIIB.Tu) (hl : ps.length = n) (hn : n ≤ 1048576) (hp : TupIIB.TsAt w w.heap.size A ps) :
    Calls Tryd.prog 24 #[.slice B m cb, .int .i64 hall, .slice A n cap, .int .i64 o] w (GivesI 3 w (suspL qs hall ps o)) := by
  obtain ⟨r, hr⟩ : ∃ r, suspL qs hall ps o = r := ⟨_, rfl⟩
  have HR := Lib.hid hr
  rw [hr]
  clear hr
  have QM : Hid (∀ w hp, _) := Lib.hid fun w hp => GoneSpec.isMissing A n cap o w ps hl hn hp
  have QL : Hid (∀ w hp, _) := Lib.hid fun w hp => StockSpec.lastSeen A n cap o w ps hl hn hp
  have QF : Hid (∀ w hp, _) := Lib.hid fun w hp => GoneSpec.firstMissed A n cap o w ps hl hn hp
  obtain ⟨i0, hi, hz0, hz1, hz2⟩ := info_parts infoI
  have HE0 : Hid (missingB ps o = false → r = []) := Lib.hid (fun h => by rw [← HR.out]; unfold suspL; rw [h]; rfl)
  obtain ⟨g, hg⟩ : ∃ g : Nat → Int, (fun k => (Tup4.tt qs k).1) = g := ⟨_, rfl⟩
  have HGk : Hid (∀ k, g k = (Tup4.tt qs k).1) := Lib.hid (fun k => by rw [← hg])
  obtain ⟨F, hF⟩ : ∃ F : Nat → Bool, stayF qs hall (seenI ps o) (missI ps o) = F := ⟨_, rfl⟩
  have HFk : Hid (∀ k, F k = stayB hall (seenI ps o) (missI ps o) (Tup4.tt qs k).2.1 (Tup4.tt qs k).2.2.1 (Tup4.tt qs k).2.2.2) := Lib.hid (fun k => by rw [← hF]; rfl)
  have HE1 : Hid (missingB ps o = true → r = whoL (pickTo g F m)) := Lib.hid (fun h => by rw [← HR.out, ← hg, ← hF, ← hlq]; unfold suspL; rw [h]; rfl)
  clear HR hg hF
  generalize missI ps o = mi at *
  generalize seenI ps o = s at *
  go_enter Tryd.func24, Tryd.ntmps24
  go_wp2_with fail
  have HO : ∀ W W' : World, (W.ownsRow w.heap.size 3 1 (.slice (some ⟨w.heap.size, 0, none⟩) 0 0) 0 [] ∧ TupIIB.TsAt W w.heap.size A ps ∧ Tup4.TsAt W w.heap.size B qs ∧ w.heap.size ≤ W.heap.size ∧ Below w.heap.size w W) → Below W.heap.size W W' → (W'.ownsRow w.heap.size 3 1 (.slice (some ⟨w.heap.size, 0, none⟩) 0 0) 0 [] ∧ TupIIB.TsAt W' w.heap.size A ps ∧ Tup4.TsAt W' w.heap.size B qs ∧ w.heap.size ≤ W'.heap.size ∧ Below w.heap.size w W') := fun W W' ⟨x0, x1, x2, x3, hb⟩ h => ⟨own_below x0 h, x1.later (h.mono hb.size), x2.later (h.mono hb.size), Nat.le_trans x3 h.size, hb.trans (h.mono hb.size)⟩
  have b0 := below1 w (Obj.cells #[] 3)
  have S0 : (w.alloc (Obj.cells #[] 3)).ownsRow w.heap.size 3 1 (.slice (some ⟨w.heap.size, 0, none⟩) 0 0) 0 [] ∧ TupIIB.TsAt (w.alloc (Obj.cells #[] 3)) w.heap.size A ps ∧ Tup4.TsAt (w.alloc (Obj.cells #[] 3)) w.heap.size B qs ∧ w.heap.size ≤ (w.alloc (Obj.cells #[] 3)).heap.size ∧ Below w.heap.size w (w.alloc (Obj.cells #[] 3)) := ⟨own_empty w 3 1, hp.later b0, hq.later b0, b0.size, b0⟩
  generalize w.alloc (Obj.cells #[] 3) = w1 at *
  clear b0 hp hq
  refine (QM.out _ (S0.2.1.wide S0.2.2.2.2.size)).mono ?_
  rintro e w2 ⟨rfl, hb_⟩
  replace S0 := HO _ _ S0 hb_
  clear hb_ QM
  cases hmb : missingB ps o
  · have E := Lib.hid (HE0.out hmb)
    clear HE0 HE1
    go_wp2_with fail
    go_ret
    exact ⟨some ⟨w.heap.size, 0, none⟩, 0, by rw [E.out]; rfl, by rw [E.out]; exact S0.1, S0.2.2.2.2⟩
  have HE := Lib.hid (HE1.out hmb)
  clear HE0 HE1 hmb
  go_wp2_with fail
  refine (QL.out _ (S0.2.1.wide S0.2.2.2.2.size)).mono ?_
  rintro e w3 ⟨rfl, hb_⟩
  replace S0 := HO _ _ S0 hb_
  clear hb_ QL
  go_wp2_with fail
  refine (QF.out _ (S0.2.1.wide S0.2.2.2.2.size)).mono ?_
  rintro e w4 ⟨rfl, hb_⟩
  replace S0 := HO _ _ S0 hb_
  clear hb_ QF HO
  unfold stayB at HFk
  go_wp2_with fail
  generalize max (0 : Int) s = sx at *
  go_loopw [9, 12] (fun v i wr => ∃ (k : Nat) (l : List Int), k ≤ m ∧ i = .int .i64 k ∧ l.Pairwise (· < ·) ∧ (∀ x, x ∈ l ↔ x ∈ pickTo g F k) ∧ l.length ≤ k ∧ wr.ownsRow (w.heap.size) 3 1 v l.length (icells l) ∧ w.heap.size ≤ wr.heap.size ∧ (TupIIB.TsAt wr w.heap.size A ps ∧ Tup4.TsAt wr w.heap.size B qs ∧ Below w.heap.size w wr))
    (fun _ i _ => m - (intOf i).toNat)
  case atStart => exact ⟨0, [], Nat.zero_le _, rfl, List.Pairwise.nil, fun x => Iff.rfl, Nat.le_refl _, S0.1, S0.2.2.2.1, S0.2.1, S0.2.2.1, S0.2.2.2.2⟩
  case round =>
    clear S0
    obtain ⟨k, l, hkn, rfl, hw, hmem, hlk, hown, hsz, S0⟩ := hrel
    have HW := Lib.hid hw
    have HM := Lib.hid hmem
    clear hw hmem
    by_cases hlt : k < m
    rotate_left
    · obtain rfl : m = k := by omega
      have E : Hid (l = r) := Lib.hid (by rw [HE.out]; exact who_of HW.out HM.out)
      obtain ⟨A1, c1, rfl⟩ := own_shape hown
      have hown2 := Lib.hid hown
      obtain ⟨q, hm⟩ : ∃ q, l.length = q := ⟨_, rfl⟩
      rw [hm] at hown2 hown
      clear hown HE HW HM HGk HFk
      go_wp2_with fail
      go_ret
      subst hm
      exact ⟨A1, c1, by rw [← E.out]; rfl, by rw [← E.out]; exact hown2.out, S0.2.2⟩
    have hk1 : (k : Int) < (m : Int) := by omega
    have hk0 : (0 : Int) ≤ (k : Int) := by omega
    have HP : Hid (pickTo g F (k + 1) = if F k then pickTo g F k ++ [g k] else pickTo g F k) := Lib.hid rfl
    have p0 := Tup4.tt_at (ps := qs) (k := k) (by omega)
    have hgk := HGk.out k
    have hfk := HFk.out k
    obtain ⟨p, h, f, t, hx⟩ : ∃ p h f t, Tup4.tt qs k = (p, h, f, t) := ⟨_, _, _, _, rfl⟩
    rw [hx] at p0 hgk hfk
    dsimp only at hgk hfk
    rw [hgk] at HP
    have HF := Lib.hid hfk
    obtain ⟨bd, eA, bA, pA⟩ := S0.2.1.get p0
    subst eA
    clear p0 hx hgk hfk HGk HFk HE
    obtain ⟨q, hm⟩ : ∃ q, l.length = q := ⟨_, rfl⟩
    rw [hm] at hown hlk
    have hlk2 : l.length ≤ k + 1 := by omega
    obtain ⟨Ao, co, rfl⟩ := own_shape hown
    obtain ⟨_, _, _, _⟩ := id pA
    have b1_ := below1 wr (Obj.cells #[.int .i64 p, .int .i64 h, .int .i64 f, .int .i64 t] 81)
    have X3 : Holds (wr.alloc (Obj.cells #[.int .i64 p, .int .i64 h, .int .i64 f, .int .i64 t] 81)) wr.heap.size #[.int .i64 p, .int .i64 h, .int .i64 f, .int .i64 t] 81 := Holds.new wr _ _
    have hkb : ∀ g, (Value.slice Ao q co).ownBlock = some g → g ≠ wr.heap.size := fun g hg => by have := (hown.lt g hg).2; omega
    have hkw : w.heap.size ≤ wr.heap.size := hsz
    replace hown := own_below hown b1_
    have S1 : Holds (wr.alloc (Obj.cells #[.int .i64 p, .int .i64 h, .int .i64 f, .int .i64 t] 81)) wr.heap.size #[.int .i64 p, .int .i64 h, .int .i64 f, .int .i64 t] 81 ∧ TupIIB.TsAt (wr.alloc (Obj.cells #[.int .i64 p, .int .i64 h, .int .i64 f, .int .i64 t] 81)) w.heap.size A ps ∧ Tup4.TsAt (wr.alloc (Obj.cells #[.int .i64 p, .int .i64 h, .int .i64 f, .int .i64 t] 81)) w.heap.size (some bd) qs ∧ w.heap.size ≤ (wr.alloc (Obj.cells #[.int .i64 p, .int .i64 h, .int .i64 f, .int .i64 t] 81)).heap.size ∧ Below w.heap.size w (wr.alloc (Obj.cells #[.int .i64 p, .int .i64 h, .int .i64 f, .int .i64 t] 81)) := ⟨X3, S0.1.later (b1_.mono hsz), S0.2.1.later (b1_.mono hsz), Nat.le_trans hsz b1_.size, S0.2.2.trans (b1_.mono hsz)⟩
    clear X3 b1_ pA bA hsz
    have S0 := S1
    clear S1
    have hsz := S0.2.2.2.1
    obtain ⟨⟨_, _, _, _⟩, _, _, _, _⟩ := S0.1.four
    by_cases h1 : h = hall
    rotate_left
    · have h1b : (h != hall) = true := by simp [h1]
      have HM2 : Hid (∀ x, x ∈ l ↔ x ∈ pickTo g F (k + 1)) := Lib.hid (by rw [HP.out, if_neg (by rw [HF.out, decide_eq_false (fun x => h1 x.1)]; simp)]; exact HM.out)
      clear HP HM HF
      go_wp2_with fail
      first
        | exact ⟨⟨k + 1, l, by omega, by go_num, HW.out, HM2.out, hlk2, by rw [hm]; exact hown, hsz, S0.2.1, S0.2.2.1, S0.2.2.2.2⟩, by simp [intOf]; omega⟩
        | (go_roundw <;> first | exact ⟨k + 1, l, by omega, by go_num, HW.out, HM2.out, hlk2, by rw [hm]; exact hown, hsz, S0.2.1, S0.2.2.1, S0.2.2.2.2⟩ | (simp [intOf]; omega))
    subst h1
    by_cases h2 : mi < f
    · have HM2 : Hid (∀ x, x ∈ l ↔ x ∈ pickTo g F (k + 1)) := Lib.hid (by rw [HP.out, if_neg (by rw [HF.out, decide_eq_false (fun x => by omega)]; simp)]; exact HM.out)
      clear HP HM HF
      go_wp2_with fail
      first
        | exact ⟨⟨k + 1, l, by omega, by go_num, HW.out, HM2.out, hlk2, by rw [hm]; exact hown, hsz, S0.2.1, S0.2.2.1, S0.2.2.2.2⟩, by simp [intOf]; omega⟩
        | (go_roundw <;> first | exact ⟨k + 1, l, by omega, by go_num, HW.out, HM2.out, hlk2, by rw [hm]; exact hown, hsz, S0.2.1, S0.2.2.1, S0.2.2.2.2⟩ | (simp [intOf]; omega))
    by_cases h3 : t < sx
    · have HM2 : Hid (∀ x, x ∈ l ↔ x ∈ pickTo g F (k + 1)) := Lib.hid (by rw [HP.out, if_neg (by rw [HF.out, decide_eq_false (fun x => by omega)]; simp)]; exact HM.out)
      clear HP HM HF
      go_wp2_with fail
      first
        | exact ⟨⟨k + 1, l, by omega, by go_num, HW.out, HM2.out, hlk2, by rw [hm]; exact hown, hsz, S0.2.1, S0.2.2.1, S0.2.2.2.2⟩, by simp [intOf]; omega⟩
        | (go_roundw <;> first | exact ⟨k + 1, l, by omega, by go_num, HW.out, HM2.out, hlk2, by rw [hm]; exact hown, hsz, S0.2.1, S0.2.2.1, S0.2.2.2.2⟩ | (simp [intOf]; omega))
    replace HP : Hid (pickTo g F (k + 1) = pickTo g F k ++ [p]) := Lib.hid (by rw [HP.out, if_pos (by rw [HF.out]; exact decide_eq_true ⟨rfl, by omega, by omega⟩)])
    have QH : Hid (∀ w hq, _) := Lib.hid fun w hq => hasI Ao q co p w l hm (by omega) hq
    obtain ⟨c, hc⟩ : ∃ c, l.contains p = c := ⟨_, rfl⟩
    rw [hc] at QH
    go_wp2_with fail
    generalize wr.alloc (Obj.cells #[.int .i64 p, .int .i64 h, .int .i64 f, .int .i64 t] 81) = w5 at *
    generalize wr.heap.size = kb at *
    refine (QH.out _ (ints_own hown)).mono ?_
    rintro e w6 ⟨rfl, hb_⟩
    replace hown := own_below hown hb_
    replace S0 : Holds w6 kb #[.int .i64 p, .int .i64 h, .int .i64 f, .int .i64 t] 81 ∧ TupIIB.TsAt w6 w.heap.size A ps ∧ Tup4.TsAt w6 w.heap.size (some bd) qs ∧ w.heap.size ≤ w6.heap.size ∧ Below w.heap.size w w6 := ⟨S0.1.later hb_, S0.2.1.later (hb_.mono hsz), S0.2.2.1.later (hb_.mono hsz), Nat.le_trans hsz hb_.size, S0.2.2.2.2.trans (hb_.mono hsz)⟩
    clear hb_ QH
    replace hsz := S0.2.2.2.1
    cases c
    rotate_left
    · have HM2 : Hid (∀ x, x ∈ l ↔ x ∈ pickTo g F (k + 1)) := Lib.hid (fun x => by
        rw [HP.out, List.mem_append, List.mem_singleton, ← HM.out x]
        constructor
        · exact .inl
        · rintro (h | rfl)
          · exact h
          · exact List.contains_iff_mem.1 hc)
      clear HP HM HF hc
      go_wp2_with fail
      first
        | exact ⟨⟨k + 1, l, by omega, by go_num, HW.out, HM2.out, hlk2, by rw [hm]; exact hown, hsz, S0.2.1, S0.2.2.1, S0.2.2.2.2⟩, by simp [intOf]; omega⟩
        | (go_roundw <;> first | exact ⟨k + 1, l, by omega, by go_num, HW.out, HM2.out, hlk2, by rw [hm]; exact hown, hsz, S0.2.1, S0.2.2.1, S0.2.2.2.2⟩ | (simp [intOf]; omega))
    have hnp : Hid (p ∉ l) := Lib.hid (fun h => by rw [List.contains_iff_mem.2 h] at hc; cases hc)
    clear hc HF
    obtain ⟨⟨_, _, _, _⟩, _, _, _, _⟩ := S0.1.four
    go_wp2_with (at_builtin; refine wpList_append_own _ rfl _ _ 30 rfl (w.heap.size) 3 i0 (.int .i64 0) 1 8 Tryd.underlying30 hi hz0 hz1 hz2 rfl (by decide) _ _ _ rfl (hown.alloc _) ⟨w6.heap.size, 0, none⟩ 1 1 [.int .i64 p] rfl rfl ?c1 ?c2 ?c3 ?c4 ?c5 ?_)
    case c1 => (intro j u hj; match j, hj with | 0, hj => (simp at hj; subst hj; simp [Addr.add]))
    case c2 => (intro u hu; simp at hu; subst hu; rfl)
    case c3 => (unfold maxLen; omega)
    case c4 => omega
    case c5 => (simp; omega)
    intro v1_ wa_ ho_ hg_ _
    obtain ⟨A2, c2, rfl⟩ := own_shape ho_
    have hb0 : Below (w.heap.size) w6 (w6.alloc (Obj.cells #[.int .i64 p] 3)) := (below1 _ _).mono hsz
    have hb1 := hb0.grown hg_ (by simp; omega) (fun g hg => (hown.lt g hg).1)
    have SI : Holds wa_ kb #[.int .i64 p, .int .i64 h, .int .i64 f, .int .i64 t] 81 ∧ TupIIB.TsAt wa_ w.heap.size A ps ∧ Tup4.TsAt wa_ w.heap.size (some bd) qs ∧ w.heap.size ≤ wa_.heap.size ∧ Below w.heap.size w wa_ := ⟨holds_grown (S0.1.alloc _) hg_ hkb, S0.2.1.later hb1, S0.2.2.1.later hb1, Nat.le_trans hsz hb1.size, S0.2.2.2.2.trans hb1⟩
    have hrow : wa_.ownsRow (w.heap.size) 3 1 (.slice A2 (q + 1) c2) (q + 1) (icells (l.take q ++ p :: l.drop q)) := by
      have e1 : icells (l.take q ++ p :: l.drop q) = icells l ++ [.int .i64 p] := by
        rw [← hm, List.take_length, List.drop_length, icells_snoc]
      rw [e1]
      exact ho_
    have hne2 := own_ne hrow SI.1 (by decide)
    clear ho_ hg_ hb0 hb1 hown S0 hsz hkb hkw
    obtain ⟨g2, hA2, hg2a, _, _, _⟩ := own_cell hrow (j := 0) (by omega) (x := (icells (l.take q ++ p :: l.drop q)).getD 0 undef) (by
      have hlen := hrow.1
      rw [List.getD_eq_getElem?_getD, List.getElem?_eq_getElem (by omega)]; rfl)
    subst hA2
    have hne3 : kb ≠ g2 := fun e => hne2 g2 rfl e.symm
    clear hne2
    obtain ⟨⟨_, _, _, _⟩, _, _, _, _⟩ := SI.1.four
    go_wp2_with fail
    go_loopw [14] (fun jv wr => ∃ (j : Nat) (y : Int), j ≤ q ∧ jv = .int .i64 j ∧ Hid (∀ x ∈ l.drop j, p < x) ∧ wr.ownsRow (w.heap.size) 3 1 (.slice (some ⟨g2, 0, none⟩) (q + 1) c2) (q + 1) (icells (l.take j ++ y :: l.drop j)) ∧ (Holds wr kb #[.int .i64 p, .int .i64 h, .int .i64 f, .int .i64 t] 81 ∧ TupIIB.TsAt wr w.heap.size A ps ∧ Tup4.TsAt wr w.heap.size (some bd) qs ∧ w.heap.size ≤ wr.heap.size ∧ Below w.heap.size w wr))
      (fun jv _ => (intOf jv).toNat)
    case atStart => exact ⟨q, p, Nat.le_refl _, rfl, Lib.hid (by rw [← hm, List.drop_length]; intro x hx; cases hx), hrow, SI⟩
    case round =>
      clear hrow SI
      obtain ⟨j, y, hjq, rfl, hgt, hrow, SI⟩ := hrel
      obtain ⟨⟨_, _, _, _⟩, _, _, _, _⟩ := SI.1.four
      have hdr : Below wr.heap.size wr wr.drew := (Below.refl _ _).drew
      have hrow1 := own_below hrow hdr
      have SI1 : Holds wr.drew kb #[.int .i64 p, .int .i64 h, .int .i64 f, .int .i64 t] 81 ∧ TupIIB.TsAt wr.drew w.heap.size A ps ∧ Tup4.TsAt wr.drew w.heap.size (some bd) qs ∧ w.heap.size ≤ wr.drew.heap.size ∧ Below w.heap.size w wr.drew := ⟨SI.1.later hdr, SI.2.1.later (hdr.mono SI.2.2.2.1), SI.2.2.1.later (hdr.mono SI.2.2.2.1), Nat.le_trans SI.2.2.2.1 hdr.size, SI.2.2.2.2.trans (hdr.mono SI.2.2.2.1)⟩
      clear hdr
      by_cases hj0 : j = 0
      · subst hj0
        have hc0 := row_cell hrow (j := 0) (by omega) (put_at y (by omega))
        have hst := row_set hrow1 0 p
        rw [put_last y p (by omega)] at hst
        obtain ⟨W2, hW2⟩ : ∃ W2, wr.drew.setCell ⟨g2, 0, none⟩ (.int .i64 p) = W2 := ⟨_, rfl⟩
        rw [hW2] at hst
        have hb2 : Below (w.heap.size) wr.drew W2 := (Below.refl _ _).grown hst.2 SI1.2.2.2.1 (fun k hk => by injection hk with hk; omega)
        have HN : Hid (∃ l', l'.Pairwise (· < ·) ∧ (∀ x, x ∈ l' ↔ x ∈ pickTo g F (k + 1)) ∧ l'.length ≤ k + 1 ∧ W2.ownsRow (w.heap.size) 3 1 (.slice (some ⟨g2, 0, none⟩) (q + 1) c2) l'.length (icells l') ∧ w.heap.size ≤ W2.heap.size ∧ (TupIIB.TsAt W2 w.heap.size A ps ∧ Tup4.TsAt W2 w.heap.size (some bd) qs ∧ Below w.heap.size w W2)) := Lib.hid ⟨l.take 0 ++ p :: l.drop 0, put_pw HW.out hgt.out (by intro x hx; simp at hx),
          fun x => by rw [put_mem, HP.out, List.mem_append, List.mem_singleton, HM.out x],
          by rw [List.length_append, List.length_cons, List.length_take, List.length_drop]; omega,
          by rw [show (l.take 0 ++ p :: l.drop 0).length = q + 1 by rw [List.length_append, List.length_cons, List.length_take, List.length_drop]; omega]; exact hst.1,
          Nat.le_trans SI1.2.2.2.1 hb2.size, SI1.2.1.later hb2, SI1.2.2.1.later hb2, SI1.2.2.2.2.trans hb2⟩
        clear hst hb2 HP HM hgt HW hnp hrow1 SI1
        obtain ⟨hc1, hc2⟩ := hc0
        go_wp2_with fail
        go_region
        go_wp2_with fail
        obtain ⟨l', a1, a2, a3, a4, a5, a6, a7, a8⟩ := HN.out
        first
          | exact ⟨⟨k + 1, l', by omega, by go_num, a1, a2, a3, a4, a5, a6, a7, a8⟩, by simp [intOf]; omega⟩
          | (go_roundw <;> first | exact ⟨k + 1, l', by omega, by go_num, a1, a2, a3, a4, a5, a6, a7, a8⟩ | (simp [intOf]; omega))
      obtain ⟨i, rfl⟩ : ∃ i, j = i + 1 := ⟨j - 1, by omega⟩
      clear hj0
      have hil : i < l.length := by omega
      have hci := row_cell hrow (j := i) (by omega) (shift_at y hil)
      have hni : l[i] ≠ p := fun e => hnp.out (by rw [← e]; exact List.getElem_mem hil)
      have hii : ((i + 1 : Nat) : Int) - 1 = (i : Int) := by omega
      by_cases hx : p < l[i]
      rotate_left
      · have hlow : ∀ x ∈ l.take (i + 1), x < p := before_lt HW.out hil (by omega)
        obtain ⟨z, hz⟩ : ∃ z, l[i] = z := ⟨_, rfl⟩
        rw [hz] at hci hx
        obtain ⟨hd1, hd2⟩ := hci
        have hc0 := row_cell hrow (j := (i + 1)) (by omega) (put_at y (by omega))
        have hst := row_set hrow1 (i + 1) p
        rw [put_last y p (by omega)] at hst
        obtain ⟨W2, hW2⟩ : ∃ W2, wr.drew.setCell ⟨g2, (i + 1), none⟩ (.int .i64 p) = W2 := ⟨_, rfl⟩
        rw [hW2] at hst
        have hb2 : Below (w.heap.size) wr.drew W2 := (Below.refl _ _).grown hst.2 SI1.2.2.2.1 (fun k hk => by injection hk with hk; omega)
        have HN : Hid (∃ l', l'.Pairwise (· < ·) ∧ (∀ x, x ∈ l' ↔ x ∈ pickTo g F (k + 1)) ∧ l'.length ≤ k + 1 ∧ W2.ownsRow (w.heap.size) 3 1 (.slice (some ⟨g2, 0, none⟩) (q + 1) c2) l'.length (icells l') ∧ w.heap.size ≤ W2.heap.size ∧ (TupIIB.TsAt W2 w.heap.size A ps ∧ Tup4.TsAt W2 w.heap.size (some bd) qs ∧ Below w.heap.size w W2)) := Lib.hid ⟨l.take (i + 1) ++ p :: l.drop (i + 1), put_pw HW.out hgt.out hlow,
          fun x => by rw [put_mem, HP.out, List.mem_append, List.mem_singleton, HM.out x],
          by rw [List.length_append, List.length_cons, List.length_take, List.length_drop]; omega,
          by rw [show (l.take (i + 1) ++ p :: l.drop (i + 1)).length = q + 1 by rw [List.length_append, List.length_cons, List.length_take, List.length_drop]; omega]; exact hst.1,
          Nat.le_trans SI1.2.2.2.1 hb2.size, SI1.2.1.later hb2, SI1.2.2.1.later hb2, SI1.2.2.2.2.trans hb2⟩
        clear hst hb2 HP HM hgt HW hnp hrow1 SI1
        obtain ⟨hc1, hc2⟩ := hc0
        go_wp2_with fail
        go_region
        go_wp2_with fail
        obtain ⟨l', a1, a2, a3, a4, a5, a6, a7, a8⟩ := HN.out
        first
          | exact ⟨⟨k + 1, l', by omega, by go_num, a1, a2, a3, a4, a5, a6, a7, a8⟩, by simp [intOf]; omega⟩
          | (go_roundw <;> first | exact ⟨k + 1, l', by omega, by go_num, a1, a2, a3, a4, a5, a6, a7, a8⟩ | (simp [intOf]; omega))
      have hcj := row_cell hrow (j := i + 1) (by omega) (put_at y (by omega))
      have hst := row_set hrow1 (i + 1) l[i]
      rw [shift_step y hil] at hst
      obtain ⟨W2, hW2⟩ : ∃ W2, wr.drew.setCell ⟨g2, i + 1, none⟩ (.int .i64 l[i]) = W2 := ⟨_, rfl⟩
      rw [hW2] at hst
      have hb2 : Below (w.heap.size) wr.drew W2 := (Below.refl _ _).grown hst.2 SI1.2.2.2.1 (fun k hk => by injection hk with hk; omega)
      have HN : Hid (Hid (∀ x ∈ l.drop i, p < x) ∧ W2.ownsRow (w.heap.size) 3 1 (.slice (some ⟨g2, 0, none⟩) (q + 1) c2) (q + 1) (icells (l.take i ++ l[i] :: l.drop i)) ∧ (Holds W2 kb #[.int .i64 p, .int .i64 h, .int .i64 f, .int .i64 t] 81 ∧ TupIIB.TsAt W2 w.heap.size A ps ∧ Tup4.TsAt W2 w.heap.size (some bd) qs ∧ w.heap.size ≤ W2.heap.size ∧ Below w.heap.size w W2)) := Lib.hid ⟨Lib.hid (by
          rw [List.drop_eq_getElem_cons hil]
          intro x hx2
          rw [List.mem_cons] at hx2
          rcases hx2 with rfl | hx2
          · exact hx
          · exact hgt.out x hx2), hst.1, holds_grown SI1.1 hst.2 (fun g hg => by injection hg with hg; omega), SI1.2.1.later hb2, SI1.2.2.1.later hb2, Nat.le_trans SI1.2.2.2.1 hb2.size, SI1.2.2.2.2.trans hb2⟩
      clear hst hb2 hgt hrow SI hrow1 SI1
      obtain ⟨z, hz⟩ : ∃ z, l[i] = z := ⟨_, rfl⟩
      rw [hz] at hci hx hW2 HN
      obtain ⟨hd1, hd2⟩ := hci
      obtain ⟨hc1, hc2⟩ := hcj
      go_wp2_with fail
      go_region
      go_wp2_with fail
      first
        | exact ⟨⟨i, z, by omega, by go_num, HN.out⟩, by simp [intOf]⟩
        | (go_roundw <;> first | exact ⟨i, z, by omega, by go_num, HN.out⟩ | (simp [intOf]; omega))
end Go.Proofs.YtdcekbhfbkiflaaDoor.SuspSpec
