/-
  What Suspects does as it landed, as a contract: what it answers; new memory alone is written.
-/
import Derived.Test.YtdcekbhfbkiflaaDoorSuspMath
import Derived.Test.YtdcekbhfbkiflaaDoorSuspSort
import Derived.Test.YtdcekbhfbkiflaaDoorGoneImpl
import Derived.Lib.MinMax
import Derived.OwnWalk
namespace Go.Proofs.YtdcekbhfbkiflaaDoor.SuspImpl
open Go.RowKit Own StockMath GoneMath SuspMath SuspSort Blk
open PointOk (ret_bool ret_i64 below1 below2 below3)

theorem infoI : (Tryd.prog.info? 3).map (fun i => (i.zero, i.size, i.bytes)) = some (some (.int .i64 0), 1, 8) := by kernel_rfl
/-- An own row of another type is another block. -/
theorem own_ne {W : World} {b e sz n kb : Nat} {v : Value} {xs : List Value} {cs : Array Value} {T : TypeId} (h : W.ownsRow b e sz v n xs) (hH : Holds W kb cs T) (hT : e ≠ T) : ∀ g, v.ownBlock = some g → g ≠ kb := by
  intro g hg hk
  subst hk
  rcases h.2 with ⟨rfl, _⟩ | ⟨g', cap', cur, rfl, _, hb, _⟩
  · cases hg
  · have e1 : g' = g := Option.some.inj hg
    subst e1
    have h2 := hb.symm.trans hH
    injection h2 with h2
    injection h2 with _ h3
    exact hT h3
theorem holds_grown {W W' : World} {k : Nat} {cs : Array Value} {T : TypeId} {row : Option Nat} (h : Holds W k cs T) (hg : W.grownBy W' row) (hne : ∀ g, row = some g → g ≠ k) : Holds W' k cs T :=
  (hg.block k h.lt (fun e => hne k e.symm rfl)).trans h

set_option maxRecDepth 100000 in
set_option maxHeartbeats 6400000 in
theorem suspects (B : Option Addr) (m cb : Nat) (hall : Int) (A : Option Addr) (n cap : Nat) (o : Int) (w : World) (qs : List Tup4.Tu) (hlq : qs.length = m) (hnq : m ≤ 1048576) (hq : Tup4.TsAt w w.heap.size B qs) (ps : List TupIIB.Tu) (hl : ps.length = n) (hn : n ≤ 1048576) (hp : TupIIB.TsAt w w.heap.size A ps) (hg : GoneImpl.Laid w) :
    Calls Tryd.prog 26 #[.slice B m cb, .int .i64 hall, .slice A n cap, .int .i64 o] w (GivesI 3 w (suspL qs hall ps o)) := by
  obtain ⟨r, hr⟩ : ∃ r, suspL qs hall ps o = r := ⟨_, rfl⟩
  have HR := Lib.hid hr
  rw [hr]
  clear hr
  have QM := Lib.hid (GoneImpl.missingIn A n cap o w ps hl hn hp hg)
  obtain ⟨i0, hi, hz0, hz1, hz2⟩ := info_parts infoI
  have HE0 : Hid (missingB ps o = false → r = []) := Lib.hid (fun h => by rw [← HR.out]; unfold suspL; rw [h]; rfl)
  obtain ⟨g, hg_⟩ : ∃ g : Nat → Int, (fun k => (Tup4.tt qs k).1) = g := ⟨_, rfl⟩
  have HGk : Hid (∀ k, g k = (Tup4.tt qs k).1) := Lib.hid (fun k => by rw [← hg_])
  obtain ⟨F, hF⟩ : ∃ F : Nat → Bool, stayF qs hall (seenI ps o) (missI ps o) = F := ⟨_, rfl⟩
  have HFk : Hid (∀ k, F k = stayB hall (seenI ps o) (missI ps o) (Tup4.tt qs k).2.1 (Tup4.tt qs k).2.2.1 (Tup4.tt qs k).2.2.2) := Lib.hid (fun k => by rw [← hF]; rfl)
  have HE1 : Hid (missingB ps o = true → r = whoL (pickTo g F m)) := Lib.hid (fun h => by rw [← HR.out, ← hg_, ← hF, ← hlq]; unfold suspL; rw [h]; rfl)
  clear HR hg_ hF hp hg hl
  generalize missI ps o = mi at *
  generalize seenI ps o = s at *
  obtain ⟨bm, hbm⟩ : ∃ bm, missingB ps o = bm := ⟨_, rfl⟩
  rw [hbm] at QM HE0 HE1
  clear hbm
  go_enter Tryd.func26, Tryd.ntmps26
  go_wp2_with fail
  refine QM.out.mono ?_
  rintro e w1 ⟨x, y, rfl, hxy, hb_⟩
  clear QM
  cases bm
  · have E := Lib.hid (HE0.out rfl)
    clear HE0 HE1 hxy
    go_wp2_with fail
    go_ret
    exact ⟨none, 0, by rw [E.out]; rfl, by rw [E.out]; exact World.ownsRow_nil _ _ _ _, hb_.alloc hb_.size _⟩
  have HE := Lib.hid (HE1.out rfl)
  obtain ⟨rfl, rfl⟩ := hxy rfl
  clear HE0 HE1
  unfold stayB at HFk
  have b1 := below1 w1 (Obj.cells #[.int .i64 x, .int .i64 y] 74)
  have S0 : Holds (w1.alloc (Obj.cells #[.int .i64 x, .int .i64 y] 74)) w1.heap.size #[.int .i64 x, .int .i64 y] 74 ∧ Tup4.TsAt (w1.alloc (Obj.cells #[.int .i64 x, .int .i64 y] 74)) w.heap.size B qs ∧ w.heap.size ≤ (w1.alloc (Obj.cells #[.int .i64 x, .int .i64 y] 74)).heap.size ∧ Below w.heap.size w (w1.alloc (Obj.cells #[.int .i64 x, .int .i64 y] 74)) := ⟨Holds.new w1 _ _, (hq.later hb_).later (b1.mono hb_.size), Nat.le_trans hb_.size b1.size, hb_.trans (b1.mono hb_.size)⟩
  clear b1 hb_ hq
  go_wp2_with fail
  generalize w1.alloc (Obj.cells #[.int .i64 x, .int .i64 y] 74) = w2 at *
  generalize w1.heap.size = kb at *
  go_loopw [11, 24] (fun v i wr => ∃ k : Nat, k ≤ m ∧ i = .int .i64 k ∧ wr.ownsRow (w.heap.size) 3 1 v (pickTo g F k).length (icells (pickTo g F k)) ∧ w.heap.size ≤ wr.heap.size ∧ (Holds wr kb #[.int .i64 x, .int .i64 y] 74 ∧ Tup4.TsAt wr w.heap.size B qs ∧ Below w.heap.size w wr))
    (fun _ i _ => m - (intOf i).toNat)
  case atStart => exact ⟨0, Nat.zero_le _, rfl, World.ownsRow_nil _ _ _ _, S0.2.2.1, S0.1, S0.2.1, S0.2.2.2⟩
  case round =>
    clear S0
    obtain ⟨k, hkn, rfl, hown, hsz, S0⟩ := hrel
    have hlen := pickTo_len g F k
    by_cases hlt : k < m
    rotate_left
    · obtain rfl : m = k := by omega
      have E := Lib.hid HE.out
      have hown2 := Lib.hid hown
      generalize pickTo g F m = l at *
      obtain ⟨q, hm⟩ : ∃ q, l.length = q := ⟨_, rfl⟩
      rw [hm] at hown hown2 hlen
      obtain ⟨A1, c1, rfl⟩ := own_shape hown
      clear hown HE HGk HFk hlq
      go_wp2_with fail
      refine (sort_own hown2.out (by omega)).mono ?_
      rintro e w3 ⟨rfl, ho3, hg3⟩
      have h3 := Lib.hid ho3
      clear ho3
      go_wp2_with fail
      refine (compact_own h3.out (by omega)).mono ?_
      rintro e w4 ⟨rfl, ho4, hg4⟩
      have h4 := Lib.hid ho4
      have hb3 : Below w.heap.size wr w3 := (Below.refl _ _).grown hg3 hsz (fun k hk => (hown2.out.lt k hk).1)
      have hb4 : Below w.heap.size w3 w4 := (Below.refl _ _).grown hg4 (Nat.le_trans hsz hb3.size) (fun k hk => (hown2.out.lt k hk).1)
      clear ho4 hg3 hg4
      have E2 : Hid (Lib.compact (sorted l) = r) := Lib.hid (by rw [E.out]; rfl)
      clear E
      rw [E2.out] at h4 ⊢
      obtain ⟨q2, hq2⟩ : ∃ q2, r.length = q2 := ⟨_, rfl⟩
      rw [hq2] at h4 ⊢
      go_wp2_with fail
      go_ret
      subst hq2
      exact ⟨A1, c1, rfl, h4.out, (S0.2.2.trans hb3).trans hb4⟩
    have hk1 : (k : Int) < (m : Int) := by omega
    have hk0 : (0 : Int) ≤ (k : Int) := by omega
    have HP : Hid (pickTo g F (k + 1) = if F k then pickTo g F k ++ [g k] else pickTo g F k) := Lib.hid rfl
    have p0 := Tup4.tt_at (ps := qs) (k := k) (by omega)
    have hgk := HGk.out k
    have hfk := HFk.out k
    obtain ⟨p, h, f, t, hx⟩ : ∃ p h f t, Tup4.tt qs k = (p, h, f, t) := ⟨_, _, _, _, rfl⟩
    rw [hx] at p0 hgk hfk
    dsimp only at hgk hfk
    rw [hgk] at HP
    have HF := Lib.hid hfk
    obtain ⟨bd, eA, bA, pA⟩ := S0.2.1.get p0
    subst eA
    clear p0 hx hgk hfk HGk HFk HE
    obtain ⟨q, hm⟩ : ∃ q, (pickTo g F k).length = q := ⟨_, rfl⟩
    rw [hm] at hown hlen
    obtain ⟨Ao, co, rfl⟩ := own_shape hown
    obtain ⟨_, _, _, _⟩ := id pA
    have b1_ := below1 wr (Obj.cells #[.int .i64 p, .int .i64 h, .int .i64 f, .int .i64 t] 81)
    have X3 : Holds (wr.alloc (Obj.cells #[.int .i64 p, .int .i64 h, .int .i64 f, .int .i64 t] 81)) wr.heap.size #[.int .i64 p, .int .i64 h, .int .i64 f, .int .i64 t] 81 := Holds.new wr _ _
    replace hown := own_below hown b1_
    have S1 : Holds (wr.alloc (Obj.cells #[.int .i64 p, .int .i64 h, .int .i64 f, .int .i64 t] 81)) kb #[.int .i64 x, .int .i64 y] 74 ∧ Tup4.TsAt (wr.alloc (Obj.cells #[.int .i64 p, .int .i64 h, .int .i64 f, .int .i64 t] 81)) w.heap.size (some bd) qs ∧ w.heap.size ≤ (wr.alloc (Obj.cells #[.int .i64 p, .int .i64 h, .int .i64 f, .int .i64 t] 81)).heap.size ∧ Below w.heap.size w (wr.alloc (Obj.cells #[.int .i64 p, .int .i64 h, .int .i64 f, .int .i64 t] 81)) := ⟨S0.1.alloc _, S0.2.1.later (b1_.mono hsz), Nat.le_trans hsz b1_.size, S0.2.2.trans (b1_.mono hsz)⟩
    clear b1_ pA bA hsz S0
    obtain ⟨⟨_, _, _, _⟩, _, _, _, _⟩ := X3.four
    obtain ⟨⟨_, _⟩, _, _⟩ := S1.1.two
    have hmx : max x 0 = max 0 x := Int.max_comm _ _
    generalize max (0 : Int) x = sx at *
    by_cases h1 : h = hall
    rotate_left
    · have h1b : (h == hall) = false := by simpa using h1
      have HP2 : Hid (pickTo g F (k + 1) = pickTo g F k) := Lib.hid (by rw [HP.out, if_neg (by rw [HF.out, decide_eq_false (fun x => h1 x.1)]; simp)])
      generalize pickTo g F k = l at *
      have hown := Lib.hid hown
      clear HP HF
      go_wp2_with fail
      first
        | exact ⟨⟨k + 1, by omega, by go_num, by rw [HP2.out, hm]; exact hown.out, S1.2.2.1, S1.1, S1.2.1, S1.2.2.2⟩, by simp [intOf]; omega⟩
        | (go_roundw <;> first | exact ⟨k + 1, by omega, by go_num, by rw [HP2.out, hm]; exact hown.out, S1.2.2.1, S1.1, S1.2.1, S1.2.2.2⟩ | (simp [intOf]; omega))
    have h1b : (h == hall) = true := by simpa using h1
    subst h1
    by_cases h2 : f ≤ y
    rotate_left
    · have HP2 : Hid (pickTo g F (k + 1) = pickTo g F k) := Lib.hid (by rw [HP.out, if_neg (by rw [HF.out, decide_eq_false (fun x => h2 x.2.1)]; simp)])
      generalize pickTo g F k = l at *
      have hown := Lib.hid hown
      clear HP HF
      go_wp2_with fail
      first
        | exact ⟨⟨k + 1, by omega, by go_num, by rw [HP2.out, hm]; exact hown.out, S1.2.2.1, S1.1, S1.2.1, S1.2.2.2⟩, by simp [intOf]; omega⟩
        | (go_roundw <;> first | exact ⟨k + 1, by omega, by go_num, by rw [HP2.out, hm]; exact hown.out, S1.2.2.1, S1.1, S1.2.1, S1.2.2.2⟩ | (simp [intOf]; omega))
    by_cases h3 : sx ≤ t
    rotate_left
    · have HP2 : Hid (pickTo g F (k + 1) = pickTo g F k) := Lib.hid (by rw [HP.out, if_neg (by rw [HF.out, decide_eq_false (fun x => h3 x.2.2)]; simp)])
      generalize pickTo g F k = l at *
      have hown := Lib.hid hown
      clear HP HF
      go_wp2_with fail
      first
        | exact ⟨⟨k + 1, by omega, by go_num, by rw [HP2.out, hm]; exact hown.out, S1.2.2.1, S1.1, S1.2.1, S1.2.2.2⟩, by simp [intOf]; omega⟩
        | (go_roundw <;> first | exact ⟨k + 1, by omega, by go_num, by rw [HP2.out, hm]; exact hown.out, S1.2.2.1, S1.1, S1.2.1, S1.2.2.2⟩ | (simp [intOf]; omega))
    have HP2 : Hid (pickTo g F (k + 1) = pickTo g F k ++ [p]) := Lib.hid (by rw [HP.out, if_pos (by rw [HF.out]; exact decide_eq_true ⟨rfl, h2, h3⟩)])
    generalize pickTo g F k = l at *
    clear HP HF
    go_wp2_with (at_builtin; refine wpList_append_own _ rfl _ _ 30 rfl (w.heap.size) 3 i0 (.int .i64 0) 1 8 Tryd.underlying30 hi hz0 hz1 hz2 rfl (by decide) _ _ _ rfl (hown.alloc _) ⟨wr.heap.size + 1, 0, none⟩ 1 1 [.int .i64 p] rfl rfl ?c1 ?c2 ?c3 ?c4 ?c5 ?_)
    case c1 => (intro j u hj; match j, hj with | 0, hj => (simp at hj; subst hj; simp [Addr.add]))
    case c2 => (intro u hu; simp at hu; subst hu; rfl)
    case c3 => (unfold maxLen; omega)
    case c4 => omega
    case c5 => (have := S1.2.2.1; simp at this ⊢; omega)
    intro v1_ wa_ ho_ hg_ _
    have HN : Hid (wa_.ownsRow (w.heap.size) 3 1 v1_ (pickTo g F (k + 1)).length (icells (pickTo g F (k + 1))) ∧ w.heap.size ≤ wa_.heap.size ∧ (Holds wa_ kb #[.int .i64 x, .int .i64 y] 74 ∧ Tup4.TsAt wa_ w.heap.size (some bd) qs ∧ Below w.heap.size w wa_)) := Lib.hid (by
      have hb0 : Below (w.heap.size) (wr.alloc (Obj.cells #[.int .i64 p, .int .i64 h, .int .i64 f, .int .i64 t] 81)) ((wr.alloc (Obj.cells #[.int .i64 p, .int .i64 h, .int .i64 f, .int .i64 t] 81)).alloc (Obj.cells #[.int .i64 p] 3)) := (below1 _ _).mono S1.2.2.1
      have hb1 := hb0.grown hg_ (Nat.le_trans S1.2.2.1 (below1 _ _).size) (fun g hg => (hown.lt g hg).1)
      rw [HP2.out, icells_snoc, List.length_append, hm]
      exact ⟨ho_, Nat.le_trans S1.2.2.1 hb1.size, holds_grown (S1.1.alloc _) hg_ (own_ne hown S1.1 (by decide)), S1.2.1.later hb1, S1.2.2.2.trans hb1⟩)
    clear ho_ hg_ hown HP2 S1 X3
    go_wp2_with fail
    first
      | exact ⟨⟨k + 1, by omega, by go_num, HN.out.1, HN.out.2.1, HN.out.2.2⟩, by simp [intOf]; omega⟩
      | (go_roundw <;> first | exact ⟨k + 1, by omega, by go_num, HN.out.1, HN.out.2.1, HN.out.2.2⟩ | (simp [intOf]; omega))
end Go.Proofs.YtdcekbhfbkiflaaDoor.SuspImpl
