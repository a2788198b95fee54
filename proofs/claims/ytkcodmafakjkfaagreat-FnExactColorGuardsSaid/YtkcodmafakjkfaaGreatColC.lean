/-
  What the model answers on the colors of a room, as contracts.
-/
import Derived.Test.YtkcodmafakjkfaaGreatTreeModel
import Derived.Test.YtkcodmafakjkfaaGreatColA
import Derived.Test.YtkcodmafakjkfaaGreatAppOne
import Derived.Test.YtkcodmafakjkfaaGreatAreColMath
import Derived.Maps.AppendAt

/-
  What the model's ColorsOf does, as a contract: the colors, in a new slice.
-/
namespace Go.Proofs.YtkcodmafakjkfaaGreat.ColSpec
open Go.RowKit Own PointMath WallMath RoomMath Pts Blk AreaMath PlaceMath FloorMath LineMath CutsMath SightMath DiagMath TriMath TrisMath ColMath ColRun Ints Tup3 TriRow TrisModel TreeSpec
open PointOk (ret_bool ret_i64 below1 below2 below3)

/-- The corner without a color, and what is left of three, as the model comes by them. -/
def atL (nx ny nz : Bool) (x y z : Int) : Nat → Int
  | 0 => -1
  | 1 => if nx then x else -1
  | 2 => if ny then y else (if nx then x else -1)
  | _ => if nz then z else (if ny then y else (if nx then x else -1))
def smL (nx ny nz : Bool) (cx cy cz : Int) : Nat → Int
  | 0 => 3
  | 1 => if nx then 3 else 3 - cx
  | 2 => if ny then (if nx then 3 else 3 - cx) else (if nx then 3 else 3 - cx) - cy
  | _ => if nz then (if ny then (if nx then 3 else 3 - cx) else (if nx then 3 else 3 - cx) - cy) else (if ny then (if nx then 3 else 3 - cx) else (if nx then 3 else 3 - cx) - cy) - cz
theorem colAt_eq (c : List Int) (x y z : Nat) : colAt c ((x : Int), (y : Int), (z : Int)) =
    (atL (decide (cg c x < 0)) (decide (cg c y < 0)) (decide (cg c z < 0)) x y z 3, smL (decide (cg c x < 0)) (decide (cg c y < 0)) (decide (cg c z < 0)) (cg c x) (cg c y) (cg c z) 3) := by
  unfold colAt colX atL smL
  simp only [Int.toNat_natCast]
  by_cases h1 : cg c x < 0 <;> by_cases h2 : cg c y < 0 <;> by_cases h3 : cg c z < 0 <;> simp [h1, h2, h3]
theorem miss_set {n : Nat} {c : List Int} {x y z : Nat} (hm : Miss n c ((x : Int), (y : Int), (z : Int))) : ∃ b : Nat, (colAt c ((x : Int), (y : Int), (z : Int))).1 = (b : Int) ∧ b < n ∧ 0 ≤ (colAt c ((x : Int), (y : Int), (z : Int))).2 ∧ (colAt c ((x : Int), (y : Int), (z : Int))).2 ≤ 3 := by
  obtain ⟨x', y', z', e, hxy, hyz, hz, h⟩ := hm
  obtain ⟨rfl, rfl, rfl⟩ : x' = x ∧ y' = y ∧ z' = z := by
    injection e with e1 e2; injection e2 with e2 e3
    exact ⟨by omega, by omega, by omega⟩
  unfold Has at h
  rcases h with ⟨h1, h2, h3, h4⟩ | ⟨h1, h2, h3, h4⟩ | ⟨h1, h2, h3, h4⟩
  · have hat := miss_at (t := ((x' : Int), (y' : Int), (z' : Int))) h1 (i := z') (j := y') h3 h2 (.inr (.inl rfl))
    rw [hat]; exact ⟨x', rfl, by omega, by dsimp only; omega, by dsimp only; omega⟩
  · have hat := miss_at (t := ((x' : Int), (y' : Int), (z' : Int))) h1 (i := x') (j := z') h2 h3 (.inl rfl)
    rw [hat]; exact ⟨y', rfl, by omega, by dsimp only; omega, by dsimp only; omega⟩
  · have hat := miss_at (t := ((x' : Int), (y' : Int), (z' : Int))) h1 (i := y') (j := x') h3 h2 (.inr (.inr rfl))
    rw [hat]; exact ⟨z', rfl, by omega, by dsimp only; omega, by dsimp only; omega⟩
theorem miss_in {n : Nat} {c : List Int} {x y z : Nat} (hm : Miss n c ((x : Int), (y : Int), (z : Int))) : x < n ∧ y < n ∧ z < n ∧ -1 ≤ cg c x ∧ cg c x ≤ 2 ∧ -1 ≤ cg c y ∧ cg c y ≤ 2 ∧ -1 ≤ cg c z ∧ cg c z ≤ 2 := by
  obtain ⟨x', y', z', e, hxy, hyz, hz, h⟩ := hm
  obtain ⟨rfl, rfl, rfl⟩ : x' = x ∧ y' = y ∧ z' = z := by
    injection e with e1 e2; injection e2 with e2 e3
    exact ⟨by omega, by omega, by omega⟩
  unfold Has at h
  omega

theorem bs_in {ca cb s1 s2 : Int} (h1 : s1 = if decide (ca < 0) then 3 else 3 - ca) (h2 : s2 = if decide (cb < 0) then s1 else s1 - cb) (ha : -1 ≤ ca ∧ ca ≤ 2) (hb : -1 ≤ cb ∧ cb ≤ 2) : -3 ≤ s1 ∧ s1 ≤ 3 ∧ -3 ≤ s2 ∧ s2 ≤ 3 := by
  have e1 : s1 = 3 ∨ (s1 = 3 - ca ∧ 0 ≤ ca) := by
    by_cases x : ca < 0
    · left; rw [h1, decide_eq_true x]; rfl
    · right; rw [h1, decide_eq_false x]; exact ⟨rfl, by omega⟩
  have e2 : s2 = s1 ∨ (s2 = s1 - cb ∧ 0 ≤ cb) := by
    by_cases x : cb < 0
    · left; rw [h2, decide_eq_true x]; rfl
    · right; rw [h2, decide_eq_false x]; exact ⟨rfl, by omega⟩
  omega
theorem row_set {W : World} {b e g n c : Nat} {L : List Int} (h : W.ownsRow b e 1 (.slice (some ⟨g, 0, none⟩) n c) n (icells L)) (j : Nat) (x : Int) :
    (W.setCell ⟨g, j, none⟩ (.int .i64 x)).ownsRow b e 1 (.slice (some ⟨g, 0, none⟩) n c) n (icells (L.set j x)) ∧ W.grownBy (W.setCell ⟨g, j, none⟩ (.int .i64 x)) (some g) := by
  have hs := h.stored j (.int .i64 x)
  have e1 : (icells L).set j (.int .i64 x) = icells (L.set j x) := by unfold icells; rw [List.map_set]
  rw [e1] at hs
  exact hs

theorem keptH {W W' : World} {k g : Nat} {cs : Array Value} {T : TypeId} (h : Holds W k cs T) (hg : W.grownBy W' (some g)) (hne : k ≠ g) : Holds W' k cs T :=
  (hg.block k h.lt (fun e => hne (Option.some.inj e))).trans h

set_option maxRecDepth 100000 in
set_option maxHeartbeats 12800000 in
theorem colorsOf (A : Option Addr) (n cap : Nat) (w : World) (ps : List (Int × Int)) (hl : ps.length = n) (hn : n ≤ 1048576) (hp : PtsAt w w.heap.size A ps) :
    Calls Tryz.prog 27 #[.agg #[.slice A n cap]] w (GivesI 3 w (colL ps)) := by
  obtain ⟨r, hr⟩ : ∃ r, colL ps = r := ⟨_, rfl⟩
  have HR := Lib.hid hr
  rw [hr]
  clear hr
  obtain ⟨i0, hi, hz0, hz1, hz2⟩ := info_parts infoI
  have HE0 : Hid (trisL ps = [] → r = []) := Lib.hid (fun h => by rw [← HR.out]; exact colL_nil h)
  have HE1 : Hid (trisL ps ≠ [] → colF n (trisL ps) = r ∧ n ≤ 10 ∧ ColMath.Steps n (trisL ps)) := Lib.hid (fun h => by
    have h1 := roomB_yes (trisL_some h).1
    have h2 := (col_all h h1.1.1).2.2
    rw [hl] at h2
    exact ⟨by rw [← HR.out, ← hl]; rfl, by have := h1.1.2; omega, h2⟩)
  have QT : Hid (∀ W h, _) := Lib.hid fun W h => trianglesOf A n cap W ps hl hn h
  have hle := TrisLand.trisL_le ps
  unfold GivesC at QT
  have hI : Hid (∀ k, k < (trisL ps).length → ∃ x y z : Nat, tt (trisL ps) k = ((x : Int), (y : Int), (z : Int)) ∧ x < y ∧ y < z ∧ z < n) := Lib.hid (fun k hk => by rw [← hl]; exact AreColMath.tris_in hk)
  generalize trisL ps = L at *
  obtain ⟨m, hLm⟩ : ∃ m, L.length = m := ⟨_, rfl⟩
  rw [hLm] at QT hle hI
  clear HR
  go_enter Tryz.func27, Tryz.ntmps27
  go_wp2_with fail
  have X0 := Pts.boxR w (.slice A n cap) 30 (k := w.heap.size) (by simp)
  have b0 := PointOk.below1 w (Obj.cells #[.slice A n cap] 30)
  have HO : ∀ W W' : World, (Pts.BoxR W (w.heap.size) (.slice A n cap) ∧ PtsAt W w.heap.size A ps ∧ Below w.heap.size w W) → Below W.heap.size W W' → (Pts.BoxR W' (w.heap.size) (.slice A n cap) ∧ PtsAt W' w.heap.size A ps ∧ Below w.heap.size w W') := fun W W' ⟨h0, x0, hb⟩ h => ⟨h0.later h, x0.later (h.mono hb.size), hb.trans (h.mono hb.size)⟩
  have hz0_ : Hid (((w.alloc (Obj.cells #[.slice A n cap] 30))).heap.size = w.heap.size + 1) := Lib.hid (by simp)
  have Y0 : PtsAt ((w.alloc (Obj.cells #[.slice A n cap] 30))) w.heap.size A ps := hp.later b0
  generalize (w.alloc (Obj.cells #[.slice A n cap] 30)) = w0 at X0 Y0 b0 hz0_ ⊢
  have S0 := (⟨X0, Y0, b0⟩ : Pts.BoxR w0 (w.heap.size) (.slice A n cap) ∧ PtsAt w0 w.heap.size A ps ∧ Below w.heap.size w w0)
  clear X0 Y0 b0
  obtain ⟨⟨_, _⟩, _, _⟩ := id S0
  refine (QT.out _ (S0.2.1.wide S0.2.2.size)).mono ?_
  rintro e w2 ⟨A2, c2, rfl, h4, hb_⟩
  replace S0 := HO _ _ S0 hb_
  have T2 := ts_own h4
  have hz1 : w.heap.size + 1 ≤ w2.heap.size := World.block_lt_of_cell? _ _ S0.1.1
  clear hb_ QT h4
  obtain ⟨⟨_, _⟩, _, _⟩ := id S0
  by_cases c0 : m = 0
  · subst c0
    have E : Hid (r = []) := Lib.hid (HE0.out (List.length_eq_zero_iff.1 hLm))
    clear HE0 HE1 hl T2
    go_wp2_with fail
    go_ret
    exact ⟨some ⟨w2.heap.size, 0, none⟩, 0, by rw [E.out]; rfl, by rw [E.out]; exact own_base (own_empty w2 3 1) (by omega), S0.2.2.trans ((below1 w2 _).mono (by omega))⟩
  have hne : L ≠ [] := fun e => c0 (by rw [← hLm, e]; rfl)
  obtain ⟨hE, hn10, hst⟩ := HE1.out hne
  have HE := Lib.hid hE
  have HS := Lib.hid hst
  clear HE0 HE1 hE hst
  have m0 : ((m : Int) == 0) = false := by simp; omega
  have m0n : (m == 0) = false := by simp; omega
  have hF : ∀ W, Below w2.heap.size w2 W → (BoxR W w.heap.size (.slice A n cap) ∧ TsAt W w2.heap.size A2 L ∧ Below w.heap.size w W) := fun W hb => ⟨S0.1.later hb, T2.later hb, S0.2.2.trans (hb.mono (by omega))⟩
  have hF := Lib.hid hF
  have hbw : Below w2.heap.size w2 (w2.alloc (Obj.cells #[] 3)) := below1 _ _
  have hro := own_empty w2 3 1
  have hsz : w2.heap.size ≤ (w2.alloc (Obj.cells #[] 3)).heap.size := hbw.size
  clear S0 T2
  go_wp2_with fail
  generalize w2.alloc (Obj.cells #[] 3) = w3 at *
  go_loopw [4, 5] (fun v q wr => ∃ k : Nat, k ≤ n ∧ q = .int .i64 k ∧ wr.ownsRow w2.heap.size 3 1 v k (icells (List.replicate k (-1))) ∧ w2.heap.size ≤ wr.heap.size ∧ Below w2.heap.size w2 wr)
    (fun _ q _ => n - (intOf q).toNat)
  case atStart => exact ⟨0, Nat.zero_le _, rfl, hro, hsz, hbw⟩
  case round =>
    clear hro hsz hbw
    obtain ⟨k, hkn, rfl, hown, hsz, hbw⟩ := hrel
    obtain ⟨⟨hbx, _⟩, hT, hBw⟩ := hF.out _ hbw
    by_cases hlt : k < n
    · have k0 : (0 : Int) ≤ (k : Int) := by omega
      have k1 : (k : Int) < (n : Int) := by omega
      have hrep : Hid (icells (List.replicate k (-1)) ++ [.int .i64 (-1)] = icells (List.replicate (k + 1) (-1))) := Lib.hid (by rw [← icells_snoc, ← List.replicate_succ'])
      clear HE HS hT hBw
      go_wp2_with (at_builtin; refine AppOne.append_one _ (by rfl) _ _ (by rfl) w2.heap.size _ k _ (by rfl) hown (-1) (by rfl) (by omega) hsz ?_)
      intro v5 w5 h5 hb5
      rw [hrep.out] at h5
      have hbw5 := hbw.trans hb5
      have hsz5 := Nat.le_trans hsz hb5.size
      clear hown hb5 hbx hbw hsz
      go_wp2_with fail
      first
        | exact ⟨⟨k + 1, by omega, by go_num, h5, hsz5, hbw5⟩, by simp [intOf]; omega⟩
        | (go_roundw <;> first | exact ⟨k + 1, by omega, by go_num, h5, hsz5, hbw5⟩ | (simp [intOf]; omega))
    obtain rfl : n = k := by omega
    obtain ⟨x, y, z, ht, hxy, hyz, hzn⟩ := steps_last hne HS.out
    obtain ⟨m1, hm1⟩ : ∃ m1, m1 + 1 = m := ⟨m - 1, by omega⟩
    have eL : L.length - 1 = m1 := by omega
    rw [eL] at ht
    have u1 : IntKind.i64.wrap ((m : Int) - 1) = (m1 : Int) := by rw [show ((m : Int) - 1) = (m1 : Int) by omega]; exact IntWalk.i64_in _ (by omega)
    have p0 := Tup3.tt_at (ps := L) (k := m1) (by omega)
    rw [ht] at p0
    obtain ⟨ad, rfl, bA, pA⟩ := hT.get p0
    obtain ⟨_, _, _⟩ := id pA
    obtain ⟨Ao, co, rfl⟩ := own_shape hown
    obtain ⟨g, rfl, hgB, hgl, _, _⟩ := own_cell hown (j := 0) (by omega) (x := .int .i64 (-1)) (by unfold icells; rw [List.getElem?_map, List.getElem?_replicate, if_pos (by omega)]; rfl)
    have mi0 : (0 : Int) ≤ (m1 : Int) := by omega
    have mi1 : (m1 : Int) < (m : Int) := by omega
    have x0 : (0 : Int) ≤ (x : Int) := by omega
    have x1 : (x : Int) < (n : Int) := by omega
    have y0 : (0 : Int) ≤ (y : Int) := by omega
    have y1 : (y : Int) < (n : Int) := by omega
    have z0 : (0 : Int) ≤ (z : Int) := by omega
    have z1 : (z : Int) < (n : Int) := by omega
    have hge := Lib.hid (steps_last hne HS.out)
    clear hT p0 hge
    have hgs := hgl
    have own1 := own_below hown (below1 wr (Obj.cells #[.int .i64 (x : Int), .int .i64 (y : Int), .int .i64 (z : Int)] 65))
    have X6 : Holds (wr.alloc (Obj.cells #[.int .i64 (x : Int), .int .i64 (y : Int), .int .i64 (z : Int)] 65)) wr.heap.size #[.int .i64 (x : Int), .int .i64 (y : Int), .int .i64 (z : Int)] 65 := Holds.new wr _ _
    have d1 := row_cell own1 (j := x) (by omega) (cg_at (by simp; omega))
    have s1 := row_set hown x 0
    obtain ⟨U1, hU1⟩ : ∃ U, wr.setCell ⟨g, x, none⟩ (.int .i64 0) = U := ⟨_, rfl⟩
    have e1 : U1.heap.size = wr.heap.size := by rw [← hU1]; simp [World.setCell]
    rw [hU1] at s1
    have p1 := own_below s1.1 (below1 U1 (Obj.cells #[.int .i64 (x : Int), .int .i64 (y : Int), .int .i64 (z : Int)] 65))
    have X7 : Holds (U1.alloc (Obj.cells #[.int .i64 (x : Int), .int .i64 (y : Int), .int .i64 (z : Int)] 65)) wr.heap.size #[.int .i64 (x : Int), .int .i64 (y : Int), .int .i64 (z : Int)] 65 := Blk.Holds.box U1 _ _ e1.symm
    have d2 := row_cell p1 (j := y) (by omega) (cg_at (by simp; omega))
    have s2 := row_set s1.1 y 1
    obtain ⟨U2, hU2⟩ : ∃ U, U1.setCell ⟨g, y, none⟩ (.int .i64 1) = U := ⟨_, rfl⟩
    have e2 : U2.heap.size = wr.heap.size := by rw [← hU2, ← e1]; simp [World.setCell]
    rw [hU2] at s2
    have p2 := own_below s2.1 (below1 U2 (Obj.cells #[.int .i64 (x : Int), .int .i64 (y : Int), .int .i64 (z : Int)] 65))
    have X8 : Holds (U2.alloc (Obj.cells #[.int .i64 (x : Int), .int .i64 (y : Int), .int .i64 (z : Int)] 65)) wr.heap.size #[.int .i64 (x : Int), .int .i64 (y : Int), .int .i64 (z : Int)] 65 := Blk.Holds.box U2 _ _ e2.symm
    have d3 := row_cell p2 (j := z) (by omega) (cg_at (by simp; omega))
    have s3 := row_set s2.1 z 2
    obtain ⟨U3, hU3⟩ : ∃ U, U2.setCell ⟨g, z, none⟩ (.int .i64 2) = U := ⟨_, rfl⟩
    have e3 : U3.heap.size = wr.heap.size := by rw [← hU3, ← e2]; simp [World.setCell]
    rw [hU3] at s3
    have r4 := own_below s3.1 (below1 U3 (Obj.cells #[.int .i64 (x : Int), .int .i64 (y : Int), .int .i64 (z : Int)] 65))
    have bb1 := hbw.grown s1.2 hsz (fun k hk => by injection hk with hk; omega)
    have bb2 := bb1.grown s2.2 (by omega) (fun k hk => by injection hk with hk; omega)
    have bb3 := bb2.grown s3.2 (by omega) (fun k hk => by injection hk with hk; omega)
    have bb4 := bb3.alloc (by omega) (Obj.cells #[.int .i64 (x : Int), .int .i64 (y : Int), .int .i64 (z : Int)] 65)
    have hz4_ : w2.heap.size ≤ (U3.alloc (Obj.cells #[.int .i64 (x : Int), .int .i64 (y : Int), .int .i64 (z : Int)] 65)).heap.size := by simp; omega
    have hbase : Hid ((((List.replicate n (-1)).set x 0).set y 1).set z 2 = colF n (L.drop m1)) := Lib.hid (by
      have := colF_last (n := n) hne
      rw [eL, ht] at this
      rw [this]
      unfold colBase
      simp only [Int.toNat_natCast])
    rw [hbase.out] at r4
    obtain ⟨⟨_, _, _⟩, _, _, _⟩ := TrisImpl.facts3 X6
    obtain ⟨⟨_, _, _⟩, _, _, _⟩ := TrisImpl.facts3 X7
    obtain ⟨⟨_, _, _⟩, _, _, _⟩ := TrisImpl.facts3 X8
    obtain ⟨_, _⟩ := d1
    obtain ⟨_, _⟩ := d2
    obtain ⟨_, _⟩ := d3
    have u2 : IntKind.i64.wrap ((m : Int) - 2) = (m1 : Int) - 1 := by rw [show ((m : Int) - 2) = (m1 : Int) - 1 by omega]; exact IntWalk.i64_in _ (by omega)
    clear X6 X7 X8 s1 s2 s3 bb1 bb2 bb3 hbase own1 hown hbw hsz ht p1 p2
    have r4 := Lib.hid r4
    subst hU1
    subst hU2
    subst hU3
    go_wp2_with fail
    obtain ⟨w4, hw4⟩ : ∃ W, (((wr.setCell ⟨g, x, none⟩ (.int .i64 0)).setCell ⟨g, y, none⟩ (.int .i64 1)).setCell ⟨g, z, none⟩ (.int .i64 2)).alloc (Obj.cells #[.int .i64 (x : Int), .int .i64 (y : Int), .int .i64 (z : Int)] 65) = W := ⟨_, rfl⟩
    rw [hw4] at r4 bb4 hz4_ ⊢
    clear hw4
    have HI := hI
    clear m0 m0n
    go_loopw [7] (fun v wr => ∃ k : Nat, k ≤ m1 ∧ v = .int .i64 ((k : Int) - 1) ∧ Hid (wr.ownsRow w2.heap.size 3 1 (.slice (some ⟨g, 0, none⟩) n co) n (icells (colF n (L.drop k)))) ∧ w2.heap.size ≤ wr.heap.size ∧ Below w2.heap.size w2 wr)
      (fun v _ => (intOf v + 1).toNat)
    case atStart => exact ⟨m1, Nat.le_refl _, rfl, r4, hz4_, bb4⟩
    case round =>
      clear r4 hz4_ bb4
      obtain ⟨k, hkm, rfl, hown, hsz, hbw⟩ := hrel
      by_cases hk0 : k = 0
      · subst hk0
        have hg : ¬ (0 : Int) ≤ ((0 : Nat) : Int) - 1 := by omega
        have hr2 : Hid (colF n L = r ∧ (colF n L).length = n) := Lib.hid ⟨HE.out, colF_len _ _ hne⟩
        have hB2 := Lib.hid (hF.out _ hbw).2.2
        clear HE HS HI hF
        go_wp2_with fail
        go_ret
        have e0 := hr2.out.1
        have e1 := hr2.out.2
        rw [List.drop_zero, e0] at hown
        rw [e0] at e1
        exact ⟨some ⟨g, 0, none⟩, co, by rw [e1]; rfl, by rw [e1]; exact own_base hown.out (by omega), hB2.out⟩
      obtain ⟨j, rfl⟩ : ∃ j, k = j + 1 := ⟨k - 1, by omega⟩
      have ej : (((j + 1 : Nat) : Int) - 1) = (j : Int) := by omega
      rw [ej]
      have hms := steps_drop HS.out (show j + 1 < L.length by omega)
      obtain ⟨a, b, c, htj, hab, hbc, hcn⟩ := HI.out j (by omega)
      rw [htj] at hms
      have hin := miss_in hms
      obtain ⟨bb, hbb, hbbn, hv0, hv3⟩ := miss_set hms
      have hstep : Hid (colF n (L.drop j) = (colF n (L.drop (j + 1))).set bb (smL (decide (cg (colF n (L.drop (j + 1))) a < 0)) (decide (cg (colF n (L.drop (j + 1))) b < 0)) (decide (cg (colF n (L.drop (j + 1))) c < 0)) (cg (colF n (L.drop (j + 1))) a) (cg (colF n (L.drop (j + 1))) b) (cg (colF n (L.drop (j + 1))) c) 3)) := Lib.hid (by
        rw [colF_drop (show j + 1 < L.length by omega), htj]
        unfold colStep
        rw [hbb, if_pos (by omega), Int.toNat_natCast, colAt_eq])
      have hat : Hid (atL (decide (cg (colF n (L.drop (j + 1))) a < 0)) (decide (cg (colF n (L.drop (j + 1))) b < 0)) (decide (cg (colF n (L.drop (j + 1))) c < 0)) (a : Int) (b : Int) (c : Int) 3 = (bb : Int)) := Lib.hid (by rw [← hbb, colAt_eq])
      have hcl := colF_dlen (n := n) (L := L) (k := j + 1) (by omega)
      obtain ⟨hbx2, hT, hBw⟩ := hF.out _ hbw
      have p0 := Tup3.tt_at (ps := L) (k := j) (by omega)
      rw [htj] at p0
      obtain ⟨ad2, e2, bA2, pA⟩ := hT.get p0
      injection e2 with e2
      subst e2
      generalize colF n (L.drop (j + 1)) = cc at *
      have qa := cg_at (c := cc) (k := a) (by omega)
      have qb := cg_at (c := cc) (k := b) (by omega)
      have qc := cg_at (c := cc) (k := c) (by omega)
      generalize cg cc a = ca at *
      generalize cg cc b = cb at *
      generalize cg cc c = cd at *
      have A1 : Hid (atL (decide (ca < 0)) (decide (cb < 0)) (decide (cd < 0)) (a : Int) (b : Int) (c : Int) 1 = if decide (ca < 0) then (a : Int) else -1) := Lib.hid rfl
      have A2 : Hid (atL (decide (ca < 0)) (decide (cb < 0)) (decide (cd < 0)) (a : Int) (b : Int) (c : Int) 2 = if decide (cb < 0) then (b : Int) else atL (decide (ca < 0)) (decide (cb < 0)) (decide (cd < 0)) (a : Int) (b : Int) (c : Int) 1) := Lib.hid rfl
      have A3 : Hid (atL (decide (ca < 0)) (decide (cb < 0)) (decide (cd < 0)) (a : Int) (b : Int) (c : Int) 3 = if decide (cd < 0) then (c : Int) else atL (decide (ca < 0)) (decide (cb < 0)) (decide (cd < 0)) (a : Int) (b : Int) (c : Int) 2) := Lib.hid rfl
      have S1 : Hid (smL (decide (ca < 0)) (decide (cb < 0)) (decide (cd < 0)) ca cb cd 1 = if decide (ca < 0) then 3 else 3 - ca) := Lib.hid rfl
      have S2 : Hid (smL (decide (ca < 0)) (decide (cb < 0)) (decide (cd < 0)) ca cb cd 2 = if decide (cb < 0) then smL (decide (ca < 0)) (decide (cb < 0)) (decide (cd < 0)) ca cb cd 1 else smL (decide (ca < 0)) (decide (cb < 0)) (decide (cd < 0)) ca cb cd 1 - cb) := Lib.hid rfl
      have S3 : Hid (smL (decide (ca < 0)) (decide (cb < 0)) (decide (cd < 0)) ca cb cd 3 = if decide (cd < 0) then smL (decide (ca < 0)) (decide (cb < 0)) (decide (cd < 0)) ca cb cd 2 else smL (decide (ca < 0)) (decide (cb < 0)) (decide (cd < 0)) ca cb cd 2 - cd) := Lib.hid rfl
      have A0 : Hid (atL (decide (ca < 0)) (decide (cb < 0)) (decide (cd < 0)) (a : Int) (b : Int) (c : Int) 0 = -1) := Lib.hid rfl
      have S00 : Hid (smL (decide (ca < 0)) (decide (cb < 0)) (decide (cd < 0)) ca cb cd 0 = 3) := Lib.hid rfl
      generalize atL (decide (ca < 0)) (decide (cb < 0)) (decide (cd < 0)) (a : Int) (b : Int) (c : Int) = al at *
      generalize smL (decide (ca < 0)) (decide (cb < 0)) (decide (cd < 0)) ca cb cd = sl at *
      obtain ⟨_, _, _, ya, yb, yc, yd, ye, yf⟩ := hin
      have bS : Hid (-3 ≤ sl 1 ∧ sl 1 ≤ 3 ∧ -3 ≤ sl 2 ∧ sl 2 ≤ 3) := Lib.hid (bs_in S1.out S2.out ⟨ya, yb⟩ ⟨yc, yd⟩)
      have j0 : (0 : Int) ≤ (j : Int) := by omega
      have j1 : (j : Int) < (m : Int) := by omega
      have a0 : (0 : Int) ≤ (a : Int) := by omega
      have a1 : (a : Int) < (n : Int) := by omega
      have b0 : (0 : Int) ≤ (b : Int) := by omega
      have b1 : (b : Int) < (n : Int) := by omega
      have c0' : (0 : Int) ≤ (c : Int) := by omega
      have c1 : (c : Int) < (n : Int) := by omega
      have v0 : (0 : Int) ≤ (bb : Int) := by omega
      have v1 : (bb : Int) < (n : Int) := by omega
      have uj : IntKind.i64.wrap ((j : Int) - 1) = (j : Int) - 1 := IntWalk.i64_in _ (by omega)
      clear hT p0 hms hbb hv0 hv3 HE HS HI hbx2 hBw htj hI
      have HO : ∀ W W' : World, (TAt W ad j (a : Int) (b : Int) (c : Int) ∧ Hid (W.ownsRow w2.heap.size 3 1 (.slice (some ⟨g, 0, none⟩) n co) n (icells cc)) ∧ w2.heap.size ≤ W.heap.size ∧ Below w2.heap.size w2 W) → Below W.heap.size W W' → (TAt W' ad j (a : Int) (b : Int) (c : Int) ∧ Hid (W'.ownsRow w2.heap.size 3 1 (.slice (some ⟨g, 0, none⟩) n co) n (icells cc)) ∧ w2.heap.size ≤ W'.heap.size ∧ Below w2.heap.size w2 W') := fun W W' ⟨x0, x1, x2, hb⟩ h => ⟨x0.later bA2 (h.mono hb.size), Lib.hid (own_below (x1).out h), Nat.le_trans x2 h.size, hb.trans (h.mono hb.size)⟩
      have S0 : TAt wr ad j (a : Int) (b : Int) (c : Int) ∧ Hid (wr.ownsRow w2.heap.size 3 1 (.slice (some ⟨g, 0, none⟩) n co) n (icells cc)) ∧ w2.heap.size ≤ wr.heap.size ∧ Below w2.heap.size w2 wr := ⟨pA, hown, hsz, hbw⟩
      clear pA hown hsz hbw
      obtain ⟨⟨_, _, _⟩, _, _, _⟩ := id S0
      go_wp2_with fail
      refine Settle.regionTails (fun W => TAt W ad j (a : Int) (b : Int) (c : Int) ∧ Hid (W.ownsRow w2.heap.size 3 1 (.slice (some ⟨g, 0, none⟩) n co) n (icells cc)) ∧ w2.heap.size ≤ W.heap.size ∧ Below w2.heap.size w2 W) 15 (by kernel_rfl) (by kernel_rfl) (of_decide_eq_true (by kernel_rfl)) (by kernel_rfl) (by kernel_rfl) (by kernel_rfl) (by kernel_rfl) (HO _ _ S0 ((Below.refl _ _).drew)) ?_
      simp only [List.take_succ_cons, List.take_zero, List.drop_succ_cons, List.drop_zero]
      clear S0
      repeat (first
        | (refine Settle.Settles.off (by rfl) ?_; simp only [Act.put, List.setIfInBounds_toArray, List.set_cons_zero, List.set_cons_succ])
        | (refine Settle.Settles.quiet (v := ?_) (by rfl) ?_ ?_
           rotate_left
           · (intro W hS; obtain ⟨⟨_, _, _⟩, _, _, _⟩ := hS; go_simp; with_reducible rfl)
           simp only [Act.put, List.setIfInBounds_toArray, List.set_cons_zero, List.set_cons_succ])
        | (refine Settle.Settles.call (v := ?_) (f := ?_) (args := ?_) (by rfl) ?_ ?_ ?_
           rotate_left 3
           · (intro W; go_simp; refine ⟨?_, ?_⟩ <;> with_reducible rfl)
           · (intro W hS; fail)
           simp only [Act.put, List.setIfInBounds_toArray, List.set_cons_zero, List.set_cons_succ]))
      refine Settle.Settles.nil ?_
      intro wr S0 K_ hK_
      obtain ⟨⟨_, _, _⟩, _, _, _⟩ := id S0
      have hnew := Blk.Holds.new wr #[.int .i64 (a : Int), .int .i64 (b : Int), .int .i64 (c : Int)] 3
      have hrow : (wr.alloc (Obj.cells #[.int .i64 (a : Int), .int .i64 (b : Int), .int .i64 (c : Int)] 3)).ownsRow w2.heap.size 3 1 (.slice (some ⟨wr.heap.size, 0, none⟩) 3 3) 3 (icells [(a : Int), (b : Int), (c : Int)]) :=
        ⟨by simp [icells], .inr ⟨wr.heap.size, 3, _, rfl, S0.2.2.1, hnew, Nat.le_refl _, by decide, by simp, by simp [icells]⟩⟩
      have hrow := Lib.hid hrow
      replace S0 := HO _ _ S0 (below1 wr (Obj.cells #[.int .i64 (a : Int), .int .i64 (b : Int), .int .i64 (c : Int)] 3))
      clear hnew
      go_wp2_with fail
      generalize wr.alloc (Obj.cells #[.int .i64 (a : Int), .int .i64 (b : Int), .int .i64 (c : Int)] 3) = w6 at *
      generalize wr.heap.size = gx at *
      have HO : ∀ W W' : World, (Hid (W.ownsRow w2.heap.size 3 1 (.slice (some ⟨gx, 0, none⟩) 3 3) 3 (icells [(a : Int), (b : Int), (c : Int)])) ∧ Hid (W.ownsRow w2.heap.size 3 1 (.slice (some ⟨g, 0, none⟩) n co) n (icells cc)) ∧ w2.heap.size ≤ W.heap.size ∧ Below w2.heap.size w2 W) → Below W.heap.size W W' → (Hid (W'.ownsRow w2.heap.size 3 1 (.slice (some ⟨gx, 0, none⟩) 3 3) 3 (icells [(a : Int), (b : Int), (c : Int)])) ∧ Hid (W'.ownsRow w2.heap.size 3 1 (.slice (some ⟨g, 0, none⟩) n co) n (icells cc)) ∧ w2.heap.size ≤ W'.heap.size ∧ Below w2.heap.size w2 W') := fun W W' ⟨x0, x1, x2, hb⟩ h => ⟨Lib.hid (own_below (x0).out h), Lib.hid (own_below (x1).out h), Nat.le_trans x2 h.size, hb.trans (h.mono hb.size)⟩
      replace S0 : Hid (w6.ownsRow w2.heap.size 3 1 (.slice (some ⟨gx, 0, none⟩) 3 3) 3 (icells [(a : Int), (b : Int), (c : Int)])) ∧ Hid (w6.ownsRow w2.heap.size 3 1 (.slice (some ⟨g, 0, none⟩) n co) n (icells cc)) ∧ w2.heap.size ≤ w6.heap.size ∧ Below w2.heap.size w2 w6 := ⟨hrow, S0.2⟩
      clear hrow
      go_loopw [9, 10, 11] (fun v u q wr => ∃ i : Nat, i ≤ 3 ∧ q = .int .i64 i ∧ v = .int .i64 (sl i) ∧ u = .int .i64 (al i) ∧ (Hid (wr.ownsRow w2.heap.size 3 1 (.slice (some ⟨gx, 0, none⟩) 3 3) 3 (icells [(a : Int), (b : Int), (c : Int)])) ∧ Hid (wr.ownsRow w2.heap.size 3 1 (.slice (some ⟨g, 0, none⟩) n co) n (icells cc)) ∧ w2.heap.size ≤ wr.heap.size ∧ Below w2.heap.size w2 wr))
        (fun _ _ q _ => 3 - (intOf q).toNat)
      case atStart => exact ⟨0, Nat.zero_le _, rfl, by rw [S00.out], by rw [A0.out], S0⟩
      case round =>
        clear S0
        obtain ⟨i, hi3, rfl, rfl, rfl, S0⟩ := hrel
        rcases (by omega : i = 0 ∨ i = 1 ∨ i = 2 ∨ i = 3) with rfl | rfl | rfl | rfl
        rotate_left 3
        · have hat2 := hat.out
          rw [hat2]
          obtain ⟨sv, hsv⟩ : ∃ v, sl 3 = v := ⟨_, rfl⟩
          have hst2 : Hid (colF n (L.drop j) = cc.set bb sv) := Lib.hid (by rw [← hsv]; exact hstep.out)
          rw [hsv]
          have d := row_cell S0.2.1.out hbbn (cg_at (c := cc) (k := bb) (by omega))
          have st := row_set S0.2.1.out bb sv
          have hb5 := S0.2.2.2.grown st.2 S0.2.2.1 (fun k hk => by injection hk with hk; omega)
          have hz5 := Nat.le_trans S0.2.2.1 st.2.size
          have st1 := st.1
          rw [← hst2.out] at st1
          have st1 := Lib.hid st1
          obtain ⟨_, _⟩ := d
          clear st S0 hstep hat hat2 hst2 A0 A1 A2 A3 S1 S2 S3 S00 bS hsv qa qb qc
          go_wp2_with fail
          first
            | exact ⟨⟨j, by omega, by go_num, st1, hz5, hb5⟩, by simp [intOf]⟩
            | (go_roundw <;> first | exact ⟨j, by omega, by go_num, st1, hz5, hb5⟩ | (simp [intOf]; done) | (simp [intOf]; omega))
        · have d1 := (row_cell S0.1.out (j := 0) (x := (a : Int)) (by omega) rfl).1
          have d2 := (row_cell S0.2.1.out (by omega) qa).1
          have u1 : IntKind.i64.wrap (3 - ca) = 3 - ca := IntWalk.i64_in _ (by omega)
          rw [A0.out, S00.out]
          by_cases x1 : ca < 0
          · have E1 : Hid (al 1 = (a : Int)) := Lib.hid (by rw [A1.out, decide_eq_true x1]; rfl)
            have E2 : Hid (sl 1 = 3) := Lib.hid (by rw [S1.out, decide_eq_true x1]; rfl)
            clear A1 S1 A2 S2 A3 S3 hstep hat bS qa qb qc A0 S00
            go_wp2_with fail
            first
              | exact ⟨⟨1, by omega, rfl, by rw [E2.out], by rw [E1.out], S0⟩, by simp [intOf]⟩
              | (go_roundw <;> first | exact ⟨1, by omega, rfl, by rw [E2.out], by rw [E1.out], S0⟩ | simp [intOf])
          · have E1 : Hid (al 1 = -1) := Lib.hid (by rw [A1.out, decide_eq_false x1]; rfl)
            have E2 : Hid (sl 1 = 3 - ca) := Lib.hid (by rw [S1.out, decide_eq_false x1]; rfl)
            clear A1 S1 A2 S2 A3 S3 hstep hat bS qa qb qc A0 S00
            go_wp2_with fail
            first
              | exact ⟨⟨1, by omega, rfl, by rw [E2.out], by rw [E1.out], S0⟩, by simp [intOf]⟩
              | (go_roundw <;> first | exact ⟨1, by omega, rfl, by rw [E2.out], by rw [E1.out], S0⟩ | simp [intOf])
        · have d1 := (row_cell S0.1.out (j := 1) (x := (b : Int)) (by omega) rfl).1
          have d2 := (row_cell S0.2.1.out (by omega) qb).1
          have u1 : IntKind.i64.wrap (sl 1 - cb) = sl 1 - cb := IntWalk.i64_in _ (by have := bS.out; omega)
          by_cases x1 : cb < 0
          · have E1 : Hid (al 2 = (b : Int)) := Lib.hid (by rw [A2.out, decide_eq_true x1]; rfl)
            have E2 : Hid (sl 2 = sl 1) := Lib.hid (by rw [S2.out, decide_eq_true x1]; rfl)
            generalize sl 1 = s1 at *
            generalize al 1 = a1_ at *
            clear A1 S1 A2 S2 A3 S3 hstep hat bS qa qb qc A0 S00
            go_wp2_with fail
            first
              | exact ⟨⟨2, by omega, rfl, by rw [E2.out], by rw [E1.out], S0⟩, by simp [intOf]⟩
              | (go_roundw <;> first | exact ⟨2, by omega, rfl, by rw [E2.out], by rw [E1.out], S0⟩ | simp [intOf])
          · have E1 : Hid (al 2 = al 1) := Lib.hid (by rw [A2.out, decide_eq_false x1]; rfl)
            have E2 : Hid (sl 2 = sl 1 - cb) := Lib.hid (by rw [S2.out, decide_eq_false x1]; rfl)
            generalize sl 1 = s1 at *
            generalize al 1 = a1_ at *
            clear A1 S1 A2 S2 A3 S3 hstep hat bS qa qb qc A0 S00
            go_wp2_with fail
            first
              | exact ⟨⟨2, by omega, rfl, by rw [E2.out], by rw [E1.out], S0⟩, by simp [intOf]⟩
              | (go_roundw <;> first | exact ⟨2, by omega, rfl, by rw [E2.out], by rw [E1.out], S0⟩ | simp [intOf])
        · have d1 := (row_cell S0.1.out (j := 2) (x := (c : Int)) (by omega) rfl).1
          have d2 := (row_cell S0.2.1.out (by omega) qc).1
          have u1 : IntKind.i64.wrap (sl 2 - cd) = sl 2 - cd := IntWalk.i64_in _ (by have := bS.out; omega)
          by_cases x1 : cd < 0
          · have E1 : Hid (al 3 = (c : Int)) := Lib.hid (by rw [A3.out, decide_eq_true x1]; rfl)
            have E2 : Hid (sl 3 = sl 2) := Lib.hid (by rw [S3.out, decide_eq_true x1]; rfl)
            generalize sl 2 = s1 at *
            generalize al 2 = a1_ at *
            clear A1 S1 A2 S2 A3 S3 hstep hat bS qa qb qc A0 S00
            go_wp2_with fail
            first
              | exact ⟨⟨3, by omega, rfl, by rw [E2.out], by rw [E1.out], S0⟩, by simp [intOf]⟩
              | (go_roundw <;> first | exact ⟨3, by omega, rfl, by rw [E2.out], by rw [E1.out], S0⟩ | simp [intOf])
          · have E1 : Hid (al 3 = al 2) := Lib.hid (by rw [A3.out, decide_eq_false x1]; rfl)
            have E2 : Hid (sl 3 = sl 2 - cd) := Lib.hid (by rw [S3.out, decide_eq_false x1]; rfl)
            generalize sl 2 = s1 at *
            generalize al 2 = a1_ at *
            clear A1 S1 A2 S2 A3 S3 hstep hat bS qa qb qc A0 S00
            go_wp2_with fail
            first
              | exact ⟨⟨3, by omega, rfl, by rw [E2.out], by rw [E1.out], S0⟩, by simp [intOf]⟩
              | (go_roundw <;> first | exact ⟨3, by omega, rfl, by rw [E2.out], by rw [E1.out], S0⟩ | simp [intOf])
end Go.Proofs.YtkcodmafakjkfaaGreat.ColSpec

/-
  What the model's ColorCounts and RarestColor do, as contracts: what they answer; new memory alone is written.
-/
namespace Go.Proofs.YtkcodmafakjkfaaGreat.CntSpec
open Go.RowKit Own PointMath WallMath RoomMath Pts Blk AreaMath PlaceMath FloorMath LineMath CutsMath SightMath DiagMath TriMath TrisMath ColMath ColRun CntMath Ints Tup3 TriRow
open PointOk (ret_bool ret_i64 below1 below2 below3)

theorem ints_own {W : World} {b e n cap : Nat} {A : Option Addr} {l : List Int} (h : W.ownsRow b e 1 (.slice A n cap) n (icells l)) : IntsAt W W.heap.size A l := by
  intro j hj
  have hn : l.length = n := by have := h.1; simpa [icells] using this
  obtain ⟨g, hA, _, hg, h1, _⟩ := own_cell h (by omega) (icells_at hj)
  refine ⟨_, hA, hg, ?_⟩
  by_cases hj0 : j = 0
  · subst hj0; exact h1
  · simpa [Addr.add, hj0] using h1

set_option maxRecDepth 100000 in
set_option maxHeartbeats 6400000 in
theorem colorCounts (A : Option Addr) (n cap : Nat) (w : World) (ps : List (Int × Int)) (hl : ps.length = n) (hn : n ≤ 1048576) (hp : PtsAt w w.heap.size A ps) :
    Calls Tryz.prog 32 #[.agg #[.slice A n cap]] w (GivesI 3 w (cntL ps)) := by
  obtain ⟨r, hr⟩ : ∃ r, cntL ps = r := ⟨_, rfl⟩
  have HR := Lib.hid hr
  rw [hr]
  clear hr
  have HE0 : Hid ((colL ps).length = 0 → r = []) := Lib.hid (fun h => by rw [← HR.out]; unfold cntL; rw [if_pos h])
  have HE1 : Hid ((colL ps).length ≠ 0 → cntTo (colL ps) (colL ps).length = r) := Lib.hid (fun h => by rw [← HR.out]; unfold cntL; rw [if_neg h])
  have HC : Hid (∀ k, k < (colL ps).length → ∃ j : Nat, (colL ps).getD k 0 = (j : Int) ∧ j < 3) := Lib.hid (fun k hk => col_in hk)
  have hle : (colL ps).length ≤ 1048576 := Nat.le_trans (colL_le ps) (by omega)
  have QT : Hid (∀ W h, _) := Lib.hid fun W h => ColSpec.colorsOf A n cap W ps hl hn h
  unfold GivesI at QT
  generalize colL ps = l at *
  obtain ⟨m, hlm⟩ : ∃ m, l.length = m := ⟨_, rfl⟩
  rw [hlm] at QT HE0 HE1 HC hle
  clear HR
  go_enter Tryz.func32, Tryz.ntmps32
  go_wp2_with fail
  have X0 := Pts.boxR w (.slice A n cap) 30 (k := w.heap.size) (by simp)
  have b0 := PointOk.below1 w (Obj.cells #[.slice A n cap] 30)
  have HO : ∀ W W' : World, (Pts.BoxR W (w.heap.size) (.slice A n cap) ∧ PtsAt W w.heap.size A ps ∧ Below w.heap.size w W) → Below W.heap.size W W' → (Pts.BoxR W' (w.heap.size) (.slice A n cap) ∧ PtsAt W' w.heap.size A ps ∧ Below w.heap.size w W') := fun W W' ⟨h0, x0, hb⟩ h => ⟨h0.later h, x0.later (h.mono hb.size), hb.trans (h.mono hb.size)⟩
  have hz0_ : Hid (((w.alloc (Obj.cells #[.slice A n cap] 30))).heap.size = w.heap.size + 1) := Lib.hid (by simp)
  have Y0 : PtsAt ((w.alloc (Obj.cells #[.slice A n cap] 30))) w.heap.size A ps := hp.later b0
  generalize (w.alloc (Obj.cells #[.slice A n cap] 30)) = w0 at X0 Y0 b0 hz0_ ⊢
  have S0 := (⟨X0, Y0, b0⟩ : Pts.BoxR w0 (w.heap.size) (.slice A n cap) ∧ PtsAt w0 w.heap.size A ps ∧ Below w.heap.size w w0)
  clear X0 Y0 b0
  obtain ⟨⟨_, _⟩, _, _⟩ := id S0
  refine (QT.out _ (S0.2.1.wide S0.2.2.size)).mono ?_
  rintro e w2 ⟨A2, c2, rfl, h4, hb_⟩
  have hz1 : w.heap.size + 1 ≤ w0.heap.size := World.block_lt_of_cell? _ _ S0.1.1
  replace S0 := HO _ _ S0 hb_
  have T2 := ints_own h4
  have hz2 := Nat.le_trans hz1 hb_.size
  obtain ⟨⟨_, _⟩, _, _⟩ := id S0
  by_cases c0 : m = 0
  · subst c0
    have E : Hid (r = []) := Lib.hid (HE0.out rfl)
    have hl0 : l = [] := List.length_eq_zero_iff.1 hlm
    rw [hl0] at h4
    have h5 := Lib.hid (own_base h4 (show w.heap.size ≤ w0.heap.size by omega))
    have hB := Lib.hid S0.2.2
    clear HE0 HE1 HC hl QT h4 T2 hb_
    go_wp2_with fail
    go_ret
    exact ⟨A2, c2, by rw [E.out]; rfl, by rw [E.out]; exact h5.out, hB.out⟩
  have HE := Lib.hid (HE1.out c0)
  have m0 : ((m : Int) == 0) = false := by simp; omega
  have m0n : (m == 0) = false := by simp; omega
  have hF : Hid (∀ W, Below w2.heap.size w2 W → IntsAt W w2.heap.size A2 l ∧ Below w.heap.size w W) := Lib.hid (fun W hb => ⟨T2.later hb, S0.2.2.trans (hb.mono (by omega))⟩)
  have hnew := Blk.Holds.new w2 #[.int .i64 0, .int .i64 0, .int .i64 0] 3
  have hrow : (w2.alloc (Obj.cells #[.int .i64 0, .int .i64 0, .int .i64 0] 3)).ownsRow w2.heap.size 3 1 (.slice (some ⟨w2.heap.size, 0, none⟩) 3 3) 3 (icells (cntTo l 0)) :=
    ⟨by simp [icells, cntTo], .inr ⟨w2.heap.size, 3, _, rfl, Nat.le_refl _, hnew, Nat.le_refl _, by decide, by simp, by simp [icells, cntTo]⟩⟩
  have hrow := Lib.hid hrow
  have hb5 := below1 w2 (Obj.cells #[.int .i64 0, .int .i64 0, .int .i64 0] 3)
  have hz5 := hb5.size
  clear HE0 HE1 hl QT h4 T2 hb_ hnew S0
  go_wp2_with fail
  generalize w2.alloc (Obj.cells #[.int .i64 0, .int .i64 0, .int .i64 0] 3) = w3 at *
  obtain ⟨g, hg⟩ : ∃ g, g = w2.heap.size := ⟨_, rfl⟩
  rw [← hg] at hrow ⊢
  have hgle : w2.heap.size ≤ g := by omega
  clear hg
  go_loopw [5] (fun q wr => ∃ k : Nat, k ≤ m ∧ q = .int .i64 k ∧ Hid (wr.ownsRow g 3 1 (.slice (some ⟨g, 0, none⟩) 3 3) 3 (icells (cntTo l k))) ∧ w2.heap.size ≤ wr.heap.size ∧ Below w2.heap.size w2 wr)
    (fun q _ => m - (intOf q).toNat)
  case atStart => exact ⟨0, Nat.zero_le _, rfl, hrow, hz5, hb5⟩
  case round =>
    clear hrow hz5 hb5
    obtain ⟨k, hkm, rfl, hown, hsz, hbw⟩ := hrel
    by_cases hlt : k < m
    rotate_left
    · obtain rfl : m = k := by omega
      rw [HE.out] at hown
      have hr3 : Hid (r.length = 3) := Lib.hid (by rw [← HE.out]; exact cntTo_len _ _)
      have hB2 := Lib.hid (hF.out _ hbw).2
      have h6 := Lib.hid (own_base hown.out (show w.heap.size ≤ g by omega))
      clear HE HC hF hown hbw hsz
      go_wp2_with fail
      go_ret
      exact ⟨some ⟨g, 0, none⟩, 3, by rw [hr3.out]; rfl, by rw [hr3.out]; exact h6.out, hB2.out⟩
    obtain ⟨j, hj, hj3⟩ := HC.out k hlt
    have hs : Hid (cntTo l (k + 1) = (cntTo l k).set j ((cntTo l k).getD j 0 + 1)) := Lib.hid (by show (cntTo l k).set (l.getD k 0).toNat ((cntTo l k).getD (l.getD k 0).toNat 0 + 1) = _; rw [hj, Int.toNat_natCast])
    have hin := cntTo_in l k j
    have hcl := cntTo_len l k
    have p0 := getD_at (l := l) (j := k) (by omega)
    rw [hj] at p0
    obtain ⟨ad, rfl, bA, pA⟩ := (hF.out _ hbw).1.get p0
    obtain ⟨_, _⟩ := id pA
    have qj := getD_at (l := cntTo l k) (j := j) (by omega)
    generalize cntTo l k = cc at *
    generalize cc.getD j 0 = v at *
    have d := row_cell hown.out hj3 qj
    have k0 : (0 : Int) ≤ (k : Int) := by omega
    have k1 : (k : Int) < (m : Int) := by omega
    have j0 : (0 : Int) ≤ (j : Int) := by omega
    have j1 : (j : Int) < 3 := by omega
    have uv : IntKind.i64.wrap (v + 1) = v + 1 := IntWalk.i64_in _ (by omega)
    have hdr : Below wr.heap.size wr wr.drew := (Below.refl _ _).drew
    have hown1 := own_below hown.out hdr
    have st := ColSpec.row_set hown1 j (v + 1)
    have st1 := st.1
    rw [← hs.out] at st1
    have st1 := Lib.hid st1
    have hb7 := (hbw.trans (hdr.mono hsz)).grown st.2 (Nat.le_trans hsz hdr.size) (fun k hk => by injection hk with hk; omega)
    have hz7 := Nat.le_trans (Nat.le_trans hsz hdr.size) st.2.size
    have hfz : wr.drew.frozen? ⟨g, j, none⟩ = false := d.2
    clear HE HC hF hs p0 pA st hown hown1 hj qj hcl hdr bA
    have HO : ∀ W W' : World, (wr.heap.size ≤ W.heap.size ∧ Below w2.heap.size w2 W) → Below W.heap.size W W' → (wr.heap.size ≤ W'.heap.size ∧ Below w2.heap.size w2 W') := fun W W' ⟨x0, hb⟩ h => ⟨Nat.le_trans x0 h.size, hb.trans (h.mono hb.size)⟩
    clear HO
    obtain ⟨_, _⟩ := d
    clear hbw
    go_wp2_with fail
    go_region
    all_goals go_wp2_with fail
    all_goals first
      | exact ⟨⟨k + 1, by omega, by go_num, st1, hz7, hb7⟩, by simp [intOf]; omega⟩
      | (go_roundw <;> first | exact ⟨k + 1, by omega, by go_num, st1, hz7, hb7⟩ | (simp [intOf]; omega))
end Go.Proofs.YtkcodmafakjkfaaGreat.CntSpec

/-
  What the model's RarestColor does, as a contract: what it answers; new memory alone is written.
-/
namespace Go.Proofs.YtkcodmafakjkfaaGreat.RareSpec
open Go.RowKit Own PointMath WallMath RoomMath Pts Blk AreaMath PlaceMath FloorMath LineMath CutsMath SightMath DiagMath TriMath TrisMath ColMath ColRun CntMath Ints Tup3 TriRow
open PointOk (ret_bool ret_i64 below1 below2 below3)

/-- Where the search for the least one has come to. -/
def RareAt (a b c : Int) (k o : Nat) : Prop := (k = 1 ∧ o = 0) ∨ (k = 2 ∧ o = 1 ∧ b < a) ∨ (k = 2 ∧ o = 0 ∧ ¬ b < a) ∨ (k = 3 ∧ (o : Int) = rare3 a b c)

set_option maxRecDepth 100000 in
set_option maxHeartbeats 6400000 in
theorem rarestColor (A : Option Addr) (n cap : Nat) (w : World) (ps : List (Int × Int)) (hl : ps.length = n) (hn : n ≤ 1048576) (hp : PtsAt w w.heap.size A ps) :
    Calls Tryz.prog 34 #[.agg #[.slice A n cap]] w fun e w' => e = .returned (.int .i64 (rareI ps)) ∧ Below w.heap.size w w' := by
  obtain ⟨r, hr⟩ : ∃ r, rareI ps = r := ⟨_, rfl⟩
  have HR := Lib.hid hr
  rw [hr]
  clear hr
  have HE0 : Hid ((cntL ps).length = 0 → r = -1) := Lib.hid (fun h => by rw [← HR.out]; unfold rareI; rw [if_pos h])
  have HE1 : Hid ((cntL ps).length ≠ 0 → (cntL ps).length = 3 ∧ rare3 ((cntL ps).getD 0 0) ((cntL ps).getD 1 0) ((cntL ps).getD 2 0) = r) := Lib.hid (fun h => ⟨cnt_three h, by rw [← HR.out]; unfold rareI; rw [if_neg h]⟩)
  have QT : Hid (∀ W h, _) := Lib.hid fun W h => CntSpec.colorCounts A n cap W ps hl hn h
  unfold GivesI at QT
  generalize cntL ps = l at *
  obtain ⟨m, hlm⟩ : ∃ m, l.length = m := ⟨_, rfl⟩
  rw [hlm] at QT HE0 HE1
  clear HR
  go_enter Tryz.func34, Tryz.ntmps34
  go_wp2_with fail
  have X0 := Pts.boxR w (.slice A n cap) 30 (k := w.heap.size) (by simp)
  have b0 := PointOk.below1 w (Obj.cells #[.slice A n cap] 30)
  have HO : ∀ W W' : World, (Pts.BoxR W (w.heap.size) (.slice A n cap) ∧ PtsAt W w.heap.size A ps ∧ Below w.heap.size w W) → Below W.heap.size W W' → (Pts.BoxR W' (w.heap.size) (.slice A n cap) ∧ PtsAt W' w.heap.size A ps ∧ Below w.heap.size w W') := fun W W' ⟨h0, x0, hb⟩ h => ⟨h0.later h, x0.later (h.mono hb.size), hb.trans (h.mono hb.size)⟩
  have hz0_ : Hid (((w.alloc (Obj.cells #[.slice A n cap] 30))).heap.size = w.heap.size + 1) := Lib.hid (by simp)
  have Y0 : PtsAt ((w.alloc (Obj.cells #[.slice A n cap] 30))) w.heap.size A ps := hp.later b0
  generalize (w.alloc (Obj.cells #[.slice A n cap] 30)) = w0 at X0 Y0 b0 hz0_ ⊢
  have S0 := (⟨X0, Y0, b0⟩ : Pts.BoxR w0 (w.heap.size) (.slice A n cap) ∧ PtsAt w0 w.heap.size A ps ∧ Below w.heap.size w w0)
  clear X0 Y0 b0
  obtain ⟨⟨_, _⟩, _, _⟩ := id S0
  refine (QT.out _ (S0.2.1.wide S0.2.2.size)).mono ?_
  rintro e w2 ⟨A2, c2, rfl, h4, hb_⟩
  replace S0 := HO _ _ S0 hb_
  clear hb_ QT
  obtain ⟨⟨_, _⟩, _, _⟩ := id S0
  by_cases c0 : m = 0
  · subst c0
    have E : Hid (r = -1) := Lib.hid (HE0.out rfl)
    have hB := Lib.hid S0.2.2
    clear HE0 HE1 hl h4
    go_wp2_with fail
    go_ret
    exact ⟨ret_i64 E.out.symm, hB.out⟩
  obtain ⟨h3, hr3⟩ := HE1.out c0
  subst h3
  obtain ⟨a, b, c, rfl⟩ : ∃ a b c, l = [a, b, c] := (match l, hlm with | [a, b, c], _ => ⟨a, b, c, rfl⟩)
  have HE : Hid (r = rare3 a b c) := Lib.hid hr3.symm
  obtain ⟨g, rfl, _, _, q0, _⟩ := own_cell h4 (j := 0) (by omega) (x := .int .i64 a) rfl
  obtain ⟨g', e', _, _, q1, _⟩ := own_cell h4 (j := 1) (by omega) (x := .int .i64 b) rfl
  injection e' with e'
  injection e' with e'
  subst e'
  obtain ⟨g', e', _, _, q2, _⟩ := own_cell h4 (j := 2) (by omega) (x := .int .i64 c) rfl
  injection e' with e'
  injection e' with e'
  subst e'
  have hgl : g < w2.heap.size := World.block_lt_of_cell? _ _ q0
  clear HE0 HE1 hr3 h4 hl hlm
  have HO : ∀ W W' : World, ((W.cell? ⟨g, 0, none⟩ = some (.int .i64 a) ∧ W.cell? ⟨g, 1, none⟩ = some (.int .i64 b) ∧ W.cell? ⟨g, 2, none⟩ = some (.int .i64 c) ∧ g < W.heap.size) ∧ Below w.heap.size w W) → Below W.heap.size W W' → ((W'.cell? ⟨g, 0, none⟩ = some (.int .i64 a) ∧ W'.cell? ⟨g, 1, none⟩ = some (.int .i64 b) ∧ W'.cell? ⟨g, 2, none⟩ = some (.int .i64 c) ∧ g < W'.heap.size) ∧ Below w.heap.size w W') := fun W W' ⟨x0, hb⟩ h => ⟨⟨(h.cell x0.2.2.2).trans x0.1, (h.cell x0.2.2.2).trans x0.2.1, (h.cell x0.2.2.2).trans x0.2.2.1, Nat.lt_of_lt_of_le x0.2.2.2 h.size⟩, hb.trans (h.mono hb.size)⟩
  replace S0 : (w2.cell? ⟨g, 0, none⟩ = some (.int .i64 a) ∧ w2.cell? ⟨g, 1, none⟩ = some (.int .i64 b) ∧ w2.cell? ⟨g, 2, none⟩ = some (.int .i64 c) ∧ g < w2.heap.size) ∧ Below w.heap.size w w2 := ⟨⟨q0, q1, q2, hgl⟩, S0.2.2⟩
  clear q0 q1 q2 hgl
  obtain ⟨⟨_, _, _, _⟩, _⟩ := id S0
  go_wp2_with fail
  go_loopw [4, 5] (fun v q wr => ∃ k o : Nat, q = .int .i64 k ∧ v = .int .i64 o ∧ RareAt a b c k o ∧ ((wr.cell? ⟨g, 0, none⟩ = some (.int .i64 a) ∧ wr.cell? ⟨g, 1, none⟩ = some (.int .i64 b) ∧ wr.cell? ⟨g, 2, none⟩ = some (.int .i64 c) ∧ g < wr.heap.size) ∧ Below w.heap.size w wr))
    (fun _ q _ => 3 - (intOf q).toNat)
  case atStart => exact ⟨1, 0, rfl, rfl, .inl ⟨rfl, rfl⟩, S0⟩
  case round =>
    clear S0
    obtain ⟨k, o, rfl, rfl, hc, S0⟩ := hrel
    obtain ⟨⟨_, _, _, _⟩, _⟩ := id S0
    rcases hc with ⟨rfl, rfl⟩ | ⟨rfl, rfl, hba⟩ | ⟨rfl, rfl, hba⟩ | ⟨rfl, ho⟩
    · clear HE
      by_cases h : b < a
      · have N : RareAt a b c 2 1 := .inr (.inl ⟨rfl, rfl, h⟩)
        go_wp2_with fail
        refine Settle.region (fun W => (W.cell? ⟨g, 0, none⟩ = some (.int .i64 a) ∧ W.cell? ⟨g, 1, none⟩ = some (.int .i64 b) ∧ W.cell? ⟨g, 2, none⟩ = some (.int .i64 c) ∧ g < W.heap.size) ∧ Below w.heap.size w W) (by kernel_rfl) (by kernel_rfl) (by kernel_rfl) (by kernel_rfl) (HO _ _ S0 ((Below.refl _ _).drew)) ?_
        clear S0
        repeat (first
          | (refine Settle.Settles.off (by rfl) ?_; simp only [Act.put, List.setIfInBounds_toArray, List.set_cons_zero, List.set_cons_succ])
          | (refine Settle.Settles.quiet (v := ?_) (by rfl) ?_ ?_
             rotate_left
             · (intro W hS; obtain ⟨⟨_, _, _, _⟩, _⟩ := hS; go_simp; with_reducible rfl)
             simp only [Act.put, List.setIfInBounds_toArray, List.set_cons_zero, List.set_cons_succ])
          | (refine Settle.Settles.call (v := ?_) (f := ?_) (args := ?_) (by rfl) ?_ ?_ ?_
             rotate_left 3
             · (intro W; go_simp; refine ⟨?_, ?_⟩ <;> with_reducible rfl)
             · (intro W hS; fail)
             simp only [Act.put, List.setIfInBounds_toArray, List.set_cons_zero, List.set_cons_succ]))
        refine Settle.Settles.nil ?_
        intro wr S0
        obtain ⟨⟨_, _, _, _⟩, _⟩ := id S0
        go_wp2_with fail
        first
          | exact ⟨⟨2, 1, rfl, rfl, N, S0⟩, by simp [intOf]⟩
          | (go_roundw <;> first | exact ⟨2, 1, rfl, rfl, N, S0⟩ | simp [intOf])
      · have N : RareAt a b c 2 0 := .inr (.inr (.inl ⟨rfl, rfl, h⟩))
        go_wp2_with fail
        refine Settle.region (fun W => (W.cell? ⟨g, 0, none⟩ = some (.int .i64 a) ∧ W.cell? ⟨g, 1, none⟩ = some (.int .i64 b) ∧ W.cell? ⟨g, 2, none⟩ = some (.int .i64 c) ∧ g < W.heap.size) ∧ Below w.heap.size w W) (by kernel_rfl) (by kernel_rfl) (by kernel_rfl) (by kernel_rfl) (HO _ _ S0 ((Below.refl _ _).drew)) ?_
        clear S0
        repeat (first
          | (refine Settle.Settles.off (by rfl) ?_; simp only [Act.put, List.setIfInBounds_toArray, List.set_cons_zero, List.set_cons_succ])
          | (refine Settle.Settles.quiet (v := ?_) (by rfl) ?_ ?_
             rotate_left
             · (intro W hS; obtain ⟨⟨_, _, _, _⟩, _⟩ := hS; go_simp; with_reducible rfl)
             simp only [Act.put, List.setIfInBounds_toArray, List.set_cons_zero, List.set_cons_succ])
          | (refine Settle.Settles.call (v := ?_) (f := ?_) (args := ?_) (by rfl) ?_ ?_ ?_
             rotate_left 3
             · (intro W; go_simp; refine ⟨?_, ?_⟩ <;> with_reducible rfl)
             · (intro W hS; fail)
             simp only [Act.put, List.setIfInBounds_toArray, List.set_cons_zero, List.set_cons_succ]))
        refine Settle.Settles.nil ?_
        intro wr S0
        obtain ⟨⟨_, _, _, _⟩, _⟩ := id S0
        go_wp2_with fail
        first
          | exact ⟨⟨2, 0, rfl, rfl, N, S0⟩, by simp [intOf]⟩
          | (go_roundw <;> first | exact ⟨2, 0, rfl, rfl, N, S0⟩ | simp [intOf])
    · clear HE
      by_cases h : c < b
      · have N : RareAt a b c 3 2 := .inr (.inr (.inr ⟨rfl, (by unfold rare3; rw [if_pos hba, if_pos h]; rfl)⟩))
        clear hba
        go_wp2_with fail
        refine Settle.region (fun W => (W.cell? ⟨g, 0, none⟩ = some (.int .i64 a) ∧ W.cell? ⟨g, 1, none⟩ = some (.int .i64 b) ∧ W.cell? ⟨g, 2, none⟩ = some (.int .i64 c) ∧ g < W.heap.size) ∧ Below w.heap.size w W) (by kernel_rfl) (by kernel_rfl) (by kernel_rfl) (by kernel_rfl) (HO _ _ S0 ((Below.refl _ _).drew)) ?_
        clear S0
        repeat (first
          | (refine Settle.Settles.off (by rfl) ?_; simp only [Act.put, List.setIfInBounds_toArray, List.set_cons_zero, List.set_cons_succ])
          | (refine Settle.Settles.quiet (v := ?_) (by rfl) ?_ ?_
             rotate_left
             · (intro W hS; obtain ⟨⟨_, _, _, _⟩, _⟩ := hS; go_simp; with_reducible rfl)
             simp only [Act.put, List.setIfInBounds_toArray, List.set_cons_zero, List.set_cons_succ])
          | (refine Settle.Settles.call (v := ?_) (f := ?_) (args := ?_) (by rfl) ?_ ?_ ?_
             rotate_left 3
             · (intro W; go_simp; refine ⟨?_, ?_⟩ <;> with_reducible rfl)
             · (intro W hS; fail)
             simp only [Act.put, List.setIfInBounds_toArray, List.set_cons_zero, List.set_cons_succ]))
        refine Settle.Settles.nil ?_
        intro wr S0
        obtain ⟨⟨_, _, _, _⟩, _⟩ := id S0
        go_wp2_with fail
        first
          | exact ⟨⟨3, 2, rfl, rfl, N, S0⟩, by simp [intOf]⟩
          | (go_roundw <;> first | exact ⟨3, 2, rfl, rfl, N, S0⟩ | simp [intOf])
      · have N : RareAt a b c 3 1 := .inr (.inr (.inr ⟨rfl, (by unfold rare3; rw [if_pos hba, if_neg h, if_pos hba]; rfl)⟩))
        clear hba
        go_wp2_with fail
        refine Settle.region (fun W => (W.cell? ⟨g, 0, none⟩ = some (.int .i64 a) ∧ W.cell? ⟨g, 1, none⟩ = some (.int .i64 b) ∧ W.cell? ⟨g, 2, none⟩ = some (.int .i64 c) ∧ g < W.heap.size) ∧ Below w.heap.size w W) (by kernel_rfl) (by kernel_rfl) (by kernel_rfl) (by kernel_rfl) (HO _ _ S0 ((Below.refl _ _).drew)) ?_
        clear S0
        repeat (first
          | (refine Settle.Settles.off (by rfl) ?_; simp only [Act.put, List.setIfInBounds_toArray, List.set_cons_zero, List.set_cons_succ])
          | (refine Settle.Settles.quiet (v := ?_) (by rfl) ?_ ?_
             rotate_left
             · (intro W hS; obtain ⟨⟨_, _, _, _⟩, _⟩ := hS; go_simp; with_reducible rfl)
             simp only [Act.put, List.setIfInBounds_toArray, List.set_cons_zero, List.set_cons_succ])
          | (refine Settle.Settles.call (v := ?_) (f := ?_) (args := ?_) (by rfl) ?_ ?_ ?_
             rotate_left 3
             · (intro W; go_simp; refine ⟨?_, ?_⟩ <;> with_reducible rfl)
             · (intro W hS; fail)
             simp only [Act.put, List.setIfInBounds_toArray, List.set_cons_zero, List.set_cons_succ]))
        refine Settle.Settles.nil ?_
        intro wr S0
        obtain ⟨⟨_, _, _, _⟩, _⟩ := id S0
        go_wp2_with fail
        first
          | exact ⟨⟨3, 1, rfl, rfl, N, S0⟩, by simp [intOf]⟩
          | (go_roundw <;> first | exact ⟨3, 1, rfl, rfl, N, S0⟩ | simp [intOf])
    · clear HE
      by_cases h : c < a
      · have N : RareAt a b c 3 2 := .inr (.inr (.inr ⟨rfl, (by unfold rare3; rw [if_neg hba, if_pos h]; rfl)⟩))
        clear hba
        go_wp2_with fail
        refine Settle.region (fun W => (W.cell? ⟨g, 0, none⟩ = some (.int .i64 a) ∧ W.cell? ⟨g, 1, none⟩ = some (.int .i64 b) ∧ W.cell? ⟨g, 2, none⟩ = some (.int .i64 c) ∧ g < W.heap.size) ∧ Below w.heap.size w W) (by kernel_rfl) (by kernel_rfl) (by kernel_rfl) (by kernel_rfl) (HO _ _ S0 ((Below.refl _ _).drew)) ?_
        clear S0
        repeat (first
          | (refine Settle.Settles.off (by rfl) ?_; simp only [Act.put, List.setIfInBounds_toArray, List.set_cons_zero, List.set_cons_succ])
          | (refine Settle.Settles.quiet (v := ?_) (by rfl) ?_ ?_
             rotate_left
             · (intro W hS; obtain ⟨⟨_, _, _, _⟩, _⟩ := hS; go_simp; with_reducible rfl)
             simp only [Act.put, List.setIfInBounds_toArray, List.set_cons_zero, List.set_cons_succ])
          | (refine Settle.Settles.call (v := ?_) (f := ?_) (args := ?_) (by rfl) ?_ ?_ ?_
             rotate_left 3
             · (intro W; go_simp; refine ⟨?_, ?_⟩ <;> with_reducible rfl)
             · (intro W hS; fail)
             simp only [Act.put, List.setIfInBounds_toArray, List.set_cons_zero, List.set_cons_succ]))
        refine Settle.Settles.nil ?_
        intro wr S0
        obtain ⟨⟨_, _, _, _⟩, _⟩ := id S0
        go_wp2_with fail
        first
          | exact ⟨⟨3, 2, rfl, rfl, N, S0⟩, by simp [intOf]⟩
          | (go_roundw <;> first | exact ⟨3, 2, rfl, rfl, N, S0⟩ | simp [intOf])
      · have N : RareAt a b c 3 0 := .inr (.inr (.inr ⟨rfl, (by unfold rare3; rw [if_neg hba, if_neg h, if_neg hba]; rfl)⟩))
        clear hba
        go_wp2_with fail
        refine Settle.region (fun W => (W.cell? ⟨g, 0, none⟩ = some (.int .i64 a) ∧ W.cell? ⟨g, 1, none⟩ = some (.int .i64 b) ∧ W.cell? ⟨g, 2, none⟩ = some (.int .i64 c) ∧ g < W.heap.size) ∧ Below w.heap.size w W) (by kernel_rfl) (by kernel_rfl) (by kernel_rfl) (by kernel_rfl) (HO _ _ S0 ((Below.refl _ _).drew)) ?_
        clear S0
        repeat (first
          | (refine Settle.Settles.off (by rfl) ?_; simp only [Act.put, List.setIfInBounds_toArray, List.set_cons_zero, List.set_cons_succ])
          | (refine Settle.Settles.quiet (v := ?_) (by rfl) ?_ ?_
             rotate_left
             · (intro W hS; obtain ⟨⟨_, _, _, _⟩, _⟩ := hS; go_simp; with_reducible rfl)
             simp only [Act.put, List.setIfInBounds_toArray, List.set_cons_zero, List.set_cons_succ])
          | (refine Settle.Settles.call (v := ?_) (f := ?_) (args := ?_) (by rfl) ?_ ?_ ?_
             rotate_left 3
             · (intro W; go_simp; refine ⟨?_, ?_⟩ <;> with_reducible rfl)
             · (intro W hS; fail)
             simp only [Act.put, List.setIfInBounds_toArray, List.set_cons_zero, List.set_cons_succ]))
        refine Settle.Settles.nil ?_
        intro wr S0
        obtain ⟨⟨_, _, _, _⟩, _⟩ := id S0
        go_wp2_with fail
        first
          | exact ⟨⟨3, 0, rfl, rfl, N, S0⟩, by simp [intOf]⟩
          | (go_roundw <;> first | exact ⟨3, 0, rfl, rfl, N, S0⟩ | simp [intOf])
    · have E : Hid (r = (o : Int)) := Lib.hid (by rw [HE.out, ho])
      clear HE ho
      go_wp2_with fail
      go_ret
      exact ⟨ret_i64 E.out.symm, S0.2⟩
end Go.Proofs.YtkcodmafakjkfaaGreat.RareSpec

/-
  What the model's ColorGuards does, as a contract: the corners of the rarest color, in new memory.
-/
namespace Go.Proofs.YtkcodmafakjkfaaGreat.CgdSpec
open Go.RowKit Own PointMath WallMath RoomMath Pts Blk AreaMath PlaceMath FloorMath LineMath CutsMath SightMath DiagMath TriMath TrisMath ColMath ColRun CntMath CgdMath Ints Tup3 TriRow
open PointOk (ret_bool ret_i64 below1 below2 below3)

theorem infoI : (Tryz.prog.info? 3).map (fun i => (i.zero, i.size, i.bytes)) = some (some (.int .i64 0), 1, 8) := by kernel_rfl
/-- append of one number, and where the new slice lies. -/
theorem append_at (w : World) {ops : Array Oper} {rest : List Oper} {o : Oper} {a : Act} {Q : Exit → Act → World → Prop} (hgd : o.guard = none) (s x : Operand)
    (ho : o.op = .call { callee := .builtin .append, args := #[s, x], argTypes := #[43, 43] })
    (B : Nat) (v : Value) (n : Nat) (xs : List Value) (hs : a.eval s = v) (hown : w.ownsRow B 3 1 v n xs)
    (z : Int) (hx : a.eval x = .slice (some ⟨w.heap.size, 0, none⟩) 1 1) (hN : n ≤ 1048575) (hB : B ≤ w.heap.size)
    (h : ∀ v' w', w'.ownsRow B 3 1 v' (n + 1) (xs ++ [.int .i64 z]) → w.grownBy w' v.ownBlock → (v'.ownBlock = v.ownBlock ∨ v'.ownBlock = some (w.heap.size + 1)) → wpList Tryz.prog ops Q rest (a.put o.dst v') w') :
    wpList Tryz.prog ops Q (o :: rest) a (w.alloc (Obj.cells #[.int .i64 z] 3)) := by
  obtain ⟨i0, hi, hz0, hz1, hz2⟩ := info_parts infoI
  refine wpList_append_own_at _ hgd s x 43 ho B 3 i0 (.int .i64 0) 1 8 Tryz.underlying43 hi hz0 hz1 hz2 rfl (by decide) v n xs hs (hown.alloc _) ⟨w.heap.size, 0, none⟩ 1 1 [.int .i64 z] hx rfl ?c1 ?c2 ?c3 ?c4 ?c5 ?_
  case c1 => (intro j u hj; match j, hj with | 0, hj => (simp at hj; subst hj; simp [Addr.add]))
  case c2 => (intro u hu; simp at hu; subst hu; rfl)
  case c3 => (unfold maxLen; omega)
  case c4 => omega
  case c5 => (simp; omega)
  intro v1 wa ho1 hg1 _ hloc
  refine h v1 wa ho1 (grown_trans (grown_of_below (below1 w _) _) hg1) ?_
  rcases hloc with h8 | h8
  · exact .inl h8
  · refine .inr ?_
    rw [h8]
    simp

set_option maxRecDepth 100000 in
set_option maxHeartbeats 6400000 in
theorem colorGuards (A : Option Addr) (n cap : Nat) (w : World) (ps : List (Int × Int)) (hl : ps.length = n) (hn : n ≤ 1048576) (hp : PtsAt w w.heap.size A ps) :
    Calls Tryz.prog 39 #[.agg #[.slice A n cap]] w (GivesI 3 w (cgdL ps)) := by
  obtain ⟨r, hr⟩ : ∃ r, cgdL ps = r := ⟨_, rfl⟩
  have HR := Lib.hid hr
  rw [hr]
  clear hr
  have HE : Hid (thatTo (fun k => decide ((colL ps).getD k 0 = rareI ps)) (colL ps).length = r) := Lib.hid HR.out
  have hle : (colL ps).length ≤ 1048576 := Nat.le_trans (colL_le ps) (by omega)
  have QC : Hid (∀ W h, _) := Lib.hid fun W h => ColSpec.colorsOf A n cap W ps hl hn h
  have QR : Hid (∀ W h, _) := Lib.hid fun W h => RareSpec.rarestColor A n cap W ps hl hn h
  unfold GivesI at QC
  generalize colL ps = l at *
  generalize rareI ps = rr at *
  obtain ⟨m, hlm⟩ : ∃ m, l.length = m := ⟨_, rfl⟩
  rw [hlm] at QC HE hle
  clear HR
  go_enter Tryz.func39, Tryz.ntmps39
  go_wp2_with fail
  have X0 := Pts.boxR w (.slice A n cap) 30 (k := w.heap.size) (by simp)
  have b0 := PointOk.below1 w (Obj.cells #[.slice A n cap] 30)
  have HO : ∀ W W' : World, (Pts.BoxR W (w.heap.size) (.slice A n cap) ∧ PtsAt W w.heap.size A ps ∧ Below w.heap.size w W) → Below W.heap.size W W' → (Pts.BoxR W' (w.heap.size) (.slice A n cap) ∧ PtsAt W' w.heap.size A ps ∧ Below w.heap.size w W') := fun W W' ⟨h0, x0, hb⟩ h => ⟨h0.later h, x0.later (h.mono hb.size), hb.trans (h.mono hb.size)⟩
  have hz0_ : Hid (((w.alloc (Obj.cells #[.slice A n cap] 30))).heap.size = w.heap.size + 1) := Lib.hid (by simp)
  have Y0 : PtsAt ((w.alloc (Obj.cells #[.slice A n cap] 30))) w.heap.size A ps := hp.later b0
  generalize (w.alloc (Obj.cells #[.slice A n cap] 30)) = w0 at X0 Y0 b0 hz0_ ⊢
  have S0 := (⟨X0, Y0, b0⟩ : Pts.BoxR w0 (w.heap.size) (.slice A n cap) ∧ PtsAt w0 w.heap.size A ps ∧ Below w.heap.size w w0)
  clear X0 Y0 b0
  obtain ⟨⟨_, _⟩, _, _⟩ := id S0
  have hz0 : w.heap.size + 1 ≤ w0.heap.size := World.block_lt_of_cell? _ _ S0.1.1
  have hb0 := below1 w0 (Obj.cells #[] 3)
  have R0 := own_base (own_empty w0 3 1) (show w.heap.size ≤ w0.heap.size by omega)
  replace S0 := HO _ _ S0 hb0
  have hz1 := Nat.le_trans hz0 hb0.size
  have hzz : w0.heap.size < (w0.alloc (Obj.cells #[] 3)).heap.size := by simp
  generalize w0.alloc (Obj.cells #[] 3) = w1 at *
  rw [hz0_.out] at R0 hzz
  clear hb0 hz0
  obtain ⟨⟨_, _⟩, _, _⟩ := id S0
  refine (QC.out _ (S0.2.1.wide S0.2.2.size)).mono ?_
  rintro e w2 ⟨A2, c2, rfl, h4, hb_⟩
  have hap : ∀ g a, (Value.slice (some ⟨w.heap.size + 1, 0, none⟩) 0 0).ownBlock = some g → (Value.slice A2 m c2).ownBlock = some a → g ≠ a := fun g a hg ha e => by
    have e1 : w.heap.size + 1 = g := by simpa [Value.ownBlock] using hg
    have h1 := (h4.lt a ha).1
    have h2 := hzz
    omega
  replace R0 := own_below R0 hb_
  replace S0 := HO _ _ S0 hb_
  replace hz1 := Nat.le_trans hz1 hb_.size
  have L2 := own_base h4 (show w.heap.size ≤ w1.heap.size by omega)
  clear hb_ QC h4
  obtain ⟨⟨_, _⟩, _, _⟩ := id S0
  go_wp2_with fail
  refine (QR.out _ (S0.2.1.wide S0.2.2.size)).mono ?_
  rintro e w3 ⟨rfl, hb_⟩
  replace R0 := own_below R0 hb_
  replace S0 := HO _ _ S0 hb_
  replace hz1 := Nat.le_trans hz1 hb_.size
  replace L2 := own_below L2 hb_
  clear hb_ QR
  go_wp2_with fail
  have R0 := Lib.hid R0
  have hap := Lib.hid hap
  go_loopw [3, 6] (fun v q wr => ∃ k : Nat, k ≤ m ∧ q = .int .i64 k ∧ Hid (wr.ownsRow w.heap.size 3 1 v (thatTo (fun k => decide (l.getD k 0 = rr)) k).length (icells (thatTo (fun k => decide (l.getD k 0 = rr)) k))) ∧ w.heap.size + 1 ≤ wr.heap.size ∧ Hid (wr.ownsRow w.heap.size 3 1 (.slice A2 m c2) m (icells l)) ∧ Hid (∀ g a, v.ownBlock = some g → (Value.slice A2 m c2).ownBlock = some a → g ≠ a) ∧ Below w.heap.size w wr)
    (fun _ q _ => m - (intOf q).toNat)
  case atStart => exact ⟨0, Nat.zero_le _, rfl, R0, hz1, Lib.hid L2, hap, S0.2.2⟩
  case round =>
    clear R0 hz1 S0 L2 hap
    obtain ⟨k, hkm, rfl, hown, hsz, hL, hap, hbw⟩ := hrel
    by_cases hlt : k < m
    rotate_left
    · obtain rfl : m = k := by omega
      rw [HE.out] at hown
      obtain ⟨A1, c1, rfl⟩ := own_shape hown.out
      obtain ⟨q, hq⟩ : ∃ q, r.length = q := ⟨_, rfl⟩
      rw [hq] at hown ⊢
      clear HE hL hap
      go_wp2_with fail
      go_ret
      subst hq
      exact ⟨A1, c1, rfl, hown.out, hbw⟩
    have k0 : (0 : Int) ≤ (k : Int) := by omega
    have k1 : (k : Int) < (m : Int) := by omega
    have p0 := getD_at (l := l) (j := k) (by omega)
    have HT : Hid (thatTo (fun k => decide (l.getD k 0 = rr)) (k + 1) = if decide (l.getD k 0 = rr) then thatTo (fun k => decide (l.getD k 0 = rr)) k ++ [(k : Int)] else thatTo (fun k => decide (l.getD k 0 = rr)) k) := Lib.hid rfl
    have hlen := thatTo_len (fun k => decide (l.getD k 0 = rr)) k
    obtain ⟨x, hx⟩ : ∃ x, l.getD k 0 = x := ⟨_, rfl⟩
    rw [hx] at p0 HT
    obtain ⟨ad, rfl, bA, pA⟩ := (CntSpec.ints_own hL.out).get p0
    obtain ⟨_, _⟩ := id pA
    obtain ⟨cur, hcur⟩ : ∃ c, thatTo (fun k => decide (l.getD k 0 = rr)) k = c := ⟨_, rfl⟩
    rw [hcur] at HT hown hlen
    obtain ⟨q, hq⟩ : ∃ q, cur.length = q := ⟨_, rfl⟩
    rw [hq] at hown hlen
    obtain ⟨nxt, hnxt⟩ : ∃ c, thatTo (fun k => decide (l.getD k 0 = rr)) (k + 1) = c := ⟨_, rfl⟩
    rw [hnxt] at HT
    have HN := Lib.hid hnxt
    clear HE p0 hx pA hcur hnxt
    by_cases e : x = rr
    · have g1 : (x == rr) = true := by simpa using e
      rw [decide_eq_true e, if_pos rfl] at HT
      have hq2 : Hid (nxt.length = q + 1 ∧ icells nxt = icells cur ++ [.int .i64 (k : Int)]) := Lib.hid ⟨by rw [HT.out]; simp [hq], by rw [HT.out, icells_snoc]⟩
      clear HT e hq
      go_wp2_with (at_builtin; refine append_at _ (by rfl) _ _ (by rfl) w.heap.size _ q _ (by rfl) hown.out (k : Int) (by rfl) (by omega) (by omega) ?_)
      intro v5 w7 h5 hg7 hloc
      rw [← hq2.out.2] at h5
      have h6 : Hid (w7.ownsRow w.heap.size 3 1 v5 nxt.length (icells nxt)) := Lib.hid (by rw [hq2.out.1]; exact h5)
      rw [← HN.out] at h6
      have hL7 := Lib.hid (kept_apart hL.out hg7 (fun a g ha hg e => hap.out g a hg ha e.symm))
      have hap7 : Hid (∀ g a, v5.ownBlock = some g → (Value.slice (some ad) m c2).ownBlock = some a → g ≠ a) := Lib.hid (fun g a hg ha => by
        rcases hloc with h8 | h8
        · rw [h8] at hg; exact hap.out g a hg ha
        · rw [h8] at hg
          injection hg with hg
          have := (hL.out.lt a ha).2
          omega)
      have hb7 := hbw.grown hg7 (by omega) (fun g hg => (hown.out.lt g hg).1)
      have hz7 := Nat.le_trans hsz hg7.size
      clear h5 hg7 hloc hown hL hap hbw hsz HN hq2 bA
      go_wp2_with fail
      first
        | exact ⟨⟨k + 1, by omega, by go_num, h6, hz7, hL7, hap7, hb7⟩, by simp [intOf]; omega⟩
        | (go_roundw <;> first | exact ⟨k + 1, by omega, by go_num, h6, hz7, hL7, hap7, hb7⟩ | (simp [intOf]; omega))
    · have g1 : (x == rr) = false := by simpa using e
      rw [decide_eq_false e, if_neg (by simp)] at HT
      have h6 : Hid (wr.ownsRow w.heap.size 3 1 u3 nxt.length (icells nxt)) := Lib.hid (by rw [HT.out, hq]; exact hown.out)
      rw [← HN.out] at h6
      clear HT e hq hown HN bA
      go_wp2_with fail
      first
        | exact ⟨⟨k + 1, by omega, by go_num, h6, hsz, hL, hap, hbw⟩, by simp [intOf]; omega⟩
        | (go_roundw <;> first | exact ⟨k + 1, by omega, by go_num, h6, hsz, hL, hap, hbw⟩ | (simp [intOf]; omega))
end Go.Proofs.YtkcodmafakjkfaaGreat.CgdSpec
