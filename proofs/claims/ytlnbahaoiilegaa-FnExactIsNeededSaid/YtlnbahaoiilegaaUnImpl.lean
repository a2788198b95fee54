/-
  What the landed unseenBy, UnseenBy and SeesAll do, as contracts: what each answers; new memory alone is written.
-/
import Derived.Test.YtlnbahaoiilegaaInImpl
import Derived.Test.YtlnbahaoiilegaaUnMath
import Derived.Test.YtlnbahaoiilegaaPtSet
import Derived.Laws.EntriesVeiled
import Derived.Carry
namespace Go.Proofs.Ytlnbahaoiilegaa.UnImpl
open Go.RowKit Own PointMath WallMath RoomMath Pts Blk AreaMath PlaceMath FloorMath LineMath CutsMath SightMath KernMath FiltMath UnMath PtSet FromImpl
open PointOk (ret_bool ret_i64 below1 below2 below3)
open FiltImpl (infoP cellsP_app pts_own)

/-- A function value that lies in a block of its own. -/
def FnAt (w : World) (c : Nat) (v : Value) : Prop := w.cell? ⟨c, 0, none⟩ = some v ∧ True
theorem FnAt.later {w w' : World} {c : Nat} {v : Value} (h : FnAt w c v) (hb : Below w.heap.size w w') : FnAt w' c v :=
  ⟨(hb.cell (World.block_lt_of_cell? _ _ h.1)).trans h.1, trivial⟩

set_option maxRecDepth 100000 in
set_option maxHeartbeats 1600000 in
theorem asksNot (ax ay x y : Int) (C1 C2 C3 : Nat) (Ad : Option Addr) (n cd : Nat) (w : World) (ps : List (Int × Int)) (hl : ps.length = n) (ha : inB ps ax ay = true) (hb : inB ps x y = true)
    (h1 : Pts.BoxR w C1 (.slice Ad n cd)) (h2 : PointOk.Box w C2 ax ay) (hq : PtsAt w w.heap.size Ad (dblL ps))
    (h3 : FnAt w C3 (.func (.func 104) #[] #[.pointer (some ⟨C1, 0, none⟩), .pointer (some ⟨C2, 0, none⟩)])) :
    Calls Try.prog 97 #[.agg #[.int .i64 x, .int .i64 y], .pointer (some ⟨C3, 0, none⟩)] w fun e w' => e = .returned (.bool (!seesM ps (ax, ay) (x, y))) ∧ Below w.heap.size w w' := by
  have Q := Lib.hid fun w h1 h2 hq => asks ax ay x y C1 C2 Ad n cd w ps hl ha hb h1 h2 hq
  generalize seesM ps (ax, ay) (x, y) = r at *
  clear ha hb hl
  obtain ⟨c3_, _⟩ := h3.later (below1 w (Obj.cells #[.int .i64 x, .int .i64 y] 54))
  have x0_ := PointOk.box1 w x y 54 (k := w.heap.size) rfl
  obtain ⟨_, _⟩ := id x0_
  go_enter Try.func97, Try.ntmps97
  go_wp2_with fail
  have X0 := PointOk.box1 w x y 54 (k := w.heap.size) (by simp)
  have b0 := PointOk.below1 w (Obj.cells #[.int .i64 x, .int .i64 y] 54)
  have HO : ∀ W W' : World, (PointOk.Box W (w.heap.size) x y ∧ Pts.BoxR W C1 (.slice Ad n cd) ∧ PointOk.Box W C2 ax ay ∧ PtsAt W w.heap.size Ad (dblL ps) ∧ FnAt W C3 (.func (.func 104) #[] #[.pointer (some ⟨C1, 0, none⟩), .pointer (some ⟨C2, 0, none⟩)]) ∧ Below w.heap.size w W) → Below W.heap.size W W' → (PointOk.Box W' (w.heap.size) x y ∧ Pts.BoxR W' C1 (.slice Ad n cd) ∧ PointOk.Box W' C2 ax ay ∧ PtsAt W' w.heap.size Ad (dblL ps) ∧ FnAt W' C3 (.func (.func 104) #[] #[.pointer (some ⟨C1, 0, none⟩), .pointer (some ⟨C2, 0, none⟩)]) ∧ Below w.heap.size w W') := fun W W' ⟨h0, x0, x1, x2, x3, hb⟩ h => ⟨h0.later h, x0.later h, x1.later h, x2.later (h.mono hb.size), x3.later h, hb.trans (h.mono hb.size)⟩
  have hz0_ : Hid (((w.alloc (Obj.cells #[.int .i64 x, .int .i64 y] 54))).heap.size = w.heap.size + 1) := Lib.hid (by simp)
  have Y0 : Pts.BoxR ((w.alloc (Obj.cells #[.int .i64 x, .int .i64 y] 54))) C1 (.slice Ad n cd) := h1.later b0
  have Y1 : PointOk.Box ((w.alloc (Obj.cells #[.int .i64 x, .int .i64 y] 54))) C2 ax ay := h2.later b0
  have Y2 : PtsAt ((w.alloc (Obj.cells #[.int .i64 x, .int .i64 y] 54))) w.heap.size Ad (dblL ps) := hq.later b0
  have Y3 : FnAt ((w.alloc (Obj.cells #[.int .i64 x, .int .i64 y] 54))) C3 (.func (.func 104) #[] #[.pointer (some ⟨C1, 0, none⟩), .pointer (some ⟨C2, 0, none⟩)]) := h3.later b0
  generalize (w.alloc (Obj.cells #[.int .i64 x, .int .i64 y] 54)) = w0 at X0 Y0 Y1 Y2 Y3 b0 hz0_ ⊢
  have S0 := (⟨X0, Y0, Y1, Y2, Y3, b0⟩ : PointOk.Box w0 (w.heap.size) x y ∧ Pts.BoxR w0 C1 (.slice Ad n cd) ∧ PointOk.Box w0 C2 ax ay ∧ PtsAt w0 w.heap.size Ad (dblL ps) ∧ FnAt w0 C3 (.func (.func 104) #[] #[.pointer (some ⟨C1, 0, none⟩), .pointer (some ⟨C2, 0, none⟩)]) ∧ Below w.heap.size w w0)
  clear X0 Y0 Y1 Y2 Y3 b0
  obtain ⟨⟨_, _⟩, ⟨_, _⟩, ⟨_, _⟩, _, ⟨_, _⟩, _⟩ := id S0
  clear h1 h2 hq h3
  refine (Q.out _ S0.2.1 S0.2.2.1 (S0.2.2.2.1.wide S0.2.2.2.2.2.size)).mono ?_
  rintro e w4 ⟨rfl, hb_⟩
  replace S0 := HO _ _ S0 hb_
  clear hb_ Q
  go_wp2_with fail
  go_ret
  exact ⟨rfl, S0.2.2.2.2.2⟩

set_option maxRecDepth 100000 in
set_option maxHeartbeats 6400000 in
theorem unseenBy (A : Option Addr) (n cap : Nat) (B : Option Addr) (m cb : Nat) (w : World) (ps : List (Int × Int)) (hl : ps.length = n) (hn : n ≤ 1048576) (hp : PtsAt w w.heap.size A ps) (gs : List (Int × Int)) (hl2 : gs.length = m) (hn2 : m ≤ 1048576) (hq : PtsAt w w.heap.size B gs) (hall : allIn ps gs = true) :
    Calls Try.prog 63 #[.agg #[.slice A n cap], .slice B m cb] w (GivesC 54 2 w (unL ps gs).length (cellsP (unL ps gs))) := by
  have hmm := @run_makeMap Try.prog
  have hmf : ∀ (fn : Fn) (first cap : Array Value) (w : World), (Instr.makeFunc fn first cap).run Try.prog w = .ok (.func fn first cap) w := fun _ _ _ _ => rfl
  obtain ⟨r, hr⟩ : ∃ r, unL ps gs = r := ⟨_, rfl⟩
  have HR := Lib.hid hr
  rw [hr]
  clear hr
  have HE : Hid (restTo ps gs (floorL ps) m = r) := Lib.hid (by rw [← HR.out, ← hl2, ← un_rest]; unfold unL; rw [hall]; rfl)
  have ha := Lib.hid (allIn_at hall)
  have hin : Hid (∀ p, p ∈ floorL ps → inB ps p.1 p.2 = true) := Lib.hid (fun p hp => floorL_in hp)
  have QF : Hid (∀ w hp, _) := Lib.hid fun w hp => FloorImpl.floorPoints A n cap w ps hl hn hp
  have hle := floorL_le ps
  have hy := roomB_yes ha.out.1
  have hn10 : n ≤ 10 := by omega
  have hok := Lib.hid hy.2.1
  clear HR hall hy
  generalize floorL ps = l at *
  unfold GivesC at QF
  go_enter Try.func63, Try.ntmps63
  go_wp2_with fail
  have X0 := Pts.boxR w (.slice A n cap) 30 (k := w.heap.size) (by simp)
  have b0 := PointOk.below1 w (Obj.cells #[.slice A n cap] 30)
  have HO : ∀ W W' : World, (Pts.BoxR W (w.heap.size) (.slice A n cap) ∧ PtsAt W w.heap.size A ps ∧ PtsAt W w.heap.size B gs ∧ Below w.heap.size w W) → Below W.heap.size W W' → (Pts.BoxR W' (w.heap.size) (.slice A n cap) ∧ PtsAt W' w.heap.size A ps ∧ PtsAt W' w.heap.size B gs ∧ Below w.heap.size w W') := fun W W' ⟨h0, x0, x1, hb⟩ h => ⟨h0.later h, x0.later (h.mono hb.size), x1.later (h.mono hb.size), hb.trans (h.mono hb.size)⟩
  have hz0_ : Hid (((w.alloc (Obj.cells #[.slice A n cap] 30))).heap.size = w.heap.size + 1) := Lib.hid (by simp)
  have Y0 : PtsAt ((w.alloc (Obj.cells #[.slice A n cap] 30))) w.heap.size A ps := hp.later b0
  have Y1 : PtsAt ((w.alloc (Obj.cells #[.slice A n cap] 30))) w.heap.size B gs := hq.later b0
  generalize (w.alloc (Obj.cells #[.slice A n cap] 30)) = w0 at X0 Y0 Y1 b0 hz0_ ⊢
  have S0 := (⟨X0, Y0, Y1, b0⟩ : Pts.BoxR w0 (w.heap.size) (.slice A n cap) ∧ PtsAt w0 w.heap.size A ps ∧ PtsAt w0 w.heap.size B gs ∧ Below w.heap.size w w0)
  clear X0 Y0 Y1 b0
  obtain ⟨⟨_, _⟩, _, _, _⟩ := id S0
  have HO2 : ∀ W W' : World, (Pts.BoxR W (w.heap.size) (.slice A n cap) ∧ PtsAt W w.heap.size A ps ∧ PtsAt W w.heap.size B gs ∧ Below w.heap.size w W) → Below (w.heap.size + 1) W W' → (Pts.BoxR W' (w.heap.size) (.slice A n cap) ∧ PtsAt W' w.heap.size A ps ∧ PtsAt W' w.heap.size B gs ∧ Below w.heap.size w W') := fun W W' ⟨h0, h1, h2, hb⟩ h => ⟨⟨(h.cell (by simp)).trans h0.1, trivial⟩, h1.later (h.mono (by omega)), h2.later (h.mono (by omega)), hb.trans (h.mono (by omega))⟩
  have hz1_ := hz0_.out
  refine (QF.out _ (S0.2.1.wide S0.2.2.2.size)).mono ?_
  rintro e w1 ⟨Al, cl, rfl, HL, hb_⟩
  replace S0 := HO _ _ S0 hb_
  have hsz : w.heap.size + 1 ≤ w1.heap.size := by have := hb_.size; omega
  replace HL := own_base HL (b' := w.heap.size) (by omega)
  clear hb_ QF
  have HM := made w1
  have hD : Hid (∀ i, (Value.slice Al l.length cl).ownBlock = some i → i ≠ w1.heap.size) := Lib.hid (fun i h => by have := (HL.lt i h).2; omega)
  have b1_ : Below w1.heap.size w1 (w1.alloc (.map #[] 0)) := (Below.refl _ _).alloc (Nat.le_refl _) _
  replace S0 := HO _ _ S0 b1_
  replace HL := own_below HL b1_
  have hlt0 : w1.heap.size < (w1.alloc (.map #[] 0)).heap.size := by simp
  clear b1_
  replace HL := Lib.hid HL
  replace HM := Lib.hid HM
  obtain ⟨⟨_, _⟩, _, _, _⟩ := id S0
  go_wp2_with fail
  generalize w1.alloc (.map #[] 0) = v0 at *
  generalize w1.heap.size = bm at *
  replace HM : Hid (SetAt v0 bm 0 (askedTo gs 0)) := HM
  go_loopw [5, 15] (fun v q wr => ∃ k : Nat, k ≤ m ∧ q = .int .i64 k ∧ wr.ownsRow w.heap.size 54 2 v (restTo ps gs l k).length (cellsP (restTo ps gs l k)) ∧ SetAt wr bm k (askedTo gs k) ∧ Hid (∀ i, v.ownBlock = some i → i ≠ bm) ∧ bm < wr.heap.size ∧ (Pts.BoxR wr (w.heap.size) (.slice A n cap) ∧ PtsAt wr w.heap.size A ps ∧ PtsAt wr w.heap.size B gs ∧ Below w.heap.size w wr))
    (fun _ q _ => m - (intOf q).toNat)
  case atStart => exact ⟨0, Nat.zero_le _, rfl, by rw [rest_zero]; exact HL.out, HM.out, hD, hlt0, S0⟩
  case round =>
    clear S0 HL HM hD hlt0
    obtain ⟨k, hkm, rfl, hown, hset, hD, hbm, S0⟩ := hrel
    obtain ⟨⟨_, _⟩, _, _, _⟩ := id S0
    by_cases hlt : k < m
    rotate_left
    · obtain rfl : m = k := by omega
      rw [HE.out] at hown
      have hown2 := Lib.hid hown
      obtain ⟨A1, c1, rfl⟩ := own_shape hown
      clear hl hl2 hown HE hset hD
      go_wp2_with fail
      go_ret
      exact ⟨A1, c1, rfl, hown2.out, S0.2.2.2⟩
    have hk1 : (k : Int) < (m : Int) := by omega
    have hk0 : (0 : Int) ≤ (k : Int) := by omega
    have p0 := pt_at (ps := gs) (k := k) (by omega)
    have in0 := ha.out.2 k (by omega)
    have hrl := rest_le ps gs l k
    have hrin : Hid (∀ j, j < (restTo ps gs l k).length → inB ps (pt (restTo ps gs l k) j).1 (pt (restTo ps gs l k) j).2 = true) := Lib.hid (fun j hj => hin.out _ (rest_mem (pt_mem hj)))
    have HR1 := Lib.hid (rest_succ ps gs l k)
    have HR2 := Lib.hid (fun h => rest_same (ps := ps) (gs := gs) (l := l) (k := k) h)
    have HA1 := Lib.hid (fun h => asked_same (gs := gs) (k := k) h)
    have HA2 : Hid (askedTo gs (k + 1) = fun p => decide (p = pt gs k) || askedTo gs k p) := Lib.hid rfl
    obtain ⟨gx, gy, hg⟩ : ∃ x y, pt gs k = (x, y) := ⟨_, _, rfl⟩
    rw [hg] at p0 in0 HR1 HR2 HA1 HA2
    have hpg := okP_yes (inB_parts in0).2
    have wx := wf_small (x := gx) (by omega)
    have wy := wf_small (x := gy) (by omega)
    generalize restTo ps gs l k = l0 at *
    generalize askedTo gs k = f0 at *
    obtain ⟨q0, hq0⟩ : ∃ x, l0.length = x := ⟨_, rfl⟩
    rw [hq0] at hown hrl hrin
    obtain ⟨Ao, co, rfl⟩ := own_shape hown
    obtain ⟨ad, eA, bA, pA⟩ := S0.2.2.1.get p0
    subst eA
    obtain ⟨_, _⟩ := id pA
    have X3 := Blk.Holds.box wr #[.int .i64 gx, .int .i64 gy] 54 (k := wr.heap.size) rfl
    have b1_ := below1 wr (Obj.cells #[.int .i64 gx, .int .i64 gy] 54)
    replace S0 := HO _ _ S0 b1_
    replace hown := own_below hown b1_
    replace hset := hset.later b1_
    obtain ⟨⟨_, _⟩, _⟩ := Blk.Holds.two X3
    obtain ⟨kb, hkb⟩ : ∃ K, wr.heap.size = K := ⟨_, rfl⟩
    have hkz : kb < (wr.alloc (Obj.cells #[.int .i64 gx, .int .i64 gy] 54)).heap.size := by simp; omega
    have hbk : bm < kb := by omega
    clear b1_ p0 pA hg
    have QS : Hid (∀ w hp, _) := Lib.hid fun w hp => sightFrom A n cap gx gy w ps hl hn10 hok.out hp
    unfold Asks at QS
    have HF : Hid (filtTo (fun j => !seesM ps (gx, gy) (pt l0 j)) l0 q0 = restTo ps gs l (k + 1)) := Lib.hid (by rw [HR1.out, ← filt_all, hq0])
    have hszv : w.heap.size + 1 ≤ (wr.alloc (Obj.cells #[.int .i64 gx, .int .i64 gy] 54)).heap.size := by omega
    replace hown := Lib.hid hown
    replace hset := Lib.hid hset
    have hwl : ∀ k, (k : Int) = k := fun _ => rfl
    obtain ⟨o, ho⟩ : ∃ o, f0 (gx, gy) = o := ⟨_, rfl⟩
    cases o
    rotate_left
    · have R := Lib.hid (HR2.out ho)
      have Aq := Lib.hid (HA1.out ho)
      clear QS HF hrin
      go_wp2_with (at_lookup; refine wpList_lookup_set _ rfl _ _ 108 rfl Try.underlying108 bm k f0 rfl hset.out gx gy rfl wx wy true ho ?_)
      first
        | exact ⟨⟨k + 1, by omega, by go_num, by rw [R.out, hq0]; exact hown.out, by rw [Aq.out]; exact hset.out.mono (Nat.le_succ _), hD, by omega, S0⟩, by simp [intOf]; omega⟩
        | (go_roundw <;> first | exact ⟨k + 1, by omega, by go_num, by rw [R.out, hq0]; exact hown.out, by rw [Aq.out]; exact hset.out.mono (Nat.le_succ _), hD, by omega, S0⟩ | (simp [intOf]; omega))
    go_wp2_with (first | (at_lookup; refine wpList_lookup_set _ rfl _ _ 108 rfl Try.underlying108 bm k f0 rfl hset.out gx gy rfl wx wy false ho ?_) | (at_mapUpdate; refine wpList_update_set _ rfl _ _ _ 108 rfl Try.underlying108 bm k f0 rfl hset.out (by unfold maxLen; omega) gx gy rfl wx wy rfl ?_))
    intro w5 hset5 hg5
    have hw5 : Below (w.heap.size + 1) (wr.alloc (Obj.cells #[.int .i64 gx, .int .i64 gy] 54)) w5 := (Below.refl _ _).grown hg5 hszv (fun i hi => by injection hi with hi; omega)
    replace S0 := HO2 _ _ S0 hw5
    replace hown := kept_ne hown.out hg5 (fun i hi => hD.out i hi)
    have X5 : Blk.Holds w5 kb #[.int .i64 gx, .int .i64 gy] 54 := (hg5.block kb hkz (fun h => by injection h with h; omega)).trans (by rw [← hkb]; exact X3)
    rw [← HA2.out] at hset5
    have hbm5 : bm < w5.heap.size := by have := hw5.size; omega
    obtain ⟨⟨_, _⟩, _⟩ := Blk.Holds.two X5
    obtain ⟨⟨_, _⟩, _, _, _⟩ := id S0
    clear hset hw5 hg5 X3 HA1 HA2 HR1 HR2 ho hszv
    replace hown := Lib.hid hown
    replace hset5 := Lib.hid hset5
    go_wp2_with fail
    refine (QS.out _ (S0.2.1.wide S0.2.2.2.size)).mono ?_
    rintro e w6 ⟨C1, C2, Ad, cd, rfl, h1_, h2_, hq_, hb_⟩
    have b7_ := below1 w6 (Obj.cells #[(.func (.func 104) #[] #[.pointer (some ⟨C1, 0, none⟩), .pointer (some ⟨C2, 0, none⟩)])] 79)
    have hb6 := hb_.trans (b7_.mono hb_.size)
    replace S0 := HO _ _ S0 hb6
    replace hown := Lib.hid (own_below hown.out hb6)
    replace hset5 := Lib.hid (hset5.out.later hb6)
    have hbm7 : bm < w6.heap.size := by have := hb_.size; omega
    replace h1_ := h1_.later b7_
    replace h2_ := h2_.later b7_
    replace hq_ := (hq_.later b7_).wide b7_.size
    have X7 := Blk.Holds.box w6 #[(.func (.func 104) #[] #[.pointer (some ⟨C1, 0, none⟩), .pointer (some ⟨C2, 0, none⟩)])] 79 (k := w6.heap.size) rfl
    have H3 : FnAt (w6.alloc (Obj.cells #[(.func (.func 104) #[] #[.pointer (some ⟨C1, 0, none⟩), .pointer (some ⟨C2, 0, none⟩)])] 79)) w6.heap.size (.func (.func 104) #[] #[.pointer (some ⟨C1, 0, none⟩), .pointer (some ⟨C2, 0, none⟩)]) := ⟨(Blk.Holds.one X7).1, trivial⟩
    obtain ⟨_, _⟩ := Blk.Holds.one X7
    obtain ⟨c3, hc3⟩ : ∃ K, w6.heap.size = K := ⟨_, rfl⟩
    obtain ⟨⟨_, _⟩, _, _, _⟩ := id S0
    have hsz7 : c3 < (w6.alloc (Obj.cells #[(.func (.func 104) #[] #[.pointer (some ⟨C1, 0, none⟩), .pointer (some ⟨C2, 0, none⟩)])] 79)).heap.size := by simp; omega
    clear b7_ hb6 hb_ X5 QS
    have hbc : bm < c3 := by omega
    clear hbm7
    have QG := Lib.hid fun W => FiltImpl.filtered 97 #[.pointer (some ⟨c3, 0, none⟩)] (fun j => !seesM ps (gx, gy) (pt l0 j)) Ao q0 co W l0 hq0 (by omega)
    unfold GivesC at QG
    rw [HF.out] at QG
    go_wp2_with fail
    rw [hc3] at H3
    refine (QG.out _ (pts_own hown.out) Try.call97 (fun W j hj hb => asksNot gx gy (pt l0 j).1 (pt l0 j).2 C1 C2 c3 Ad n cd W ps hl in0 (hrin.out j hj) (h1_.later hb) (h2_.later hb) ((hq_.later hb).wide hb.size) (H3.later hb))).mono ?_
    rintro e w8 ⟨A8, c8, rfl, h8, hb8⟩
    replace S0 := HO _ _ S0 hb8
    have hD8 : Hid (∀ i, (Value.slice A8 (restTo ps gs l (k + 1)).length c8).ownBlock = some i → i ≠ bm) := Lib.hid (fun i hi => by have := (h8.lt i hi).1; omega)
    replace h8 := Lib.hid (own_base h8 (b' := w.heap.size) (by omega))
    replace hset5 := Lib.hid (hset5.out.later hb8)
    have hbm8 : bm < w8.heap.size := by have := hb8.size; omega
    clear hb8 hown QG H3 h1_ h2_ hq_ X7 HF
    go_wp2_with fail
    first
      | exact ⟨⟨k + 1, by omega, by go_num, h8.out, hset5.out, hD8, hbm8, S0⟩, by simp [intOf]; omega⟩
      | (go_roundw <;> first | exact ⟨k + 1, by omega, by go_num, h8.out, hset5.out, hD8, hbm8, S0⟩ | (simp [intOf]; omega))
set_option maxRecDepth 100000 in
set_option maxHeartbeats 1600000 in
theorem seesAll (A : Option Addr) (n cap : Nat) (B : Option Addr) (m cb : Nat) (w : World) (ps : List (Int × Int)) (hl : ps.length = n) (hn : n ≤ 1048576) (hp : PtsAt w w.heap.size A ps) (gs : List (Int × Int)) (hl2 : gs.length = m) (hn2 : m ≤ 1048576) (hq : PtsAt w w.heap.size B gs) :
    Calls Try.prog 38 #[.agg #[.slice A n cap], .slice B m cb] w fun e w' => e = .returned (.bool (seesAllB ps gs)) ∧ Below w.heap.size w w' := by
  obtain ⟨r, hr⟩ : ∃ r, seesAllB ps gs = r := ⟨_, rfl⟩
  have HR := Lib.hid hr
  rw [hr]
  clear hr
  go_enter Try.func38, Try.ntmps38
  go_wp2_with fail
  have X0 := Pts.boxR w (.slice A n cap) 30 (k := w.heap.size) (by simp)
  have b0 := PointOk.below1 w (Obj.cells #[.slice A n cap] 30)
  have HO : ∀ W W' : World, (Pts.BoxR W (w.heap.size) (.slice A n cap) ∧ PtsAt W w.heap.size A ps ∧ PtsAt W w.heap.size B gs ∧ Below w.heap.size w W) → Below W.heap.size W W' → (Pts.BoxR W' (w.heap.size) (.slice A n cap) ∧ PtsAt W' w.heap.size A ps ∧ PtsAt W' w.heap.size B gs ∧ Below w.heap.size w W') := fun W W' ⟨h0, x0, x1, hb⟩ h => ⟨h0.later h, x0.later (h.mono hb.size), x1.later (h.mono hb.size), hb.trans (h.mono hb.size)⟩
  have hz0_ : Hid (((w.alloc (Obj.cells #[.slice A n cap] 30))).heap.size = w.heap.size + 1) := Lib.hid (by simp)
  have Y0 : PtsAt ((w.alloc (Obj.cells #[.slice A n cap] 30))) w.heap.size A ps := hp.later b0
  have Y1 : PtsAt ((w.alloc (Obj.cells #[.slice A n cap] 30))) w.heap.size B gs := hq.later b0
  generalize (w.alloc (Obj.cells #[.slice A n cap] 30)) = w0 at X0 Y0 Y1 b0 hz0_ ⊢
  have S0 := (⟨X0, Y0, Y1, b0⟩ : Pts.BoxR w0 (w.heap.size) (.slice A n cap) ∧ PtsAt w0 w.heap.size A ps ∧ PtsAt w0 w.heap.size B gs ∧ Below w.heap.size w w0)
  clear X0 Y0 Y1 b0
  obtain ⟨⟨_, _⟩, _, _, _⟩ := id S0
  refine (InImpl.areIn A n cap B m cb _ ps hl hn (S0.2.1.wide S0.2.2.2.size) gs hl2 hn2 (S0.2.2.1.wide S0.2.2.2.size)).mono ?_
  rintro e w1 ⟨rfl, hb_⟩
  replace S0 := HO _ _ S0 hb_
  clear hb_
  obtain ⟨⟨_, _⟩, _, _, _⟩ := id S0
  cases hi : allIn ps gs
  · have E : Hid (r = false) := Lib.hid (by rw [← HR.out]; unfold seesAllB; rw [hi]; rfl)
    clear hl hl2 HR
    go_wp2_with fail
    go_ret
    exact ⟨ret_bool E.out.symm, S0.2.2.2⟩
  have E : Hid (r = decide ((unL ps gs).length = 0)) := Lib.hid (by rw [← HR.out]; unfold seesAllB; rw [hi]; rfl)
  have Q : Hid (∀ w hp hq, _) := Lib.hid fun w hp hq => unseenBy A n cap B m cb w ps hl hn hp gs hl2 hn2 hq hi
  unfold GivesC at Q
  generalize unL ps gs = l at *
  generalize cellsP l = cs at *
  generalize l.length = z at *
  clear hl hl2 HR hi
  go_wp2_with fail
  refine (Q.out _ (S0.2.1.wide S0.2.2.2.size) (S0.2.2.1.wide S0.2.2.2.size)).mono ?_
  rintro e w5 ⟨A2, c2, rfl, _, hb_⟩
  replace S0 := HO _ _ S0 hb_
  clear hb_ Q
  go_wp2_with fail
  go_ret
  exact ⟨ret_bool (by rw [E.out, Bool.eq_iff_iff]; simp), S0.2.2.2⟩

end Go.Proofs.Ytlnbahaoiilegaa.UnImpl

