/-
  What PointsOf does, as a contract: the points of the corners that a list of numbers names, in new memory.
-/
import Derived.Test.YtlnbahaoiilegaaFiltImpl
import Derived.Test.YtlnbahaoiilegaaWallOfImpl
import Derived.Test.YtlnbahaoiilegaaRoomOkImpl
import Derived.Test.YtlnbahaoiilegaaFacts
import Derived.Test.YtlnbahaoiilegaaGround
namespace Go.Proofs.Ytlnbahaoiilegaa.PtofImpl
open Go.RowKit Own PointMath WallMath RoomMath Pts Blk AreaMath PlaceMath FloorMath LineMath CutsMath KernMath PtofMath Ints
open PointOk (ret_bool ret_i64 below1 below2 below3)
open FiltImpl (infoP cellsP_app)

set_option maxRecDepth 100000 in
set_option maxHeartbeats 6400000 in
theorem pointsOf (A : Option Addr) (n cap : Nat) (B : Option Addr) (m cb : Nat) (w : World) (ps : List (Int × Int)) (hl : ps.length = n) (hn : n ≤ 1048576) (hp : PtsAt w w.heap.size A ps) (zs : List Int) (hl2 : zs.length = m) (hn2 : m ≤ 1048576) (hq : IntsAt w w.heap.size B zs) :
    Calls Try.prog 39 #[.agg #[.slice A n cap], .slice B m cb] w (GivesC 54 2 w (ptofL ps zs).length (cellsP (ptofL ps zs))) := by
  obtain ⟨r, hr⟩ : ∃ r, ptofL ps zs = r := ⟨_, rfl⟩
  have HR := Lib.hid hr
  rw [hr]
  clear hr
  obtain ⟨i0, hi, hz0, hz1, hz2⟩ := info_parts infoP
  have u1 : IntKind.i64.wrap ((n : Int) - 1) = (n : Int) - 1 := IntWalk.i64_in _ (by omega)
  go_enter Try.func39, Try.ntmps39
  go_wp2_with fail
  have X0 := Pts.boxR w (.slice A n cap) 30 (k := w.heap.size) (by simp)
  have b0 := PointOk.below1 w (Obj.cells #[.slice A n cap] 30)
  have HO : ∀ W W' : World, (Pts.BoxR W (w.heap.size) (.slice A n cap) ∧ PtsAt W w.heap.size A ps ∧ IntsAt W w.heap.size B zs ∧ Below w.heap.size w W) → Below W.heap.size W W' → (Pts.BoxR W' (w.heap.size) (.slice A n cap) ∧ PtsAt W' w.heap.size A ps ∧ IntsAt W' w.heap.size B zs ∧ Below w.heap.size w W') := fun W W' ⟨h0, x0, x1, hb⟩ h => ⟨h0.later h, x0.later (h.mono hb.size), x1.later (h.mono hb.size), hb.trans (h.mono hb.size)⟩
  have hz0_ : Hid (((w.alloc (Obj.cells #[.slice A n cap] 30))).heap.size = w.heap.size + 1) := Lib.hid (by simp)
  have Y0 : PtsAt ((w.alloc (Obj.cells #[.slice A n cap] 30))) w.heap.size A ps := hp.later b0
  have Y1 : IntsAt ((w.alloc (Obj.cells #[.slice A n cap] 30))) w.heap.size B zs := hq.later b0
  generalize (w.alloc (Obj.cells #[.slice A n cap] 30)) = w0 at X0 Y0 Y1 b0 hz0_ ⊢
  have S0 := (⟨X0, Y0, Y1, b0⟩ : Pts.BoxR w0 (w.heap.size) (.slice A n cap) ∧ PtsAt w0 w.heap.size A ps ∧ IntsAt w0 w.heap.size B zs ∧ Below w.heap.size w w0)
  clear X0 Y0 Y1 b0
  obtain ⟨⟨_, _⟩, _, _, _⟩ := id S0
  have HO2 : ∀ W W' : World, (Pts.BoxR W (w.heap.size) (.slice A n cap) ∧ PtsAt W w.heap.size A ps ∧ IntsAt W w.heap.size B zs ∧ Below w.heap.size w W) → Below (w.heap.size + 1) W W' → (Pts.BoxR W' (w.heap.size) (.slice A n cap) ∧ PtsAt W' w.heap.size A ps ∧ IntsAt W' w.heap.size B zs ∧ Below w.heap.size w W') := fun W W' ⟨h0, h1, h2, hb⟩ h => ⟨⟨(h.cell (by simp)).trans h0.1, trivial⟩, h1.later (h.mono (by omega)), h2.later (h.mono (by omega)), hb.trans (h.mono (by omega))⟩
  refine (RoomOkImpl.roomOk A n cap _ ps hl hn (S0.2.1.wide S0.2.2.2.size)).mono ?_
  rintro e w1 ⟨rfl, hb_⟩
  replace S0 := HO _ _ S0 hb_
  clear hb_
  obtain ⟨⟨_, _⟩, _, _, _⟩ := id S0
  cases hr : roomB ps
  · have E : Hid (r = []) := Lib.hid (by rw [← HR.out]; exact ptof_room hr)
    clear hl hl2 HR
    go_wp2_with fail
    go_ret
    exact ⟨none, 0, by rw [E.out]; rfl, by rw [E.out]; exact World.ownsRow_nil _ _ _ _, S0.2.2.2⟩
  have hsz : Hid (w.heap.size + 1 ≤ w1.heap.size) := Lib.hid (World.block_lt_of_cell? _ _ S0.1.1)
  go_wp2_with fail
  go_loopw [5, 13] (fun v q wr => ∃ k : Nat, k ≤ m ∧ q = .int .i64 k ∧ Hid (∀ j, j < k → inN ps.length (at0 zs j) = true) ∧ wr.ownsRow (w.heap.size + 1) 54 2 v k (cellsP (ptTo ps zs k)) ∧ w.heap.size + 1 ≤ wr.heap.size ∧ (Pts.BoxR wr (w.heap.size) (.slice A n cap) ∧ PtsAt wr w.heap.size A ps ∧ IntsAt wr w.heap.size B zs ∧ Below w.heap.size w wr))
    (fun _ q _ => m - (intOf q).toNat)
  case atStart => exact ⟨0, Nat.zero_le _, rfl, Lib.hid (fun j hj => absurd hj (by omega)), World.ownsRow_nil _ _ _ _, hsz.out, S0⟩
  case round =>
    clear S0 hsz
    obtain ⟨k, hkm, rfl, hall, hown, hsz, S0⟩ := hrel
    obtain ⟨⟨_, _⟩, _, _, _⟩ := id S0
    by_cases hlt : k < m
    rotate_left
    · obtain rfl : m = k := by omega
      have E : Hid (ptTo ps zs m = r) := Lib.hid (by rw [← HR.out, ptof_end (.inr hr) (by rw [hl2]; exact hall.out), hl2])
      rw [E.out] at hown
      have hlr : r.length = m := by rw [← E.out]; exact ptTo_len ps zs m
      have hown2 := Lib.hid hown
      obtain ⟨A1, c1, rfl⟩ := own_shape hown
      clear hl hl2 hown HR E hall hr
      go_wp2_with fail
      go_ret
      exact ⟨A1, c1, by rw [hlr] <;> rfl, by rw [hlr]; exact own_base hown2.out (by omega), S0.2.2.2⟩
    have hk1 : (k : Int) < (m : Int) := by omega
    have hk0 : (0 : Int) ≤ (k : Int) := by omega
    have p0 := at0_at (zs := zs) (k := k) (by omega)
    have HS : Hid (ptTo ps zs (k + 1) = ptTo ps zs k ++ [pt ps (at0 zs k).toNat]) := Lib.hid rfl
    have hcl := ptTo_len ps zs k
    have hout := Lib.hid (fun h => ptof_out (ps := ps) (zs := zs) (k := k) (by omega) h)
    have hlast : Hid (inN ps.length (at0 zs k) = true → ∀ j, j < k + 1 → inN ps.length (at0 zs j) = true) := Lib.hid (fun h j hj => by
      rcases Nat.lt_or_ge j k with h1 | h1
      · exact hall.out j h1
      · obtain rfl : j = k := by omega
        exact h)
    generalize ptTo ps zs k = l0 at *
    obtain ⟨z, hz⟩ : ∃ z, at0 zs k = z := ⟨_, rfl⟩
    rw [hz] at p0 HS hout hlast
    obtain ⟨bd, eB, bB, pB⟩ := S0.2.2.1.get p0
    subst eB
    obtain ⟨Ao, co, rfl⟩ := own_shape hown
    clear p0 hz
    replace hown := Lib.hid hown
    replace hsz := Lib.hid hsz
    have HO : ∀ W W' : World, (BoxR W w.heap.size (.slice A n cap) ∧ PtsAt W w.heap.size A ps ∧ IntsAt W w.heap.size (some bd) zs ∧ IntAt W bd k z ∧ W.ownsRow (w.heap.size + 1) 54 2 (.slice Ao k co) k (cellsP l0) ∧ w.heap.size + 1 ≤ W.heap.size ∧ Below w.heap.size w W) → Below W.heap.size W W' → (BoxR W' w.heap.size (.slice A n cap) ∧ PtsAt W' w.heap.size A ps ∧ IntsAt W' w.heap.size (some bd) zs ∧ IntAt W' bd k z ∧ W'.ownsRow (w.heap.size + 1) 54 2 (.slice Ao k co) k (cellsP l0) ∧ w.heap.size + 1 ≤ W'.heap.size ∧ Below w.heap.size w W') := fun W W' ⟨x0, x1, x2, x3, x4, x5, hb⟩ h => ⟨x0.later h, x1.later (h.mono hb.size), x2.later (h.mono hb.size), x3.later bB (h.mono hb.size), own_below x4 h, Nat.le_trans x5 h.size, hb.trans (h.mono hb.size)⟩
    replace S0 : BoxR wr w.heap.size (.slice A n cap) ∧ PtsAt wr w.heap.size A ps ∧ IntsAt wr w.heap.size (some bd) zs ∧ IntAt wr bd k z ∧ wr.ownsRow (w.heap.size + 1) 54 2 (.slice Ao k co) k (cellsP l0) ∧ w.heap.size + 1 ≤ wr.heap.size ∧ Below w.heap.size w wr := ⟨S0.1, S0.2.1, S0.2.2.1, pB, hown.out, hsz.out, S0.2.2.2⟩
    clear pB hown hsz
    obtain ⟨⟨_, _⟩, _, _, ⟨_, _⟩, _, _, _⟩ := id S0
    go_wp2_with fail
    refine (WallOfImpl.hasCorner A n cap z _).mono ?_
    rintro e w4 ⟨rfl, hb_⟩
    replace S0 := HO _ _ S0 hb_
    clear hb_
    obtain ⟨⟨_, _⟩, _, _, ⟨_, _⟩, _, _, _⟩ := id S0
    obtain ⟨c, hc⟩ : ∃ c, decide (0 ≤ z ∧ z < (n : Int)) = c := ⟨_, rfl⟩
    have eI : inN ps.length z = c := by rw [inN_lt, hl]; exact hc
    rw [hc]
    cases c
    · have E : Hid (r = []) := Lib.hid (by rw [← HR.out]; exact hout.out eI)
      clear hout hlast HS HR hl hl2 hall eI hc
      go_wp2_with fail
      go_ret
      exact ⟨none, 0, by rw [E.out]; rfl, by rw [E.out]; exact World.ownsRow_nil _ _ _ _, S0.2.2.2.2.2.2⟩
    replace hall := Lib.hid (hlast.out eI)
    have hin := of_decide_eq_true hc
    obtain ⟨i, rfl⟩ := Int.eq_ofNat_of_zero_le hin.1
    have hi1 : (i : Int) < (n : Int) := by omega
    have hi0 : (0 : Int) ≤ (i : Int) := by omega
    have p1 := pt_at (ps := ps) (k := i) (by omega)
    rw [Int.toNat_natCast] at HS
    obtain ⟨x, y, hx⟩ : ∃ x y, pt ps i = (x, y) := ⟨_, _, rfl⟩
    rw [hx] at p1 HS
    obtain ⟨ad, eA, bA, pA⟩ := S0.2.1.get p1
    subst eA
    obtain ⟨_, _⟩ := id pA
    have hown2 := S0.2.2.2.2.1
    have hszB : w.heap.size + 1 ≤ w4.heap.size := S0.2.2.2.2.2.1
    clear pA p1 hx hout hlast eI hc hin HR hl hl2
    go_wp2_with (at_builtin; refine wpList_append_own _ rfl _ _ 28 rfl (w.heap.size + 1) 54 i0 (.agg #[.int .i64 0, .int .i64 0]) 2 16 Try.underlying28 hi hz0 hz1 hz2 rfl (by decide) _ _ _ rfl (hown2.alloc _) ⟨w4.heap.size, 0, none⟩ 1 1 [.int .i64 x, .int .i64 y] rfl rfl ?c1 ?c2 ?c3 ?c4 ?c5 ?_)
    try (case c1 => (intro a u ha; match a, ha with | 0, ha => (simp at ha; subst ha; simp [Addr.add]) | 1, ha => (simp at ha; subst ha; simp [Addr.add])))
    case c2 => (first | exact ⟨rfl, rfl⟩ | (intro u hu; simp at hu; rcases hu with rfl | rfl <;> rfl))
    case c3 => (unfold maxLen; omega)
    case c4 => omega
    case c5 => (first | omega | (simp; omega))
    intro v1_ wa_ ho_ hg_ _
    have HN : Hid (wa_.ownsRow (w.heap.size + 1) 54 2 v1_ (k + 1) (cellsP (ptTo ps zs (k + 1))) ∧ w.heap.size + 1 ≤ wa_.heap.size ∧ (Pts.BoxR wa_ (w.heap.size) (.slice (some ad) n cap) ∧ PtsAt wa_ w.heap.size (some ad) ps ∧ IntsAt wa_ w.heap.size (some bd) zs ∧ Below w.heap.size w wa_)) := Lib.hid (by
      have hb0 : Below (w.heap.size + 1) w4 (w4.alloc (Obj.cells #[.int .i64 x, .int .i64 y] 54)) := (below1 _ _).mono hszB
      have hb1 := hb0.grown hg_ (by simp; omega) (fun g hg => (hown2.lt g hg).1)
      rw [HS.out, cellsP_app]
      exact ⟨ho_, Nat.le_trans hszB hb1.size, HO2 _ _ ⟨S0.1, S0.2.1, S0.2.2.1, S0.2.2.2.2.2.2⟩ hb1⟩)
    clear ho_ hg_ hown2 HS S0
    go_wp2_with fail
    first
      | exact ⟨⟨k + 1, by omega, by go_num, hall, HN.out.1, HN.out.2.1, HN.out.2.2⟩, by simp [intOf]; omega⟩
      | (go_roundw <;> first | exact ⟨k + 1, by omega, by go_num, hall, HN.out.1, HN.out.2.1, HN.out.2.2⟩ | (simp [intOf]; omega))

end Go.Proofs.Ytlnbahaoiilegaa.PtofImpl

