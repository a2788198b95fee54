/-
  What PointsOf does, as a contract: the points of the corners that a list of numbers names, in new memory.
-/
import Derived.Test.YtlnbahaoiilegaaSeenSpec
import Derived.Test.YtlnbahaoiilegaaFacts
import Derived.Test.YtlnbahaoiilegaaGround
namespace Go.Proofs.Ytlnbahaoiilegaa.PtofSpec
open Go.RowKit Own PointMath WallMath RoomMath Pts Blk AreaMath PlaceMath FloorMath LineMath CutsMath KernMath PtofMath Ints
open PointOk (ret_bool ret_i64 below1 below2 below3)
open SightSpec (infoP cellsP_app)

set_option maxRecDepth 100000 in
set_option maxHeartbeats 6400000 in
theorem pointsOf (A : Option Addr) (n cap : Nat) (B : Option Addr) (m cb : Nat) (w : World) (ps : List (Int × Int)) (hl : ps.length = n) (hn : n ≤ 1048576) (hp : PtsAt w w.heap.size A ps) (zs : List Int) (hl2 : zs.length = m) (hn2 : m ≤ 1048576) (hq : IntsAt w w.heap.size B zs) :
    Calls Try.prog 35 #[.agg #[.slice A n cap], .slice B m cb] w (GivesC 54 2 w (ptofL ps zs).length (cellsP (ptofL ps zs))) := by
  obtain ⟨r, hr⟩ : ∃ r, ptofL ps zs = r := ⟨_, rfl⟩
  have HR := Lib.hid hr
  rw [hr]
  clear hr
  obtain ⟨i0, hi, hz0, hz1, hz2⟩ := info_parts infoP
  have u1 : IntKind.i64.wrap ((n : Int) - 1) = (n : Int) - 1 := IntWalk.i64_in _ (by omega)
  go_enter Try.func35, Try.ntmps35
  go_wp2_with fail
  have X0 := Pts.boxR w (.slice A n cap) 30 (k := w.heap.size) (by simp)
  have b0 := PointOk.below1 w (Obj.cells #[.slice A n cap] 30)
  have HO : ∀ W W' : World, (Pts.BoxR W (w.heap.size) (.slice A n cap) ∧ PtsAt W w.heap.size A ps ∧ IntsAt W w.heap.size B zs ∧ Below w.heap.size w W) → Below W.heap.size W W' → (Pts.BoxR W' (w.heap.size) (.slice A n cap) ∧ PtsAt W' w.heap.size A ps ∧ IntsAt W' w.heap.size B zs ∧ Below w.heap.size w W') := fun W W' ⟨h0, x0, x1, hb⟩ h => ⟨h0.later h, x0.later (h.mono hb.size), x1.later (h.mono hb.size), hb.trans (h.mono hb.size)⟩
  have hz0_ : Hid (((w.alloc (Obj.cells #[.slice A n cap] 30))).heap.size = w.heap.size + 1) := Lib.hid (by simp)
  have Y0 : PtsAt ((w.alloc (Obj.cells #[.slice A n cap] 30))) w.heap.size A ps := hp.later b0
  have Y1 : IntsAt ((w.alloc (Obj.cells #[.slice A n cap] 30))) w.heap.size B zs := hq.later b0
  generalize (w.alloc (Obj.cells #[.slice A n cap] 30)) = w0 at X0 Y0 Y1 b0 hz0_ ⊢
  have S0 := (⟨X0, Y0, Y1, b0⟩ : Pts.BoxR w0 (w.heap.size) (.slice A n cap) ∧ PtsAt w0 w.heap.size A ps ∧ IntsAt w0 w.heap.size B zs ∧ Below w.heap.size w w0)
  clear X0 Y0 Y1 b0
  obtain ⟨⟨_, _⟩, _, _, _⟩ := id S0
  have HO2 : ∀ W W' : World, (Pts.BoxR W (w.heap.size) (.slice A n cap) ∧ PtsAt W w.heap.size A ps ∧ IntsAt W w.heap.size B zs ∧ Below w.heap.size w W) → Below (w.heap.size + 1) W W' → (Pts.BoxR W' (w.heap.size) (.slice A n cap) ∧ PtsAt W' w.heap.size A ps ∧ IntsAt W' w.heap.size B zs ∧ Below w.heap.size w W') := fun W W' ⟨h0, h1, h2, hb⟩ h => ⟨⟨(h.cell (by simp)).trans h0.1, trivial⟩, h1.later (h.mono (by omega)), h2.later (h.mono (by omega)), hb.trans (h.mono (by omega))⟩
  have hz1_ := hz0_.out
  have hown := own_empty w0 54 2
  rw [hz1_] at hown
  replace hown : (w0.alloc (Obj.cells #[] 54)).ownsRow (w.heap.size + 1) 54 2 (.slice (some ⟨w.heap.size + 1, 0, none⟩) 0 0) 0 [] := hown
  replace S0 := HO _ _ S0 (below1 w0 (Obj.cells #[] 54))
  have hsz : w.heap.size + 1 ≤ (w0.alloc (Obj.cells #[] 54)).heap.size := by simp; omega
  replace hown := Lib.hid hown
  replace hsz := Lib.hid hsz
  obtain ⟨⟨_, _⟩, _, _, _⟩ := id S0
  go_wp2_with fail
  generalize w0.alloc (Obj.cells #[] 54) = v0 at *
  go_loopw [5, 6] (fun v q wr => ∃ k : Nat, k ≤ m ∧ q = .int .i64 k ∧ (k = 0 ∨ roomB ps = true) ∧ Hid (∀ j, j < k → inN ps.length (at0 zs j) = true) ∧ wr.ownsRow (w.heap.size + 1) 54 2 v k (cellsP (ptTo ps zs k)) ∧ w.heap.size + 1 ≤ wr.heap.size ∧ (Pts.BoxR wr (w.heap.size) (.slice A n cap) ∧ PtsAt wr w.heap.size A ps ∧ IntsAt wr w.heap.size B zs ∧ Below w.heap.size w wr))
    (fun _ q _ => m - (intOf q).toNat)
  case atStart => exact ⟨0, Nat.zero_le _, rfl, .inl rfl, Lib.hid (fun j hj => absurd hj (by omega)), hown.out, hsz.out, S0⟩
  case round =>
    clear S0 hown hsz
    obtain ⟨k, hkm, rfl, hroom, hall, hown, hsz, S0⟩ := hrel
    obtain ⟨⟨_, _⟩, _, _, _⟩ := id S0
    by_cases hlt : k < m
    rotate_left
    · obtain rfl : m = k := by omega
      have E : Hid (ptTo ps zs m = r) := Lib.hid (by rw [← HR.out, ptof_end (by rw [hl2]; exact hroom) (by rw [hl2]; exact hall.out), hl2])
      rw [E.out] at hown
      have hlr : r.length = m := by rw [← E.out]; exact ptTo_len ps zs m
      have hown2 := Lib.hid hown
      obtain ⟨A1, c1, rfl⟩ := own_shape hown
      clear hl hl2 hown HR E hall hroom
      go_wp2_with fail
      go_ret
      exact ⟨A1, c1, by rw [hlr] <;> rfl, by rw [hlr]; exact own_base hown2.out (by omega), S0.2.2.2⟩
    have hk1 : (k : Int) < (m : Int) := by omega
    have hk0 : (0 : Int) ≤ (k : Int) := by omega
    have p0 := at0_at (zs := zs) (k := k) (by omega)
    have HS : Hid (ptTo ps zs (k + 1) = ptTo ps zs k ++ [pt ps (at0 zs k).toNat]) := Lib.hid rfl
    have hcl := ptTo_len ps zs k
    have hout := Lib.hid (fun h => ptof_out (ps := ps) (zs := zs) (k := k) (by omega) h)
    have hlast : Hid (inN ps.length (at0 zs k) = true → ∀ j, j < k + 1 → inN ps.length (at0 zs j) = true) := Lib.hid (fun h j hj => by
      rcases Nat.lt_or_ge j k with h1 | h1
      · exact hall.out j h1
      · obtain rfl : j = k := by omega
        exact h)
    generalize ptTo ps zs k = l0 at *
    obtain ⟨z, hz⟩ : ∃ z, at0 zs k = z := ⟨_, rfl⟩
    rw [hz] at p0 HS hout hlast
    obtain ⟨bd, eB, bB, pB⟩ := S0.2.2.1.get p0
    subst eB
    obtain ⟨Ao, co, rfl⟩ := own_shape hown
    clear p0 hz
    have Q1 : Hid (∀ w, _) := Lib.hid fun w => PointOk.l01In z 0 ((n : Int) - 1) w
    have Q2 : Hid (∀ w hp, _) := Lib.hid fun w hp => RoomOkSpec.roomOk A n cap w ps hl hn hp
    have eI : inN ps.length z = decide (0 ≤ z ∧ z ≤ (n : Int) - 1) := by rw [hl]; rfl
    obtain ⟨c, hc⟩ : ∃ c, decide (0 ≤ z ∧ z ≤ (n : Int) - 1) = c := ⟨_, rfl⟩
    rw [hc] at Q1 eI
    rw [eI] at hout hlast
    replace hown := Lib.hid hown
    replace hsz := Lib.hid hsz
    have HO : ∀ W W' : World, (BoxR W w.heap.size (.slice A n cap) ∧ PtsAt W w.heap.size A ps ∧ IntsAt W w.heap.size (some bd) zs ∧ IntAt W bd k z ∧ W.ownsRow (w.heap.size + 1) 54 2 (.slice Ao k co) k (cellsP l0) ∧ w.heap.size + 1 ≤ W.heap.size ∧ Below w.heap.size w W) → Below W.heap.size W W' → (BoxR W' w.heap.size (.slice A n cap) ∧ PtsAt W' w.heap.size A ps ∧ IntsAt W' w.heap.size (some bd) zs ∧ IntAt W' bd k z ∧ W'.ownsRow (w.heap.size + 1) 54 2 (.slice Ao k co) k (cellsP l0) ∧ w.heap.size + 1 ≤ W'.heap.size ∧ Below w.heap.size w W') := fun W W' ⟨x0, x1, x2, x3, x4, x5, hb⟩ h => ⟨x0.later h, x1.later (h.mono hb.size), x2.later (h.mono hb.size), x3.later bB (h.mono hb.size), own_below x4 h, Nat.le_trans x5 h.size, hb.trans (h.mono hb.size)⟩
    replace S0 : BoxR wr w.heap.size (.slice A n cap) ∧ PtsAt wr w.heap.size A ps ∧ IntsAt wr w.heap.size (some bd) zs ∧ IntAt wr bd k z ∧ wr.ownsRow (w.heap.size + 1) 54 2 (.slice Ao k co) k (cellsP l0) ∧ w.heap.size + 1 ≤ wr.heap.size ∧ Below w.heap.size w wr := ⟨S0.1, S0.2.1, S0.2.2.1, pB, hown.out, hsz.out, S0.2.2.2⟩
    clear pB hown hsz
    obtain ⟨⟨_, _⟩, _, _, ⟨_, _⟩, _, _, _⟩ := id S0
    cases c
    · have E : Hid (r = []) := Lib.hid (by rw [← HR.out]; exact hout.out rfl)
      clear hout hlast HS HR hl hl2 Q2 hall hroom eI hc
      go_wp2_with fail
      refine Settle.region (fun W => BoxR W w.heap.size (.slice A n cap) ∧ PtsAt W w.heap.size A ps ∧ IntsAt W w.heap.size (some bd) zs ∧ IntAt W bd k z ∧ W.ownsRow (w.heap.size + 1) 54 2 (.slice Ao k co) k (cellsP l0) ∧ w.heap.size + 1 ≤ W.heap.size ∧ Below w.heap.size w W) (by kernel_rfl) (by kernel_rfl) (by kernel_rfl) (by kernel_rfl) (HO _ _ S0 ((Below.refl _ _).drew)) ?_
      clear S0
      repeat (first
        | (refine Settle.Settles.off (by rfl) ?_; simp only [Act.put, List.setIfInBounds_toArray, List.set_cons_zero, List.set_cons_succ])
        | (refine Settle.Settles.quiet (v := ?_) (by rfl) ?_ ?_
           rotate_left
           · (intro W hS; obtain ⟨⟨_, _⟩, _, _, ⟨_, _⟩, _, _, _⟩ := hS; go_simp; with_reducible rfl)
           simp only [Act.put, List.setIfInBounds_toArray, List.set_cons_zero, List.set_cons_succ])
        | (refine Settle.Settles.call (v := ?_) (f := ?_) (args := ?_) (by rfl) ?_ ?_ ?_
           rotate_left 3
           · (intro W; go_simp; refine ⟨?_, ?_⟩ <;> with_reducible rfl)
           · (intro W hS; first | (go_at_call 36; (with_reducible refine (Q1.out _).mono ?_); rintro e W1 ⟨rfl, rfl⟩; refine ⟨?_, hS⟩; with_reducible rfl))
           simp only [Act.put, List.setIfInBounds_toArray, List.set_cons_zero, List.set_cons_succ]))
      refine Settle.Settles.nil ?_
      intro wr S0
      obtain ⟨⟨_, _⟩, _, _, ⟨_, _⟩, _, _, _⟩ := id S0
      go_wp2_with fail
      go_ret
      exact ⟨_, _, by rw [E.out]; rfl, by rw [E.out]; exact own_base (own_empty _ _ _) S0.2.2.2.2.2.2.size, S0.2.2.2.2.2.2.trans ((below1 _ _).mono S0.2.2.2.2.2.2.size)⟩
    obtain ⟨rb, hrb⟩ : ∃ b, roomB ps = b := ⟨_, rfl⟩
    rw [hrb] at Q2
    cases rb
    · have E : Hid (r = []) := Lib.hid (by rw [← HR.out]; exact ptof_room hrb)
      clear hout hlast HS HR hl hl2 hall hroom eI hc hrb
      go_wp2_with fail
      refine Settle.region (fun W => BoxR W w.heap.size (.slice A n cap) ∧ PtsAt W w.heap.size A ps ∧ IntsAt W w.heap.size (some bd) zs ∧ IntAt W bd k z ∧ W.ownsRow (w.heap.size + 1) 54 2 (.slice Ao k co) k (cellsP l0) ∧ w.heap.size + 1 ≤ W.heap.size ∧ Below w.heap.size w W) (by kernel_rfl) (by kernel_rfl) (by kernel_rfl) (by kernel_rfl) (HO _ _ S0 ((Below.refl _ _).drew)) ?_
      clear S0
      repeat (first
        | (refine Settle.Settles.off (by rfl) ?_; simp only [Act.put, List.setIfInBounds_toArray, List.set_cons_zero, List.set_cons_succ])
        | (refine Settle.Settles.quiet (v := ?_) (by rfl) ?_ ?_
           rotate_left
           · (intro W hS; obtain ⟨⟨_, _⟩, _, _, ⟨_, _⟩, _, _, _⟩ := hS; go_simp; with_reducible rfl)
           simp only [Act.put, List.setIfInBounds_toArray, List.set_cons_zero, List.set_cons_succ])
        | (refine Settle.Settles.call (v := ?_) (f := ?_) (args := ?_) (by rfl) ?_ ?_ ?_
           rotate_left 3
           · (intro W; go_simp; refine ⟨?_, ?_⟩ <;> with_reducible rfl)
           · (intro W hS; first | (go_at_call 36; (with_reducible refine (Q1.out _).mono ?_); rintro e W1 ⟨rfl, rfl⟩; refine ⟨?_, hS⟩; with_reducible rfl) | (go_at_call 41; (with_reducible refine (Q2.out _ (hS.2.1.wide hS.2.2.2.2.2.2.size)).mono ?_); rintro e W1 ⟨rfl, hb⟩; refine ⟨?_, HO _ _ hS hb⟩; with_reducible rfl))
           simp only [Act.put, List.setIfInBounds_toArray, List.set_cons_zero, List.set_cons_succ]))
      refine Settle.Settles.nil ?_
      intro wr S0
      obtain ⟨⟨_, _⟩, _, _, ⟨_, _⟩, _, _, _⟩ := id S0
      go_wp2_with fail
      go_ret
      exact ⟨_, _, by rw [E.out]; rfl, by rw [E.out]; exact own_base (own_empty _ _ _) S0.2.2.2.2.2.2.size, S0.2.2.2.2.2.2.trans ((below1 _ _).mono S0.2.2.2.2.2.2.size)⟩
    replace hall := Lib.hid (hlast.out rfl)
    have hin := of_decide_eq_true hc
    obtain ⟨i, rfl⟩ := Int.eq_ofNat_of_zero_le hin.1
    have hi1 : (i : Int) < (n : Int) := by omega
    have hi0 : (0 : Int) ≤ (i : Int) := by omega
    have p1 := pt_at (ps := ps) (k := i) (by omega)
    rw [Int.toNat_natCast] at HS
    obtain ⟨x, y, hx⟩ : ∃ x y, pt ps i = (x, y) := ⟨_, _, rfl⟩
    rw [hx] at p1 HS
    obtain ⟨ad, eA, bA, pA⟩ := S0.2.1.get p1
    subst eA
    have HO : ∀ W W' : World, (BoxR W w.heap.size (.slice (some ad) n cap) ∧ PtsAt W w.heap.size (some ad) ps ∧ IntsAt W w.heap.size (some bd) zs ∧ IntAt W bd k (i : Int) ∧ PtAt W ad i x y ∧ W.ownsRow (w.heap.size + 1) 54 2 (.slice Ao k co) k (cellsP l0) ∧ w.heap.size + 1 ≤ W.heap.size ∧ Below w.heap.size w W) → Below W.heap.size W W' → (BoxR W' w.heap.size (.slice (some ad) n cap) ∧ PtsAt W' w.heap.size (some ad) ps ∧ IntsAt W' w.heap.size (some bd) zs ∧ IntAt W' bd k (i : Int) ∧ PtAt W' ad i x y ∧ W'.ownsRow (w.heap.size + 1) 54 2 (.slice Ao k co) k (cellsP l0) ∧ w.heap.size + 1 ≤ W'.heap.size ∧ Below w.heap.size w W') := fun W W' ⟨x0, x1, x2, x3, x4, x5, x6, hb⟩ h => ⟨x0.later h, x1.later (h.mono hb.size), x2.later (h.mono hb.size), x3.later bB (h.mono hb.size), x4.later bA (h.mono hb.size), own_below x5 h, Nat.le_trans x6 h.size, hb.trans (h.mono hb.size)⟩
    replace S0 : BoxR wr w.heap.size (.slice (some ad) n cap) ∧ PtsAt wr w.heap.size (some ad) ps ∧ IntsAt wr w.heap.size (some bd) zs ∧ IntAt wr bd k (i : Int) ∧ PtAt wr ad i x y ∧ wr.ownsRow (w.heap.size + 1) 54 2 (.slice Ao k co) k (cellsP l0) ∧ w.heap.size + 1 ≤ wr.heap.size ∧ Below w.heap.size w wr := ⟨S0.1, S0.2.1, S0.2.2.1, S0.2.2.2.1, pA, S0.2.2.2.2⟩
    clear pA p1 hx hout hlast hroom eI hc hin HR hl hl2
    obtain ⟨⟨_, _⟩, _, _, ⟨_, _⟩, ⟨_, _⟩, _, _, _⟩ := id S0
    go_wp2_with fail
    refine Settle.region (fun W => BoxR W w.heap.size (.slice (some ad) n cap) ∧ PtsAt W w.heap.size (some ad) ps ∧ IntsAt W w.heap.size (some bd) zs ∧ IntAt W bd k (i : Int) ∧ PtAt W ad i x y ∧ W.ownsRow (w.heap.size + 1) 54 2 (.slice Ao k co) k (cellsP l0) ∧ w.heap.size + 1 ≤ W.heap.size ∧ Below w.heap.size w W) (by kernel_rfl) (by kernel_rfl) (by kernel_rfl) (by kernel_rfl) (HO _ _ S0 ((Below.refl _ _).drew)) ?_
    clear S0
    repeat (first
      | (refine Settle.Settles.off (by rfl) ?_; simp only [Act.put, List.setIfInBounds_toArray, List.set_cons_zero, List.set_cons_succ])
      | (refine Settle.Settles.quiet (v := ?_) (by rfl) ?_ ?_
         rotate_left
         · (intro W hS; obtain ⟨⟨_, _⟩, _, _, ⟨_, _⟩, ⟨_, _⟩, _, _, _⟩ := hS; go_simp; with_reducible rfl)
         simp only [Act.put, List.setIfInBounds_toArray, List.set_cons_zero, List.set_cons_succ])
      | (refine Settle.Settles.call (v := ?_) (f := ?_) (args := ?_) (by rfl) ?_ ?_ ?_
         rotate_left 3
         · (intro W; go_simp; refine ⟨?_, ?_⟩ <;> with_reducible rfl)
         · (intro W hS; first | (go_at_call 36; (with_reducible refine (Q1.out _).mono ?_); rintro e W1 ⟨rfl, rfl⟩; refine ⟨?_, hS⟩; with_reducible rfl) | (go_at_call 41; (with_reducible refine (Q2.out _ (hS.2.1.wide hS.2.2.2.2.2.2.2.size)).mono ?_); rintro e W1 ⟨rfl, hb⟩; refine ⟨?_, HO _ _ hS hb⟩; with_reducible rfl))
         simp only [Act.put, List.setIfInBounds_toArray, List.set_cons_zero, List.set_cons_succ]))
    refine Settle.Settles.nil ?_
    intro wr S0
    obtain ⟨⟨_, _⟩, _, _, ⟨_, _⟩, ⟨_, _⟩, _, _, _⟩ := id S0
    clear Q1 Q2
    go_wp2_with fail
    have SD := HO _ _ S0 ((Below.refl wr.heap.size wr).drew)
    have HSOF : ∀ W : World, (BoxR W w.heap.size (.slice (some ad) n cap) ∧ PtsAt W w.heap.size (some ad) ps ∧ IntsAt W w.heap.size (some bd) zs ∧ IntAt W bd k (i : Int) ∧ PtAt W ad i x y ∧ W.ownsRow (w.heap.size + 1) 54 2 (.slice Ao k co) k (cellsP l0) ∧ w.heap.size + 1 ≤ W.heap.size ∧ Below w.heap.size w W) → (W.cell? ⟨w.heap.size, 0, none⟩ = some (.slice (some ad) n cap) ∧ W.cell? (bd.add k) = some (.int .i64 (i : Int)) ∧ W.cell? (ad.add (i * 2)) = some (.int .i64 x) ∧ W.cell? ⟨(ad.add (i * 2)).block, (ad.add (i * 2)).off + 1, none⟩ = some (.int .i64 y)) := fun W h => ⟨h.1.1, h.2.2.2.1.1, h.2.2.2.2.1.1, h.2.2.2.2.1.2⟩
    have HS0_ := HSOF _ SD
    have hsz : w.heap.size + 1 ≤ wr.drew.heap.size := SD.2.2.2.2.2.2.1
    have hcap := S0.2.2.2.2.2.1
    clear S0
    refine wp_region_held_drew (S := fun W => (W.cell? ⟨w.heap.size, 0, none⟩ = some (.slice (some ad) n cap) ∧ W.cell? (bd.add k) = some (.int .i64 (i : Int)) ∧ W.cell? (ad.add (i * 2)) = some (.int .i64 x) ∧ W.cell? ⟨(ad.add (i * 2)).block, (ad.add (i * 2)).off + 1, none⟩ = some (.int .i64 y))) (by kernel_rfl) HS0_ (fun hHeld => ?_)
    refine wpAnyH_take (i := 0) (oi := ⟨some 30, _, _, _, _, _⟩) (v := ?_) rfl (by kernel_rfl) (by kernel_rfl) (by kernel_rfl) (fun _ _ _ h => h) (Or.inl ⟨by rfl, ?_⟩) (by assumption) ?_
    rotate_left 1
    · (intro w hSw; obtain ⟨_, _, _, _⟩ := hSw; go_simp; try with_reducible rfl)
    try simp only [Act.put, List.setIfInBounds_toArray, List.set_cons_zero, List.set_cons_succ]
    refine wpAnyH_take (i := 1) (oi := ⟨some 31, _, _, _, _, _⟩) (v := ?_) rfl (by kernel_rfl) (by kernel_rfl) (by kernel_rfl) (fun _ _ _ h => h) (Or.inl ⟨by rfl, ?_⟩) (by assumption) ?_
    rotate_left 1
    · (intro w hSw; obtain ⟨_, _, _, _⟩ := hSw; go_simp; try with_reducible rfl)
    try simp only [Act.put, List.setIfInBounds_toArray, List.set_cons_zero, List.set_cons_succ]
    refine wpAnyH_take (i := 2) (oi := ⟨some 32, _, _, _, _, _⟩) (v := ?_) rfl (by kernel_rfl) (by kernel_rfl) (by kernel_rfl) (fun _ _ _ h => h) (Or.inl ⟨by rfl, ?_⟩) (by assumption) ?_
    rotate_left 1
    · (intro w hSw; obtain ⟨_, _, _, _⟩ := hSw; go_simp; try with_reducible rfl)
    try simp only [Act.put, List.setIfInBounds_toArray, List.set_cons_zero, List.set_cons_succ]
    refine wpAnyH_take (i := 3) (oi := ⟨some 33, _, _, _, _, _⟩) (v := ?_) rfl (by kernel_rfl) (by kernel_rfl) (by kernel_rfl) (fun _ _ _ h => h) (Or.inl ⟨by rfl, ?_⟩) (by assumption) ?_
    rotate_left 1
    · (intro w hSw; obtain ⟨_, _, _, _⟩ := hSw; go_simp; try with_reducible rfl)
    try simp only [Act.put, List.setIfInBounds_toArray, List.set_cons_zero, List.set_cons_succ]
    refine wpAnyH_take (i := 4) (oi := ⟨some 34, _, _, _, _, _⟩) (v := ?_) rfl (by kernel_rfl) (by kernel_rfl) (by kernel_rfl) (fun _ _ _ h => h) (Or.inl ⟨by rfl, ?_⟩) (by assumption) ?_
    rotate_left 1
    · (intro w hSw; obtain ⟨_, _, _, _⟩ := hSw; go_simp; try with_reducible rfl)
    try simp only [Act.put, List.setIfInBounds_toArray, List.set_cons_zero, List.set_cons_succ]
    refine wpAnyH_take (i := 5) (oi := ⟨some 35, _, _, _, _, _⟩) (v := ?_) rfl (by kernel_rfl) (by kernel_rfl) (by kernel_rfl) (fun _ _ _ h => h) (Or.inl ⟨by rfl, ?_⟩) (by assumption) ?_
    rotate_left 1
    · (intro w hSw; obtain ⟨_, _, _, _⟩ := hSw; go_simp; try with_reducible rfl)
    try simp only [Act.put, List.setIfInBounds_toArray, List.set_cons_zero, List.set_cons_succ]
    refine wpAnyH_take (i := 6) (oi := ⟨some 36, _, _, _, _, _⟩) (v := ?_) rfl (by kernel_rfl) (by kernel_rfl) (by kernel_rfl) (fun _ _ _ h => h) (Or.inl ⟨by rfl, ?_⟩) (by assumption) ?_
    rotate_left 1
    · (intro w hSw; obtain ⟨_, _, _, _⟩ := hSw; go_simp; try with_reducible rfl)
    try simp only [Act.put, List.setIfInBounds_toArray, List.set_cons_zero, List.set_cons_succ]
    refine wpAnyH_take (i := 7) (oi := ⟨some 37, _, _, _, _, _⟩) (v := ?_) rfl (by kernel_rfl) (by kernel_rfl) (by kernel_rfl) (fun _ _ _ h => h) (Or.inl ⟨by rfl, ?_⟩) (by assumption) ?_
    rotate_left 1
    · (intro w hSw; obtain ⟨_, _, _, _⟩ := hSw; go_simp; try with_reducible rfl)
    try simp only [Act.put, List.setIfInBounds_toArray, List.set_cons_zero, List.set_cons_succ]
    refine wpAnyH_take (i := 8) (oi := ⟨some 38, _, _, _, _, _⟩) (v := ?_) rfl (by kernel_rfl) (by kernel_rfl) (by kernel_rfl) (fun _ _ _ h => h) (Or.inl ⟨by rfl, ?_⟩) (by assumption) ?_
    rotate_left 1
    · (intro w hSw; obtain ⟨_, _, _, _⟩ := hSw; go_simp; try with_reducible rfl)
    try simp only [Act.put, List.setIfInBounds_toArray, List.set_cons_zero, List.set_cons_succ]
    refine wpAnyH_ready (rs := [9]) (by kernel_rfl) (by simp) ?_
    refine AllReadyH.cons (o := ⟨some 39, _, _, _, _, _⟩) rfl (fun K hK => ?_) ?_
    rotate_left 1
    · exact AllReadyH.nil
    have b2_ := below1 wr.drew (Obj.cells #[.int .i64 x, .int .i64 y] 54)
    have S1_ := HO _ _ SD b2_
    have hown1 := S1_.2.2.2.2.2.1
    have HS1_ := HSOF _ S1_
    go_simp
    refine hK.out _ _ HS1_ (fun hHeld => ?_)
    clear hK K
    try simp only [Act.put, List.setIfInBounds_toArray, List.set_cons_zero, List.set_cons_succ]
    refine wpAnyH_ready (rs := [10]) (by kernel_rfl) (by simp) ?_
    refine AllReadyH.cons (o := ⟨some 40, _, _, _, _, _⟩) rfl (fun K hK => ?_) ?_
    rotate_left 1
    · exact AllReadyH.nil
    refine step_append_lies _ (by rfl) _ _ _ (by rfl) (w.heap.size + 1) 54 i0 _ 2 16 Try.underlying28 hi hz0 hz1 hz2 rfl (by omega) _ _ _ (by rfl) hown1 ⟨wr.drew.heap.size, 0, none⟩ 1 1 [.int .i64 x, .int .i64 y] (by rfl) (by rfl) ?c1 ?c2 (by omega) ?c3 ?c4 ?c5 _ rfl ?_
    try (case c1 => (intro a u ha; match a, ha with | 0, ha => (simp at ha; subst ha; simp [Addr.add]) | 1, ha => (simp at ha; subst ha; simp [Addr.add])))
    case c2 => (first | exact ⟨rfl, rfl⟩ | (intro u hu; simp at hu; rcases hu with rfl | rfl <;> rfl))
    case c3 => (unfold maxLen; omega)
    case c4 => omega
    case c5 => (first | omega | (simp; omega))
    intro g2_ cap2_ wa_ ho_ hg_ hgo_ hlt_
    have hbg_ : Below (w.heap.size + 1) (wr.drew.alloc (Obj.cells #[.int .i64 x, .int .i64 y] 54)) wa_ := (Below.refl _ _).grown hg_ (by simp; omega) (fun g hg => (hown1.lt g hg).1)
    have hS3 : (wa_.cell? ⟨w.heap.size, 0, none⟩ = some (.slice (some ad) n cap) ∧ wa_.cell? (bd.add k) = some (.int .i64 (i : Int)) ∧ wa_.cell? (ad.add (i * 2)) = some (.int .i64 x) ∧ wa_.cell? ⟨(ad.add (i * 2)).block, (ad.add (i * 2)).off + 1, none⟩ = some (.int .i64 y)) := ⟨(hbg_.cell (by simp)).trans HS1_.1, (hbg_.cell (by rw [Pts.block_add]; omega)).trans HS1_.2.1, (hbg_.cell (by rw [Pts.block_add]; omega)).trans HS1_.2.2.1, (hbg_.cell (by show (ad.add (i * 2)).block < _; rw [Pts.block_add]; omega)).trans HS1_.2.2.2⟩
    have HN : Hid (wa_.ownsRow (w.heap.size + 1) 54 2 (.slice (some ⟨g2_, 0, none⟩) (k + 1) cap2_) (k + 1) (cellsP (ptTo ps zs (k + 1))) ∧ w.heap.size + 1 ≤ wa_.heap.size ∧ (Pts.BoxR wa_ (w.heap.size) (.slice (some ad) n cap) ∧ PtsAt wa_ w.heap.size (some ad) ps ∧ IntsAt wa_ w.heap.size (some bd) zs ∧ Below w.heap.size w wa_)) := Lib.hid (by
      rw [HS.out, cellsP_app]
      exact ⟨ho_, Nat.le_trans hsz (Nat.le_trans (by simp) hbg_.size), HO2 _ _ ⟨S1_.1, S1_.2.1, S1_.2.2.1, S1_.2.2.2.2.2.2.2⟩ hbg_⟩)
    refine hK.out _ _ hS3 (fun hHeld => ?_)
    clear hK K
    try simp only [Act.put, List.setIfInBounds_toArray, List.set_cons_zero, List.set_cons_succ]
    refine wpAnyH_take (i := 11) (oi := ⟨some 5, _, _, _, _, _⟩) (v := ?_) rfl (by kernel_rfl) (by kernel_rfl) (by kernel_rfl) (fun _ _ _ h => h) (Or.inl ⟨by rfl, ?_⟩) (by assumption) ?_
    rotate_left 1
    · (intro w hSw; obtain ⟨_, _, _, _⟩ := hSw; go_simp; try with_reducible rfl)
    try simp only [Act.put, List.setIfInBounds_toArray, List.set_cons_zero, List.set_cons_succ]
    clear ho_ hg_ hgo_ hlt_ hown1 S1_ SD HS1_ HS0_ hS3
    refine wpAnyH_done (by kernel_rfl) ?_ _
    go_wp2_with fail
    first
      | exact ⟨⟨k + 1, by omega, by go_num, .inr hrb, hall, HN.out.1, HN.out.2.1, HN.out.2.2⟩, by simp [intOf]; omega⟩
      | (go_roundw <;> first | exact ⟨k + 1, by omega, by go_num, .inr hrb, hall, HN.out.1, HN.out.2.1, HN.out.2.2⟩ | (simp [intOf]; omega))

end Go.Proofs.Ytlnbahaoiilegaa.PtofSpec

