/-
  What the landed colorThird does, as a contract: the corner without a color gets the one that is left.
-/
import Derived.Test.YtkcodmafakjkfaaGreatColRun
import Derived.Test.YtkcodmafakjkfaaGreatTup3
import Derived.Test.YtkcodmafakjkfaaGreatBox3
import Derived.LoopIn
namespace Go.Proofs.YtkcodmafakjkfaaGreat.ColThird
open Go.RowKit Own PointMath Blk ColMath ColRun IntMap Tup3
open PointOk (ret_bool ret_i64 below1 below2 below3)

set_option maxHeartbeats 800000 in
theorem indices (a b c : Int) (w : World) : Calls Tryz.prog 107 #[.agg #[.int .i64 a, .int .i64 b, .int .i64 c]] w fun e w' => e = .returned (.agg #[.int .i64 a, .int .i64 b, .int .i64 c]) ∧ Below w.heap.size w w' := by
  go_enter Tryz.func107, Tryz.ntmps107
  go_wp2_with fail
  refine bodyPost_ret (v := .agg #[.int .i64 a, .int .i64 b, .int .i64 c]) (by simp [results, Tryz.results107, go_sem]) rfl ⟨rfl, ?_⟩
  exact below2 _ _ _

theorem third_in {ox oy oz : Bool} {x y z : Int} (hx : 0 ≤ x ∧ x ≤ 1048576) (hy : 0 ≤ y ∧ y ≤ 1048576) (hz : 0 ≤ z ∧ z ≤ 1048576) (k : Nat) : -1000000000 ≤ thirdL ox oy oz x y z k ∧ thirdL ox oy oz x y z k ≤ 1000000000 := by
  match k with
  | 0 => show -1000000000 ≤ x ∧ x ≤ 1000000000; omega
  | 1 => show -1000000000 ≤ x ∧ x ≤ 1000000000; omega
  | 2 => show -1000000000 ≤ (if oy then x else y) ∧ (if oy then x else y) ≤ 1000000000; split <;> omega
  | k + 3 => show -1000000000 ≤ (if oz then (if oy then x else y) else z) ∧ (if oz then (if oy then x else y) else z) ≤ 1000000000; cases oz <;> cases oy <;> simp <;> omega
theorem rest_in {K cx cy cz : Int} (hK : 3 ≤ K) (hx : -K ≤ cx ∧ cx ≤ K) (hy : -K ≤ cy ∧ cy ≤ K) (hz : -K ≤ cz ∧ cz ≤ K) (k : Nat) : -(4 * K) ≤ restL cx cy cz k ∧ restL cx cy cz k ≤ 4 * K := by
  match k with
  | 0 => show -(4 * K) ≤ (3 : Int) ∧ (3 : Int) ≤ 4 * K; omega
  | 1 => show -(4 * K) ≤ 3 - cx ∧ 3 - cx ≤ 4 * K; omega
  | 2 => show -(4 * K) ≤ 3 - cx - cy ∧ 3 - cx - cy ≤ 4 * K; omega
  | k + 3 => show -(4 * K) ≤ 3 - cx - cy - cz ∧ 3 - cx - cy - cz ≤ 4 * K; omega

set_option maxRecDepth 100000 in
set_option maxHeartbeats 6400000 in
theorem colorThird (K : Int) (hK : 3 ≤ K ∧ K ≤ 100000000) (b m : Nat) (f : Int → Option Int) (x y z : Nat) (w : World) (hm : m ≤ 1048576) (hx : x ≤ 1048576) (hy : y ≤ 1048576) (hz : z ≤ 1048576) (hf : ∀ k : Nat, k = x ∨ k = y ∨ k = z → -K ≤ (f (k : Int)).getD 0 ∧ (f (k : Int)).getD 0 ≤ K) (hM : MapAt w b m f) :
    Calls Tryz.prog 73 #[.map (some b), .agg #[.int .i64 (x : Int), .int .i64 (y : Int), .int .i64 (z : Int)]] w fun e w' => (∃ v, e = .returned v) ∧
      MapAt w' b (m + 1) (upd f (thirdL (f (x : Int)).isSome (f (y : Int)).isSome (f (z : Int)).isSome x y z 3) (restL ((f (x : Int)).getD 0) ((f (y : Int)).getD 0) ((f (z : Int)).getD 0) 3)) ∧ w.grownBy w' (some b) := by
  have fx := hf x (.inl rfl)
  have fy := hf y (.inr (.inl rfl))
  have fz := hf z (.inr (.inr rfl))
  obtain ⟨cx, hcx⟩ : ∃ c, (f (x : Int)).getD 0 = c := ⟨_, rfl⟩
  obtain ⟨cy, hcy⟩ : ∃ c, (f (y : Int)).getD 0 = c := ⟨_, rfl⟩
  obtain ⟨cz, hcz⟩ : ∃ c, (f (z : Int)).getD 0 = c := ⟨_, rfl⟩
  obtain ⟨ox, hox⟩ : ∃ c, (f (x : Int)).isSome = c := ⟨_, rfl⟩
  obtain ⟨oy, hoy⟩ : ∃ c, (f (y : Int)).isSome = c := ⟨_, rfl⟩
  obtain ⟨oz, hoz⟩ : ∃ c, (f (z : Int)).isSome = c := ⟨_, rfl⟩
  rw [hcx] at fx
  rw [hcy] at fy
  rw [hcz] at fz
  rw [hcx, hcy, hcz, hox, hoy, hoz]
  have HX := Lib.hid (And.intro hcx hox)
  have HY := Lib.hid (And.intro hcy hoy)
  have HZ := Lib.hid (And.intro hcz hoz)
  have wx : (Lit.int .i64 (x : Int)).wf = true := wf_small (by omega)
  have wy : (Lit.int .i64 (y : Int)).wf = true := wf_small (by omega)
  have wz : (Lit.int .i64 (z : Int)).wf = true := wf_small (by omega)
  clear hcx hcy hcz hox hoy hoz hf
  have hix0 : ∀ w : World, (Instr.index 108 (.agg #[.int .i64 (x : Int), .int .i64 (y : Int), .int .i64 (z : Int)]) (.int .i64 0)).run Tryz.prog w = .ok (.int .i64 (x : Int)) w := fun _ => by kernel_rfl
  have hix1 : ∀ w : World, (Instr.index 108 (.agg #[.int .i64 (x : Int), .int .i64 (y : Int), .int .i64 (z : Int)]) (.int .i64 1)).run Tryz.prog w = .ok (.int .i64 (y : Int)) w := fun _ => by kernel_rfl
  have hix2 : ∀ w : World, (Instr.index 108 (.agg #[.int .i64 (x : Int), .int .i64 (y : Int), .int .i64 (z : Int)]) (.int .i64 2)).run Tryz.prog w = .ok (.int .i64 (z : Int)) w := fun _ => by kernel_rfl
  obtain ⟨X, hX⟩ : ∃ X : Int, (x : Int) = X := ⟨_, rfl⟩
  obtain ⟨Y, hY⟩ : ∃ Y : Int, (y : Int) = Y := ⟨_, rfl⟩
  obtain ⟨Z, hZ⟩ : ∃ Z : Int, (z : Int) = Z := ⟨_, rfl⟩
  have bX : 0 ≤ X ∧ X ≤ 1048576 := by omega
  have bY : 0 ≤ Y ∧ Y ≤ 1048576 := by omega
  have bZ : 0 ≤ Z ∧ Z ≤ 1048576 := by omega
  rw [hX] at hix0 hix1 hix2 wx HX ⊢
  rw [hY] at hix0 hix1 hix2 wy HY ⊢
  rw [hZ] at hix0 hix1 hix2 wz HZ ⊢
  clear hX hY hZ hx hy hz x y z
  have HT : Hid (∀ k, -1000000000 ≤ thirdL ox oy oz X Y Z k ∧ thirdL ox oy oz X Y Z k ≤ 1000000000) := Lib.hid (third_in bX bY bZ)
  have HR : Hid (∀ k, -(4 * K) ≤ restL cx cy cz k ∧ restL cx cy cz k ≤ 4 * K) := Lib.hid (rest_in hK.1 fx fy fz)
  have T0 : Hid (thirdL ox oy oz X Y Z 0 = X) := Lib.hid rfl
  have R0 : Hid (restL cx cy cz 0 = 3) := Lib.hid rfl
  have T1 : Hid (thirdL ox oy oz X Y Z 1 = X) := Lib.hid rfl
  have R1 : Hid (restL cx cy cz 1 = 3 - cx) := Lib.hid rfl
  have T2 : Hid (thirdL ox oy oz X Y Z 2 = if oy then X else Y) := Lib.hid rfl
  have R2 : Hid (restL cx cy cz 2 = 3 - cx - cy) := Lib.hid rfl
  have T3 : Hid (thirdL ox oy oz X Y Z 3 = if oz then (if oy then X else Y) else Z) := Lib.hid rfl
  have R3 : Hid (restL cx cy cz 3 = 3 - cx - cy - cz) := Lib.hid rfl
  generalize thirdL ox oy oz X Y Z = tl at *
  generalize restL cx cy cz = rl at *
  go_enter Tryz.func73, Tryz.ntmps73
  go_wp2_with fail
  have X0 := Box3.box1 w X Y Z 65 (k := w.heap.size) (by simp)
  have b0 := PointOk.below1 w (Obj.cells #[.int .i64 X, .int .i64 Y, .int .i64 Z] 65)
  have HO : ∀ W W' : World, (Box3.Box W (w.heap.size) X Y Z ∧ MapAt W b m f ∧ Below w.heap.size w W) → Below W.heap.size W W' → (Box3.Box W' (w.heap.size) X Y Z ∧ MapAt W' b m f ∧ Below w.heap.size w W') := fun W W' ⟨h0, x0, hb⟩ h => ⟨h0.later h, x0.later h, hb.trans (h.mono hb.size)⟩
  have hz0_ : Hid (((w.alloc (Obj.cells #[.int .i64 X, .int .i64 Y, .int .i64 Z] 65))).heap.size = w.heap.size + 1) := Lib.hid (by simp)
  have Y0 : MapAt ((w.alloc (Obj.cells #[.int .i64 X, .int .i64 Y, .int .i64 Z] 65))) b m f := hM.later b0
  generalize (w.alloc (Obj.cells #[.int .i64 X, .int .i64 Y, .int .i64 Z] 65)) = w0 at X0 Y0 b0 hz0_ ⊢
  have S0 := (⟨X0, Y0, b0⟩ : Box3.Box w0 (w.heap.size) X Y Z ∧ MapAt w0 b m f ∧ Below w.heap.size w w0)
  clear X0 Y0 b0
  obtain ⟨⟨_, _, _⟩, _, _⟩ := id S0
  clear hM
  refine (indices X Y Z _).mono ?_
  rintro e w1 ⟨rfl, hb_⟩
  replace S0 := HO _ _ S0 hb_
  clear hb_
  obtain ⟨⟨_, _, _⟩, _, _⟩ := id S0
  go_wp2_with fail
  go_loopw [4, 5, 14] (fun v u q wr => ∃ k : Nat, k ≤ 3 ∧ q = .int .i64 k ∧ v = .int .i64 (tl k) ∧ u = .int .i64 (rl k) ∧ (Box3.Box wr (w.heap.size) X Y Z ∧ MapAt wr b m f ∧ Below w.heap.size w wr))
    (fun _ _ q _ => 3 - (intOf q).toNat)
  case atStart => exact ⟨0, Nat.zero_le _, rfl, by rw [T0.out], by rw [R0.out], S0⟩
  case round =>
    clear S0
    obtain ⟨k, hk, rfl, rfl, rfl, S0⟩ := hrel
    have S0 := Lib.hid S0
    have b0 := HR.out 0
    have b1 := HR.out 1
    have b2 := HR.out 2
    rcases (by omega : k = 0 ∨ k = 1 ∨ k = 2 ∨ k = 3) with rfl | rfl | rfl | rfl
    rotate_left 3
    · have b3 := HR.out 3
      have wt := wf_small (HT.out 3)
      have wr3 : (Lit.int .i64 (rl 3)).wf = true := wf_small (by omega)
      obtain ⟨t3, ht3⟩ : ∃ t, tl 3 = t := ⟨_, rfl⟩
      obtain ⟨r3, hr3⟩ : ∃ t, rl 3 = t := ⟨_, rfl⟩
      have H3 := Lib.hid ht3
      have G3 := Lib.hid hr3
      rw [ht3] at wt ⊢
      rw [hr3] at wr3 ⊢
      clear ht3 hr3
      go_wp2_with (at_mapUpdate; refine wpList_update_map _ rfl _ _ _ 79 rfl Tryz.underlying79 b m f rfl S0.out.2.1 (by unfold maxLen; omega) t3 rfl wt r3 rfl wr3 ?_)
      intro w5 h5 hg5
      have hgr := grown_trans (grown_of_below S0.out.2.2 (some b)) hg5
      clear S0
      go_wp2_with fail
      go_end0
      exact ⟨⟨_, rfl⟩, by first | exact h5 | (rw [H3.out, G3.out]; exact h5), hgr⟩
    · rw [T0.out, R0.out]
      have u1 : IntKind.i64.wrap (3 - cx) = 3 - cx := IntWalk.i64_in _ (by omega)
      clear T2 T3 R2 R3 HY HZ hix1 hix2 R0 T0
      cases ox
      · go_wp2_with (at_lookup; refine wpList_lookup_map_ok _ rfl _ _ 79 rfl Tryz.underlying79 b m f rfl S0.out.2.1 X rfl wx cx HX.out.1 false HX.out.2 ?_)
        first
          | exact ⟨⟨1, by omega, rfl, by rw [T1.out], by rw [R1.out], S0.out⟩, by simp [intOf]⟩
          | (go_roundw <;> first | exact ⟨1, by omega, rfl, by rw [T1.out], by rw [R1.out], S0.out⟩ | simp [intOf])
      · go_wp2_with (at_lookup; refine wpList_lookup_map_ok _ rfl _ _ 79 rfl Tryz.underlying79 b m f rfl S0.out.2.1 X rfl wx cx HX.out.1 true HX.out.2 ?_)
        first
          | exact ⟨⟨1, by omega, rfl, by rw [T1.out], by rw [R1.out], S0.out⟩, by simp [intOf]⟩
          | (go_roundw <;> first | exact ⟨1, by omega, rfl, by rw [T1.out], by rw [R1.out], S0.out⟩ | simp [intOf])
    · rw [T1.out, R1.out]
      have u1 : IntKind.i64.wrap (3 - cx - cy) = 3 - cx - cy := IntWalk.i64_in _ (by omega)
      clear T3 R3 HX HZ hix0 hix2 R0 T0 T1 R1
      cases oy
      · have E : Hid (tl 2 = Y) := Lib.hid (by rw [T2.out]; rfl)
        clear T2
        go_wp2_with (at_lookup; refine wpList_lookup_map_ok _ rfl _ _ 79 rfl Tryz.underlying79 b m f rfl S0.out.2.1 Y rfl wy cy HY.out.1 false HY.out.2 ?_)
        first
          | exact ⟨⟨2, by omega, rfl, by rw [E.out], by rw [R2.out], S0.out⟩, by simp [intOf]⟩
          | (go_roundw <;> first | exact ⟨2, by omega, rfl, by rw [E.out], by rw [R2.out], S0.out⟩ | simp [intOf])
      · have E : Hid (tl 2 = X) := Lib.hid (by rw [T2.out]; rfl)
        clear T2
        go_wp2_with (at_lookup; refine wpList_lookup_map_ok _ rfl _ _ 79 rfl Tryz.underlying79 b m f rfl S0.out.2.1 Y rfl wy cy HY.out.1 true HY.out.2 ?_)
        first
          | exact ⟨⟨2, by omega, rfl, by rw [E.out], by rw [R2.out], S0.out⟩, by simp [intOf]⟩
          | (go_roundw <;> first | exact ⟨2, by omega, rfl, by rw [E.out], by rw [R2.out], S0.out⟩ | simp [intOf])
    · have E2 : Hid (tl 3 = if oz then tl 2 else Z) := Lib.hid (by rw [T3.out, T2.out])
      rw [R2.out]
      have u1 : IntKind.i64.wrap (3 - cx - cy - cz) = 3 - cx - cy - cz := IntWalk.i64_in _ (by have := HR.out 3; rw [R3.out] at this; omega)
      generalize tl 2 = t2 at *
      clear HX HY hix0 hix1 R0 T0 T1 R1 T2 T3 R2
      cases oz
      · have E : Hid (tl 3 = Z) := Lib.hid (by rw [E2.out]; rfl)
        clear E2
        go_wp2_with (at_lookup; refine wpList_lookup_map_ok _ rfl _ _ 79 rfl Tryz.underlying79 b m f rfl S0.out.2.1 Z rfl wz cz HZ.out.1 false HZ.out.2 ?_)
        first
          | exact ⟨⟨3, by omega, rfl, by rw [E.out], by rw [R3.out], S0.out⟩, by simp [intOf]⟩
          | (go_roundw <;> first | exact ⟨3, by omega, rfl, by rw [E.out], by rw [R3.out], S0.out⟩ | simp [intOf])
      · have E : Hid (tl 3 = t2) := Lib.hid (by rw [E2.out]; rfl)
        clear E2
        go_wp2_with (at_lookup; refine wpList_lookup_map_ok _ rfl _ _ 79 rfl Tryz.underlying79 b m f rfl S0.out.2.1 Z rfl wz cz HZ.out.1 true HZ.out.2 ?_)
        first
          | exact ⟨⟨3, by omega, rfl, by rw [E.out], by rw [R3.out], S0.out⟩, by simp [intOf]⟩
          | (go_roundw <;> first | exact ⟨3, by omega, rfl, by rw [E.out], by rw [R3.out], S0.out⟩ | simp [intOf])
end Go.Proofs.YtkcodmafakjkfaaGreat.ColThird

