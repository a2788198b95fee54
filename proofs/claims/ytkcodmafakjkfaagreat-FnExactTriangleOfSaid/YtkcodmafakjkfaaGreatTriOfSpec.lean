/-
  What the model's TriangleOf does, as a contract: the first triangle that the point is in, or -1; new memory alone is written.
-/
import Derived.Test.YtkcodmafakjkfaaGreatTreeModel
import Derived.Test.YtkcodmafakjkfaaGreatTriOfMath
namespace Go.Proofs.YtkcodmafakjkfaaGreat.TriOfSpec
open Go.RowKit Own PointMath WallMath RoomMath Pts Blk AreaMath PlaceMath FloorMath LineMath CutsMath SightMath DiagMath TriMath TrisMath TreeMath Ints Tup3 TriRow TrisModel TreeSpec TriOfMath
open PointOk (ret_bool ret_i64 below1 below2 below3)

set_option maxRecDepth 100000 in
set_option maxHeartbeats 3200000 in
theorem triangleOf (A : Option Addr) (n cap : Nat) (x y : Int) (w : World) (ps : List (Int × Int)) (hl : ps.length = n) (hn : n ≤ 1048576) (hp : PtsAt w w.heap.size A ps) :
    Calls Tryz.prog 24 #[.agg #[.slice A n cap], .agg #[.int .i64 x, .int .i64 y]] w fun e w' => e = .returned (.int .i64 (triOfI ps x y)) ∧ Below w.heap.size w w' := by
  obtain ⟨r, hr⟩ : ∃ r, triOfI ps x y = r := ⟨_, rfl⟩
  have HR := Lib.hid hr
  rw [hr]
  clear hr
  have HA : Hid (∀ k, k < (trisL ps).length → inF ps x y k = true → (∀ j, j < k → inF ps x y j = false) → r = (k : Int)) := Lib.hid (fun k hk h1 h2 => by rw [← HR.out]; exact firstI_at hk h1 h2)
  have HN : Hid ((∀ k, k < (trisL ps).length → inF ps x y k = false) → r = -1) := Lib.hid (fun h => by rw [← HR.out]; exact firstI_none h)
  have QT : Hid (∀ W h, _) := Lib.hid fun W h => trianglesOf A n cap W ps hl hn h
  have hle := TrisLand.trisL_le ps
  unfold GivesC at QT
  obtain ⟨f, hf⟩ : ∃ f, inF ps x y = f := ⟨_, rfl⟩
  rw [hf] at HA HN
  have HF : Hid (∀ k, inTriB ps (tt (trisL ps) k).1 (tt (trisL ps) k).2.1 (tt (trisL ps) k).2.2 x y = f k) := Lib.hid (fun k => by rw [← hf]; rfl)
  generalize trisL ps = L at *
  obtain ⟨m, hm⟩ : ∃ m, L.length = m := ⟨_, rfl⟩
  rw [hm] at QT HA HN hle
  clear HR hf
  go_enter Tryz.func24, Tryz.ntmps24
  go_wp2_with fail
  have X0 := (Pts.boxR w (.slice A n cap) 30 (k := w.heap.size) (by simp)).alloc (Obj.cells #[.int .i64 x, .int .i64 y] 40)
  have X1 := PointOk.box1 (w.alloc (Obj.cells #[.slice A n cap] 30)) x y 40 (k := w.heap.size + 1) (by simp)
  have b0 := PointOk.below2 w (Obj.cells #[.slice A n cap] 30) (Obj.cells #[.int .i64 x, .int .i64 y] 40)
  have HO : ∀ W W' : World, (Pts.BoxR W (w.heap.size) (.slice A n cap) ∧ PointOk.Box W (w.heap.size + 1) x y ∧ PtsAt W w.heap.size A ps ∧ Below w.heap.size w W) → Below W.heap.size W W' → (Pts.BoxR W' (w.heap.size) (.slice A n cap) ∧ PointOk.Box W' (w.heap.size + 1) x y ∧ PtsAt W' w.heap.size A ps ∧ Below w.heap.size w W') := fun W W' ⟨h0, h1, x0, hb⟩ h => ⟨h0.later h, h1.later h, x0.later (h.mono hb.size), hb.trans (h.mono hb.size)⟩
  have hz0_ : Hid ((((w.alloc (Obj.cells #[.slice A n cap] 30)).alloc (Obj.cells #[.int .i64 x, .int .i64 y] 40))).heap.size = w.heap.size + 1 + 1) := Lib.hid (by simp)
  have Y0 : PtsAt (((w.alloc (Obj.cells #[.slice A n cap] 30)).alloc (Obj.cells #[.int .i64 x, .int .i64 y] 40))) w.heap.size A ps := hp.later b0
  generalize ((w.alloc (Obj.cells #[.slice A n cap] 30)).alloc (Obj.cells #[.int .i64 x, .int .i64 y] 40)) = w0 at X0 X1 Y0 b0 hz0_ ⊢
  have S0 := (⟨X0, X1, Y0, b0⟩ : Pts.BoxR w0 (w.heap.size) (.slice A n cap) ∧ PointOk.Box w0 (w.heap.size + 1) x y ∧ PtsAt w0 w.heap.size A ps ∧ Below w.heap.size w w0)
  clear X0 X1 Y0 b0
  obtain ⟨⟨_, _⟩, ⟨_, _⟩, _, _⟩ := id S0
  refine (QT.out _ (S0.2.2.1.wide S0.2.2.2.size)).mono ?_
  rintro e w2 ⟨A2, c2, rfl, h4, hb_⟩
  replace S0 := HO _ _ S0 hb_
  have T2 := ts_own h4
  have hz2 := S0.2.2.2.size
  clear hb_ QT h4
  have HO : ∀ W W' : World, (Pts.BoxR W w.heap.size (.slice A n cap) ∧ PointOk.Box W (w.heap.size + 1) x y ∧ PtsAt W w.heap.size A ps ∧ (TsAt W w2.heap.size A2 L ∧ Below w2.heap.size w2 W) ∧ Below w.heap.size w W) → Below W.heap.size W W' → (Pts.BoxR W' w.heap.size (.slice A n cap) ∧ PointOk.Box W' (w.heap.size + 1) x y ∧ PtsAt W' w.heap.size A ps ∧ (TsAt W' w2.heap.size A2 L ∧ Below w2.heap.size w2 W') ∧ Below w.heap.size w W') := fun W W' ⟨x0, x1, x2, x3, hb⟩ h => ⟨x0.later h, x1.later h, x2.later (h.mono hb.size), ⟨x3.1.later (h.mono x3.2.size), x3.2.trans (h.mono x3.2.size)⟩, hb.trans (h.mono hb.size)⟩
  have S1 : Pts.BoxR w2 w.heap.size (.slice A n cap) ∧ PointOk.Box w2 (w.heap.size + 1) x y ∧ PtsAt w2 w.heap.size A ps ∧ (TsAt w2 w2.heap.size A2 L ∧ Below w2.heap.size w2 w2) ∧ Below w.heap.size w w2 := ⟨S0.1, S0.2.1, S0.2.2.1, ⟨T2, Below.refl _ _⟩, S0.2.2.2⟩
  clear S0 T2
  have S0 := S1
  clear S1
  obtain ⟨⟨_, _⟩, ⟨_, _⟩, _, _, _⟩ := id S0
  have QI : Hid (∀ (a b c : Int) W h, _) := Lib.hid fun (a b c : Int) W h => TriSpec.inTri A n cap a b c x y W ps hl hn h
  go_wp2_with fail
  go_loopw [6] (fun q wr => ∃ k : Nat, k ≤ m ∧ q = .int .i64 k ∧ Hid (∀ j, j < k → f j = false) ∧ (Pts.BoxR wr w.heap.size (.slice A n cap) ∧ PointOk.Box wr (w.heap.size + 1) x y ∧ PtsAt wr w.heap.size A ps ∧ (TsAt wr w2.heap.size A2 L ∧ Below w2.heap.size w2 wr) ∧ Below w.heap.size w wr))
    (fun q _ => m - (intOf q).toNat)
  case atStart => exact ⟨0, Nat.zero_le _, rfl, Lib.hid (fun t ht => absurd ht (by omega)), S0⟩
  case round =>
    clear S0
    obtain ⟨k, hk, rfl, hno, S0⟩ := hrel
    obtain ⟨⟨_, _⟩, ⟨_, _⟩, _, _, _⟩ := id S0
    by_cases hlt : k < m
    rotate_left
    · obtain rfl : k = m := by omega
      have E := Lib.hid (HN.out hno.out)
      clear HN HA hno hl hm HF QI
      go_wp2_with fail
      go_ret
      exact ⟨ret_i64 E.out.symm, S0.2.2.2.2⟩
    have k0 : (0 : Int) ≤ (k : Int) := by omega
    have k1 : (k : Int) < (m : Int) := by omega
    have qk := tt_at (ps := L) (k := k) (by omega)
    have HAk := Lib.hid (fun h => HA.out k hlt h hno.out)
    have HW : Hid (f k = false → ∀ j, j < k + 1 → f j = false) := Lib.hid (fun h j hj => by
      rcases Nat.lt_or_ge j k with h1 | h1
      · exact hno.out j h1
      · obtain rfl : j = k := by omega
        exact h)
    have HFk := HF.out k
    obtain ⟨a, b, c, ha⟩ : ∃ a b c, tt L k = (a, b, c) := ⟨_, _, _, rfl⟩
    rw [ha] at qk HFk
    have QK := Lib.hid (QI.out a b c)
    replace HFk : inTriB ps a b c x y = f k := HFk
    rw [HFk] at QK
    generalize f k = bb at *
    obtain ⟨ad, eA, bA, pA⟩ := S0.2.2.2.1.1.get qk
    subst eA
    clear qk ha HFk HF HA HN hno QI
    have HO : ∀ W W' : World, (Pts.BoxR W w.heap.size (.slice A n cap) ∧ PointOk.Box W (w.heap.size + 1) x y ∧ PtsAt W w.heap.size A ps ∧ (TsAt W w2.heap.size (some ad) L ∧ Below w2.heap.size w2 W) ∧ (TAt W ad k a b c ∧ w2.heap.size ≤ W.heap.size) ∧ Below w.heap.size w W) → Below W.heap.size W W' → (Pts.BoxR W' w.heap.size (.slice A n cap) ∧ PointOk.Box W' (w.heap.size + 1) x y ∧ PtsAt W' w.heap.size A ps ∧ (TsAt W' w2.heap.size (some ad) L ∧ Below w2.heap.size w2 W') ∧ (TAt W' ad k a b c ∧ w2.heap.size ≤ W'.heap.size) ∧ Below w.heap.size w W') := fun W W' ⟨x0, x1, x2, x3, x4, hb⟩ h => ⟨x0.later h, x1.later h, x2.later (h.mono hb.size), ⟨x3.1.later (h.mono x3.2.size), x3.2.trans (h.mono x3.2.size)⟩, ⟨x4.1.later bA (h.mono x4.2), Nat.le_trans x4.2 h.size⟩, hb.trans (h.mono hb.size)⟩
    have S1 : Pts.BoxR wr w.heap.size (.slice A n cap) ∧ PointOk.Box wr (w.heap.size + 1) x y ∧ PtsAt wr w.heap.size A ps ∧ (TsAt wr w2.heap.size (some ad) L ∧ Below w2.heap.size w2 wr) ∧ (TAt wr ad k a b c ∧ w2.heap.size ≤ wr.heap.size) ∧ Below w.heap.size w wr := ⟨S0.1, S0.2.1, S0.2.2.1, S0.2.2.2.1, ⟨pA, S0.2.2.2.1.2.size⟩, S0.2.2.2.2⟩
    clear S0 pA
    have S0 := S1
    clear S1
    obtain ⟨⟨_, _⟩, ⟨_, _⟩, _, _, ⟨⟨_, _, _⟩, _⟩, _⟩ := id S0
    go_wp2_with fail
    refine Settle.region (fun W => Pts.BoxR W w.heap.size (.slice A n cap) ∧ PointOk.Box W (w.heap.size + 1) x y ∧ PtsAt W w.heap.size A ps ∧ (TsAt W w2.heap.size (some ad) L ∧ Below w2.heap.size w2 W) ∧ (TAt W ad k a b c ∧ w2.heap.size ≤ W.heap.size) ∧ Below w.heap.size w W) (by kernel_rfl) (by kernel_rfl) (by kernel_rfl) (by kernel_rfl) (HO _ _ S0 ((Below.refl _ _).drew)) ?_
    clear S0
    repeat (first
      | (refine Settle.Settles.off (by rfl) ?_; simp only [Act.put, List.setIfInBounds_toArray, List.set_cons_zero, List.set_cons_succ])
      | (refine Settle.Settles.quiet (v := ?_) (by rfl) ?_ ?_
         rotate_left
         · (intro W hS; obtain ⟨⟨_, _⟩, ⟨_, _⟩, _, _, ⟨⟨_, _, _⟩, _⟩, _⟩ := hS; go_simp; with_reducible rfl)
         simp only [Act.put, List.setIfInBounds_toArray, List.set_cons_zero, List.set_cons_succ])
      | (refine Settle.Settles.call (v := ?_) (f := ?_) (args := ?_) (by rfl) ?_ ?_ ?_
         rotate_left 3
         · (intro W; go_simp; refine ⟨?_, ?_⟩ <;> with_reducible rfl)
         · (intro W hS; first | (go_at_call 68; (with_reducible refine (QK.out _ (hS.2.2.1.wide hS.2.2.2.2.2.size)).mono ?_); rintro e W1 ⟨rfl, hb⟩; refine ⟨?_, HO _ _ hS hb⟩; with_reducible rfl))
         simp only [Act.put, List.setIfInBounds_toArray, List.set_cons_zero, List.set_cons_succ]))
    refine Settle.Settles.nil ?_
    intro wr S0
    obtain ⟨⟨_, _⟩, ⟨_, _⟩, _, _, ⟨⟨_, _, _⟩, _⟩, _⟩ := id S0
    cases bb
    · have h2 := Lib.hid (HW.out rfl)
      clear HW HAk QK
      go_wp2_with fail
      first
        | exact ⟨⟨k + 1, by omega, by go_num, h2, S0.1, S0.2.1, S0.2.2.1, S0.2.2.2.1, S0.2.2.2.2.2⟩, by simp [intOf]; omega⟩
        | (go_roundw <;> first | exact ⟨k + 1, by omega, by go_num, h2, S0.1, S0.2.1, S0.2.2.1, S0.2.2.2.1, S0.2.2.2.2.2⟩ | (simp [intOf]; omega))
    · have E := Lib.hid (HAk.out rfl)
      clear HW HAk QK
      go_wp2_with fail
      go_ret
      exact ⟨ret_i64 E.out.symm, S0.2.2.2.2.2⟩
end Go.Proofs.YtkcodmafakjkfaaGreat.TriOfSpec

