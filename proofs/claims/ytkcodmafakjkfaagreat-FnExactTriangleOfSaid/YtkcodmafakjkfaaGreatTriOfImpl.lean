/-
  What the landed TriangleOf does, as a contract: the first triangle that the point is in, or -1; new memory alone is written.
-/
import Derived.Test.YtkcodmafakjkfaaGreatTreeLand
import Derived.Test.YtkcodmafakjkfaaGreatInTriImpl
import Derived.Test.YtkcodmafakjkfaaGreatTriOfMath
namespace Go.Proofs.YtkcodmafakjkfaaGreat.TriOfImpl
open Go.RowKit Own PointMath WallMath RoomMath Pts Blk AreaMath PlaceMath FloorMath LineMath CutsMath SightMath DiagMath TriMath TrisMath TreeMath Ints Tup3 TriRow TrisLand TriOfMath
open PointOk (ret_bool ret_i64 below1 below2 below3)

set_option maxRecDepth 100000 in
set_option maxHeartbeats 1600000 in
theorem inOne (A : Option Addr) (n cap C1 C2 : Nat) (a b c x y : Int) (w : World) (ps : List (Int × Int)) (hl : ps.length = n) (hn : n ≤ 1048576)
    (h1 : BoxR w C1 (.slice A n cap)) (h2 : PointOk.Box w C2 x y) (hp : PtsAt w w.heap.size A ps) :
    Calls Tryz.prog 70 (#[.agg #[.int .i64 a, .int .i64 b, .int .i64 c]] ++ #[.pointer (some ⟨C1, 0, none⟩), .pointer (some ⟨C2, 0, none⟩)]) w fun e w' => e = .returned (.bool (inTriB ps a b c x y)) ∧ Below w.heap.size w w' := by
  show Calls Tryz.prog 70 #[.agg #[.int .i64 a, .int .i64 b, .int .i64 c], .pointer (some ⟨C1, 0, none⟩), .pointer (some ⟨C2, 0, none⟩)] w _
  have l1 := World.block_lt_of_cell? _ _ h1.1
  have l2 := World.block_lt_of_cell? _ _ h2.1
  have QT : Hid (∀ W h, _) := Lib.hid fun W h => TriImpl.inTri A n cap a b c x y W ps hl hn h
  have a1 := below1 w (Obj.cells #[.int .i64 a, .int .i64 b, .int .i64 c] 65)
  have a2 := h1.later a1
  have a3 := h2.later a1
  obtain ⟨_, _⟩ := id a2
  obtain ⟨_, _⟩ := id a3
  go_enter Tryz.func70, Tryz.ntmps70
  go_wp2_with fail
  have X0 := Box3.box1 w a b c 65 (k := w.heap.size) (by simp)
  have b0 := PointOk.below1 w (Obj.cells #[.int .i64 a, .int .i64 b, .int .i64 c] 65)
  have HO : ∀ W W' : World, (Box3.Box W (w.heap.size) a b c ∧ BoxR W C1 (.slice A n cap) ∧ PointOk.Box W C2 x y ∧ PtsAt W w.heap.size A ps ∧ Below w.heap.size w W) → Below W.heap.size W W' → (Box3.Box W' (w.heap.size) a b c ∧ BoxR W' C1 (.slice A n cap) ∧ PointOk.Box W' C2 x y ∧ PtsAt W' w.heap.size A ps ∧ Below w.heap.size w W') := fun W W' ⟨h0, x0, x1, x2, hb⟩ h => ⟨h0.later h, x0.later h, x1.later h, x2.later (h.mono hb.size), hb.trans (h.mono hb.size)⟩
  have hz0_ : Hid (((w.alloc (Obj.cells #[.int .i64 a, .int .i64 b, .int .i64 c] 65))).heap.size = w.heap.size + 1) := Lib.hid (by simp)
  have Y0 : BoxR ((w.alloc (Obj.cells #[.int .i64 a, .int .i64 b, .int .i64 c] 65))) C1 (.slice A n cap) := a2
  have Y1 : PointOk.Box ((w.alloc (Obj.cells #[.int .i64 a, .int .i64 b, .int .i64 c] 65))) C2 x y := a3
  have Y2 : PtsAt ((w.alloc (Obj.cells #[.int .i64 a, .int .i64 b, .int .i64 c] 65))) w.heap.size A ps := hp.later b0
  generalize (w.alloc (Obj.cells #[.int .i64 a, .int .i64 b, .int .i64 c] 65)) = w0 at X0 Y0 Y1 Y2 b0 hz0_ ⊢
  have S0 := (⟨X0, Y0, Y1, Y2, b0⟩ : Box3.Box w0 (w.heap.size) a b c ∧ BoxR w0 C1 (.slice A n cap) ∧ PointOk.Box w0 C2 x y ∧ PtsAt w0 w.heap.size A ps ∧ Below w.heap.size w w0)
  clear X0 Y0 Y1 Y2 b0
  obtain ⟨⟨_, _, _⟩, ⟨_, _⟩, ⟨_, _⟩, _, _⟩ := id S0
  refine (QT.out _ (S0.2.2.2.1.wide S0.2.2.2.2.size)).mono ?_
  rintro e w1 ⟨rfl, hb_⟩
  replace S0 := HO _ _ S0 hb_
  clear hb_ QT
  go_wp2_with fail
  go_ret
  exact ⟨rfl, S0.2.2.2.2⟩

set_option maxRecDepth 100000 in
set_option maxHeartbeats 3200000 in
theorem triangleOf (A : Option Addr) (n cap : Nat) (x y : Int) (w : World) (ps : List (Int × Int)) (hl : ps.length = n) (hn : n ≤ 1048576) (hp : PtsAt w w.heap.size A ps) :
    Calls Tryz.prog 26 #[.agg #[.slice A n cap], .agg #[.int .i64 x, .int .i64 y]] w fun e w' => e = .returned (.int .i64 (triOfI ps x y)) ∧ Below w.heap.size w w' := by
  obtain ⟨r, hr⟩ : ∃ r, triOfI ps x y = r := ⟨_, rfl⟩
  have HR := Lib.hid hr
  rw [hr]
  clear hr
  have HE : Hid (FirstMath.firstI (trisL ps).length (inF ps x y) = r) := Lib.hid (by rw [← HR.out]; rfl)
  have QT : Hid (∀ W h, _) := Lib.hid fun W h => trianglesOf A n cap W ps hl hn h
  have hle := trisL_le ps
  unfold GivesT at QT
  obtain ⟨f, hf⟩ : ∃ f, inF ps x y = f := ⟨_, rfl⟩
  rw [hf] at HE
  have HF : Hid (∀ k, inTriB ps (tt (trisL ps) k).1 (tt (trisL ps) k).2.1 (tt (trisL ps) k).2.2 x y = f k) := Lib.hid (fun k => by rw [← hf]; rfl)
  generalize trisL ps = L at *
  obtain ⟨m, hm⟩ : ∃ m, L.length = m := ⟨_, rfl⟩
  rw [hm] at QT HE hle
  clear HR hf
  go_enter Tryz.func26, Tryz.ntmps26
  go_wp2_with fail
  have X0 := (Pts.boxR w (.slice A n cap) 30 (k := w.heap.size) (by simp)).alloc (Obj.cells #[.int .i64 x, .int .i64 y] 40)
  have X1 := PointOk.box1 (w.alloc (Obj.cells #[.slice A n cap] 30)) x y 40 (k := w.heap.size + 1) (by simp)
  have b0 := PointOk.below2 w (Obj.cells #[.slice A n cap] 30) (Obj.cells #[.int .i64 x, .int .i64 y] 40)
  have HO : ∀ W W' : World, (Pts.BoxR W (w.heap.size) (.slice A n cap) ∧ PointOk.Box W (w.heap.size + 1) x y ∧ PtsAt W w.heap.size A ps ∧ Below w.heap.size w W) → Below W.heap.size W W' → (Pts.BoxR W' (w.heap.size) (.slice A n cap) ∧ PointOk.Box W' (w.heap.size + 1) x y ∧ PtsAt W' w.heap.size A ps ∧ Below w.heap.size w W') := fun W W' ⟨h0, h1, x0, hb⟩ h => ⟨h0.later h, h1.later h, x0.later (h.mono hb.size), hb.trans (h.mono hb.size)⟩
  have hz0_ : Hid ((((w.alloc (Obj.cells #[.slice A n cap] 30)).alloc (Obj.cells #[.int .i64 x, .int .i64 y] 40))).heap.size = w.heap.size + 1 + 1) := Lib.hid (by simp)
  have Y0 : PtsAt (((w.alloc (Obj.cells #[.slice A n cap] 30)).alloc (Obj.cells #[.int .i64 x, .int .i64 y] 40))) w.heap.size A ps := hp.later b0
  generalize ((w.alloc (Obj.cells #[.slice A n cap] 30)).alloc (Obj.cells #[.int .i64 x, .int .i64 y] 40)) = w0 at X0 X1 Y0 b0 hz0_ ⊢
  have S0 := (⟨X0, X1, Y0, b0⟩ : Pts.BoxR w0 (w.heap.size) (.slice A n cap) ∧ PointOk.Box w0 (w.heap.size + 1) x y ∧ PtsAt w0 w.heap.size A ps ∧ Below w.heap.size w w0)
  clear X0 X1 Y0 b0
  obtain ⟨⟨_, _⟩, ⟨_, _⟩, _, _⟩ := id S0
  refine (QT.out _ (S0.2.2.1.wide S0.2.2.2.size)).mono ?_
  rintro e w2 ⟨A2, c2, rfl, h4, _, hb_⟩
  replace S0 := HO _ _ S0 hb_
  have T2 := TreeLand.ts_own h4
  clear h4 hb_ QT
  have QF := Lib.hid fun eF Q => InTriImpl.indexFunc 70 #[.pointer (some ⟨w.heap.size, 0, none⟩), .pointer (some ⟨w.heap.size + 1, 0, none⟩)] f A2 m c2 w2 L hm (by omega) T2 eF Q
  rw [HE.out] at QF
  go_wp2_with fail
  refine (QF.out ?eF ?qq).mono ?_
  case eF => (intro args w; first | exact Tryz.call70 args w | rfl)
  case qq =>
    intro W k hk hb
    have hS := HO _ _ S0 hb
    rw [← HF.out k]
    exact inOne A n cap w.heap.size (w.heap.size + 1) _ _ _ x y W ps hl hn hS.1 hS.2.1 (hS.2.2.1.wide hS.2.2.2.size)
  rintro e w3 ⟨rfl, hb_⟩
  replace S0 := HO _ _ S0 hb_
  clear hb_ QF HF HE T2 hl hm
  go_wp2_with fail
  go_ret
  exact ⟨rfl, S0.2.2.2⟩
end Go.Proofs.YtkcodmafakjkfaaGreat.TriOfImpl

