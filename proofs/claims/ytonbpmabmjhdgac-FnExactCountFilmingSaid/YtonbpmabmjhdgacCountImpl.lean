/-
  What CountFilming does, as a contract: what it answers; new memory alone is written.
-/
import Derived.Test.YtonbpmabmjhdgacWorstImpl
import Derived.Test.YtonbpmabmjhdgacCountMath
import Derived.Test.YtonbpmabmjhdgacFiltCameraImpl
namespace Go.Proofs.Ytonbpmabmjhdgac.CountImpl
open Go.RowKit Own PointMath RoomMath Pts Blk SightMath TrackMath FilmMath CountMath
open PointOk (ret_bool ret_i64 below1 below2 below3)
open Tup7 (tt tt_at filtT filtT_len)

set_option maxRecDepth 100000 in
set_option maxHeartbeats 6400000 in
/-- The closure asks whether a camera films the point. -/
theorem asksFilm (C1 C2 : Nat) (A : Option Addr) (n cap : Nat) (z0 z1 z2 z3 z4 z5 z6 x y : Int) (w : World) (ps : List (Int × Int)) (hl : ps.length = n) (hn : n ≤ 1048576)
    (h1 : Pts.BoxR w C1 (.slice A n cap)) (h2 : PointOk.Box w C2 x y) (hp : PtsAt w w.heap.size A ps) :
    Calls Try.prog 81 #[.agg #[.int .i64 z0, .int .i64 z1, .int .i64 z2, .int .i64 z3, .int .i64 z4, .int .i64 z5, .int .i64 z6], .pointer (some ⟨C1, 0, none⟩), .pointer (some ⟨C2, 0, none⟩)] w fun e w' => e = .returned (.bool (filmsB ps z0 z1 z2 z3 z4 z5 z6 x y)) ∧ Below w.heap.size w w' := by
  have Q1 : Hid (∀ w hp, _) := Lib.hid fun w hp => WorstImpl.films A n cap z0 z1 z2 z3 z4 z5 z6 x y w ps hl hn hp
  generalize filmsB ps z0 z1 z2 z3 z4 z5 z6 x y = r at *
  clear hl
  obtain ⟨_, _⟩ := h1.later (below1 w (Obj.cells #[.int .i64 z0, .int .i64 z1, .int .i64 z2, .int .i64 z3, .int .i64 z4, .int .i64 z5, .int .i64 z6] 44))
  obtain ⟨_, _⟩ := h2.later (below1 w (Obj.cells #[.int .i64 z0, .int .i64 z1, .int .i64 z2, .int .i64 z3, .int .i64 z4, .int .i64 z5, .int .i64 z6] 44))
  have x0_ := Tup7.box1 w z0 z1 z2 z3 z4 z5 z6 44 (k := w.heap.size) rfl
  obtain ⟨_, _, _, _, _, _, _⟩ := id x0_
  go_enter Try.func81, Try.ntmps81
  go_wp2_with fail
  have X0 := Tup7.box1 w z0 z1 z2 z3 z4 z5 z6 44 (k := w.heap.size) (by simp)
  have b0 := PointOk.below1 w (Obj.cells #[.int .i64 z0, .int .i64 z1, .int .i64 z2, .int .i64 z3, .int .i64 z4, .int .i64 z5, .int .i64 z6] 44)
  have HO : ∀ W W' : World, (Tup7.Box W (w.heap.size) z0 z1 z2 z3 z4 z5 z6 ∧ Pts.BoxR W C1 (.slice A n cap) ∧ PointOk.Box W C2 x y ∧ PtsAt W w.heap.size A ps ∧ Below w.heap.size w W) → Below W.heap.size W W' → (Tup7.Box W' (w.heap.size) z0 z1 z2 z3 z4 z5 z6 ∧ Pts.BoxR W' C1 (.slice A n cap) ∧ PointOk.Box W' C2 x y ∧ PtsAt W' w.heap.size A ps ∧ Below w.heap.size w W') := fun W W' ⟨h0, x0, x1, x2, hb⟩ h => ⟨h0.later h, x0.later h, x1.later h, x2.later (h.mono hb.size), hb.trans (h.mono hb.size)⟩
  have hz0_ : Hid (((w.alloc (Obj.cells #[.int .i64 z0, .int .i64 z1, .int .i64 z2, .int .i64 z3, .int .i64 z4, .int .i64 z5, .int .i64 z6] 44))).heap.size = w.heap.size + 1) := Lib.hid (by simp)
  have Y0 : Pts.BoxR ((w.alloc (Obj.cells #[.int .i64 z0, .int .i64 z1, .int .i64 z2, .int .i64 z3, .int .i64 z4, .int .i64 z5, .int .i64 z6] 44))) C1 (.slice A n cap) := h1.later b0
  have Y1 : PointOk.Box ((w.alloc (Obj.cells #[.int .i64 z0, .int .i64 z1, .int .i64 z2, .int .i64 z3, .int .i64 z4, .int .i64 z5, .int .i64 z6] 44))) C2 x y := h2.later b0
  have Y2 : PtsAt ((w.alloc (Obj.cells #[.int .i64 z0, .int .i64 z1, .int .i64 z2, .int .i64 z3, .int .i64 z4, .int .i64 z5, .int .i64 z6] 44))) w.heap.size A ps := hp.later b0
  generalize (w.alloc (Obj.cells #[.int .i64 z0, .int .i64 z1, .int .i64 z2, .int .i64 z3, .int .i64 z4, .int .i64 z5, .int .i64 z6] 44)) = w0 at X0 Y0 Y1 Y2 b0 hz0_ ⊢
  have S0 := (⟨X0, Y0, Y1, Y2, b0⟩ : Tup7.Box w0 (w.heap.size) z0 z1 z2 z3 z4 z5 z6 ∧ Pts.BoxR w0 C1 (.slice A n cap) ∧ PointOk.Box w0 C2 x y ∧ PtsAt w0 w.heap.size A ps ∧ Below w.heap.size w w0)
  clear X0 Y0 Y1 Y2 b0
  obtain ⟨⟨_, _, _, _, _, _, _⟩, ⟨_, _⟩, ⟨_, _⟩, _, _⟩ := id S0
  clear h1 h2 hp
  refine (Q1.out _ (S0.2.2.2.1.wide S0.2.2.2.2.size)).mono ?_
  rintro e w1 ⟨rfl, hb_⟩
  replace S0 := HO _ _ S0 hb_
  clear hb_
  obtain ⟨⟨_, _, _, _, _, _, _⟩, ⟨_, _⟩, ⟨_, _⟩, _, _⟩ := id S0
  go_wp2_with fail
  go_ret
  exact ⟨rfl, S0.2.2.2.2⟩

set_option maxRecDepth 100000 in
set_option maxHeartbeats 6400000 in
theorem countFilming (A : Option Addr) (n cap : Nat) (B : Option Addr) (m cb : Nat) (x y : Int) (w : World) (ps : List (Int × Int)) (hl : ps.length = n) (hn : n ≤ 1048576) (hp : PtsAt w w.heap.size A ps) (qs : List Tup7.Tu) (hl2 : qs.length = m) (hn2 : m ≤ 1048576) (hq : Tup7.TsAt w w.heap.size B qs) :
    Calls Try.prog 37 #[.agg #[.slice A n cap], .slice B m cb, .agg #[.int .i64 x, .int .i64 y]] w fun e w' => e = .returned (.int .i64 (filmI ps qs x y)) ∧ Below w.heap.size w w' := by
  obtain ⟨r, hr⟩ : ∃ r, filmI ps qs x y = r := ⟨_, rfl⟩
  have HR := Lib.hid hr
  rw [hr]
  clear hr
  have HE : Hid (((filtT (filmF ps qs x y) qs m).length : Int) = r) := Lib.hid (by rw [← HR.out, ← hl2]; rfl)
  have hmf : ∀ (fn : Fn) (first cap : Array Value) (w : World), (Instr.makeFunc fn first cap).run Try.prog w = .ok (.func fn first cap) w := fun _ _ _ _ => rfl
  clear HR
  go_enter Try.func37, Try.ntmps37
  go_wp2_with fail
  have X0 := (Pts.boxR w (.slice A n cap) 30 (k := w.heap.size) (by simp)).alloc (Obj.cells #[.int .i64 x, .int .i64 y] 42)
  have X1 := PointOk.box1 (w.alloc (Obj.cells #[.slice A n cap] 30)) x y 42 (k := w.heap.size + 1) (by simp)
  have b0 := PointOk.below2 w (Obj.cells #[.slice A n cap] 30) (Obj.cells #[.int .i64 x, .int .i64 y] 42)
  have HO : ∀ W W' : World, (Pts.BoxR W (w.heap.size) (.slice A n cap) ∧ PointOk.Box W (w.heap.size + 1) x y ∧ PtsAt W w.heap.size A ps ∧ Tup7.TsAt W w.heap.size B qs ∧ Below w.heap.size w W) → Below W.heap.size W W' → (Pts.BoxR W' (w.heap.size) (.slice A n cap) ∧ PointOk.Box W' (w.heap.size + 1) x y ∧ PtsAt W' w.heap.size A ps ∧ Tup7.TsAt W' w.heap.size B qs ∧ Below w.heap.size w W') := fun W W' ⟨h0, h1, x0, x1, hb⟩ h => ⟨h0.later h, h1.later h, x0.later (h.mono hb.size), x1.later (h.mono hb.size), hb.trans (h.mono hb.size)⟩
  have hz0_ : Hid ((((w.alloc (Obj.cells #[.slice A n cap] 30)).alloc (Obj.cells #[.int .i64 x, .int .i64 y] 42))).heap.size = w.heap.size + 1 + 1) := Lib.hid (by simp)
  have Y0 : PtsAt (((w.alloc (Obj.cells #[.slice A n cap] 30)).alloc (Obj.cells #[.int .i64 x, .int .i64 y] 42))) w.heap.size A ps := hp.later b0
  have Y1 : Tup7.TsAt (((w.alloc (Obj.cells #[.slice A n cap] 30)).alloc (Obj.cells #[.int .i64 x, .int .i64 y] 42))) w.heap.size B qs := hq.later b0
  generalize ((w.alloc (Obj.cells #[.slice A n cap] 30)).alloc (Obj.cells #[.int .i64 x, .int .i64 y] 42)) = w0 at X0 X1 Y0 Y1 b0 hz0_ ⊢
  have S0 := (⟨X0, X1, Y0, Y1, b0⟩ : Pts.BoxR w0 (w.heap.size) (.slice A n cap) ∧ PointOk.Box w0 (w.heap.size + 1) x y ∧ PtsAt w0 w.heap.size A ps ∧ Tup7.TsAt w0 w.heap.size B qs ∧ Below w.heap.size w w0)
  clear X0 X1 Y0 Y1 b0
  obtain ⟨⟨_, _⟩, ⟨_, _⟩, _, _, _⟩ := id S0
  have QF := Lib.hid fun hp eF Q => FiltCameraImpl.filtered 81 #[.pointer (some ⟨w.heap.size, 0, none⟩), .pointer (some ⟨w.heap.size + 1, 0, none⟩)] (filmF ps qs x y) B m cb w0 qs hl2 hn2 hp eF Q
  unfold GivesC at QF
  refine (QF.out (S0.2.2.2.1.wide S0.2.2.2.2.size) Try.call81 (fun W k hk hb => asksFilm w.heap.size (w.heap.size + 1) A n cap (tt qs k).1 (tt qs k).2.1 (tt qs k).2.2.1 (tt qs k).2.2.2.1 (tt qs k).2.2.2.2.1 (tt qs k).2.2.2.2.2.1 (tt qs k).2.2.2.2.2.2 x y W ps hl hn (S0.1.later hb) (S0.2.1.later hb) ((S0.2.2.1.later (hb.mono S0.2.2.2.2.size)).wide (Nat.le_trans S0.2.2.2.2.size hb.size)))).mono ?_
  rintro e w5 ⟨A2, c2, rfl, H2, hb_⟩
  replace S0 := HO _ _ S0 hb_
  clear hb_ QF H2
  go_wp2_with fail
  go_ret
  exact ⟨ret_i64 HE.out, S0.2.2.2.2⟩

end Go.Proofs.Ytonbpmabmjhdgac.CountImpl

