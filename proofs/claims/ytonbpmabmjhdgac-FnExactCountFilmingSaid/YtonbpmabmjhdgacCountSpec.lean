/-
  What CountFilming does, as a contract: what it answers; new memory alone is written.
-/
import Derived.Test.YtonbpmabmjhdgacWorstSpec
import Derived.Test.YtonbpmabmjhdgacCountMath

namespace Go.Proofs.Ytonbpmabmjhdgac.CountSpec
open Go.RowKit Own PointMath RoomMath Pts Blk SightMath TrackMath FilmMath CountMath
open PointOk (ret_bool ret_i64 below1 below2 below3)
open Tup7 (tt tt_at filtT filtT_len)

set_option maxRecDepth 100000 in
set_option maxHeartbeats 6400000 in
theorem countFilming (A : Option Addr) (n cap : Nat) (B : Option Addr) (m cb : Nat) (x y : Int) (w : World) (ps : List (Int × Int)) (hl : ps.length = n) (hn : n ≤ 1048576) (hp : PtsAt w w.heap.size A ps) (qs : List Tup7.Tu) (hl2 : qs.length = m) (hn2 : m ≤ 1048576) (hq : Tup7.TsAt w w.heap.size B qs) :
    Calls Try.prog 35 #[.agg #[.slice A n cap], .slice B m cb, .agg #[.int .i64 x, .int .i64 y]] w fun e w' => e = .returned (.int .i64 (filmI ps qs x y)) ∧ Below w.heap.size w w' := by
  obtain ⟨r, hr⟩ : ∃ r, filmI ps qs x y = r := ⟨_, rfl⟩
  have HR := Lib.hid hr
  rw [hr]
  clear hr
  have HE : Hid (((filtT (filmF ps qs x y) qs m).length : Int) = r) := Lib.hid (by rw [← HR.out, ← hl2]; rfl)
  clear HR
  go_enter Try.func35, Try.ntmps35
  go_wp2_with fail
  have X0 := (Pts.boxR w (.slice A n cap) 30 (k := w.heap.size) (by simp)).alloc (Obj.cells #[.int .i64 x, .int .i64 y] 42)
  have X1 := PointOk.box1 (w.alloc (Obj.cells #[.slice A n cap] 30)) x y 42 (k := w.heap.size + 1) (by simp)
  have b0 := PointOk.below2 w (Obj.cells #[.slice A n cap] 30) (Obj.cells #[.int .i64 x, .int .i64 y] 42)
  have HO : ∀ W W' : World, (Pts.BoxR W (w.heap.size) (.slice A n cap) ∧ PointOk.Box W (w.heap.size + 1) x y ∧ PtsAt W w.heap.size A ps ∧ Tup7.TsAt W w.heap.size B qs ∧ Below w.heap.size w W) → Below W.heap.size W W' → (Pts.BoxR W' (w.heap.size) (.slice A n cap) ∧ PointOk.Box W' (w.heap.size + 1) x y ∧ PtsAt W' w.heap.size A ps ∧ Tup7.TsAt W' w.heap.size B qs ∧ Below w.heap.size w W') := fun W W' ⟨h0, h1, x0, x1, hb⟩ h => ⟨h0.later h, h1.later h, x0.later (h.mono hb.size), x1.later (h.mono hb.size), hb.trans (h.mono hb.size)⟩
  have hz0_ : Hid ((((w.alloc (Obj.cells #[.slice A n cap] 30)).alloc (Obj.cells #[.int .i64 x, .int .i64 y] 42))).heap.size = w.heap.size + 1 + 1) := Lib.hid (by simp)
  have Y0 : PtsAt (((w.alloc (Obj.cells #[.slice A n cap] 30)).alloc (Obj.cells #[.int .i64 x, .int .i64 y] 42))) w.heap.size A ps := hp.later b0
  have Y1 : Tup7.TsAt (((w.alloc (Obj.cells #[.slice A n cap] 30)).alloc (Obj.cells #[.int .i64 x, .int .i64 y] 42))) w.heap.size B qs := hq.later b0
  generalize ((w.alloc (Obj.cells #[.slice A n cap] 30)).alloc (Obj.cells #[.int .i64 x, .int .i64 y] 42)) = w0 at X0 X1 Y0 Y1 b0 hz0_ ⊢
  have S0 := (⟨X0, X1, Y0, Y1, b0⟩ : Pts.BoxR w0 (w.heap.size) (.slice A n cap) ∧ PointOk.Box w0 (w.heap.size + 1) x y ∧ PtsAt w0 w.heap.size A ps ∧ Tup7.TsAt w0 w.heap.size B qs ∧ Below w.heap.size w w0)
  clear X0 X1 Y0 Y1 b0
  obtain ⟨⟨_, _⟩, ⟨_, _⟩, _, _, _⟩ := id S0
  go_loopw [7, 8] (fun v q wr => ∃ k : Nat, k ≤ m ∧ q = .int .i64 k ∧ v = .int .i64 ((filtT (filmF ps qs x y) qs k).length : Int) ∧ (Pts.BoxR wr (w.heap.size) (.slice A n cap) ∧ PointOk.Box wr (w.heap.size + 1) x y ∧ PtsAt wr w.heap.size A ps ∧ Tup7.TsAt wr w.heap.size B qs ∧ Below w.heap.size w wr))
    (fun _ q _ => m - (intOf q).toNat)
  case atStart => exact ⟨0, Nat.zero_le _, rfl, rfl, S0⟩
  case round =>
    clear S0
    obtain ⟨k, hkm, rfl, rfl, S0⟩ := hrel
    obtain ⟨⟨_, _⟩, ⟨_, _⟩, _, _, _⟩ := id S0
    by_cases hlt : k < m
    rotate_left
    · obtain rfl : m = k := by omega
      rw [HE.out]
      clear hl hl2 HE
      go_wp2_with fail
      go_ret
      exact ⟨rfl, S0.2.2.2.2⟩
    have hk1 : (k : Int) < (m : Int) := by omega
    have hk0 : (0 : Int) ≤ (k : Int) := by omega
    have p0 := tt_at (ps := qs) (k := k) (by omega)
    have hcl := filtT_len (filmF ps qs x y) qs k
    have HN := Lib.hid (CountMath.filt_next (filmF ps qs x y) qs k)
    have hf : filmF ps qs x y k = filmsT ps (tt qs k) x y := rfl
    rw [hf] at HN
    obtain ⟨z0, z1, z2, z3, z4, z5, z6, hg⟩ : ∃ z0 z1 z2 z3 z4 z5 z6, tt qs k = (z0, z1, z2, z3, z4, z5, z6) := ⟨_, _, _, _, _, _, _, rfl⟩
    rw [hg] at p0 HN
    have Q1 : Hid (∀ w hp, _) := Lib.hid fun w hp => WorstSpec.films A n cap z0 z1 z2 z3 z4 z5 z6 x y w ps hl hn hp
    obtain ⟨s, hs⟩ : ∃ s, filmsB ps z0 z1 z2 z3 z4 z5 z6 x y = s := ⟨_, rfl⟩
    have hs2 : filmsT ps (z0, z1, z2, z3, z4, z5, z6) x y = s := hs
    rw [hs] at Q1
    rw [hs2] at HN
    generalize (filtT (filmF ps qs x y) qs k).length = v at *
    obtain ⟨bd, eB, bB, pB⟩ := S0.2.2.2.1.get p0
    subst eB
    have u1 : IntKind.i64.wrap ((v : Int) + 1) = (v : Int) + 1 := IntWalk.i64_in _ (by omega)
    have HO : ∀ W W' : World, (BoxR W w.heap.size (.slice A n cap) ∧ PointOk.Box W (w.heap.size + 1) x y ∧ PtsAt W w.heap.size A ps ∧ Tup7.TsAt W w.heap.size (some bd) qs ∧ Tup7.TAt W bd k z0 z1 z2 z3 z4 z5 z6 ∧ Below w.heap.size w W) → Below W.heap.size W W' → (BoxR W' w.heap.size (.slice A n cap) ∧ PointOk.Box W' (w.heap.size + 1) x y ∧ PtsAt W' w.heap.size A ps ∧ Tup7.TsAt W' w.heap.size (some bd) qs ∧ Tup7.TAt W' bd k z0 z1 z2 z3 z4 z5 z6 ∧ Below w.heap.size w W') := fun W W' ⟨x0, x1, x2, x3, x4, hb⟩ h => ⟨x0.later h, x1.later h, x2.later (h.mono hb.size), x3.later (h.mono hb.size), x4.later bB (h.mono hb.size), hb.trans (h.mono hb.size)⟩
    replace S0 : BoxR wr w.heap.size (.slice A n cap) ∧ PointOk.Box wr (w.heap.size + 1) x y ∧ PtsAt wr w.heap.size A ps ∧ Tup7.TsAt wr w.heap.size (some bd) qs ∧ Tup7.TAt wr bd k z0 z1 z2 z3 z4 z5 z6 ∧ Below w.heap.size w wr := ⟨S0.1, S0.2.1, S0.2.2.1, S0.2.2.2.1, pB, S0.2.2.2.2⟩
    clear pB p0 hg hs hs2 hf hl hl2 HE
    obtain ⟨⟨_, _⟩, ⟨_, _⟩, _, _, ⟨_, _, _, _, _, _, _⟩, _⟩ := id S0
    go_wp2_with fail
    refine Settle.region (fun W => BoxR W w.heap.size (.slice A n cap) ∧ PointOk.Box W (w.heap.size + 1) x y ∧ PtsAt W w.heap.size A ps ∧ Tup7.TsAt W w.heap.size (some bd) qs ∧ Tup7.TAt W bd k z0 z1 z2 z3 z4 z5 z6 ∧ Below w.heap.size w W) (by kernel_rfl) (by kernel_rfl) (by kernel_rfl) (by kernel_rfl) (HO _ _ S0 ((Below.refl _ _).drew)) ?_
    clear S0
    repeat (first
      | (refine Settle.Settles.off (by rfl) ?_; simp only [Act.put, List.setIfInBounds_toArray, List.set_cons_zero, List.set_cons_succ])
      | (refine Settle.Settles.quiet (v := ?_) (by rfl) ?_ ?_
         rotate_left
         · (intro W hS; obtain ⟨⟨_, _⟩, ⟨_, _⟩, _, _, ⟨_, _, _, _, _, _, _⟩, _⟩ := hS; go_simp; with_reducible rfl)
         simp only [Act.put, List.setIfInBounds_toArray, List.set_cons_zero, List.set_cons_succ])
      | (refine Settle.Settles.call (v := ?_) (f := ?_) (args := ?_) (by rfl) ?_ ?_ ?_
         rotate_left 3
         · (intro W; go_simp; refine ⟨?_, ?_⟩ <;> with_reducible rfl)
         · (intro W hS; first | (go_at_call 25; (with_reducible refine (Q1.out _ (hS.2.2.1.wide hS.2.2.2.2.2.size)).mono ?_); rintro e W1 ⟨rfl, hb⟩; refine ⟨?_, HO _ _ hS hb⟩; with_reducible rfl))
         simp only [Act.put, List.setIfInBounds_toArray, List.set_cons_zero, List.set_cons_succ]))
    refine Settle.Settles.nil ?_
    intro wr S0
    obtain ⟨⟨_, _⟩, ⟨_, _⟩, _, _, ⟨_, _, _, _, _, _, _⟩, _⟩ := id S0
    cases s
    · have HN2 : Hid (((filtT (filmF ps qs x y) qs (k + 1)).length : Int) = (v : Int)) := Lib.hid (by rw [HN.out]; rfl)
      clear HN Q1
      go_wp2_with fail
      first
        | exact ⟨⟨k + 1, by omega, by go_num, by rw [HN2.out], S0.1, S0.2.1, S0.2.2.1, S0.2.2.2.1, S0.2.2.2.2.2⟩, by simp [intOf]; omega⟩
        | (go_roundw <;> first | exact ⟨k + 1, by omega, by go_num, by rw [HN2.out], S0.1, S0.2.1, S0.2.2.1, S0.2.2.2.1, S0.2.2.2.2.2⟩ | (simp [intOf]; omega))
    · have HN2 : Hid (((filtT (filmF ps qs x y) qs (k + 1)).length : Int) = (v : Int) + 1) := Lib.hid (by rw [HN.out]; rfl)
      clear HN Q1
      go_wp2_with fail
      first
        | exact ⟨⟨k + 1, by omega, by go_num, by rw [HN2.out], S0.1, S0.2.1, S0.2.2.1, S0.2.2.2.1, S0.2.2.2.2.2⟩, by simp [intOf]; omega⟩
        | (go_roundw <;> first | exact ⟨k + 1, by omega, by go_num, by rw [HN2.out], S0.1, S0.2.1, S0.2.2.1, S0.2.2.2.1, S0.2.2.2.2.2⟩ | (simp [intOf]; omega))

end Go.Proofs.Ytonbpmabmjhdgac.CountSpec

