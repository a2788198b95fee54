/-
  What the landed code asks of lists of points in a room, as contracts: what each answers; no old cell is written.
-/
import Derived.Test.YtonbpmabmjhdgacFromImpl
import Derived.Test.YtonbpmabmjhdgacFiltImpl
import Derived.Test.YtonbpmabmjhdgacFacts
namespace Go.Proofs.Ytonbpmabmjhdgac.InImpl
open Go.RowKit Own PointMath WallMath RoomMath Pts Blk AreaMath PlaceMath FloorMath LineMath CutsMath SightMath KernMath FromImpl
open PointOk (ret_bool ret_i64 below1 below2 below3)

theorem first_any (n : Nat) (f : Nat → Bool) : decide (0 ≤ firstI n f) = (List.range n).any f := by
  cases h : (List.range n).any f
  · rw [firstI_none (fun k hk => by
      have := List.any_eq_false.1 h k (List.mem_range.2 hk)
      simpa using this)]
    rfl
  · obtain ⟨k, hk, hf⟩ := List.any_eq_true.1 h
    unfold firstI
    cases hf2 : (List.range n).find? f with
    | some j => simp
    | none =>
      have := List.find?_eq_none.1 hf2 k hk
      rw [hf] at this
      exact absurd rfl this
theorem pt_pre {qs : List (Int × Int)} {k j : Nat} (h : j < k) : pt (qs.take k) j = pt qs j := by
  unfold pt
  rw [List.getD_eq_getElem?_getD, List.getD_eq_getElem?_getD, List.getElem?_take, if_pos h]

/-- The first points of a slice. -/
theorem pts_take {w : World} {b k : Nat} {A : Option Addr} {qs : List (Int × Int)} (h : PtsAt w b A qs) : PtsAt w b A (qs.take k) := by
  intro j hj
  have h1 : j < k ∧ j < qs.length := by rw [List.length_take] at hj; omega
  have h2 := h j h1.2
  have e : (qs.take k)[j]'hj = qs[j]'h1.2 := List.getElem_take
  rw [e]
  exact h2

set_option maxRecDepth 100000 in
set_option maxHeartbeats 1600000 in
theorem areIn (A : Option Addr) (n cap : Nat) (B : Option Addr) (m cb : Nat) (w : World) (ps : List (Int × Int)) (hl : ps.length = n) (hn : n ≤ 1048576) (hp : PtsAt w w.heap.size A ps) (qs : List (Int × Int)) (hl2 : qs.length = m) (hn2 : m ≤ 1048576) (hq : PtsAt w w.heap.size B qs) :
    Calls Try.prog 107 #[.agg #[.slice A n cap], .slice B m cb] w fun e w' => e = .returned (.bool (allIn ps qs)) ∧ Below w.heap.size w w' := by
  obtain ⟨r, hr⟩ : ∃ r, allIn ps qs = r := ⟨_, rfl⟩
  have HR := Lib.hid hr
  rw [hr]
  clear hr
  have HE : Hid (r = (roomB ps && decide (countTo ps qs m = (m : Int)))) := Lib.hid (by rw [← HR.out]; exact allIn_count hl2)
  have QC : Hid (∀ w hp hq, _) := Lib.hid fun w hp hq => PlaceImpl.countIn A n cap B m cb w ps hl hn hp qs hl2 hn2 hq
  rw [hl2] at QC
  clear HR
  go_enter Try.func107, Try.ntmps107
  go_wp2_with fail
  have X0 := Pts.boxR w (.slice A n cap) 30 (k := w.heap.size) (by simp)
  have b0 := PointOk.below1 w (Obj.cells #[.slice A n cap] 30)
  have HO : ∀ W W' : World, (Pts.BoxR W (w.heap.size) (.slice A n cap) ∧ PtsAt W w.heap.size A ps ∧ PtsAt W w.heap.size B qs ∧ Below w.heap.size w W) → Below W.heap.size W W' → (Pts.BoxR W' (w.heap.size) (.slice A n cap) ∧ PtsAt W' w.heap.size A ps ∧ PtsAt W' w.heap.size B qs ∧ Below w.heap.size w W') := fun W W' ⟨h0, x0, x1, hb⟩ h => ⟨h0.later h, x0.later (h.mono hb.size), x1.later (h.mono hb.size), hb.trans (h.mono hb.size)⟩
  have hz0_ : Hid (((w.alloc (Obj.cells #[.slice A n cap] 30))).heap.size = w.heap.size + 1) := Lib.hid (by simp)
  have Y0 : PtsAt ((w.alloc (Obj.cells #[.slice A n cap] 30))) w.heap.size A ps := hp.later b0
  have Y1 : PtsAt ((w.alloc (Obj.cells #[.slice A n cap] 30))) w.heap.size B qs := hq.later b0
  generalize (w.alloc (Obj.cells #[.slice A n cap] 30)) = w0 at X0 Y0 Y1 b0 hz0_ ⊢
  have S0 := (⟨X0, Y0, Y1, b0⟩ : Pts.BoxR w0 (w.heap.size) (.slice A n cap) ∧ PtsAt w0 w.heap.size A ps ∧ PtsAt w0 w.heap.size B qs ∧ Below w.heap.size w w0)
  clear X0 Y0 Y1 b0
  obtain ⟨⟨_, _⟩, _, _, _⟩ := id S0
  refine (RoomOkImpl.roomOk A n cap _ ps hl hn (S0.2.1.wide S0.2.2.2.size)).mono ?_
  rintro e w1 ⟨rfl, hb_⟩
  replace S0 := HO _ _ S0 hb_
  clear hb_
  obtain ⟨⟨_, _⟩, _, _, _⟩ := id S0
  cases hr : roomB ps
  · have E : Hid (r = false) := Lib.hid (by rw [HE.out, hr]; rfl)
    clear hl hl2 HE
    go_wp2_with fail
    go_ret
    exact ⟨ret_bool E.out.symm, S0.2.2.2⟩
  rw [hr] at HE
  generalize countTo ps qs m = c at *
  clear hl hl2 hr
  go_wp2_with fail
  refine (QC.out _ (S0.2.1.wide S0.2.2.2.size) (S0.2.2.1.wide S0.2.2.2.size)).mono ?_
  rintro e w2 ⟨rfl, hb_⟩
  replace S0 := HO _ _ S0 hb_
  clear hb_
  obtain ⟨⟨_, _⟩, _, _, _⟩ := id S0
  go_wp2_with fail
  go_ret
  exact ⟨ret_bool (by rw [HE.out, Bool.eq_iff_iff]; simp), S0.2.2.2⟩

end Go.Proofs.Ytonbpmabmjhdgac.InImpl

