/-
  What the landed functions on rooms do, as contracts: what each answers; new memory alone is written.
-/
import Derived.Test.YtgelkpaiabhklaaGround
import Derived.Test.YtgelkpaiabhklaaFacts
namespace Go.Proofs.Ytgelkpaiabhklaa.RoomImpl
open Go.RowKit PointMath WallMath RoomMath Pts Blk
open PointOk (ret_bool ret_i64 below1 below2 below3)

theorem indexAround (A : Option Addr) (n cap : Nat) (k : Int) (h0 : 0 < n) (hn : n ≤ 1048576) (w : World) :
    Calls Try.prog 155 #[.slice A n cap, .int .i64 k] w fun e w' => e = .returned (.int .i64 (ixI n k)) ∧ w = w' := by
  have hz : ¬ ((n : Int) = 0) := by omega
  have hm := ix_tmod (n := n) (k := k) (by omega)
  obtain ⟨hx1, hx2⟩ := ix_lt (n := n) (k := k) (by omega)
  obtain ⟨r, hr⟩ : ∃ r, k.tmod n = r := ⟨_, rfl⟩
  rw [hr] at hx1 hm
  generalize ixI n k = m at *
  have u1 : IntKind.i64.wrap (r + n) = r + n := IntWalk.i64_in _ (by omega)
  go_enter Try.func155, Try.ntmps155
  go_wp2_with fail
  go_ret
  exact ⟨rfl, rfl⟩

theorem sliceIndex (A : Option Addr) (n cap : Nat) (x y : Int) (w : World) (ps : List (Int × Int)) (hl : ps.length = n) (hn : n ≤ 1048576) (hp : PtsAt w w.heap.size A ps) :
    Calls Try.prog 132 #[.slice A n cap, .agg #[.int .i64 x, .int .i64 y]] w fun e w' => e = .returned (.int .i64 (findI ps x y)) ∧ Below w.heap.size w w' := by
  obtain ⟨r, hr⟩ : ∃ r, findI ps x y = r := ⟨_, rfl⟩
  have HR := Lib.hid hr
  rw [hr]
  clear hr
  go_enter Try.func132, Try.ntmps132
  go_wp2_with fail
  have X0 := PointOk.box1 w x y 118 (k := w.heap.size) (by simp)
  have b0 := PointOk.below1 w (Obj.cells #[.int .i64 x, .int .i64 y] 118)
  have HO : ∀ W W' : World, (PointOk.Box W (w.heap.size) x y ∧ PtsAt W w.heap.size A ps ∧ Below w.heap.size w W) → Below W.heap.size W W' → (PointOk.Box W' (w.heap.size) x y ∧ PtsAt W' w.heap.size A ps ∧ Below w.heap.size w W') := fun W W' ⟨h0, x0, hb⟩ h => ⟨h0.later h, x0.later (h.mono hb.size), hb.trans (h.mono hb.size)⟩
  have hz0_ : Hid (((w.alloc (Obj.cells #[.int .i64 x, .int .i64 y] 118))).heap.size = w.heap.size + 1) := Lib.hid (by simp)
  have Y0 : PtsAt ((w.alloc (Obj.cells #[.int .i64 x, .int .i64 y] 118))) w.heap.size A ps := hp.later b0
  generalize (w.alloc (Obj.cells #[.int .i64 x, .int .i64 y] 118)) = w0 at X0 Y0 b0 hz0_ ⊢
  have S0 := (⟨X0, Y0, b0⟩ : PointOk.Box w0 (w.heap.size) x y ∧ PtsAt w0 w.heap.size A ps ∧ Below w.heap.size w w0)
  clear X0 Y0 b0
  obtain ⟨⟨_, _⟩, _, _⟩ := id S0
  go_loopw [8] (fun i wr => ∃ k : Nat, k ≤ n ∧ i = .int .i64 k ∧ Hid (∀ j, j < k → ps[j]? ≠ some (x, y)) ∧ (PointOk.Box wr (w.heap.size) x y ∧ PtsAt wr w.heap.size A ps ∧ Below w.heap.size w wr))
    (fun i _ => n - (intOf i).toNat)
  case atStart => exact ⟨0, Nat.zero_le _, rfl, Lib.hid (fun j hj => absurd hj (by omega)), S0⟩
  case round =>
    clear S0
    obtain ⟨k, hk, rfl, hno, S0⟩ := hrel
    by_cases hkn : k < n
    · obtain ⟨⟨px, py⟩, hpk⟩ : ∃ p, ps[k]? = some p := ⟨_, List.getElem?_eq_getElem (by omega)⟩
      obtain ⟨ad, eA, bA, pA⟩ := S0.2.1.get hpk
      subst eA
      have hk1 : (k : Int) < (n : Int) := by omega
      have HO : ∀ W W' : World, (PointOk.Box W (w.heap.size) x y ∧ PtsAt W w.heap.size (some ad) ps ∧ PtAt W ad k px py ∧ Below w.heap.size w W) → Below W.heap.size W W' → (PointOk.Box W' (w.heap.size) x y ∧ PtsAt W' w.heap.size (some ad) ps ∧ PtAt W' ad k px py ∧ Below w.heap.size w W') := fun W W' ⟨h0, x0, x1, hb⟩ h => ⟨h0.later h, x0.later (h.mono hb.size), x1.later bA (h.mono hb.size), hb.trans (h.mono hb.size)⟩
      replace S0 := (⟨S0.1, S0.2.1, pA, S0.2.2⟩ : PointOk.Box wr (w.heap.size) x y ∧ PtsAt wr w.heap.size (some ad) ps ∧ PtAt wr ad k px py ∧ Below w.heap.size w wr)
      clear pA
      obtain ⟨⟨_, _⟩, _, ⟨_, _⟩, _⟩ := id S0
      by_cases f1 : px = x
      · subst f1
        by_cases f2 : py = y
        · subst f2
          have E : Hid (r = (k : Int)) := Lib.hid (by rw [← HR.out, findI_at hpk hno.out])
          clear hl hp hpk HR
          go_wp2_with fail
          refine Settle.region (fun W => PointOk.Box W (w.heap.size) px py ∧ PtsAt W w.heap.size (some ad) ps ∧ PtAt W ad k px py ∧ Below w.heap.size w W) (by kernel_rfl) (by kernel_rfl) (by kernel_rfl) (by kernel_rfl) (HO _ _ S0 ((Below.refl _ _).drew)) ?_
          clear S0
          repeat (first
            | (refine Settle.Settles.off (by rfl) ?_; simp only [Act.put, List.setIfInBounds_toArray, List.set_cons_zero, List.set_cons_succ])
            | (refine Settle.Settles.quiet (v := ?_) (by rfl) ?_ ?_
               rotate_left
               · (intro W hS; obtain ⟨⟨_, _⟩, _, ⟨_, _⟩, _⟩ := hS; go_simp; with_reducible rfl)
               simp only [Act.put, List.setIfInBounds_toArray, List.set_cons_zero, List.set_cons_succ])
            | (refine Settle.Settles.call (v := ?_) (f := ?_) (args := ?_) (by rfl) ?_ ?_ ?_
               rotate_left 3
               · (intro W; go_simp; refine ⟨?_, ?_⟩ <;> with_reducible rfl)
               · (intro W hS; fail)
               simp only [Act.put, List.setIfInBounds_toArray, List.set_cons_zero, List.set_cons_succ]))
          refine Settle.Settles.nil ?_
          intro wr S0
          obtain ⟨⟨_, _⟩, _, ⟨_, _⟩, _⟩ := id S0
          go_wp2_with fail
          go_ret
          exact ⟨ret_i64 E.out.symm, S0.2.2.2⟩
        · skip
          have hno2 : Hid (∀ j, j < k + 1 → ps[j]? ≠ some (px, y)) := Lib.hid (by
            intro j hj
            rcases Nat.lt_or_ge j k with h | h
            · exact hno.out j h
            · obtain rfl : j = k := by omega
              rw [hpk]
              intro e
              injection e with e
              injection e with e1 e2
              first | exact f1 e1 | exact f2 e2)
          have g2 : ¬ y = py := fun h => f2 h.symm
          clear hl hp hpk hno
          go_wp2_with fail
          refine Settle.region (fun W => PointOk.Box W (w.heap.size) px y ∧ PtsAt W w.heap.size (some ad) ps ∧ PtAt W ad k px py ∧ Below w.heap.size w W) (by kernel_rfl) (by kernel_rfl) (by kernel_rfl) (by kernel_rfl) (HO _ _ S0 ((Below.refl _ _).drew)) ?_
          clear S0
          repeat (first
            | (refine Settle.Settles.off (by rfl) ?_; simp only [Act.put, List.setIfInBounds_toArray, List.set_cons_zero, List.set_cons_succ])
            | (refine Settle.Settles.quiet (v := ?_) (by rfl) ?_ ?_
               rotate_left
               · (intro W hS; obtain ⟨⟨_, _⟩, _, ⟨_, _⟩, _⟩ := hS; go_simp; with_reducible rfl)
               simp only [Act.put, List.setIfInBounds_toArray, List.set_cons_zero, List.set_cons_succ])
            | (refine Settle.Settles.call (v := ?_) (f := ?_) (args := ?_) (by rfl) ?_ ?_ ?_
               rotate_left 3
               · (intro W; go_simp; refine ⟨?_, ?_⟩ <;> with_reducible rfl)
               · (intro W hS; fail)
               simp only [Act.put, List.setIfInBounds_toArray, List.set_cons_zero, List.set_cons_succ]))
          refine Settle.Settles.nil ?_
          intro wr S0
          obtain ⟨⟨_, _⟩, _, ⟨_, _⟩, _⟩ := id S0
          go_wp2_with fail
          exact ⟨⟨k + 1, by omega, by go_num, hno2, S0.1, S0.2.1, S0.2.2.2⟩, by simp [intOf]; omega⟩
      · skip
        have hno2 : Hid (∀ j, j < k + 1 → ps[j]? ≠ some (x, y)) := Lib.hid (by
          intro j hj
          rcases Nat.lt_or_ge j k with h | h
          · exact hno.out j h
          · obtain rfl : j = k := by omega
            rw [hpk]
            intro e
            injection e with e
            injection e with e1 e2
            first | exact f1 e1 | exact f2 e2)
        have g1 : ¬ x = px := fun h => f1 h.symm
        clear hl hp hpk hno
        go_wp2_with fail
        refine Settle.region (fun W => PointOk.Box W (w.heap.size) x y ∧ PtsAt W w.heap.size (some ad) ps ∧ PtAt W ad k px py ∧ Below w.heap.size w W) (by kernel_rfl) (by kernel_rfl) (by kernel_rfl) (by kernel_rfl) (HO _ _ S0 ((Below.refl _ _).drew)) ?_
        clear S0
        repeat (first
          | (refine Settle.Settles.off (by rfl) ?_; simp only [Act.put, List.setIfInBounds_toArray, List.set_cons_zero, List.set_cons_succ])
          | (refine Settle.Settles.quiet (v := ?_) (by rfl) ?_ ?_
             rotate_left
             · (intro W hS; obtain ⟨⟨_, _⟩, _, ⟨_, _⟩, _⟩ := hS; go_simp; with_reducible rfl)
             simp only [Act.put, List.setIfInBounds_toArray, List.set_cons_zero, List.set_cons_succ])
          | (refine Settle.Settles.call (v := ?_) (f := ?_) (args := ?_) (by rfl) ?_ ?_ ?_
             rotate_left 3
             · (intro W; go_simp; refine ⟨?_, ?_⟩ <;> with_reducible rfl)
             · (intro W hS; fail)
             simp only [Act.put, List.setIfInBounds_toArray, List.set_cons_zero, List.set_cons_succ]))
        refine Settle.Settles.nil ?_
        intro wr S0
        obtain ⟨⟨_, _⟩, _, ⟨_, _⟩, _⟩ := id S0
        go_wp2_with fail
        exact ⟨⟨k + 1, by omega, by go_num, hno2, S0.1, S0.2.1, S0.2.2.2⟩, by simp [intOf]; omega⟩
    · obtain rfl : k = n := by omega
      have E : Hid (r = -1) := Lib.hid (by rw [← HR.out, findI_none (by rw [hl]; exact hno.out)])
      obtain ⟨⟨_, _⟩, _⟩ := id S0
      clear hl hp HR
      go_wp2_with fail
      go_ret
      exact ⟨ret_i64 E.out.symm, S0.2.2⟩

theorem isCorner (A : Option Addr) (n cap : Nat) (x y : Int) (w : World) (ps : List (Int × Int)) (hl : ps.length = n) (hn : n ≤ 1048576) (hp : PtsAt w w.heap.size A ps) :
    Calls Try.prog 79 #[.agg #[.slice A n cap], .agg #[.int .i64 x, .int .i64 y]] w fun e w' => e = .returned (.int .i64 (findI ps x y)) ∧ Below w.heap.size w w' := by
  go_enter Try.func79, Try.ntmps79
  go_wp2_with fail
  have X0 := (Pts.boxR w (.slice A n cap) 50 (k := w.heap.size) (by simp)).alloc (Obj.cells #[.int .i64 x, .int .i64 y] 118)
  have X1 := PointOk.box1 (w.alloc (Obj.cells #[.slice A n cap] 50)) x y 118 (k := w.heap.size + 1) (by simp)
  have b0 := PointOk.below2 w (Obj.cells #[.slice A n cap] 50) (Obj.cells #[.int .i64 x, .int .i64 y] 118)
  have HO : ∀ W W' : World, (Pts.BoxR W (w.heap.size) (.slice A n cap) ∧ PointOk.Box W (w.heap.size + 1) x y ∧ PtsAt W w.heap.size A ps ∧ Below w.heap.size w W) → Below W.heap.size W W' → (Pts.BoxR W' (w.heap.size) (.slice A n cap) ∧ PointOk.Box W' (w.heap.size + 1) x y ∧ PtsAt W' w.heap.size A ps ∧ Below w.heap.size w W') := fun W W' ⟨h0, h1, x0, hb⟩ h => ⟨h0.later h, h1.later h, x0.later (h.mono hb.size), hb.trans (h.mono hb.size)⟩
  have hz0_ : Hid ((((w.alloc (Obj.cells #[.slice A n cap] 50)).alloc (Obj.cells #[.int .i64 x, .int .i64 y] 118))).heap.size = w.heap.size + 1 + 1) := Lib.hid (by simp)
  have Y0 : PtsAt (((w.alloc (Obj.cells #[.slice A n cap] 50)).alloc (Obj.cells #[.int .i64 x, .int .i64 y] 118))) w.heap.size A ps := hp.later b0
  generalize ((w.alloc (Obj.cells #[.slice A n cap] 50)).alloc (Obj.cells #[.int .i64 x, .int .i64 y] 118)) = w0 at X0 X1 Y0 b0 hz0_ ⊢
  have S0 := (⟨X0, X1, Y0, b0⟩ : Pts.BoxR w0 (w.heap.size) (.slice A n cap) ∧ PointOk.Box w0 (w.heap.size + 1) x y ∧ PtsAt w0 w.heap.size A ps ∧ Below w.heap.size w w0)
  clear X0 X1 Y0 b0
  obtain ⟨⟨_, _⟩, ⟨_, _⟩, _, _⟩ := id S0
  refine (sliceIndex A n cap x y _ ps hl hn (S0.2.2.1.wide S0.2.2.2.size)).mono ?_
  rintro e w1 ⟨rfl, hb_⟩
  replace S0 := HO _ _ S0 hb_
  clear hb_
  obtain ⟨⟨_, _⟩, ⟨_, _⟩, _, _⟩ := id S0
  go_wp2_with fail
  go_ret
  exact ⟨rfl, S0.2.2.2⟩

end Go.Proofs.Ytgelkpaiabhklaa.RoomImpl

