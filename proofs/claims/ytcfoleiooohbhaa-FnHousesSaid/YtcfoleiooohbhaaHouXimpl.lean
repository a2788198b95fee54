/-
  What the landed text says of rings of keys, doors and orders of halls, as contracts.
-/
import Derived.Test.YtcfoleiooohbhaaHouWimpl
import Derived.Test.YtcfoleiooohbhaaHouMathC
namespace Go.Proofs.Ytcfoleiooohbhaa.HouXimpl
open Go.RowKit Pts Blk HouMath HouMathB HouMathC HouBox HouMem Ints JoinMath RoomMath
open Go.Proofs.Ytcfoleiooohbhaa.Own (icells icells_length icells_at)
open PointOk (ret_bool ret_i64 below1 below2 below3)

theorem isUpTo (n L : Int) (w : World) : Calls Try.prog 35 #[.int .i64 n, .int .i64 L] w fun e w' => e = .returned (.bool (decide (0 ≤ n ∧ n ≤ L))) ∧ w = w' := by
  obtain ⟨r, hr⟩ : ∃ r, decide (0 ≤ n ∧ n ≤ L) = r := ⟨_, rfl⟩
  rw [hr]
  replace hr := Lib.hid hr
  by_cases h1 : 0 ≤ n
  · by_cases h2 : n ≤ L
    · go_enter Try.func35, Try.ntmps35
      go_wp2_with fail
      go_ret
      exact ⟨ret_bool (by rw [← hr.out]; exact (decide_eq_true (by omega)).symm), rfl⟩
    · go_enter Try.func35, Try.ntmps35
      go_wp2_with fail
      go_ret
      exact ⟨ret_bool (by rw [← hr.out]; exact (decide_eq_false (by omega)).symm), rfl⟩
  · go_enter Try.func35, Try.ntmps35
    go_wp2_with fail
    go_ret
    exact ⟨ret_bool (by rw [← hr.out]; exact (decide_eq_false (by omega)).symm), rfl⟩

theorem doorIndex (A : Option Addr) (n cap : Nat) (x y : Int) (w : World) (ps : List (Int × Int)) (hl : ps.length = n) (hn : n ≤ 1048576) (hp : PtsAt w w.heap.size A ps) :
    Calls Try.prog 60 #[.slice A n cap, .agg #[.int .i64 x, .int .i64 y]] w fun e w' => e = .returned (.int .i64 (findI ps x y)) ∧ Below w.heap.size w w' := by
  obtain ⟨r, hr⟩ : ∃ r, findI ps x y = r := ⟨_, rfl⟩
  have HR := Lib.hid hr
  rw [hr]
  clear hr
  go_enter Try.func60, Try.ntmps60
  go_wp2_with fail
  have X0 := PointOk.box1 w x y 83 (k := w.heap.size) (by simp)
  have b0 := PointOk.below1 w (Obj.cells #[.int .i64 x, .int .i64 y] 83)
  have HO : ∀ W W' : World, (PointOk.Box W (w.heap.size) x y ∧ PtsAt W w.heap.size A ps ∧ Below w.heap.size w W) → Below W.heap.size W W' → (PointOk.Box W' (w.heap.size) x y ∧ PtsAt W' w.heap.size A ps ∧ Below w.heap.size w W') := fun W W' ⟨h0, x0, hb⟩ h => ⟨h0.later h, x0.later (h.mono hb.size), hb.trans (h.mono hb.size)⟩
  have hz0_ : Hid (((w.alloc (Obj.cells #[.int .i64 x, .int .i64 y] 83))).heap.size = w.heap.size + 1) := Lib.hid (by simp)
  have Y0 : PtsAt ((w.alloc (Obj.cells #[.int .i64 x, .int .i64 y] 83))) w.heap.size A ps := hp.later b0
  generalize (w.alloc (Obj.cells #[.int .i64 x, .int .i64 y] 83)) = w0 at X0 Y0 b0 hz0_ ⊢
  have S0 := (⟨X0, Y0, b0⟩ : PointOk.Box w0 (w.heap.size) x y ∧ PtsAt w0 w.heap.size A ps ∧ Below w.heap.size w w0)
  clear X0 Y0 b0
  obtain ⟨⟨_, _⟩, _, _⟩ := id S0
  go_loopw [8] (fun i wr => ∃ k : Nat, k ≤ n ∧ i = .int .i64 k ∧ Hid (∀ j, j < k → ps[j]? ≠ some (x, y)) ∧ (PointOk.Box wr (w.heap.size) x y ∧ PtsAt wr w.heap.size A ps ∧ Below w.heap.size w wr))
    (fun i _ => n - (intOf i).toNat)
  case atStart => exact ⟨0, Nat.zero_le _, rfl, Lib.hid (fun j hj => absurd hj (by omega)), S0⟩
  case round =>
    clear S0
    obtain ⟨k, hk, rfl, hno, S0⟩ := hrel
    by_cases hkn : k < n
    · obtain ⟨⟨px, py⟩, hpk⟩ : ∃ p, ps[k]? = some p := ⟨_, List.getElem?_eq_getElem (by omega)⟩
      obtain ⟨ad, eA, bA, pA⟩ := S0.2.1.get hpk
      subst eA
      have hk1 : (k : Int) < (n : Int) := by omega
      have HO : ∀ W W' : World, (PointOk.Box W (w.heap.size) x y ∧ PtsAt W w.heap.size (some ad) ps ∧ PtAt W ad k px py ∧ Below w.heap.size w W) → Below W.heap.size W W' → (PointOk.Box W' (w.heap.size) x y ∧ PtsAt W' w.heap.size (some ad) ps ∧ PtAt W' ad k px py ∧ Below w.heap.size w W') := fun W W' ⟨h0, x0, x1, hb⟩ h => ⟨h0.later h, x0.later (h.mono hb.size), x1.later bA (h.mono hb.size), hb.trans (h.mono hb.size)⟩
      replace S0 := (⟨S0.1, S0.2.1, pA, S0.2.2⟩ : PointOk.Box wr (w.heap.size) x y ∧ PtsAt wr w.heap.size (some ad) ps ∧ PtAt wr ad k px py ∧ Below w.heap.size w wr)
      clear pA
      obtain ⟨⟨_, _⟩, _, ⟨_, _⟩, _⟩ := id S0
      by_cases f1 : px = x
      · subst f1
        by_cases f2 : py = y
        · subst f2
          have E : Hid (r = (k : Int)) := Lib.hid (by rw [← HR.out, findI_at hpk hno.out])
          clear hl hp hpk HR
          go_wp2_with fail
          refine Settle.region (fun W => PointOk.Box W (w.heap.size) px py ∧ PtsAt W w.heap.size (some ad) ps ∧ PtAt W ad k px py ∧ Below w.heap.size w W) (by kernel_rfl) (by kernel_rfl) (by kernel_rfl) (by kernel_rfl) (HO _ _ S0 ((Below.refl _ _).drew)) ?_
          clear S0
          repeat (first
            | (refine Settle.Settles.off (by rfl) ?_; simp only [Act.put, List.setIfInBounds_toArray, List.set_cons_zero, List.set_cons_succ])
            | (refine Settle.Settles.quiet (v := ?_) (by rfl) ?_ ?_
               rotate_left
               · (intro W hS; obtain ⟨⟨_, _⟩, _, ⟨_, _⟩, _⟩ := hS; go_simp; with_reducible rfl)
               simp only [Act.put, List.setIfInBounds_toArray, List.set_cons_zero, List.set_cons_succ])
            | (refine Settle.Settles.call (v := ?_) (f := ?_) (args := ?_) (by rfl) ?_ ?_ ?_
               rotate_left 3
               · (intro W; go_simp; refine ⟨?_, ?_⟩ <;> with_reducible rfl)
               · (intro W hS; fail)
               simp only [Act.put, List.setIfInBounds_toArray, List.set_cons_zero, List.set_cons_succ]))
          refine Settle.Settles.nil ?_
          intro wr S0
          obtain ⟨⟨_, _⟩, _, ⟨_, _⟩, _⟩ := id S0
          go_wp2_with fail
          go_ret
          exact ⟨ret_i64 E.out.symm, S0.2.2.2⟩
        · skip
          have hno2 : Hid (∀ j, j < k + 1 → ps[j]? ≠ some (px, y)) := Lib.hid (by
            intro j hj
            rcases Nat.lt_or_ge j k with h | h
            · exact hno.out j h
            · obtain rfl : j = k := by omega
              rw [hpk]
              intro e
              injection e with e
              injection e with e1 e2
              first | exact f1 e1 | exact f2 e2)
          have g2 : ¬ y = py := fun h => f2 h.symm
          clear hl hp hpk hno
          go_wp2_with fail
          refine Settle.region (fun W => PointOk.Box W (w.heap.size) px y ∧ PtsAt W w.heap.size (some ad) ps ∧ PtAt W ad k px py ∧ Below w.heap.size w W) (by kernel_rfl) (by kernel_rfl) (by kernel_rfl) (by kernel_rfl) (HO _ _ S0 ((Below.refl _ _).drew)) ?_
          clear S0
          repeat (first
            | (refine Settle.Settles.off (by rfl) ?_; simp only [Act.put, List.setIfInBounds_toArray, List.set_cons_zero, List.set_cons_succ])
            | (refine Settle.Settles.quiet (v := ?_) (by rfl) ?_ ?_
               rotate_left
               · (intro W hS; obtain ⟨⟨_, _⟩, _, ⟨_, _⟩, _⟩ := hS; go_simp; with_reducible rfl)
               simp only [Act.put, List.setIfInBounds_toArray, List.set_cons_zero, List.set_cons_succ])
            | (refine Settle.Settles.call (v := ?_) (f := ?_) (args := ?_) (by rfl) ?_ ?_ ?_
               rotate_left 3
               · (intro W; go_simp; refine ⟨?_, ?_⟩ <;> with_reducible rfl)
               · (intro W hS; fail)
               simp only [Act.put, List.setIfInBounds_toArray, List.set_cons_zero, List.set_cons_succ]))
          refine Settle.Settles.nil ?_
          intro wr S0
          obtain ⟨⟨_, _⟩, _, ⟨_, _⟩, _⟩ := id S0
          go_wp2_with fail
          exact ⟨⟨k + 1, by omega, by go_num, hno2, S0.1, S0.2.1, S0.2.2.2⟩, by simp [intOf]; omega⟩
      · skip
        have hno2 : Hid (∀ j, j < k + 1 → ps[j]? ≠ some (x, y)) := Lib.hid (by
          intro j hj
          rcases Nat.lt_or_ge j k with h | h
          · exact hno.out j h
          · obtain rfl : j = k := by omega
            rw [hpk]
            intro e
            injection e with e
            injection e with e1 e2
            first | exact f1 e1 | exact f2 e2)
        have g1 : ¬ x = px := fun h => f1 h.symm
        clear hl hp hpk hno
        go_wp2_with fail
        refine Settle.region (fun W => PointOk.Box W (w.heap.size) x y ∧ PtsAt W w.heap.size (some ad) ps ∧ PtAt W ad k px py ∧ Below w.heap.size w W) (by kernel_rfl) (by kernel_rfl) (by kernel_rfl) (by kernel_rfl) (HO _ _ S0 ((Below.refl _ _).drew)) ?_
        clear S0
        repeat (first
          | (refine Settle.Settles.off (by rfl) ?_; simp only [Act.put, List.setIfInBounds_toArray, List.set_cons_zero, List.set_cons_succ])
          | (refine Settle.Settles.quiet (v := ?_) (by rfl) ?_ ?_
             rotate_left
             · (intro W hS; obtain ⟨⟨_, _⟩, _, ⟨_, _⟩, _⟩ := hS; go_simp; with_reducible rfl)
             simp only [Act.put, List.setIfInBounds_toArray, List.set_cons_zero, List.set_cons_succ])
          | (refine Settle.Settles.call (v := ?_) (f := ?_) (args := ?_) (by rfl) ?_ ?_ ?_
             rotate_left 3
             · (intro W; go_simp; refine ⟨?_, ?_⟩ <;> with_reducible rfl)
             · (intro W hS; fail)
             simp only [Act.put, List.setIfInBounds_toArray, List.set_cons_zero, List.set_cons_succ]))
        refine Settle.Settles.nil ?_
        intro wr S0
        obtain ⟨⟨_, _⟩, _, ⟨_, _⟩, _⟩ := id S0
        go_wp2_with fail
        exact ⟨⟨k + 1, by omega, by go_num, hno2, S0.1, S0.2.1, S0.2.2.2⟩, by simp [intOf]; omega⟩
    · obtain rfl : k = n := by omega
      have E : Hid (r = -1) := Lib.hid (by rw [← HR.out, findI_none (by rw [hl]; exact hno.out)])
      obtain ⟨⟨_, _⟩, _⟩ := id S0
      clear hl hp HR
      go_wp2_with fail
      go_ret
      exact ⟨ret_i64 E.out.symm, S0.2.2⟩

theorem doorIn (A : Option Addr) (n cap : Nat) (x y : Int) (w : World) (ps : List (Int × Int)) (hl : ps.length = n) (hn : n ≤ 1048576) (hp : PtsAt w w.heap.size A ps) :
    Calls Try.prog 42 #[.slice A n cap, .agg #[.int .i64 x, .int .i64 y]] w fun e w' => e = .returned (.bool (decide ((x, y) ∈ ps))) ∧ Below w.heap.size w w' := by
  obtain ⟨r, hr⟩ : ∃ r, decide ((x, y) ∈ ps) = r := ⟨_, rfl⟩
  have HR := Lib.hid hr
  rw [hr]
  clear hr
  have Q : Hid (∀ w hp, _) := Lib.hid fun w hp => doorIndex A n cap x y w ps hl hn hp
  have E : Hid (r = decide (0 ≤ findI ps x y)) := Lib.hid (by rw [← HR.out, find_door])
  clear HR
  generalize findI ps x y = f at *
  go_enter Try.func42, Try.ntmps42
  go_wp2_with fail
  have X0 := PointOk.box1 w x y 83 (k := w.heap.size) (by simp)
  have b0 := PointOk.below1 w (Obj.cells #[.int .i64 x, .int .i64 y] 83)
  have HO : ∀ W W' : World, (PointOk.Box W (w.heap.size) x y ∧ PtsAt W w.heap.size A ps ∧ Below w.heap.size w W) → Below W.heap.size W W' → (PointOk.Box W' (w.heap.size) x y ∧ PtsAt W' w.heap.size A ps ∧ Below w.heap.size w W') := fun W W' ⟨h0, x0, hb⟩ h => ⟨h0.later h, x0.later (h.mono hb.size), hb.trans (h.mono hb.size)⟩
  have hz0_ : Hid (((w.alloc (Obj.cells #[.int .i64 x, .int .i64 y] 83))).heap.size = w.heap.size + 1) := Lib.hid (by simp)
  have Y0 : PtsAt ((w.alloc (Obj.cells #[.int .i64 x, .int .i64 y] 83))) w.heap.size A ps := hp.later b0
  generalize (w.alloc (Obj.cells #[.int .i64 x, .int .i64 y] 83)) = w0 at X0 Y0 b0 hz0_ ⊢
  have S0 := (⟨X0, Y0, b0⟩ : PointOk.Box w0 (w.heap.size) x y ∧ PtsAt w0 w.heap.size A ps ∧ Below w.heap.size w w0)
  clear X0 Y0 b0
  obtain ⟨⟨_, _⟩, _, _⟩ := id S0
  refine (Q.out _ (S0.2.1.wide S0.2.2.size)).mono ?_
  rintro e w1 ⟨rfl, hb_⟩
  replace S0 := HO _ _ S0 hb_
  clear hb_
  obtain ⟨⟨_, _⟩, _, _⟩ := id S0
  go_wp2_with fail
  go_ret
  exact ⟨ret_bool E.out.symm, S0.2.2⟩

set_option maxRecDepth 100000 in
set_option maxHeartbeats 1600000 in
theorem hasDoor (H : Int) (A : Option Addr) (n cap : Nat) (a b : Int) (w : World) (ds : List (Int × Int)) (hl : ds.length = n) (hn : n ≤ 1048576) (hp : PtsAt w w.heap.size A ds) :
    Calls Try.prog 18 #[.agg #[.int .i64 H, .slice A n cap], .int .i64 a, .int .i64 b] w fun e w' => e = .returned (.bool (hasDoorB H ds a b)) ∧ Below w.heap.size w w' := by
  obtain ⟨r, hr⟩ : ∃ r, hasDoorB H ds a b = r := ⟨_, rfl⟩
  have HR := Lib.hid hr
  rw [hr]
  clear hr
  have Q1 : Hid (∀ w hp, _) := Lib.hid fun w hp => HouImpl.houseOk H A n cap w ds hl hn hp
  have Q2 : Hid (∀ w hp, _) := Lib.hid fun w hp => doorIn A n cap (min a b) (max a b) w ds hl hn hp
  have HE : Hid (r = (houseB H ds && decide ((min a b, max a b) ∈ ds))) := Lib.hid (by rw [← HR.out, ← isDoor_mem]; rfl)
  clear HR
  generalize houseB H ds = b1 at *
  generalize decide ((min a b, max a b) ∈ ds) = b2 at *
  obtain ⟨mn, hmn⟩ : ∃ m, min a b = m := ⟨_, rfl⟩
  obtain ⟨mx, hmx⟩ : ∃ m, max a b = m := ⟨_, rfl⟩
  rw [hmn, hmx] at Q2
  cases b1
  · have E : Hid (r = false) := Lib.hid (by rw [HE.out]; rfl)
    clear HE Q2 hmn hmx
    go_enter Try.func18, Try.ntmps18
    go_wp2_with fail
    have X0 := HouBox.boxH w H A n cap 41 (k := w.heap.size) (by simp)
    have b0 := PointOk.below1 w (Obj.cells #[.int .i64 H, .slice A n cap] 41)
    have HO : ∀ W W' : World, (HouBox.BoxH W (w.heap.size) H A n cap ∧ PtsAt W w.heap.size A ds ∧ Below w.heap.size w W) → Below W.heap.size W W' → (HouBox.BoxH W' (w.heap.size) H A n cap ∧ PtsAt W' w.heap.size A ds ∧ Below w.heap.size w W') := fun W W' ⟨h0, x0, hb⟩ h => ⟨h0.later h, x0.later (h.mono hb.size), hb.trans (h.mono hb.size)⟩
    have hz0_ : Hid (((w.alloc (Obj.cells #[.int .i64 H, .slice A n cap] 41))).heap.size = w.heap.size + 1) := Lib.hid (by simp)
    have Y0 : PtsAt ((w.alloc (Obj.cells #[.int .i64 H, .slice A n cap] 41))) w.heap.size A ds := hp.later b0
    generalize (w.alloc (Obj.cells #[.int .i64 H, .slice A n cap] 41)) = w0 at X0 Y0 b0 hz0_ ⊢
    have S0 := (⟨X0, Y0, b0⟩ : HouBox.BoxH w0 (w.heap.size) H A n cap ∧ PtsAt w0 w.heap.size A ds ∧ Below w.heap.size w w0)
    clear X0 Y0 b0
    obtain ⟨⟨_, _⟩, _, _⟩ := id S0
    refine (Q1.out _ (S0.2.1.wide S0.2.2.size)).mono ?_
    rintro e w1 ⟨rfl, hb_⟩
    replace S0 := HO _ _ S0 hb_
    clear hb_
    obtain ⟨⟨_, _⟩, _, _⟩ := id S0
    go_wp2_with fail
    go_ret
    exact ⟨ret_bool E.out.symm, S0.2.2⟩
  have E : Hid (r = b2) := Lib.hid (by rw [HE.out]; simp)
  clear HE
  go_enter Try.func18, Try.ntmps18
  go_wp2_with fail
  have X0 := HouBox.boxH w H A n cap 41 (k := w.heap.size) (by simp)
  have b0 := PointOk.below1 w (Obj.cells #[.int .i64 H, .slice A n cap] 41)
  have HO : ∀ W W' : World, (HouBox.BoxH W (w.heap.size) H A n cap ∧ PtsAt W w.heap.size A ds ∧ Below w.heap.size w W) → Below W.heap.size W W' → (HouBox.BoxH W' (w.heap.size) H A n cap ∧ PtsAt W' w.heap.size A ds ∧ Below w.heap.size w W') := fun W W' ⟨h0, x0, hb⟩ h => ⟨h0.later h, x0.later (h.mono hb.size), hb.trans (h.mono hb.size)⟩
  have hz0_ : Hid (((w.alloc (Obj.cells #[.int .i64 H, .slice A n cap] 41))).heap.size = w.heap.size + 1) := Lib.hid (by simp)
  have Y0 : PtsAt ((w.alloc (Obj.cells #[.int .i64 H, .slice A n cap] 41))) w.heap.size A ds := hp.later b0
  generalize (w.alloc (Obj.cells #[.int .i64 H, .slice A n cap] 41)) = w0 at X0 Y0 b0 hz0_ ⊢
  have S0 := (⟨X0, Y0, b0⟩ : HouBox.BoxH w0 (w.heap.size) H A n cap ∧ PtsAt w0 w.heap.size A ds ∧ Below w.heap.size w w0)
  clear X0 Y0 b0
  obtain ⟨⟨_, _⟩, _, _⟩ := id S0
  refine (Q1.out _ (S0.2.1.wide S0.2.2.size)).mono ?_
  rintro e w1 ⟨rfl, hb_⟩
  replace S0 := HO _ _ S0 hb_
  clear hb_
  obtain ⟨⟨_, _⟩, _, _⟩ := id S0
  go_wp2_with fail
  refine (Q2.out _ (S0.2.1.wide S0.2.2.size)).mono ?_
  rintro e w2 ⟨rfl, hb_⟩
  replace S0 := HO _ _ S0 hb_
  clear hb_
  obtain ⟨⟨_, _⟩, _, _⟩ := id S0
  go_wp2_with fail
  go_ret
  exact ⟨ret_bool E.out.symm, S0.2.2⟩

end Go.Proofs.Ytcfoleiooohbhaa.HouXimpl

