/-
  Which triangles share a side, as the landed code asks, as contracts: what each function answers; new memory alone is written.
-/
import Derived.Test.YtkcodmafakjkfaaGreatEars
import Derived.Test.YtkcodmafakjkfaaGreatAppOne
namespace Go.Proofs.YtkcodmafakjkfaaGreat.TreeImpl
open Go.RowKit Own PointMath WallMath RoomMath Pts Blk AreaMath PlaceMath FloorMath LineMath CutsMath SightMath DiagMath TriMath TrisMath TreeMath Ints Tup3 TriRow TrisImpl EarImpl
open PointOk (ret_bool ret_i64 below1 below2 below3)

set_option maxHeartbeats 800000 in
theorem indices (a b c : Int) (w : World) : Calls Tryz.prog 107 #[.agg #[.int .i64 a, .int .i64 b, .int .i64 c]] w fun e w' => e = .returned (.agg #[.int .i64 a, .int .i64 b, .int .i64 c]) ∧ Below w.heap.size w w' := by
  go_enter Tryz.func107, Tryz.ntmps107
  go_wp2_with fail
  refine bodyPost_ret (v := .agg #[.int .i64 a, .int .i64 b, .int .i64 c]) (by simp [results, Tryz.results107, go_sem]) rfl ⟨rfl, ?_⟩
  exact below2 _ _ _

def part (s t : Tu) : Nat → Int
  | 0 => 0
  | 1 => TreeMath.one (hasT t s.1)
  | 2 => TreeMath.one (hasT t s.1) + TreeMath.one (hasT t s.2.1)
  | _ => common s t
set_option maxRecDepth 100000 in
set_option maxHeartbeats 3200000 in
theorem sharesSide (a b c x y z : Int) (w : World) :
    Calls Tryz.prog 110 #[.agg #[.int .i64 a, .int .i64 b, .int .i64 c], .agg #[.int .i64 x, .int .i64 y, .int .i64 z]] w fun e w' => e = .returned (.bool (decide (common (a, b, c) (x, y, z) = 2))) ∧ Below w.heap.size w w' := by
  obtain ⟨r, hr⟩ : ∃ r, decide (common (a, b, c) (x, y, z) = 2) = r := ⟨_, rfl⟩
  have HR := Lib.hid hr
  rw [hr]
  clear hr
  have H0 : Hid (∀ w, _) := Lib.hid fun w => has x y z a w
  have H1 : Hid (∀ w, _) := Lib.hid fun w => has x y z b w
  have H2 : Hid (∀ w, _) := Lib.hid fun w => has x y z c w
  have HE : Hid (r = decide (TreeMath.one (hasT (x, y, z) a) + TreeMath.one (hasT (x, y, z) b) + TreeMath.one (hasT (x, y, z) c) = 2)) := Lib.hid (by rw [← HR.out]; rfl)
  generalize hasT (x, y, z) a = p0 at *
  generalize hasT (x, y, z) b = p1 at *
  generalize hasT (x, y, z) c = p2 at *
  clear HR
  have hix0 : ∀ w : World, (Instr.index 108 (.agg #[.int .i64 a, .int .i64 b, .int .i64 c]) (.int .i64 0)).run Tryz.prog w = .ok (.int .i64 a) w := fun _ => by kernel_rfl
  have hix1 : ∀ w : World, (Instr.index 108 (.agg #[.int .i64 a, .int .i64 b, .int .i64 c]) (.int .i64 1)).run Tryz.prog w = .ok (.int .i64 b) w := fun _ => by kernel_rfl
  have hix2 : ∀ w : World, (Instr.index 108 (.agg #[.int .i64 a, .int .i64 b, .int .i64 c]) (.int .i64 2)).run Tryz.prog w = .ok (.int .i64 c) w := fun _ => by kernel_rfl
  go_enter Tryz.func110, Tryz.ntmps110
  go_wp2_with fail
  have X0 := (Box3.box1 w a b c 65 (k := w.heap.size) (by simp)).alloc (Obj.cells #[.int .i64 x, .int .i64 y, .int .i64 z] 65)
  have X1 := Box3.box1 (w.alloc (Obj.cells #[.int .i64 a, .int .i64 b, .int .i64 c] 65)) x y z 65 (k := w.heap.size + 1) (by simp)
  have b0 := PointOk.below2 w (Obj.cells #[.int .i64 a, .int .i64 b, .int .i64 c] 65) (Obj.cells #[.int .i64 x, .int .i64 y, .int .i64 z] 65)
  have HO : ∀ W W' : World, (Box3.Box W (w.heap.size) a b c ∧ Box3.Box W (w.heap.size + 1) x y z ∧ Below w.heap.size w W) → Below W.heap.size W W' → (Box3.Box W' (w.heap.size) a b c ∧ Box3.Box W' (w.heap.size + 1) x y z ∧ Below w.heap.size w W') := fun W W' ⟨h0, h1, hb⟩ h => ⟨h0.later h, h1.later h, hb.trans (h.mono hb.size)⟩
  have hz0_ : Hid ((((w.alloc (Obj.cells #[.int .i64 a, .int .i64 b, .int .i64 c] 65)).alloc (Obj.cells #[.int .i64 x, .int .i64 y, .int .i64 z] 65))).heap.size = w.heap.size + 1 + 1) := Lib.hid (by simp)
  generalize ((w.alloc (Obj.cells #[.int .i64 a, .int .i64 b, .int .i64 c] 65)).alloc (Obj.cells #[.int .i64 x, .int .i64 y, .int .i64 z] 65)) = w0 at X0 X1 b0 hz0_ ⊢
  have S0 := (⟨X0, X1, b0⟩ : Box3.Box w0 (w.heap.size) a b c ∧ Box3.Box w0 (w.heap.size + 1) x y z ∧ Below w.heap.size w w0)
  clear X0 X1 b0
  obtain ⟨⟨_, _, _⟩, ⟨_, _, _⟩, _⟩ := id S0
  refine (indices a b c _).mono ?_
  rintro e w1 ⟨rfl, hb_⟩
  replace S0 := HO _ _ S0 hb_
  clear hb_
  obtain ⟨⟨_, _, _⟩, ⟨_, _, _⟩, _⟩ := id S0
  go_wp2_with fail
  go_loopw [5, 10] (fun v q wr => ∃ k : Nat, k ≤ 3 ∧ q = .int .i64 k ∧ v = .int .i64 (if k = 0 then 0 else if k = 1 then TreeMath.one p0 else if k = 2 then TreeMath.one p0 + TreeMath.one p1 else TreeMath.one p0 + TreeMath.one p1 + TreeMath.one p2) ∧ (Box3.Box wr (w.heap.size) a b c ∧ Box3.Box wr (w.heap.size + 1) x y z ∧ Below w.heap.size w wr))
    (fun _ q _ => 3 - (intOf q).toNat)
  case atStart => exact ⟨0, Nat.zero_le _, rfl, rfl, S0⟩
  case round =>
    clear S0
    obtain ⟨k, hk, rfl, rfl, S0⟩ := hrel
    obtain ⟨⟨_, _, _⟩, ⟨_, _, _⟩, _⟩ := id S0
    have o0 : 0 ≤ TreeMath.one p0 ∧ TreeMath.one p0 ≤ 1 := by unfold TreeMath.one; split <;> omega
    have o1 : 0 ≤ TreeMath.one p1 ∧ TreeMath.one p1 ≤ 1 := by unfold TreeMath.one; split <;> omega
    have o2 : 0 ≤ TreeMath.one p2 ∧ TreeMath.one p2 ≤ 1 := by unfold TreeMath.one; split <;> omega
    rcases (by omega : k = 0 ∨ k = 1 ∨ k = 2 ∨ k = 3) with rfl | rfl | rfl | rfl
    rotate_left 3
    · simp only [show ¬ (3 : Nat) = 0 by omega, show ¬ (3 : Nat) = 1 by omega, show ¬ (3 : Nat) = 2 by omega, if_false]
      generalize TreeMath.one p0 + TreeMath.one p1 + TreeMath.one p2 = v at *
      clear o0 o1 o2 H0 H1 H2
      by_cases hv : v = 2
      · have g1 : (v == 2) = true := by simpa using hv
        have E : Hid (r = true) := Lib.hid (by rw [HE.out, decide_eq_true hv])
        clear HE hv
        go_wp2_with fail
        go_ret
        exact ⟨ret_bool E.out.symm, S0.2.2⟩
      · have g1 : (v == 2) = false := by simpa using hv
        have E : Hid (r = false) := Lib.hid (by rw [HE.out, decide_eq_false hv])
        clear HE hv
        go_wp2_with fail
        go_ret
        exact ⟨ret_bool E.out.symm, S0.2.2⟩
    · clear H1 H2 HE
      simp only [if_true]
      go_wp2_with fail
      refine (H0.out _).mono ?_
      rintro e w4 ⟨rfl, hb_⟩
      replace S0 := HO _ _ S0 hb_
      clear hb_ H0
      obtain ⟨⟨_, _, _⟩, ⟨_, _, _⟩, _⟩ := id S0
      cases p0
      · go_wp2_with fail
        first
          | exact ⟨⟨1, by omega, rfl, rfl, S0⟩, by simp [intOf]⟩
          | (go_roundw <;> first | exact ⟨1, by omega, rfl, rfl, S0⟩ | simp [intOf])
      · go_wp2_with fail
        first
          | exact ⟨⟨1, by omega, rfl, rfl, S0⟩, by simp [intOf]⟩
          | (go_roundw <;> first | exact ⟨1, by omega, rfl, rfl, S0⟩ | simp [intOf])
    · clear H0 H2 HE
      simp only [show ¬ (1 : Nat) = 0 by omega, if_false, if_true]
      have u1 : IntKind.i64.wrap (TreeMath.one p0 + 1) = TreeMath.one p0 + 1 := IntWalk.i64_in _ (by omega)
      go_wp2_with fail
      refine (H1.out _).mono ?_
      rintro e w4 ⟨rfl, hb_⟩
      replace S0 := HO _ _ S0 hb_
      clear hb_ H1
      obtain ⟨⟨_, _, _⟩, ⟨_, _, _⟩, _⟩ := id S0
      cases p1
      · go_wp2_with fail
        first
          | exact ⟨⟨2, by omega, rfl, by simp [TreeMath.one], S0⟩, by simp [intOf]⟩
          | (go_roundw <;> first | exact ⟨2, by omega, rfl, by simp [TreeMath.one], S0⟩ | simp [intOf])
      · go_wp2_with fail
        first
          | exact ⟨⟨2, by omega, rfl, by simp [TreeMath.one], S0⟩, by simp [intOf]⟩
          | (go_roundw <;> first | exact ⟨2, by omega, rfl, by simp [TreeMath.one], S0⟩ | simp [intOf])
    · clear H0 H1 HE
      simp only [show ¬ (2 : Nat) = 0 by omega, show ¬ (2 : Nat) = 1 by omega, if_false, if_true]
      have u1 : IntKind.i64.wrap (TreeMath.one p0 + TreeMath.one p1 + 1) = TreeMath.one p0 + TreeMath.one p1 + 1 := IntWalk.i64_in _ (by omega)
      go_wp2_with fail
      refine (H2.out _).mono ?_
      rintro e w4 ⟨rfl, hb_⟩
      replace S0 := HO _ _ S0 hb_
      clear hb_ H2
      obtain ⟨⟨_, _, _⟩, ⟨_, _, _⟩, _⟩ := id S0
      cases p2
      · go_wp2_with fail
        first
          | exact ⟨⟨3, by omega, rfl, by simp [TreeMath.one], S0⟩, by simp [intOf]⟩
          | (go_roundw <;> first | exact ⟨3, by omega, rfl, by simp [TreeMath.one], S0⟩ | simp [intOf])
      · go_wp2_with fail
        first
          | exact ⟨⟨3, by omega, rfl, by simp [TreeMath.one], S0⟩, by simp [intOf]⟩
          | (go_roundw <;> first | exact ⟨3, by omega, rfl, by simp [TreeMath.one], S0⟩ | simp [intOf])

set_option maxRecDepth 100000 in
set_option maxHeartbeats 3200000 in
theorem beside (A : Option Addr) (m cap k : Nat) (w : World) (L : List Tu) (hl : L.length = m) (hm : m ≤ 1048576) (hk : k < m) (hp : TsAt w w.heap.size A L) :
    Calls Tryz.prog 82 #[.slice A m cap, .int .i64 (k : Int)] w (GivesI 3 w (nbrsL L k)) := by
  obtain ⟨r, hr⟩ : ∃ r, nbrsL L k = r := ⟨_, rfl⟩
  have HR := Lib.hid hr
  rw [hr]
  clear hr
  have HE : Hid (thatTo (besideB L k) m = r) := Lib.hid (by rw [← HR.out, ← hl]; rfl)
  have qk := tt_at (ps := L) (k := k) (by omega)
  have HB : Hid (∀ i, besideB L k i = decide (common (tt L i) (tt L k) = 2)) := Lib.hid (fun _ => rfl)
  obtain ⟨x, y, z, hz⟩ : ∃ x y z, tt L k = (x, y, z) := ⟨_, _, _, rfl⟩
  rw [hz] at qk HB
  obtain ⟨F, hF⟩ : ∃ F, besideB L k = F := ⟨_, rfl⟩
  rw [hF] at HE HB
  obtain ⟨ad, eA, bA, pA⟩ := hp.get qk
  subst eA
  have k0 : (0 : Int) ≤ (k : Int) := by omega
  have k1 : (k : Int) < (m : Int) := by omega
  clear qk hz hF HR
  go_enter Tryz.func82, Tryz.ntmps82
  go_wp2_with fail
  have HO : ∀ W W' : World, (TsAt W w.heap.size (some ad) L ∧ TAt W ad k x y z ∧ Below w.heap.size w W) → Below W.heap.size W W' → (TsAt W' w.heap.size (some ad) L ∧ TAt W' ad k x y z ∧ Below w.heap.size w W') := fun W W' ⟨x0, x1, hb⟩ h => ⟨x0.later (h.mono hb.size), x1.later bA (h.mono hb.size), hb.trans (h.mono hb.size)⟩
  have S0 : TsAt w w.heap.size (some ad) L ∧ TAt w ad k x y z ∧ Below w.heap.size w w := ⟨hp, pA, Below.refl _ _⟩
  clear hp pA
  go_loopw [5, 10] (fun v q wr => ∃ i : Nat, i ≤ m ∧ q = .int .i64 i ∧ wr.ownsRow (w.heap.size) 3 1 v (thatTo F i).length (icells (thatTo F i)) ∧ w.heap.size ≤ wr.heap.size ∧ (TsAt wr w.heap.size (some ad) L ∧ TAt wr ad k x y z ∧ Below w.heap.size w wr))
    (fun _ q _ => m - (intOf q).toNat)
  case atStart => exact ⟨0, Nat.zero_le _, rfl, World.ownsRow_nil _ _ _ _, Nat.le_refl _, S0⟩
  case round =>
    clear S0
    obtain ⟨i, him, rfl, hown, hsz, S0⟩ := hrel
    obtain ⟨_, ⟨_, _, _⟩, _⟩ := id S0
    by_cases hlt : i < m
    rotate_left
    · obtain rfl : m = i := by omega
      rw [HE.out] at hown
      obtain ⟨A1, c1, rfl⟩ := own_shape hown
      have h2 := Lib.hid hown
      clear hown
      go_wp2_with fail
      go_ret
      exact ⟨A1, c1, rfl, h2.out, S0.2.2⟩
    have i0 : (0 : Int) ≤ (i : Int) := by omega
    have i1 : (i : Int) < (m : Int) := by omega
    have qi := tt_at (ps := L) (k := i) (by omega)
    have hlen := thatTo_len F i
    have HL : Hid (thatTo F (i + 1) = if F i then thatTo F i ++ [(i : Int)] else thatTo F i) := Lib.hid rfl
    have HF := Lib.hid (HB.out i)
    obtain ⟨a, b, c, ha⟩ : ∃ a b c, tt L i = (a, b, c) := ⟨_, _, _, rfl⟩
    rw [ha] at qi HF
    have QS : Hid (∀ w, _) := Lib.hid fun w => sharesSide a b c x y z w
    rw [← HF.out] at QS
    generalize F i = bb at *
    generalize thatTo F i = l at *
    obtain ⟨q, hq⟩ : ∃ q, l.length = q := ⟨_, rfl⟩
    rw [hq] at hown hlen
    obtain ⟨Ao, co, rfl⟩ := own_shape hown
    obtain ⟨ad2, e2, _, pI⟩ := S0.1.get qi
    injection e2 with e2
    subst e2
    have X := Box3.box1 wr a b c 65 (k := wr.heap.size) rfl
    have b1_ := below1 wr (Obj.cells #[.int .i64 a, .int .i64 b, .int .i64 c] 65)
    have S1 := HO _ _ S0 b1_
    replace hown := Lib.hid (own_below hown b1_)
    replace hsz := Nat.le_trans hsz b1_.size
    obtain ⟨_, _, _⟩ := id pI
    clear S0 b1_ qi ha HF HB HE
    go_wp2_with fail
    generalize wr.alloc (Obj.cells #[.int .i64 a, .int .i64 b, .int .i64 c] 65) = w2 at *
    generalize wr.heap.size = kb at *
    have HO : ∀ W W' : World, (TsAt W w.heap.size (some ad) L ∧ TAt W ad k x y z ∧ Box3.Box W kb a b c ∧ Hid (W.ownsRow (w.heap.size) 3 1 (.slice Ao q co) q (icells l)) ∧ w.heap.size ≤ W.heap.size ∧ Below w.heap.size w W) → Below W.heap.size W W' → (TsAt W' w.heap.size (some ad) L ∧ TAt W' ad k x y z ∧ Box3.Box W' kb a b c ∧ Hid (W'.ownsRow (w.heap.size) 3 1 (.slice Ao q co) q (icells l)) ∧ w.heap.size ≤ W'.heap.size ∧ Below w.heap.size w W') := fun W W' ⟨x0, x1, x2, x3, x4, hb⟩ h => ⟨x0.later (h.mono hb.size), x1.later bA (h.mono hb.size), x2.later h, Lib.hid (own_below (x3).out h), Nat.le_trans x4 h.size, hb.trans (h.mono hb.size)⟩
    have S0 : TsAt w2 w.heap.size (some ad) L ∧ TAt w2 ad k x y z ∧ Box3.Box w2 kb a b c ∧ Hid (w2.ownsRow (w.heap.size) 3 1 (.slice Ao q co) q (icells l)) ∧ w.heap.size ≤ w2.heap.size ∧ Below w.heap.size w w2 := ⟨S1.1, S1.2.1, X, hown, hsz, S1.2.2⟩
    clear S1 X hown hsz
    obtain ⟨_, ⟨_, _, _⟩, ⟨_, _, _⟩, _, _, _⟩ := id S0
    refine Settle.region (fun W => TsAt W w.heap.size (some ad) L ∧ TAt W ad k x y z ∧ Box3.Box W kb a b c ∧ Hid (W.ownsRow (w.heap.size) 3 1 (.slice Ao q co) q (icells l)) ∧ w.heap.size ≤ W.heap.size ∧ Below w.heap.size w W) (by kernel_rfl) (by kernel_rfl) (by kernel_rfl) (by kernel_rfl) (HO _ _ S0 ((Below.refl _ _).drew)) ?_
    clear S0
    repeat (first
      | (refine Settle.Settles.off (by rfl) ?_; simp only [Act.put, List.setIfInBounds_toArray, List.set_cons_zero, List.set_cons_succ])
      | (refine Settle.Settles.quiet (v := ?_) (by rfl) ?_ ?_
         rotate_left
         · (intro W hS; obtain ⟨_, ⟨_, _, _⟩, ⟨_, _, _⟩, _, _, _⟩ := hS; go_simp; with_reducible rfl)
         simp only [Act.put, List.setIfInBounds_toArray, List.set_cons_zero, List.set_cons_succ])
      | (refine Settle.Settles.call (v := ?_) (f := ?_) (args := ?_) (by rfl) ?_ ?_ ?_
         rotate_left 3
         · (intro W; go_simp; refine ⟨?_, ?_⟩ <;> with_reducible rfl)
         · (intro W hS; first | (go_at_call 110; (with_reducible refine (QS.out _).mono ?_); rintro e W1 ⟨rfl, hb⟩; refine ⟨?_, HO _ _ hS hb⟩; with_reducible rfl))
         simp only [Act.put, List.setIfInBounds_toArray, List.set_cons_zero, List.set_cons_succ]))
    refine Settle.Settles.nil ?_
    intro wr S0
    obtain ⟨_, ⟨_, _, _⟩, ⟨_, _, _⟩, _, _, _⟩ := id S0
    cases bb
    · have HL2 : Hid (thatTo F (i + 1) = l) := Lib.hid (by rw [HL.out]; rfl)
      have h2 := Lib.hid (S0.2.2.2.1.out)
      clear HL QS
      go_wp2_with fail
      first
        | exact ⟨⟨i + 1, by omega, by go_num, by rw [HL2.out, hq]; exact h2.out, S0.2.2.2.2.1, S0.1, S0.2.1, S0.2.2.2.2.2⟩, by simp [intOf]; omega⟩
        | (go_roundw <;> first | exact ⟨i + 1, by omega, by go_num, by rw [HL2.out, hq]; exact h2.out, S0.2.2.2.2.1, S0.1, S0.2.1, S0.2.2.2.2.2⟩ | (simp [intOf]; omega))
    · have HL2 : Hid (thatTo F (i + 1) = l ++ [(i : Int)]) := Lib.hid (by rw [HL.out]; rfl)
      clear HL QS
      go_wp2_with (at_builtin; refine AppOne.append_one _ (by rfl) _ _ (by rfl) (w.heap.size) _ q (icells l) (by rfl) S0.2.2.2.1.out (i : Int) (by rfl) (by omega) S0.2.2.2.2.1 ?_)
      intro v5 w5 h5 hb5
      have hb6 := S0.2.2.2.2.2.trans hb5
      have h5q : Hid (w5.ownsRow (w.heap.size) 3 1 v5 (thatTo F (i + 1)).length (icells (thatTo F (i + 1)))) := Lib.hid (by rw [HL2.out, icells_snoc, List.length_append, hq]; exact h5)
      have T5 := S0.1.later hb5
      have P5 := S0.2.1.later bA hb5
      have hz5 := Nat.le_trans S0.2.2.2.2.1 hb5.size
      clear h5 hb5 HL2 S0
      go_wp2_with fail
      first
        | exact ⟨⟨i + 1, by omega, by go_num, h5q.out, hz5, T5, P5, hb6⟩, by simp [intOf]; omega⟩
        | (go_roundw <;> first | exact ⟨i + 1, by omega, by go_num, h5q.out, hz5, T5, P5, hb6⟩ | (simp [intOf]; omega))
end Go.Proofs.YtkcodmafakjkfaaGreat.TreeImpl

