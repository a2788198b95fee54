/-
  What Raises and AlarmsOf do, as contracts: what each answers; new memory alone is written.
-/
import Derived.Test.YtmcjnldkhnebcaaDutySpec
import Derived.Test.YtmcjnldkhnebcaaAlarmMath
import Derived.Test.YtmcjnldkhnebcaaGround
import Derived.OwnWalk
namespace Go.Proofs.Ytmcjnldkhnebcaa.AlarmSpec
open Go.RowKit Own PointMath DiagMath DutyMath AlarmMath Tup3 Blk
open PointOk (ret_bool ret_i64 below1 below2 below3)

theorem infoI : (Try.prog.info? 3).map (fun i => (i.zero, i.size, i.bytes)) = some (some (.int .i64 0), 1, 8) := by kernel_rfl

set_option maxRecDepth 100000 in
set_option maxHeartbeats 6400000 in
theorem raises (A : Option Addr) (n cap : Nat) (z k m : Int) (w : World) (ps : List Tu) (hl : ps.length = n) (hn : n ≤ 1048576) (hp : TsAt w w.heap.size A ps) :
    Calls Try.prog 19 #[.slice A n cap, .agg #[.int .i64 z, .int .i64 k, .int .i64 m]] w fun e w' => e = .returned (.bool (raisesB ps z k m)) ∧ Below w.heap.size w w' := by
  obtain ⟨r, hr⟩ : ∃ r, raisesB ps z k m = r := ⟨_, rfl⟩
  have HR := Lib.hid hr
  rw [hr]
  clear hr
  go_enter Try.func19, Try.ntmps19
  go_wp2_with fail
  have X0 := Tup3.box1 w z k m 37 (k := w.heap.size) (by simp)
  have b0 := PointOk.below1 w (Obj.cells #[.int .i64 z, .int .i64 k, .int .i64 m] 37)
  have HO : ∀ W W' : World, (Tup3.Box W (w.heap.size) z k m ∧ TsAt W w.heap.size A ps ∧ Below w.heap.size w W) → Below W.heap.size W W' → (Tup3.Box W' (w.heap.size) z k m ∧ TsAt W' w.heap.size A ps ∧ Below w.heap.size w W') := fun W W' ⟨h0, x0, hb⟩ h => ⟨h0.later h, x0.later (h.mono hb.size), hb.trans (h.mono hb.size)⟩
  have hz0_ : Hid (((w.alloc (Obj.cells #[.int .i64 z, .int .i64 k, .int .i64 m] 37))).heap.size = w.heap.size + 1) := Lib.hid (by simp)
  have Y0 : TsAt ((w.alloc (Obj.cells #[.int .i64 z, .int .i64 k, .int .i64 m] 37))) w.heap.size A ps := hp.later b0
  generalize (w.alloc (Obj.cells #[.int .i64 z, .int .i64 k, .int .i64 m] 37)) = w0 at X0 Y0 b0 hz0_ ⊢
  have S0 := (⟨X0, Y0, b0⟩ : Tup3.Box w0 (w.heap.size) z k m ∧ TsAt w0 w.heap.size A ps ∧ Below w.heap.size w w0)
  clear X0 Y0 b0
  obtain ⟨⟨_, _, _⟩, _, _⟩ := id S0
  have u1 : IntKind.i64.wrap ((n : Int) - 1) = (n : Int) - 1 := IntWalk.i64_in _ (by omega)
  go_wp2_with fail
  refine (PointOk.l01In z 0 ((n : Int) - 1) _).mono ?_
  rintro e w_ ⟨rfl, rfl⟩
  cases h1 : decide (0 ≤ z ∧ z ≤ (n : Int) - 1)
  · have E : Hid (r = false) := Lib.hid (by rw [← HR.out]; exact raises_no1 (by have := of_decide_eq_false h1; omega))
    clear HR hl
    go_wp2_with fail
    go_ret
    exact ⟨ret_bool E.out.symm, S0.2.2⟩
  go_wp2_with fail
  refine (PointOk.l01In k 1 3 _).mono ?_
  rintro e w_ ⟨rfl, rfl⟩
  cases h2 : decide (1 ≤ k ∧ k ≤ 3)
  · have E : Hid (r = false) := Lib.hid (by rw [← HR.out]; exact raises_no2 (of_decide_eq_false h2))
    clear HR hl
    go_wp2_with fail
    go_ret
    exact ⟨ret_bool E.out.symm, S0.2.2⟩
  have hz := of_decide_eq_true h1
  have hk := of_decide_eq_true h2
  clear h1 h2 u1
  obtain ⟨j, rfl⟩ : ∃ j : Nat, z = (j : Int) := ⟨z.toNat, by omega⟩
  have hj1 : (j : Int) < (n : Int) := by omega
  have hj0 : (0 : Int) ≤ (j : Int) := by omega
  have HE : Hid (r = raisesT (tt ps j) k m) := Lib.hid (by rw [← HR.out]; exact raises_at hl (by omega) hk)
  have p0 := tt_at (ps := ps) (k := j) (by omega)
  obtain ⟨a, b, c, hg⟩ : ∃ a b c, tt ps j = (a, b, c) := ⟨_, _, _, rfl⟩
  rw [hg] at p0 HE
  unfold raisesT at HE
  simp only at HE
  have Q1 := Lib.hid fun w => DutySpec.zoneOk a b c w
  obtain ⟨bd, eA, bA, pA⟩ := S0.2.1.get p0
  subst eA
  have HO : ∀ W W' : World, (Tup3.Box W (w.heap.size) (j : Int) k m ∧ TsAt W w.heap.size (some bd) ps ∧ TAt W bd j a b c ∧ Below w.heap.size w W) → Below W.heap.size W W' → (Tup3.Box W' (w.heap.size) (j : Int) k m ∧ TsAt W' w.heap.size (some bd) ps ∧ TAt W' bd j a b c ∧ Below w.heap.size w W') := fun W W' ⟨h0, x0, x1, hb⟩ h => ⟨h0.later h, x0.later (h.mono hb.size), x1.later bA (h.mono hb.size), hb.trans (h.mono hb.size)⟩
  replace S0 : Tup3.Box w0 (w.heap.size) (j : Int) k m ∧ TsAt w0 w.heap.size (some bd) ps ∧ TAt w0 bd j a b c ∧ Below w.heap.size w w0 := ⟨S0.1, S0.2.1, pA, S0.2.2⟩
  clear pA p0 hg hl HR
  have X3 := Tup3.box1 w0 a b c 39 (k := w0.heap.size) rfl
  have b1_ := below1 w0 (Obj.cells #[.int .i64 a, .int .i64 b, .int .i64 c] 39)
  obtain ⟨⟨_, _, _⟩, _, ⟨_, _, _⟩, _⟩ := id S0
  have S1 := HO _ _ S0 b1_
  obtain ⟨⟨_, _, _⟩, _, ⟨_, _, _⟩, _⟩ := id S1
  obtain ⟨_, _, _⟩ := id X3
  obtain ⟨kb, hkb⟩ : ∃ K, w0.heap.size = K := ⟨_, rfl⟩
  rw [hkb] at X3
  clear S0 b1_
  go_wp2_with fail
  generalize w0.alloc (Obj.cells #[.int .i64 a, .int .i64 b, .int .i64 c] 39) = v1 at *
  try rw [hkb]
  clear hkb
  refine (Q1.out _).mono ?_
  rintro e w8 ⟨rfl, hb_⟩
  have S0 := HO _ _ S1 hb_
  replace X3 := X3.later hb_
  clear hb_ S1 Q1
  obtain ⟨⟨_, _, _⟩, _, ⟨_, _, _⟩, _⟩ := id S0
  obtain ⟨_, _, _⟩ := id X3
  cases hzo : zoneB a b c
  · have E : Hid (r = false) := Lib.hid (by rw [HE.out, hzo]; rfl)
    clear HE
    go_wp2_with fail
    go_ret
    exact ⟨ret_bool E.out.symm, S0.2.2.2⟩
  have hcb := (zone_parts hzo).2.2
  rw [hzo] at HE
  by_cases k1 : a ≤ m
  rotate_left
  · have E : Hid (r = false) := Lib.hid (by rw [HE.out, decide_eq_false k1]; rfl)
    clear HE
    go_wp2_with fail
    go_ret
    exact ⟨ret_bool E.out.symm, S0.2.2.2⟩
  rw [decide_eq_true k1] at HE
  by_cases k2 : m < b
  rotate_left
  · have E : Hid (r = false) := Lib.hid (by rw [HE.out, decide_eq_false k2]; rfl)
    clear HE
    go_wp2_with fail
    go_ret
    exact ⟨ret_bool E.out.symm, S0.2.2.2⟩
  rw [decide_eq_true k2] at HE
  replace HE : Hid (r = bitB c k) := Lib.hid (by rw [HE.out]; rfl)
  obtain rfl | rfl | rfl : k = 1 ∨ k = 2 ∨ k = 3 := by omega
  · have e1 := and_one (c := c / 2) (by omega)
    obtain ⟨x, hx⟩ : ∃ x, c / 2 = x := ⟨_, rfl⟩
    obtain ⟨y, hy⟩ : ∃ y, x % 2 = y := ⟨_, rfl⟩
    rw [hx, hy] at e1
    have HB : Hid (r = decide (y = 1)) := Lib.hid (by rw [HE.out, ← hy, ← hx]; exact bit_1 c)
    clear HE
    obtain rfl | rfl : y = 0 ∨ y = 1 := by omega
    · have E : Hid (r = false) := Lib.hid HB.out
      clear HB hy hcb hk
      go_wp2_with fail
      go_ret
      exact ⟨ret_bool E.out.symm, S0.2.2.2⟩
    · have E : Hid (r = true) := Lib.hid HB.out
      clear HB hy hcb hk
      go_wp2_with fail
      go_ret
      exact ⟨ret_bool E.out.symm, S0.2.2.2⟩
  · have e1 := and_one (c := c / 4) (by omega)
    obtain ⟨x, hx⟩ : ∃ x, c / 4 = x := ⟨_, rfl⟩
    obtain ⟨y, hy⟩ : ∃ y, x % 2 = y := ⟨_, rfl⟩
    rw [hx, hy] at e1
    have HB : Hid (r = decide (y = 1)) := Lib.hid (by rw [HE.out, ← hy, ← hx]; exact bit_2 c)
    clear HE
    obtain rfl | rfl : y = 0 ∨ y = 1 := by omega
    · have E : Hid (r = false) := Lib.hid HB.out
      clear HB hy hcb hk
      go_wp2_with fail
      go_ret
      exact ⟨ret_bool E.out.symm, S0.2.2.2⟩
    · have E : Hid (r = true) := Lib.hid HB.out
      clear HB hy hcb hk
      go_wp2_with fail
      go_ret
      exact ⟨ret_bool E.out.symm, S0.2.2.2⟩
  · have e1 := and_one (c := c / 8) (by omega)
    obtain ⟨x, hx⟩ : ∃ x, c / 8 = x := ⟨_, rfl⟩
    obtain ⟨y, hy⟩ : ∃ y, x % 2 = y := ⟨_, rfl⟩
    rw [hx, hy] at e1
    have HB : Hid (r = decide (y = 1)) := Lib.hid (by rw [HE.out, ← hy, ← hx]; exact bit_3 c)
    clear HE
    obtain rfl | rfl : y = 0 ∨ y = 1 := by omega
    · have E : Hid (r = false) := Lib.hid HB.out
      clear HB hy hcb hk
      go_wp2_with fail
      go_ret
      exact ⟨ret_bool E.out.symm, S0.2.2.2⟩
    · have E : Hid (r = true) := Lib.hid HB.out
      clear HB hy hcb hk
      go_wp2_with fail
      go_ret
      exact ⟨ret_bool E.out.symm, S0.2.2.2⟩

set_option maxRecDepth 100000 in
set_option maxHeartbeats 6400000 in
theorem alarmsOf (A : Option Addr) (n cap : Nat) (B : Option Addr) (m cb : Nat) (w : World) (ps : List Tu) (hl0 : ps.length = n) (hn : n ≤ 1048576) (hp : TsAt w w.heap.size A ps) (qs : List Tu) (hl : qs.length = m) (hn2 : m ≤ 1048576) (hq : TsAt w w.heap.size B qs) :
    Calls Try.prog 12 #[.slice A n cap, .slice B m cb] w (GivesI 3 w (alarmsL ps qs)) := by
  obtain ⟨r, hr⟩ : ∃ r, alarmsL ps qs = r := ⟨_, rfl⟩
  have HR := Lib.hid hr
  rw [hr]
  clear hr
  obtain ⟨f, hf⟩ : ∃ f : Nat → Bool, alarmF ps qs = f := ⟨_, rfl⟩
  have HE : Hid (thatTo f m = r) := Lib.hid (by rw [← HR.out, ← hf, ← hl]; rfl)
  have QS : Hid (∀ w hp k (hk : k < m), _) := Lib.hid fun w hp k (hk : k < m) => raises A n cap (tt qs k).1 (tt qs k).2.1 (tt qs k).2.2 w ps hl0 hn hp
  have HF : Hid (∀ k, f k = raisesB ps (tt qs k).1 (tt qs k).2.1 (tt qs k).2.2) := Lib.hid (fun k => by rw [← hf]; rfl)
  obtain ⟨i0, hi, hz0, hz1, hz2⟩ := info_parts infoI
  clear hf HR
  go_enter Try.func12, Try.ntmps12
  go_wp2_with fail
  have HO : ∀ W W' : World, (TsAt W w.heap.size A ps ∧ TsAt W w.heap.size B qs ∧ Below w.heap.size w W) → Below W.heap.size W W' → (TsAt W' w.heap.size A ps ∧ TsAt W' w.heap.size B qs ∧ Below w.heap.size w W') := fun W W' ⟨x0, x1, hb⟩ h => ⟨x0.later (h.mono hb.size), x1.later (h.mono hb.size), hb.trans (h.mono hb.size)⟩
  have S0 : TsAt w w.heap.size A ps ∧ TsAt w w.heap.size B qs ∧ Below w.heap.size w w := ⟨hp, hq, Below.refl _ _⟩
  have HO2 : ∀ W W' : World, (TsAt W w.heap.size A ps ∧ TsAt W w.heap.size B qs ∧ Below w.heap.size w W) → Below (w.heap.size) W W' → (TsAt W' w.heap.size A ps ∧ TsAt W' w.heap.size B qs ∧ Below w.heap.size w W') := fun W W' ⟨h1, h2, hb⟩ h => ⟨h1.later h, h2.later h, hb.trans h⟩
  go_loopw [5, 6] (fun v i wr => ∃ k : Nat, k ≤ m ∧ i = .int .i64 k ∧ wr.ownsRow (w.heap.size) 3 1 v (thatTo f k).length (icells (thatTo f k)) ∧ w.heap.size ≤ wr.heap.size ∧ (TsAt wr w.heap.size A ps ∧ TsAt wr w.heap.size B qs ∧ Below w.heap.size w wr))
    (fun _ i _ => m - (intOf i).toNat)
  case atStart => exact ⟨0, Nat.zero_le _, rfl, by have := own_empty w 3 1; exact this, by simp, HO _ _ S0 (below1 _ _)⟩
  case round =>
    clear S0
    obtain ⟨k, hkn, rfl, hown, hsz, S0⟩ := hrel
    obtain ⟨_, _, _⟩ := id S0
    have hlen := thatTo_len f k
    by_cases hlt : k < m
    rotate_left
    · obtain rfl : m = k := by omega
      rw [HE.out] at hown
      have hown2 := Lib.hid hown
      obtain ⟨A1, c1, rfl⟩ := own_shape hown
      clear hl hown hlen HE QS HF
      go_wp2_with fail
      go_ret
      exact ⟨A1, c1, rfl, own_base hown2.out (by omega), S0.2.2⟩
    have hk1 : (k : Int) < (m : Int) := by omega
    have hk0 : (0 : Int) ≤ (k : Int) := by omega
    have HL : Hid (thatTo f (k + 1) = if f k then thatTo f k ++ [(k : Int)] else thatTo f k) := Lib.hid rfl
    have p0 := tt_at (ps := qs) (k := k) (by omega)
    have Q : Hid (∀ w hp, _) := Lib.hid fun w hp => QS.out w hp k hlt
    have ho := HF.out k
    obtain ⟨z, kd, mo, hg⟩ : ∃ z kd mo, tt qs k = (z, kd, mo) := ⟨_, _, _, rfl⟩
    rw [hg] at p0 Q ho
    obtain ⟨bd, eA, bA, pA⟩ := S0.2.1.get p0
    subst eA
    obtain ⟨o, ho2⟩ : ∃ o, f k = o := ⟨_, rfl⟩
    rw [ho2] at HL ho
    dsimp only at ho Q
    rw [← ho] at Q
    clear ho
    generalize thatTo f k = l0 at *
    obtain ⟨q, hm⟩ : ∃ q, l0.length = q := ⟨_, rfl⟩
    rw [hm] at hown hlen
    obtain ⟨Ao, co, rfl⟩ := own_shape hown
    clear p0 hg ho2
    have HO : ∀ W W' : World, (TsAt W w.heap.size A ps ∧ TsAt W w.heap.size (some bd) qs ∧ Tup3.TAt W bd k z kd mo ∧ W.ownsRow (w.heap.size) 3 1 (.slice Ao q co) q (icells l0) ∧ w.heap.size ≤ W.heap.size ∧ Below w.heap.size w W) → Below W.heap.size W W' → (TsAt W' w.heap.size A ps ∧ TsAt W' w.heap.size (some bd) qs ∧ Tup3.TAt W' bd k z kd mo ∧ W'.ownsRow (w.heap.size) 3 1 (.slice Ao q co) q (icells l0) ∧ w.heap.size ≤ W'.heap.size ∧ Below w.heap.size w W') := fun W W' ⟨x0, x1, x2, x3, x4, hb⟩ h => ⟨x0.later (h.mono hb.size), x1.later (h.mono hb.size), x2.later bA (h.mono hb.size), own_below x3 h, Nat.le_trans x4 h.size, hb.trans (h.mono hb.size)⟩
    replace S0 : TsAt wr w.heap.size A ps ∧ TsAt wr w.heap.size (some bd) qs ∧ Tup3.TAt wr bd k z kd mo ∧ wr.ownsRow (w.heap.size) 3 1 (.slice Ao q co) q (icells l0) ∧ w.heap.size ≤ wr.heap.size ∧ Below w.heap.size w wr := ⟨S0.1, S0.2.1, pA, hown, hsz, S0.2.2⟩
    clear pA hown hsz QS HF HE
    obtain ⟨_, _, ⟨_, _, _⟩, _, _, _⟩ := id S0
    go_wp2_with fail
    refine (Q.out _ (S0.1.wide S0.2.2.2.2.2.size)).mono ?_
    rintro e wz ⟨rfl, hb_⟩
    replace S0 := HO _ _ S0 hb_
    clear hb_ Q
    obtain ⟨_, _, ⟨_, _, _⟩, _, _, _⟩ := id S0
    cases o
    · skip
      have HL2 : Hid (thatTo f (k + 1) = l0) := Lib.hid (by rw [HL.out]; rfl)
      clear HL
      have hown := Lib.hid S0.2.2.2.1
      have hsz := S0.2.2.2.2.1
      go_wp2_with fail
      first
        | exact ⟨⟨k + 1, by omega, by go_num, by rw [HL2.out, hm]; exact hown.out, hsz, S0.1, S0.2.1, S0.2.2.2.2.2⟩, by simp [intOf]; omega⟩
        | (go_roundw <;> first | exact ⟨k + 1, by omega, by go_num, by rw [HL2.out, hm]; exact hown.out, hsz, S0.1, S0.2.1, S0.2.2.2.2.2⟩ | (simp [intOf]; omega))
    · skip
      have HL2 : Hid (thatTo f (k + 1) = l0 ++ [(k : Int)]) := Lib.hid (by rw [HL.out]; rfl)
      clear HL
      have hown := S0.2.2.2.1
      have hsz := S0.2.2.2.2.1
      go_wp2_with (at_builtin; refine wpList_append_own _ rfl _ _ 34 rfl (w.heap.size) 3 i0 (.int .i64 0) 1 8 Try.underlying34 hi hz0 hz1 hz2 rfl (by decide) _ _ _ rfl (hown.alloc _) ⟨wz.heap.size, 0, none⟩ 1 1 [.int .i64 (k : Int)] rfl rfl ?c1 ?c2 ?c3 ?c4 ?c5 ?_)
      try (case c1 => (intro j u hj; match j, hj with | 0, hj => (simp at hj; subst hj; simp [Addr.add])))
      case c2 => (intro u hu; simp at hu; subst hu; rfl)
      case c3 => (unfold maxLen; omega)
      case c4 => omega
      case c5 => (simp; omega)
      intro v1_ wa_ ho_ hg_ _
      have HN : Hid (wa_.ownsRow (w.heap.size) 3 1 v1_ (thatTo f (k + 1)).length (icells (thatTo f (k + 1))) ∧ w.heap.size ≤ wa_.heap.size ∧ (TsAt wa_ w.heap.size A ps ∧ TsAt wa_ w.heap.size (some bd) qs ∧ Below w.heap.size w wa_)) := Lib.hid (by
        have hb0 : Below (w.heap.size) wz (wz.alloc (Obj.cells #[.int .i64 (k : Int)] 3)) := (below1 _ _).mono hsz
        have hb1 := hb0.grown hg_ (by simp; omega) (fun g hg => (hown.lt g hg).1)
        rw [HL2.out, icells_snoc, List.length_append, hm]
        exact ⟨ho_, Nat.le_trans hsz hb1.size, HO2 _ _ ⟨S0.1, S0.2.1, S0.2.2.2.2.2⟩ hb1⟩)
      clear ho_ hg_ hown HL2 S0
      go_wp2_with fail
      first
        | exact ⟨⟨k + 1, by omega, by go_num, HN.out.1, HN.out.2.1, HN.out.2.2⟩, by simp [intOf]; omega⟩
        | (go_roundw <;> first | exact ⟨k + 1, by omega, by go_num, HN.out.1, HN.out.2.1, HN.out.2.2⟩ | (simp [intOf]; omega))

end Go.Proofs.Ytmcjnldkhnebcaa.AlarmSpec

