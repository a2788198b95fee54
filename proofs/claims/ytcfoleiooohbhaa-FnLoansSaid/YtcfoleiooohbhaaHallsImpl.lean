/-
  What HallsFor does, as a contract: what it answers; new memory alone is written.
-/
import Derived.Test.YtcfoleiooohbhaaDutyImpl
import Derived.Test.YtcfoleiooohbhaaGround
import Derived.OwnWalk
namespace Go.Proofs.Ytcfoleiooohbhaa.HallsImpl
open Go.RowKit Own PointMath DiagMath DutyMath Tup3 Blk
open PointOk (ret_bool ret_i64 below1 below2 below3)

theorem infoI : (Try.prog.info? 3).map (fun i => (i.zero, i.size, i.bytes)) = some (some (.int .i64 0), 1, 8) := by kernel_rfl

set_option maxRecDepth 100000 in
set_option maxHeartbeats 6400000 in
theorem hallsFor (l a b g : Int) (A : Option Addr) (n cap : Nat) (w : World) (ps : List Tu) (hl : ps.length = n) (hn : n ≤ 1048576) (hp : TsAt w w.heap.size A ps) :
    Calls Try.prog 9 #[.agg #[.int .i64 l, .int .i64 a, .int .i64 b, .int .i64 g], .slice A n cap] w (GivesI 3 w (hallsL l a b g ps)) := by
  obtain ⟨r, hr⟩ : ∃ r, hallsL l a b g ps = r := ⟨_, rfl⟩
  have HR := Lib.hid hr
  rw [hr]
  clear hr
  obtain ⟨f, hf⟩ : ∃ f : Nat → Bool, fitF l a b g ps = f := ⟨_, rfl⟩
  have HE : Hid (thatTo f n = r) := Lib.hid (by rw [← HR.out, ← hf, ← hl]; rfl)
  have QS : Hid (∀ w k (hk : k < n), _) := Lib.hid fun w k (hk : k < n) => DutyImpl.breaches l a b g (tt ps k).1 (tt ps k).2.1 (tt ps k).2.2 w
  have HF : Hid (∀ k, f k = decide (breachI l a b g (tt ps k).1 (tt ps k).2.1 (tt ps k).2.2 = 0)) := Lib.hid (fun k => by rw [← hf]; rfl)
  obtain ⟨i0, hi, hz0, hz1, hz2⟩ := info_parts infoI
  clear hf HR
  go_enter Try.func9, Try.ntmps9
  go_wp2_with fail
  have X0 := Tup4.box1 w l a b g 25 (k := w.heap.size) (by simp)
  have b0 := PointOk.below1 w (Obj.cells #[.int .i64 l, .int .i64 a, .int .i64 b, .int .i64 g] 25)
  have HO : ∀ W W' : World, (Tup4.Box W (w.heap.size) l a b g ∧ TsAt W w.heap.size A ps ∧ Below w.heap.size w W) → Below W.heap.size W W' → (Tup4.Box W' (w.heap.size) l a b g ∧ TsAt W' w.heap.size A ps ∧ Below w.heap.size w W') := fun W W' ⟨h0, x0, hb⟩ h => ⟨h0.later h, x0.later (h.mono hb.size), hb.trans (h.mono hb.size)⟩
  have hz0_ : Hid (((w.alloc (Obj.cells #[.int .i64 l, .int .i64 a, .int .i64 b, .int .i64 g] 25))).heap.size = w.heap.size + 1) := Lib.hid (by simp)
  have Y0 : TsAt ((w.alloc (Obj.cells #[.int .i64 l, .int .i64 a, .int .i64 b, .int .i64 g] 25))) w.heap.size A ps := hp.later b0
  generalize (w.alloc (Obj.cells #[.int .i64 l, .int .i64 a, .int .i64 b, .int .i64 g] 25)) = w0 at X0 Y0 b0 hz0_ ⊢
  have S0 := (⟨X0, Y0, b0⟩ : Tup4.Box w0 (w.heap.size) l a b g ∧ TsAt w0 w.heap.size A ps ∧ Below w.heap.size w w0)
  clear X0 Y0 b0
  obtain ⟨⟨_, _, _, _⟩, _, _⟩ := id S0
  have HO2 : ∀ W W' : World, (Tup4.Box W (w.heap.size) l a b g ∧ TsAt W w.heap.size A ps ∧ Below w.heap.size w W) → Below (w.heap.size + 1) W W' → (Tup4.Box W' (w.heap.size) l a b g ∧ TsAt W' w.heap.size A ps ∧ Below w.heap.size w W') := fun W W' ⟨h0, h1, hb⟩ h => ⟨h0.laterB (by omega) h, h1.later (h.mono (by omega)), hb.trans (h.mono (by omega))⟩
  have hz1_ := hz0_.out
  go_loopw [5, 10] (fun v i wr => ∃ k : Nat, k ≤ n ∧ i = .int .i64 k ∧ wr.ownsRow (w.heap.size + 1) 3 1 v (thatTo f k).length (icells (thatTo f k)) ∧ w.heap.size + 1 ≤ wr.heap.size ∧ (Tup4.Box wr (w.heap.size) l a b g ∧ TsAt wr w.heap.size A ps ∧ Below w.heap.size w wr))
    (fun _ i _ => n - (intOf i).toNat)
  case atStart => exact ⟨0, Nat.zero_le _, rfl, World.ownsRow_nil _ _ _ _, by rw [hz1_]; omega, S0⟩
  case round =>
    clear S0
    obtain ⟨k, hkn, rfl, hown, hsz, S0⟩ := hrel
    obtain ⟨⟨_, _, _, _⟩, _, _⟩ := id S0
    have hlen := thatTo_len f k
    by_cases hlt : k < n
    rotate_left
    · obtain rfl : n = k := by omega
      rw [HE.out] at hown
      have hown2 := Lib.hid hown
      obtain ⟨A1, c1, rfl⟩ := own_shape hown
      clear hl hown hlen HE QS HF
      go_wp2_with fail
      go_ret
      exact ⟨A1, c1, rfl, own_base hown2.out (by omega), S0.2.2⟩
    have hk1 : (k : Int) < (n : Int) := by omega
    have hk0 : (0 : Int) ≤ (k : Int) := by omega
    have HL : Hid (thatTo f (k + 1) = if f k then thatTo f k ++ [(k : Int)] else thatTo f k) := Lib.hid rfl
    have p0 := tt_at (ps := ps) (k := k) (by omega)
    have Q : Hid (∀ w, _) := Lib.hid fun w => QS.out w k hlt
    have ho := HF.out k
    obtain ⟨x, h, y, hg⟩ : ∃ x h y, tt ps k = (x, h, y) := ⟨_, _, _, rfl⟩
    rw [hg] at p0 Q ho
    obtain ⟨bd, eA, bA, pA⟩ := S0.2.1.get p0
    subst eA
    have ho : f k = decide (breachI l a b g x h y = 0) := ho
    dsimp only at Q
    generalize breachI l a b g x h y = v at *
    obtain ⟨o, ho2⟩ : ∃ o, f k = o := ⟨_, rfl⟩
    rw [ho2] at HL ho
    generalize thatTo f k = l0 at *
    obtain ⟨q, hm⟩ : ∃ q, l0.length = q := ⟨_, rfl⟩
    rw [hm] at hown hlen
    obtain ⟨Ao, co, rfl⟩ := own_shape hown
    clear p0 hg ho2
    have HO : ∀ W W' : World, (Tup4.Box W (w.heap.size) l a b g ∧ TsAt W w.heap.size (some bd) ps ∧ Tup3.TAt W bd k x h y ∧ W.ownsRow (w.heap.size + 1) 3 1 (.slice Ao q co) q (icells l0) ∧ w.heap.size + 1 ≤ W.heap.size ∧ Below w.heap.size w W) → Below W.heap.size W W' → (Tup4.Box W' (w.heap.size) l a b g ∧ TsAt W' w.heap.size (some bd) ps ∧ Tup3.TAt W' bd k x h y ∧ W'.ownsRow (w.heap.size + 1) 3 1 (.slice Ao q co) q (icells l0) ∧ w.heap.size + 1 ≤ W'.heap.size ∧ Below w.heap.size w W') := fun W W' ⟨h0, x0, x1, x2, x3, hb⟩ h => ⟨h0.later h, x0.later (h.mono hb.size), x1.later bA (h.mono hb.size), own_below x2 h, Nat.le_trans x3 h.size, hb.trans (h.mono hb.size)⟩
    replace S0 : Tup4.Box wr (w.heap.size) l a b g ∧ TsAt wr w.heap.size (some bd) ps ∧ Tup3.TAt wr bd k x h y ∧ wr.ownsRow (w.heap.size + 1) 3 1 (.slice Ao q co) q (icells l0) ∧ w.heap.size + 1 ≤ wr.heap.size ∧ Below w.heap.size w wr := ⟨S0.1, S0.2.1, pA, hown, hsz, S0.2.2⟩
    have X3 := Tup3.box1 wr x h y 36 (k := wr.heap.size) rfl
    have b1_ := below1 wr (Obj.cells #[.int .i64 x, .int .i64 h, .int .i64 y] 36)
    obtain ⟨⟨_, _, _, _⟩, _, ⟨_, _, _⟩, _, _, _⟩ := id S0
    obtain ⟨_, _, _⟩ := id pA
    have S0a := HO _ _ S0 b1_
    obtain ⟨_, _, _⟩ := id X3
    clear S0 b1_
    have S0 := S0a
    clear S0a
    clear pA hown hsz QS HF HE
    obtain ⟨⟨_, _, _, _⟩, _, ⟨_, _, _⟩, _, _, _⟩ := id S0
    cases o
    · have hv : (v == 0) = false := by simpa using (of_decide_eq_false ho.symm)
      have hv2 : ¬ v = 0 := of_decide_eq_false ho.symm
      clear ho
      go_wp2_with fail
      generalize wr.alloc (Obj.cells #[.int .i64 x, .int .i64 h, .int .i64 y] 36) = v1 at *
      refine (Q.out _).mono ?_
      rintro e wz ⟨rfl, hb_⟩
      replace S0 := HO _ _ S0 hb_
      clear hb_ Q
      obtain ⟨⟨_, _, _, _⟩, _, ⟨_, _, _⟩, _, _, _⟩ := id S0
      have HL2 : Hid (thatTo f (k + 1) = l0) := Lib.hid (by rw [HL.out]; rfl)
      clear HL
      have hown := Lib.hid S0.2.2.2.1
      have hsz := S0.2.2.2.2.1
      go_wp2_with fail
      first
        | exact ⟨⟨k + 1, by omega, by go_num, by rw [HL2.out, hm]; exact hown.out, hsz, S0.1, S0.2.1, S0.2.2.2.2.2⟩, by simp [intOf]; omega⟩
        | (go_roundw <;> first | exact ⟨k + 1, by omega, by go_num, by rw [HL2.out, hm]; exact hown.out, hsz, S0.1, S0.2.1, S0.2.2.2.2.2⟩ | (simp [intOf]; omega))
    · have hv2 : v = 0 := of_decide_eq_true ho.symm
      rw [hv2] at Q
      clear ho hv2
      go_wp2_with fail
      generalize wr.alloc (Obj.cells #[.int .i64 x, .int .i64 h, .int .i64 y] 36) = v1 at *
      refine (Q.out _).mono ?_
      rintro e wz ⟨rfl, hb_⟩
      replace S0 := HO _ _ S0 hb_
      clear hb_ Q
      obtain ⟨⟨_, _, _, _⟩, _, ⟨_, _, _⟩, _, _, _⟩ := id S0
      have HL2 : Hid (thatTo f (k + 1) = l0 ++ [(k : Int)]) := Lib.hid (by rw [HL.out]; rfl)
      clear HL
      have hown := S0.2.2.2.1
      have hsz := S0.2.2.2.2.1
      go_wp2_with (at_builtin; refine wpList_append_own _ rfl _ _ 31 rfl (w.heap.size + 1) 3 i0 (.int .i64 0) 1 8 Try.underlying31 hi hz0 hz1 hz2 rfl (by decide) _ _ _ rfl (hown.alloc _) ⟨wz.heap.size, 0, none⟩ 1 1 [.int .i64 (k : Int)] rfl rfl ?c1 ?c2 ?c3 ?c4 ?c5 ?_)
      try (case c1 => (intro j u hj; match j, hj with | 0, hj => (simp at hj; subst hj; simp [Addr.add])))
      case c2 => (intro u hu; simp at hu; subst hu; rfl)
      case c3 => (unfold maxLen; omega)
      case c4 => omega
      case c5 => (simp; omega)
      intro v1_ wa_ ho_ hg_ _
      have HN : Hid (wa_.ownsRow (w.heap.size + 1) 3 1 v1_ (thatTo f (k + 1)).length (icells (thatTo f (k + 1))) ∧ w.heap.size + 1 ≤ wa_.heap.size ∧ (Tup4.Box wa_ (w.heap.size) l a b g ∧ TsAt wa_ w.heap.size (some bd) ps ∧ Below w.heap.size w wa_)) := Lib.hid (by
        have hb0 : Below (w.heap.size + 1) wz (wz.alloc (Obj.cells #[.int .i64 (k : Int)] 3)) := (below1 _ _).mono hsz
        have hb1 := hb0.grown hg_ (by simp; omega) (fun g hg => (hown.lt g hg).1)
        rw [HL2.out, icells_snoc, List.length_append, hm]
        exact ⟨ho_, Nat.le_trans hsz hb1.size, HO2 _ _ ⟨S0.1, S0.2.1, S0.2.2.2.2.2⟩ hb1⟩)
      clear ho_ hg_ hown HL2 S0
      go_wp2_with fail
      first
        | exact ⟨⟨k + 1, by omega, by go_num, HN.out.1, HN.out.2.1, HN.out.2.2⟩, by simp [intOf]; omega⟩
        | (go_roundw <;> first | exact ⟨k + 1, by omega, by go_num, HN.out.1, HN.out.2.1, HN.out.2.2⟩ | (simp [intOf]; omega))

end Go.Proofs.Ytcfoleiooohbhaa.HallsImpl

