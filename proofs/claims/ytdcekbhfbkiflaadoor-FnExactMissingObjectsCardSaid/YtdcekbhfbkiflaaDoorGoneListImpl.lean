/-
  What MissingObjects does, as a contract: what it answers; new memory alone is written.
-/
import Derived.Test.YtdcekbhfbkiflaaDoorGoneListMath
import Derived.Test.YtdcekbhfbkiflaaDoorGoneImpl
import Derived.Test.YtdcekbhfbkiflaaDoorGround
import Derived.OwnWalk
namespace Go.Proofs.YtdcekbhfbkiflaaDoor.GoneListImpl
open Go.RowKit Own PointMath DiagMath StockMath GoneMath GoneListMath TupIIB Blk
open PointOk (ret_bool ret_i64 below1 below2 below3)

theorem infoI : (Tryd.prog.info? 3).map (fun i => (i.zero, i.size, i.bytes)) = some (some (.int .i64 0), 1, 8) := by kernel_rfl

theorem isUpTo (n a : Int) (w : World) : Calls Tryd.prog 50 #[.int .i64 n, .int .i64 a] w fun e w' => e = .returned (.bool (decide (0 ≤ n ∧ n ≤ a))) ∧ w = w' := by
  by_cases h1 : 0 ≤ n
  · by_cases h2 : n ≤ a
    · have H : Hid (decide (0 ≤ n ∧ n ≤ a) = true) := Lib.hid (by simp [h1, h2])
      generalize decide (0 ≤ n ∧ n ≤ a) = r at H ⊢
      go_enter Tryd.func50, Tryd.ntmps50
      go_wp2_with fail
      go_ret
      exact ⟨ret_bool H.out.symm, rfl⟩
    · have H : Hid (decide (0 ≤ n ∧ n ≤ a) = false) := Lib.hid (by simp [h1, h2])
      generalize decide (0 ≤ n ∧ n ≤ a) = r at H ⊢
      go_enter Tryd.func50, Tryd.ntmps50
      go_wp2_with fail
      go_ret
      exact ⟨ret_bool H.out.symm, rfl⟩
  · have H : Hid (decide (0 ≤ n ∧ n ≤ a) = false) := Lib.hid (by simp [h1])
    generalize decide (0 ≤ n ∧ n ≤ a) = r at H ⊢
    go_enter Tryd.func50, Tryd.ntmps50
    go_wp2_with fail
    go_ret
    exact ⟨ret_bool H.out.symm, rfl⟩

set_option maxRecDepth 100000 in
set_option maxHeartbeats 6400000 in
theorem missingObjects (A : Option Addr) (n cap : Nat) (c : Int) (w : World) (ps : List Tu) (hl : ps.length = n) (hn : n ≤ 1048576) (hp : TsAt w w.heap.size A ps) (hg : GoneImpl.Laid w) :
    Calls Tryd.prog 18 #[.slice A n cap, .int .i64 c] w (GivesI 3 w (goneL ps c)) := by
  have QS : Hid (∀ w hp (k : Nat) (hg : GoneImpl.Laid w), _) := Lib.hid fun w hp (k : Nat) (hg : GoneImpl.Laid w) => GoneImpl.isMissing A n cap (k : Int) w ps hl hn hp hg
  by_cases hc : 0 ≤ c ∧ c ≤ 50
  rotate_left
  · rw [gone_no _ _ hc]
    have hd : decide (0 ≤ c ∧ c ≤ 50) = false := decide_eq_false hc
    have Q1 : Hid (∀ w, _) := Lib.hid fun w => isUpTo c 50 w
    rw [hd] at Q1
    go_enter Tryd.func18, Tryd.ntmps18
    go_wp2_with fail
    refine (Q1.out _).mono ?_
    rintro e w_ ⟨rfl, rfl⟩
    go_wp2_with fail
    go_ret
    exact ⟨_, _, rfl, World.ownsRow_nil _ _ _ _, Below.refl _ _⟩
  obtain ⟨m, rfl⟩ : ∃ m : Nat, c = (m : Int) := ⟨c.toNat, by omega⟩
  have hm50 : m ≤ 50 := by omega
  have hd : decide (0 ≤ (m : Int) ∧ (m : Int) ≤ 50) = true := decide_eq_true hc
  have Q1 : Hid (∀ w, _) := Lib.hid fun w => isUpTo (m : Int) 50 w
  rw [hd] at Q1
  rw [gone_at _ _ hm50]
  obtain ⟨r, hr⟩ : ∃ r, thatTo (fun k => missingB ps (k : Int)) m = r := ⟨_, rfl⟩
  have HE := Lib.hid hr
  rw [hr]
  obtain ⟨f, hf⟩ : ∃ f : Nat → Bool, (fun k : Nat => missingB ps (k : Int)) = f := ⟨_, rfl⟩
  rw [hf] at HE
  have HF : Hid (∀ k : Nat, missingB ps (k : Int) = f k) := Lib.hid (fun k => by rw [← hf])
  obtain ⟨i0, hi, hz0, hz1, hz2⟩ := info_parts infoI
  clear hf hr hd hc
  go_enter Tryd.func18, Tryd.ntmps18
  go_wp2_with fail
  refine (Q1.out _).mono ?_
  rintro e w_ ⟨rfl, rfl⟩
  go_wp2_with fail
  have HO : ∀ W W' : World, (TsAt W w.heap.size A ps ∧ Below w.heap.size w W) → Below W.heap.size W W' → (TsAt W' w.heap.size A ps ∧ Below w.heap.size w W') := fun W W' ⟨x0, hb⟩ h => ⟨x0.later (h.mono hb.size), hb.trans (h.mono hb.size)⟩
  have S0 : TsAt w w.heap.size A ps ∧ Below w.heap.size w w := ⟨hp, Below.refl _ _⟩
  have HO2 : ∀ W W' : World, (TsAt W w.heap.size A ps ∧ Below w.heap.size w W) → Below (w.heap.size) W W' → (TsAt W' w.heap.size A ps ∧ Below w.heap.size w W') := fun W W' ⟨h1, hb⟩ h => ⟨h1.later h, hb.trans h⟩
  go_loopw [5, 11] (fun v i wr => ∃ k : Nat, k ≤ m ∧ i = .int .i64 k ∧ wr.ownsRow (w.heap.size) 3 1 v (thatTo f k).length (icells (thatTo f k)) ∧ w.heap.size ≤ wr.heap.size ∧ (TsAt wr w.heap.size A ps ∧ Below w.heap.size w wr))
    (fun _ i _ => m - (intOf i).toNat)
  case atStart => exact ⟨0, Nat.zero_le _, rfl, World.ownsRow_nil _ _ _ _, Nat.le_refl _, S0⟩
  case round =>
    clear S0
    obtain ⟨k, hkn, rfl, hown, hsz, S0⟩ := hrel
    obtain ⟨_, _⟩ := id S0
    have hlen := thatTo_len f k
    by_cases hlt : k < m
    rotate_left
    · obtain rfl : m = k := by omega
      rw [HE.out] at hown
      have hown2 := Lib.hid hown
      obtain ⟨A1, c1, rfl⟩ := own_shape hown
      clear hl hown hlen HE QS HF
      go_wp2_with fail
      go_ret
      exact ⟨A1, c1, rfl, own_base hown2.out (by omega), S0.2⟩
    have hk1 : (k : Int) < (m : Int) := by omega
    have hk0 : (0 : Int) ≤ (k : Int) := by omega
    have HL : Hid (thatTo f (k + 1) = if f k then thatTo f k ++ [(k : Int)] else thatTo f k) := Lib.hid rfl
    have Q : Hid (∀ w hp (hg : GoneImpl.Laid w), _) := Lib.hid fun w hp hg => QS.out w hp k hg
    rw [HF.out k] at Q
    obtain ⟨o, ho2⟩ : ∃ o, f k = o := ⟨_, rfl⟩
    rw [ho2] at HL Q
    generalize thatTo f k = l0 at *
    obtain ⟨q, hm⟩ : ∃ q, l0.length = q := ⟨_, rfl⟩
    rw [hm] at hown hlen
    obtain ⟨Ao, co, rfl⟩ := own_shape hown
    clear ho2
    have HO : ∀ W W' : World, (TsAt W w.heap.size A ps ∧ W.ownsRow (w.heap.size) 3 1 (.slice Ao q co) q (icells l0) ∧ w.heap.size ≤ W.heap.size ∧ Below w.heap.size w W) → Below W.heap.size W W' → (TsAt W' w.heap.size A ps ∧ W'.ownsRow (w.heap.size) 3 1 (.slice Ao q co) q (icells l0) ∧ w.heap.size ≤ W'.heap.size ∧ Below w.heap.size w W') := fun W W' ⟨x0, x3, x4, hb⟩ h => ⟨x0.later (h.mono hb.size), own_below x3 h, Nat.le_trans x4 h.size, hb.trans (h.mono hb.size)⟩
    replace S0 : TsAt wr w.heap.size A ps ∧ wr.ownsRow (w.heap.size) 3 1 (.slice Ao q co) q (icells l0) ∧ w.heap.size ≤ wr.heap.size ∧ Below w.heap.size w wr := ⟨S0.1, hown, hsz, S0.2⟩
    clear hown hsz QS HF HE
    obtain ⟨_, _, _, _⟩ := id S0
    go_wp2_with fail
    refine (Q.out _ (S0.1.wide S0.2.2.2.size) (hg.later S0.2.2.2)).mono ?_
    rintro e wz ⟨rfl, hb_⟩
    replace S0 := HO _ _ S0 hb_
    clear hb_ Q
    obtain ⟨_, _, _, _⟩ := id S0
    cases o
    · skip
      have HL2 : Hid (thatTo f (k + 1) = l0) := Lib.hid (by rw [HL.out]; rfl)
      clear HL
      have hown := Lib.hid S0.2.1
      have hsz := S0.2.2.1
      go_wp2_with fail
      first
        | exact ⟨⟨k + 1, by omega, by go_num, by rw [HL2.out, hm]; exact hown.out, hsz, S0.1, S0.2.2.2⟩, by simp [intOf]; omega⟩
        | (go_roundw <;> first | exact ⟨k + 1, by omega, by go_num, by rw [HL2.out, hm]; exact hown.out, hsz, S0.1, S0.2.2.2⟩ | (simp [intOf]; omega))
    · skip
      have HL2 : Hid (thatTo f (k + 1) = l0 ++ [(k : Int)]) := Lib.hid (by rw [HL.out]; rfl)
      clear HL
      have hown := S0.2.1
      have hsz := S0.2.2.1
      go_wp2_with (at_builtin; refine wpList_append_own _ rfl _ _ 30 rfl (w.heap.size) 3 i0 (.int .i64 0) 1 8 Tryd.underlying30 hi hz0 hz1 hz2 rfl (by decide) _ _ _ rfl (hown.alloc _) ⟨wz.heap.size, 0, none⟩ 1 1 [.int .i64 (k : Int)] rfl rfl ?c1 ?c2 ?c3 ?c4 ?c5 ?_)
      case c1 => (intro j u hj; match j, hj with | 0, hj => (simp at hj; subst hj; simp [Addr.add]))
      case c2 => (intro u hu; simp at hu; subst hu; rfl)
      case c3 => (unfold maxLen; omega)
      case c4 => omega
      case c5 => (simp; omega)
      intro v1_ wa_ ho_ hg_ _
      have HN : Hid (wa_.ownsRow (w.heap.size) 3 1 v1_ (thatTo f (k + 1)).length (icells (thatTo f (k + 1))) ∧ w.heap.size ≤ wa_.heap.size ∧ (TsAt wa_ w.heap.size A ps ∧ Below w.heap.size w wa_)) := Lib.hid (by
        have hb0 : Below (w.heap.size) wz (wz.alloc (Obj.cells #[.int .i64 (k : Int)] 3)) := (below1 _ _).mono hsz
        have hb1 := hb0.grown hg_ (by simp; omega) (fun g hg => (hown.lt g hg).1)
        rw [HL2.out, icells_snoc, List.length_append, hm]
        exact ⟨ho_, Nat.le_trans hsz hb1.size, HO2 _ _ ⟨S0.1, S0.2.2.2⟩ hb1⟩)
      clear ho_ hg_ hown HL2 S0
      go_wp2_with fail
      first
        | exact ⟨⟨k + 1, by omega, by go_num, HN.out.1, HN.out.2.1, HN.out.2.2⟩, by simp [intOf]; omega⟩
        | (go_roundw <;> first | exact ⟨k + 1, by omega, by go_num, HN.out.1, HN.out.2.1, HN.out.2.2⟩ | (simp [intOf]; omega))

end Go.Proofs.YtdcekbhfbkiflaaDoor.GoneListImpl
