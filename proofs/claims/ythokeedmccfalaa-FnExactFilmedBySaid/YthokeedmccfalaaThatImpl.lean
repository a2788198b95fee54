/-
  What the landed cornersThat and filtered do with a test that is handed over, as contracts: the numbers of the corners that pass it; the elements that do.
-/
import Derived.Test.YthokeedmccfalaaGround
import Derived.Test.YthokeedmccfalaaFacts
namespace Go.Proofs.Ythokeedmccfalaa.ThatImpl
open Go.RowKit Own PointMath WallMath RoomMath Pts Blk DiagMath
open PointOk (ret_bool ret_i64 below1 below2 below3)

theorem infoI : (Try.prog.info? 3).map (fun i => (i.zero, i.size, i.bytes)) = some (some (.int .i64 0), 1, 8) := by kernel_rfl

set_option maxRecDepth 100000 in
set_option maxHeartbeats 1600000 in
theorem cornersThat (F : FuncId) (cs : Array Value) (f : Nat → Bool) (A : Option Addr) (n cap : Nat) (w : World) (hn : n ≤ 1048576) (eF : ∀ (args : Array Value) (w : World), (callFunc F args).run Try.prog w = .ok (.enter F args) w)
    (Q : ∀ (W : World) (k : Nat), k < n → Below w.heap.size w W → Calls Try.prog F (#[.int .i64 (k : Int)] ++ cs) W fun e w' => e = .returned (.bool (f k)) ∧ Below W.heap.size W w') :
    Calls Try.prog 180 #[.agg #[.slice A n cap], .func (.func F) #[] cs] w (GivesI 3 w (thatTo f n)) := by
  obtain ⟨r, hr⟩ : ∃ r, thatTo f n = r := ⟨_, rfl⟩
  have HR := Lib.hid hr
  rw [hr]
  clear hr
  obtain ⟨i0, hi, hz0, hz1, hz2⟩ := info_parts infoI
  have Q := Lib.hid Q
  go_enter Try.func180, Try.ntmps180
  go_wp2_with fail
  have X0 := Pts.boxR w (.slice A n cap) 37 (k := w.heap.size) (by simp)
  have b0 := PointOk.below1 w (Obj.cells #[.slice A n cap] 37)
  have HO : ∀ W W' : World, (Pts.BoxR W (w.heap.size) (.slice A n cap) ∧ Below w.heap.size w W) → Below W.heap.size W W' → (Pts.BoxR W' (w.heap.size) (.slice A n cap) ∧ Below w.heap.size w W') := fun W W' ⟨h0, hb⟩ h => ⟨h0.later h, hb.trans (h.mono hb.size)⟩
  have hz0_ : Hid (((w.alloc (Obj.cells #[.slice A n cap] 37))).heap.size = w.heap.size + 1) := Lib.hid (by simp)
  generalize (w.alloc (Obj.cells #[.slice A n cap] 37)) = w0 at X0 b0 hz0_ ⊢
  have S0 := (⟨X0, b0⟩ : Pts.BoxR w0 (w.heap.size) (.slice A n cap) ∧ Below w.heap.size w w0)
  clear X0 b0
  obtain ⟨⟨_, _⟩, _⟩ := id S0
  have HO2 : ∀ W W' : World, (Pts.BoxR W (w.heap.size) (.slice A n cap) ∧ Below w.heap.size w W) → Below (w.heap.size + 1) W W' → (Pts.BoxR W' (w.heap.size) (.slice A n cap) ∧ Below w.heap.size w W') := fun W W' ⟨h0, hb⟩ h => ⟨⟨(h.cell (by simp)).trans h0.1, trivial⟩, hb.trans (h.mono (by omega))⟩
  go_loopw [5, 10] (fun v i wr => ∃ k : Nat, k ≤ n ∧ i = .int .i64 k ∧ wr.ownsRow (w.heap.size + 1) 3 1 v (thatTo f k).length (icells (thatTo f k)) ∧ w.heap.size + 1 ≤ wr.heap.size ∧ (Pts.BoxR wr (w.heap.size) (.slice A n cap) ∧ Below w.heap.size w wr))
    (fun _ i _ => n - (intOf i).toNat)
  case atStart => exact ⟨0, Nat.zero_le _, rfl, World.ownsRow_nil _ _ _ _, World.block_lt_of_cell? _ _ S0.1.1, S0⟩
  case round =>
    clear S0
    obtain ⟨k, hkn, rfl, hown, hsz, S0⟩ := hrel
    obtain ⟨⟨_, _⟩, _⟩ := id S0
    by_cases hlt : k < n
    · have hk1 : (k : Int) < (n : Int) := by omega
      have QK : Hid (∀ W hb, _) := Lib.hid fun W hb => Q.out W k hlt hb
      have hlen := thatTo_len f k
      have HL : Hid (thatTo f (k + 1) = if f k then thatTo f k ++ [(k : Int)] else thatTo f k) := Lib.hid rfl
      generalize thatTo f k = l at *
      obtain ⟨m, hm⟩ : ∃ m, l.length = m := ⟨_, rfl⟩
      rw [hm] at hown hlen
      replace hown := Lib.hid hown
      obtain ⟨b, hb⟩ : ∃ b, f k = b := ⟨_, rfl⟩
      rw [hb] at QK HL
      clear HR hb
      go_wp2_with fail
      refine (QK.out _ S0.2).mono ?_
      rintro e w2 ⟨rfl, hb_⟩
      replace S0 := HO _ _ S0 hb_
      replace hown := Lib.hid (own_below hown.out hb_)
      replace hsz := Nat.le_trans hsz hb_.size
      clear hb_ QK
      obtain ⟨⟨_, _⟩, _⟩ := id S0
      cases b
      · have HL2 : Hid (thatTo f (k + 1) = l) := Lib.hid (by rw [HL.out]; rfl)
        clear HL
        go_wp2_with fail
        first
          | exact ⟨⟨k + 1, by omega, by go_num, by rw [HL2.out, hm]; exact hown.out, hsz, S0⟩, by simp [intOf]; omega⟩
          | (go_roundw <;> first | exact ⟨k + 1, by omega, by go_num, by rw [HL2.out, hm]; exact hown.out, hsz, S0⟩ | (simp [intOf]; omega))
      · have HL2 : Hid (thatTo f (k + 1) = l ++ [(k : Int)]) := Lib.hid (by rw [HL.out]; rfl)
        have hown2 := hown.out
        clear HL
        go_wp2_with (at_builtin; refine wpList_append_own _ rfl _ _ 64 rfl (w.heap.size + 1) 3 i0 (.int .i64 0) 1 8 Try.underlying64 hi hz0 hz1 hz2 rfl (by decide) _ _ _ rfl (hown2.alloc _) ⟨w2.heap.size, 0, none⟩ 1 1 [.int .i64 (k : Int)] rfl rfl ?c1 ?c2 ?c3 ?c4 ?c5 ?_)
        try (case c1 => (intro j u hj; match j, hj with | 0, hj => (simp at hj; subst hj; simp [Addr.add])))
        case c2 => (intro u hu; simp at hu; subst hu; rfl)
        case c3 => (unfold maxLen; omega)
        case c4 => omega
        case c5 => (simp; omega)
        intro v1_ wa_ ho_ hg_ _
        have HN : Hid (wa_.ownsRow (w.heap.size + 1) 3 1 v1_ (thatTo f (k + 1)).length (icells (thatTo f (k + 1))) ∧ w.heap.size + 1 ≤ wa_.heap.size ∧ (Pts.BoxR wa_ (w.heap.size) (.slice A n cap) ∧ Below w.heap.size w wa_)) := Lib.hid (by
          have hb0 : Below (w.heap.size + 1) w2 (w2.alloc (Obj.cells #[.int .i64 (k : Int)] 3)) := (below1 _ _).mono hsz
          have hb1 := hb0.grown hg_ (by simp; omega) (fun g hg => (hown2.lt g hg).1)
          rw [HL2.out, icells_snoc, List.length_append, hm]
          exact ⟨ho_, Nat.le_trans hsz hb1.size, HO2 _ _ S0 hb1⟩)
        clear ho_ hg_ hown hown2 HL2 S0
        go_wp2_with fail
        first
          | exact ⟨⟨k + 1, by omega, by go_num, HN.out.1, HN.out.2.1, HN.out.2.2⟩, by simp [intOf]; omega⟩
          | (go_roundw <;> first | exact ⟨k + 1, by omega, by go_num, HN.out.1, HN.out.2.1, HN.out.2.2⟩ | (simp [intOf]; omega))
    · obtain rfl : n = k := by omega
      rw [HR.out] at hown
      have hown2 := Lib.hid hown
      obtain ⟨A1, c1, rfl⟩ := own_shape hown
      clear hown
      go_wp2_with fail
      go_ret
      exact ⟨A1, c1, rfl, own_base hown2.out (by omega), S0.2⟩

end Go.Proofs.Ythokeedmccfalaa.ThatImpl

