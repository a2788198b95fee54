/-
  What the landed filtered does over a slice of Shift with a test that is handed over, as a contract: those that pass it, in new memory.
-/
import Derived.Test.YtcpepljgnkmajaaTup3
import Derived.Test.YtcpepljgnkmajaaGround
import Derived.OwnWalk
namespace Go.Proofs.Ytcpepljgnkmajaa.FiltShiftImpl
open Go.RowKit Own Blk Tup3
open PointOk (ret_bool ret_i64 below1 below2 below3)

theorem info : (Try.prog.info? 54).map (fun i => (i.zero, i.size, i.bytes)) = some (some (.agg #[.int .i64 0, .int .i64 0, .int .i64 0]), 3, 24) := by kernel_rfl

set_option maxRecDepth 100000 in
set_option maxHeartbeats 6400000 in
theorem filtered (F : FuncId) (cs : Array Value) (f : Nat → Bool) (Al : Option Addr) (m cl : Nat) (w : World) (l : List Tu) (hm : l.length = m) (hle : m ≤ 1048576) (hp : TsAt w w.heap.size Al l) (eF : ∀ (args : Array Value) (w : World), (callFunc F args).run Try.prog w = .ok (.enter F args) w)
    (Q : ∀ (W : World) (k : Nat), k < m → Below w.heap.size w W → Calls Try.prog F (#[.agg #[.int .i64 (tt l k).1, .int .i64 (tt l k).2.1, .int .i64 (tt l k).2.2]] ++ cs) W fun e w' => e = .returned (.bool (f k)) ∧ Below W.heap.size W w') :
    Calls Try.prog 72 #[.slice Al m cl, .func (.func F) #[] cs] w (GivesC 54 3 w (filtT f l m).length (cellsT (filtT f l m))) := by
  obtain ⟨r, hr⟩ : ∃ r, filtT f l m = r := ⟨_, rfl⟩
  have HR := Lib.hid hr
  rw [hr]
  clear hr
  obtain ⟨i0, hi, hz0, hz1, hz2⟩ := info_parts info
  have Q := Lib.hid Q
  go_enter Try.func72, Try.ntmps72
  go_wp2_with fail
  have HO : ∀ W W' : World, (TsAt W w.heap.size Al l ∧ Below w.heap.size w W) → Below W.heap.size W W' → (TsAt W' w.heap.size Al l ∧ Below w.heap.size w W') := fun W W' ⟨x0, hb⟩ h => ⟨x0.later (h.mono hb.size), hb.trans (h.mono hb.size)⟩
  have S0 : TsAt w w.heap.size Al l ∧ Below w.heap.size w w := ⟨hp, Below.refl _ _⟩
  clear hp
  have HO2 : ∀ W W' : World, (TsAt W w.heap.size Al l ∧ Below w.heap.size w W) → Below w.heap.size W W' → (TsAt W' w.heap.size Al l ∧ Below w.heap.size w W') := fun W W' ⟨h0, hb⟩ h => ⟨h0.later h, hb.trans h⟩
  go_loopw [5, 10] (fun v q wr => ∃ k : Nat, k ≤ m ∧ q = .int .i64 k ∧ wr.ownsRow w.heap.size 54 3 v (filtT f l k).length (cellsT (filtT f l k)) ∧ (TsAt wr w.heap.size Al l ∧ Below w.heap.size w wr))
    (fun _ q _ => m - (intOf q).toNat)
  case atStart => exact ⟨0, Nat.zero_le _, rfl, World.ownsRow_nil _ _ _ _, S0⟩
  case round =>
    clear S0
    obtain ⟨k, hkm, rfl, hown, S0⟩ := hrel
    obtain ⟨_, _⟩ := id S0
    by_cases hlt : k < m
    · have hk1 : (k : Int) < (m : Int) := by omega
      have hk0 : (0 : Int) ≤ (k : Int) := by omega
      have hcl := filtT_len f l k
      have HS : Hid (filtT f l (k + 1) = if f k then filtT f l k ++ [tt l k] else filtT f l k) := Lib.hid rfl
      have QK : Hid (∀ W hb, _) := Lib.hid fun W hb => Q.out W k hlt hb
      generalize filtT f l k = l0 at *
      obtain ⟨mc, hmc⟩ : ∃ x, l0.length = x := ⟨_, rfl⟩
      rw [hmc] at hown hcl
      have p0 := tt_at (ps := l) (k := k) (by omega)
      obtain ⟨z0, z1, z2, hx⟩ : ∃ z0 z1 z2, tt l k = (z0, z1, z2) := ⟨_, _, _, rfl⟩
      rw [hx] at p0 HS QK
      obtain ⟨ad, eA, bA, pA⟩ := S0.1.get p0
      subst eA
      obtain ⟨_, _, _⟩ := id pA
      obtain ⟨o, ho⟩ : ∃ o, f k = o := ⟨_, rfl⟩
      rw [ho] at QK HS
      have X3 := Tup3.box1 wr z0 z1 z2 54 (k := wr.heap.size) rfl
      have b1_ := below1 wr (Obj.cells #[.int .i64 z0, .int .i64 z1, .int .i64 z2] 54)
      replace S0 := HO _ _ S0 b1_
      replace hown := own_below hown b1_
      obtain ⟨_, _, _⟩ := id X3
      obtain ⟨kb, hkb⟩ : ∃ K, wr.heap.size = K := ⟨_, rfl⟩
      rw [hkb] at X3
      replace hown := Lib.hid hown
      clear b1_ p0 hx ho pA Q HR
      go_wp2_with fail
      generalize wr.alloc (Obj.cells #[.int .i64 z0, .int .i64 z1, .int .i64 z2] 54) = v1 at *
      try rw [hkb]
      clear hkb
      obtain ⟨_, _⟩ := id S0
      refine (QK.out _ S0.2).mono ?_
      rintro e w4 ⟨rfl, hb_⟩
      replace S0 := HO _ _ S0 hb_
      replace X3 := X3.later hb_
      replace hown := Lib.hid (own_below hown.out hb_)
      clear hb_ QK
      obtain ⟨_, _⟩ := id S0
      obtain ⟨_, _, _⟩ := X3
      cases o
      · have HS2 : Hid (filtT f l (k + 1) = l0) := Lib.hid (by rw [HS.out]; rfl)
        clear HS
        go_wp2_with fail
        first
          | exact ⟨⟨k + 1, by omega, by go_num, by rw [HS2.out, hmc]; exact hown.out, S0⟩, by simp [intOf]; omega⟩
          | (go_roundw <;> first | exact ⟨k + 1, by omega, by go_num, by rw [HS2.out, hmc]; exact hown.out, S0⟩ | (simp [intOf]; omega))
      · have HS2 : Hid (filtT f l (k + 1) = l0 ++ [(z0, z1, z2)]) := Lib.hid (by rw [HS.out]; rfl)
        have hown2 := hown.out
        have hzB := S0.2.size
        clear HS
        go_wp2_with (at_builtin; refine wpList_append_own _ rfl _ _ 60 rfl w.heap.size 54 i0 (.agg #[.int .i64 0, .int .i64 0, .int .i64 0]) 3 24 Try.underlying60 hi hz0 hz1 hz2 rfl (by decide) _ _ _ rfl (hown2.alloc _) ⟨w4.heap.size, 0, none⟩ 1 1 [.int .i64 z0, .int .i64 z1, .int .i64 z2] rfl rfl ?c1 ?c2 ?c3 ?c4 ?c5 ?_)
        case c1 => (intro a u ha; match a, ha with | 0, ha => (simp at ha; subst ha; simp [Addr.add]) | 1, ha => (simp at ha; subst ha; simp [Addr.add]) | 2, ha => (simp at ha; subst ha; simp [Addr.add]))
        case c2 => (intro u hu; simp at hu; rcases hu with rfl | rfl | rfl <;> rfl)
        case c3 => (unfold maxLen; omega)
        case c4 => omega
        case c5 => (simp; omega)
        intro v1_ wa_ ho_ hg_ _
        have HN : Hid (wa_.ownsRow w.heap.size 54 3 v1_ (filtT f l (k + 1)).length (cellsT (filtT f l (k + 1))) ∧ (TsAt wa_ w.heap.size (some ad) l ∧ Below w.heap.size w wa_)) := Lib.hid (by
          have hb0 : Below w.heap.size w4 (w4.alloc (Obj.cells #[.int .i64 z0, .int .i64 z1, .int .i64 z2] 54)) := (below1 _ _).mono hzB
          have hb1 := hb0.grown hg_ (by simp; omega) (fun g hg => (hown2.lt g hg).1)
          rw [HS2.out, cellsT_app, List.length_append, hmc]
          exact ⟨ho_, HO2 _ _ S0 hb1⟩)
        clear ho_ hg_ hown hown2 HS2 S0
        go_wp2_with fail
        first
          | exact ⟨⟨k + 1, by omega, by go_num, HN.out.1, HN.out.2⟩, by simp [intOf]; omega⟩
          | (go_roundw <;> first | exact ⟨k + 1, by omega, by go_num, HN.out.1, HN.out.2⟩ | (simp [intOf]; omega))
    · obtain rfl : m = k := by omega
      rw [HR.out] at hown
      have hown2 := Lib.hid hown
      obtain ⟨A1, c1, rfl⟩ := own_shape hown
      clear hm hown HR
      go_wp2_with fail
      go_ret
      exact ⟨A1, c1, rfl, hown2.out, S0.2⟩

end Go.Proofs.Ytcpepljgnkmajaa.FiltShiftImpl

