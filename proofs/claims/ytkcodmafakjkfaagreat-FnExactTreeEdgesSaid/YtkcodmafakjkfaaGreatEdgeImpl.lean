/-
  What the landed TreeEdges does, as a contract: the pairs of triangles that share a side, in new memory.
-/
import Derived.Test.YtkcodmafakjkfaaGreatTreeLand
import Derived.Test.YtkcodmafakjkfaaGreatEdgeMath
import Derived.Test.YtkcodmafakjkfaaGreatNest
namespace Go.Proofs.YtkcodmafakjkfaaGreat.EdgeImpl
open Go.RowKit Own PointMath WallMath RoomMath Pts Blk AreaMath PlaceMath FloorMath LineMath CutsMath SightMath DiagMath TriMath TrisMath TreeMath Ints Tup3 TriRow TrisLand EdgeMath TreeImpl TreeLand
open PointOk (ret_bool ret_i64 below1 below2 below3)
open Nest (GivesN)

set_option maxRecDepth 100000 in
set_option maxHeartbeats 6400000 in
theorem treeEdges (A : Option Addr) (n cap : Nat) (w : World) (ps : List (Int × Int)) (hl : ps.length = n) (hn : n ≤ 1048576) (hp : PtsAt w w.heap.size A ps) :
    Calls Tryz.prog 44 #[.agg #[.slice A n cap]] w (GivesN w (edgesL ps)) := by
  obtain ⟨r, hr⟩ : ∃ r, edgesL ps = r := ⟨_, rfl⟩
  have HR := Lib.hid hr
  rw [hr]
  clear hr
  have HE : Hid (edgesTo (besideB (trisL ps)) (trisL ps).length (trisL ps).length = r) := Lib.hid (by rw [← HR.out]; rfl)
  have QT : Hid (∀ W h, _) := Lib.hid fun W h => trianglesOf A n cap W ps hl hn h
  have hle := trisL_le ps
  unfold GivesT at QT
  generalize trisL ps = L at *
  obtain ⟨m, hm⟩ : ∃ m, L.length = m := ⟨_, rfl⟩
  rw [hm] at QT HE hle
  obtain ⟨F, hF⟩ : ∃ F, besideB L = F := ⟨_, rfl⟩
  rw [hF] at HE
  have HF : Hid (∀ i, nbrsL L i = thatTo (F i) m) := Lib.hid (fun i => by unfold nbrsL; rw [hF, hm])
  clear HR hF
  go_enter Tryz.func44, Tryz.ntmps44
  go_wp2_with fail
  have X0 := Pts.boxR w (.slice A n cap) 30 (k := w.heap.size) (by simp)
  have b0 := PointOk.below1 w (Obj.cells #[.slice A n cap] 30)
  have HO : ∀ W W' : World, (Pts.BoxR W (w.heap.size) (.slice A n cap) ∧ PtsAt W w.heap.size A ps ∧ Below w.heap.size w W) → Below W.heap.size W W' → (Pts.BoxR W' (w.heap.size) (.slice A n cap) ∧ PtsAt W' w.heap.size A ps ∧ Below w.heap.size w W') := fun W W' ⟨h0, x0, hb⟩ h => ⟨h0.later h, x0.later (h.mono hb.size), hb.trans (h.mono hb.size)⟩
  have hz0_ : Hid (((w.alloc (Obj.cells #[.slice A n cap] 30))).heap.size = w.heap.size + 1) := Lib.hid (by simp)
  have Y0 : PtsAt ((w.alloc (Obj.cells #[.slice A n cap] 30))) w.heap.size A ps := hp.later b0
  generalize (w.alloc (Obj.cells #[.slice A n cap] 30)) = w0 at X0 Y0 b0 hz0_ ⊢
  have S0 := (⟨X0, Y0, b0⟩ : Pts.BoxR w0 (w.heap.size) (.slice A n cap) ∧ PtsAt w0 w.heap.size A ps ∧ Below w.heap.size w w0)
  clear X0 Y0 b0
  obtain ⟨⟨_, _⟩, _, _⟩ := id S0
  refine (QT.out _ (S0.2.1.wide S0.2.2.size)).mono ?_
  rintro e w2 ⟨A2, c2, rfl, h4, _, hb_⟩
  replace S0 := HO _ _ S0 hb_
  have T2 := ts_own h4
  have hz2 := S0.2.2.size
  have B2 := S0.2.2
  clear h4 hb_ QT S0 HO
  go_wp2_with fail
  go_loopw [4, 12] (fun v q wr => ∃ i : Nat, i ≤ m ∧ q = .int .i64 i ∧ Hid (Nest.Nest wr w2.heap.size wr.heap.size v (edgesTo F m i)) ∧ TsAt wr w2.heap.size A2 L ∧ Below w2.heap.size w2 wr)
    (fun _ q _ => m - (intOf q).toNat)
  case atStart => exact ⟨0, Nat.zero_le _, rfl, Lib.hid (Nest.Nest.nil _ _ _), T2, Below.refl _ _⟩
  case round =>
    clear T2
    obtain ⟨i, him, rfl, HN, T3, B3⟩ := hrel
    by_cases hlt : i < m
    rotate_left
    · obtain rfl : m = i := by omega
      rw [HE.out] at HN
      obtain ⟨A1, c1, rfl⟩ := HN.out.shape
      have h2 := Lib.hid (HN.out.low hz2)
      have hb2 := B2.trans (B3.mono hz2)
      clear HN
      go_wp2_with fail
      go_ret
      exact ⟨A1, c1, rfl, h2.out, hb2⟩
    have i0 : (0 : Int) ≤ (i : Int) := by omega
    have i1 : (i : Int) < (m : Int) := by omega
    have QB : Hid (∀ W h, _) := Lib.hid fun W h => beside A2 m c2 i W L hm (by omega) hlt h
    unfold GivesI at QB
    rw [HF.out i] at QB
    have hlen := edgesTo_len F m i
    have him2 : i * m ≤ 121 := Nat.le_trans (Nat.mul_le_mul (show i ≤ 11 by omega) hle) (by omega)
    have HS : Hid (edgesTo F m (i + 1) = edgesTo F m i ++ pairsOf i (thatTo (F i) m)) := Lib.hid (by rw [pairs_row]; rfl)
    have hnl := thatTo_len (F i) m
    generalize thatTo (F i) m = nb at *
    obtain ⟨nn, hnn⟩ : ∃ nn, nb.length = nn := ⟨_, rfl⟩
    rw [hnn] at QB hnl
    clear HE HF
    go_wp2_with fail
    refine (QB.out _ (T3.wide B3.size)).mono ?_
    rintro e w3 ⟨A3, c3, rfl, h3, hb_⟩
    have HN3 := Lib.hid ((HN.out.below (Nat.le_refl _) hb_).high hb_.size)
    have h3 := Lib.hid (own_base h3 B3.size)
    replace T3 := T3.later (hb_.mono B3.size)
    replace B3 := B3.trans (hb_.mono B3.size)
    clear hb_ QB HN
    go_wp2_with fail
    go_loopw [4, 19] (fun v q wr => ∃ t : Nat, t ≤ nn ∧ q = .int .i64 t ∧ Hid (Nest.Nest wr w2.heap.size wr.heap.size v (edgesTo F m i ++ pairsOf i (nb.take t))) ∧ Hid (wr.ownsRow w2.heap.size 3 1 (.slice A3 nn c3) nn (icells nb)) ∧ TsAt wr w2.heap.size A2 L ∧ Below w2.heap.size w2 wr)
      (fun _ q _ => nn - (intOf q).toNat)
    case atStart => exact ⟨0, Nat.zero_le _, rfl, by rw [List.take_zero]; simpa [pairsOf] using HN3, h3, T3, B3⟩
    case round =>
      clear HN3 h3 T3 B3
      obtain ⟨t, htn, rfl, HN, h3, T3, B3⟩ := hrel
      rename World => wi
      by_cases hst : t < nn
      rotate_left
      · obtain rfl : nn = t := by omega
        have HN2 : Hid (Nest.Nest wi w2.heap.size wi.heap.size _ (edgesTo F m (i + 1))) := Lib.hid (by
          have := HN.out
          rw [List.take_of_length_le (by omega), ← HS.out] at this
          exact this)
        clear HN h3 HS
        go_wp2_with fail
        first
          | exact ⟨⟨i + 1, by omega, by go_num, HN2, T3, B3⟩, by simp [intOf]; omega⟩
          | (go_roundw <;> first | exact ⟨i + 1, by omega, by go_num, HN2, T3, B3⟩ | (simp [intOf]; omega))
      have t0 : (0 : Int) ≤ (t : Int) := by omega
      have t1 : (t : Int) < (nn : Int) := by omega
      have hx : nb[t]? = some nb[t] := List.getElem?_eq_getElem (by omega)
      have HT : Hid (nb.take (t + 1) = nb.take t ++ [nb[t]]) := Lib.hid (by rw [List.take_add_one, hx]; rfl)
      have hpl := pairsOf_len i (nb.take t)
      have htl : (nb.take t).length ≤ nn := by rw [List.length_take]; omega
      obtain ⟨x, hxe⟩ : ∃ x, nb[t]'(by omega) = x := ⟨_, rfl⟩
      rw [hxe] at hx HT
      obtain ⟨ad, eA, bA, pA⟩ := (ints_own h3.out).get hx
      subst eA
      obtain ⟨_, _⟩ := id pA
      have hPS := pairsOf_snoc i (nb.take t) x
      rw [← HT.out] at hPS
      clear hx hxe HT
      by_cases hix : (i : Int) < x
      · rw [if_pos hix] at hPS
        have HP : Hid ((edgesTo F m i ++ pairsOf i (nb.take t)) ++ [((i : Int), x)] = edgesTo F m i ++ pairsOf i (nb.take (t + 1))) := Lib.hid (by rw [hPS, List.append_assoc])
        have hll : (edgesTo F m i ++ pairsOf i (nb.take t)).length ≤ 1048575 := by rw [List.length_append]; omega
        have hzB : w2.heap.size ≤ wi.heap.size := B3.size
        generalize edgesTo F m i ++ pairsOf i (nb.take t) = cur at *
        clear hPS
        obtain ⟨Av, cv, rfl⟩ := HN.out.shape
        go_wp2_with (at_builtin; refine Nest.append_pair _ (by rfl) _ _ (by rfl) w2.heap.size _ cur (by rfl) HN.out (i : Int) x (by rfl) hll hzB ?_)
        intro v5 w5 h5 hg5
        obtain ⟨gs, _, ho5, _⟩ := HN.out
        have hb5 : Below w2.heap.size wi w5 := (Below.refl _ _).grown hg5 hzB (fun g hg => (ho5.lt g hg).1)
        have h3q := Lib.hid (kept_apart h3.out hg5 (rows_ne h3.out ho5 (by decide)))
        rw [HP.out] at h5
        have h5 := Lib.hid h5
        have T5 := T3.later hb5
        have B5 := B3.trans hb5
        clear hg5 hb5 ho5 HN h3 T3 B3 HP
        go_wp2_with fail
        first
          | exact ⟨⟨t + 1, by omega, by go_num, h5, h3q, T5, B5⟩, by simp [intOf]; omega⟩
          | (go_roundw <;> first | exact ⟨t + 1, by omega, by go_num, h5, h3q, T5, B5⟩ | (simp [intOf]; omega))
      · rw [if_neg hix] at hPS
        have HN2 : Hid (Nest.Nest wi w2.heap.size wi.heap.size _ (edgesTo F m i ++ pairsOf i (nb.take (t + 1)))) := Lib.hid (by rw [hPS]; exact HN.out)
        have hix2 : x ≤ (i : Int) := by omega
        clear HN hPS
        go_wp2_with fail
        first
          | exact ⟨⟨t + 1, by omega, by go_num, HN2, h3, T3, B3⟩, by simp [intOf]; omega⟩
          | (go_roundw <;> first | exact ⟨t + 1, by omega, by go_num, HN2, h3, T3, B3⟩ | (simp [intOf]; omega))
theorem edges_le (ps : List (Int × Int)) : (edgesL ps).length ≤ 20000 := by
  have h1 := trisL_le ps
  have h2 := edgesTo_len (besideB (trisL ps)) (trisL ps).length (trisL ps).length
  have h3 : (trisL ps).length * (trisL ps).length ≤ 121 := Nat.le_trans (Nat.mul_le_mul h1 h1) (by omega)
  unfold edgesL
  omega
end Go.Proofs.YtkcodmafakjkfaaGreat.EdgeImpl

