/-
  What the model's HiddenCorners does, as a contract: what it answers; new memory alone is written.
-/
import Derived.Test.YtgampbjdoncdoaaHidcMath
import Derived.Test.YtgampbjdoncdoaaSeenSpec
import Derived.Test.YtgampbjdoncdoaaRoomOkSpec
import Derived.Test.YtgampbjdoncdoaaGround
import Derived.Test.YtgampbjdoncdoaaJoinMath
import Derived.Test.YtgampbjdoncdoaaAppOne
import Derived.OwnWalk
namespace Go.Proofs.Ytgampbjdoncdoaa.HidcSpec
open Go.RowKit Own PointMath RoomMath SightMath KernMath HidcMath Pts Ints JoinMath Blk
open PointOk (ret_bool ret_i64 below1 below2 below3)

theorem ints_own {W : World} {b e n cap : Nat} {A : Option Addr} {l : List Int} (h : W.ownsRow b e 1 (.slice A n cap) n (icells l)) : IntsAt W W.heap.size A l := by
  intro j hj
  have hn : l.length = n := by have := h.1; simpa [icells] using this
  obtain ⟨g, hA, _, hg, h1, _⟩ := own_cell h (by omega) (icells_at hj)
  refine ⟨_, hA, hg, ?_⟩
  by_cases hj0 : j = 0
  · subst hj0; exact h1
  · simpa [Addr.add, hj0] using h1

set_option maxRecDepth 100000 in
set_option maxHeartbeats 6400000 in
theorem hiddenCorners (A : Option Addr) (n cap : Nat) (w : World) (ps : List (Int × Int)) (hl : ps.length = n) (hn : n ≤ 1048576) (hp : PtsAt w w.heap.size A ps) :
    Calls Try.prog 46 #[.agg #[.slice A n cap]] w (GivesI 3 w (hcL ps)) := by
  obtain ⟨r, hr⟩ : ∃ r, hcL ps = r := ⟨_, rfl⟩
  have HR := Lib.hid hr
  rw [hr]
  clear hr
  have QR : Hid (∀ w hp, _) := Lib.hid fun w hp => RoomOkSpec.roomOk A n cap w ps hl hn hp
  have HE0 : Hid (roomB ps = false → r = []) := Lib.hid (fun h => by rw [← HR.out]; unfold hcL; rw [h]; rfl)
  have HE1 : Hid (roomB ps = true → r = hcTo ps n) := Lib.hid (fun h => by rw [← HR.out, ← hl]; unfold hcL; rw [h]; rfl)
  clear HR
  go_enter Try.func46, Try.ntmps46
  go_wp2_with fail
  have X0 := Pts.boxR w (.slice A n cap) 63 (k := w.heap.size) (by simp)
  have b0 := PointOk.below1 w (Obj.cells #[.slice A n cap] 63)
  have hz0_ : Hid ((w.alloc (Obj.cells #[.slice A n cap] 63)).heap.size = w.heap.size + 1) := Lib.hid (by simp)
  have Y0 := hp.later b0
  generalize (w.alloc (Obj.cells #[.slice A n cap] 63)) = w0 at X0 Y0 b0 hz0_ ⊢
  have b1 := below1 w0 (Obj.cells #[] 3)
  have O0 := own_empty w0 3 1
  rw [hz0_.out] at O0
  have S0 : Pts.BoxR (w0.alloc (Obj.cells #[] 3)) w.heap.size (.slice A n cap) ∧ PtsAt (w0.alloc (Obj.cells #[] 3)) w.heap.size A ps ∧ w.heap.size + 1 ≤ (w0.alloc (Obj.cells #[] 3)).heap.size ∧ Below w.heap.size w (w0.alloc (Obj.cells #[] 3)) := ⟨X0.later b1, Y0.later (b1.mono b0.size), by have := b1.size; rw [hz0_.out] at this; exact this, b0.trans (b1.mono b0.size)⟩
  have hsz0 := hz0_.out
  clear X0 Y0 b0 b1 hp
  go_wp2_with fail
  try rw [hsz0]
  generalize w0.alloc (Obj.cells #[] 3) = w1 at *
  clear hz0_ hsz0
  have HO : ∀ W W' : World, (Pts.BoxR W w.heap.size (.slice A n cap) ∧ PtsAt W w.heap.size A ps ∧ w.heap.size + 1 ≤ W.heap.size ∧ Below w.heap.size w W) → Below W.heap.size W W' → (Pts.BoxR W' w.heap.size (.slice A n cap) ∧ PtsAt W' w.heap.size A ps ∧ w.heap.size + 1 ≤ W'.heap.size ∧ Below w.heap.size w W') := fun W W' ⟨h0, x0, x1, hb⟩ h => ⟨h0.later h, x0.later (h.mono hb.size), Nat.le_trans x1 h.size, hb.trans (h.mono hb.size)⟩
  cases hroom : roomB ps
  · have E := Lib.hid (HE0.out hroom)
    rw [hroom] at QR
    clear HE0 HE1
    obtain ⟨⟨_, _⟩, _, _, _⟩ := id S0
    by_cases hn0 : n = 0
    · have hx : ¬ ((0 : Int) < (n : Int)) := by omega
      refine wp_loop_rounds 1 ?_
      rw [rounds_succ]
      go_wp2_with fail
      go_ret
      exact ⟨_, 0, by rw [E.out]; rfl, by rw [E.out]; exact own_base O0 (by omega), S0.2.2.2⟩
    · have hx : (0 : Int) < (n : Int) := by omega
      refine wp_loop_rounds 1 ?_
      rw [rounds_succ]
      go_wp2_with fail
      refine (QR.out _ (S0.2.1.wide S0.2.2.2.size)).mono ?_
      rintro e w2 ⟨rfl, hb_⟩
      replace O0 := own_below O0 hb_
      replace S0 := HO _ _ S0 hb_
      go_wp2_with fail
      go_ret
      exact ⟨_, 0, by rw [E.out]; rfl, by rw [E.out]; exact own_base O0 (by omega), S0.2.2.2⟩
  have HE := Lib.hid (HE1.out hroom)
  rw [hroom] at QR
  clear HE0 HE1
  go_loopw [3, 4] (fun v i wr => ∃ k : Nat, k ≤ n ∧ i = .int .i64 k ∧ wr.ownsRow (w.heap.size + 1) 3 1 v (hcTo ps k).length (icells (hcTo ps k)) ∧ (Pts.BoxR wr w.heap.size (.slice A n cap) ∧ PtsAt wr w.heap.size A ps ∧ w.heap.size + 1 ≤ wr.heap.size ∧ Below w.heap.size w wr))
    (fun _ i _ => n - (intOf i).toNat)
  case atStart => exact ⟨0, Nat.zero_le _, rfl, O0, S0⟩
  case round =>
    clear S0 O0
    obtain ⟨k, hkn, rfl, hown, S0⟩ := hrel
    obtain ⟨⟨_, _⟩, _, _, _⟩ := id S0
    have hlen := hcTo_len ps k
    by_cases hlt : k < n
    rotate_left
    · obtain rfl : n = k := by omega
      rw [← HE.out] at hown
      have hown2 := Lib.hid hown
      obtain ⟨A1, c1, rfl⟩ := own_shape hown
      clear hl hown hlen HE QR
      go_wp2_with fail
      go_ret
      exact ⟨A1, c1, rfl, own_base hown2.out (by omega), S0.2.2.2⟩
    have hk1 : (k : Int) < (n : Int) := by omega
    have hk0 : (0 : Int) ≤ (k : Int) := by omega
    have HL : Hid (hcTo ps (k + 1) = if hfreeTo ps (hcTo ps k) k (hcTo ps k).length then hcTo ps k ++ [(k : Int)] else hcTo ps k) := Lib.hid rfl
    have hat : Hid (∀ x ∈ hcTo ps k, ∃ j : Nat, x = (j : Int) ∧ j < k) := Lib.hid (fun x hx => hcTo_at hx)
    have pk := pt_at (ps := ps) (k := k) (by omega)
    obtain ⟨bx, bY, hpk⟩ : ∃ x y, pt ps k = (x, y) := ⟨_, _, rfl⟩
    have ink := corner_in hroom (k := k) (by omega)
    rw [hpk] at pk ink
    obtain ⟨bd, eA, bA, _⟩ := S0.2.1.get pk
    subst eA
    generalize hcTo ps k = l at *
    obtain ⟨q, hm⟩ : ∃ q, l.length = q := ⟨_, rfl⟩
    rw [hm] at hown hlen HL
    obtain ⟨Ao, co, rfl⟩ := own_shape hown
    clear HE
    go_wp2_with fail
    refine (QR.out _ (S0.2.1.wide S0.2.2.2.size)).mono ?_
    rintro e w2 ⟨rfl, hb_⟩
    replace hown := own_below hown hb_
    replace S0 := HO _ _ S0 hb_
    clear hb_ QR
    obtain ⟨⟨_, _⟩, _, _, _⟩ := id S0
    go_wp2_with fail
    go_loopw [5, 6] (fun fv i wr2 => ∃ u : Nat, u ≤ q ∧ i = .int .i64 u ∧ fv = .bool (hfreeTo ps l k u) ∧ wr2.ownsRow (w.heap.size + 1) 3 1 (.slice Ao q co) q (icells l) ∧ (Pts.BoxR wr2 w.heap.size (.slice (some bd) n cap) ∧ PtsAt wr2 w.heap.size (some bd) ps ∧ w.heap.size + 1 ≤ wr2.heap.size ∧ Below w.heap.size w wr2))
      (fun _ i _ => q - (intOf i).toNat)
    case atStart => exact ⟨0, Nat.zero_le _, rfl, rfl, hown, S0⟩
    case round =>
      clear S0 hown
      obtain ⟨u, hun, rfl, rfl, hown, S0⟩ := hrel
      obtain ⟨⟨_, _⟩, _, _, _⟩ := id S0
      by_cases hu : u < q
      rotate_left
      · obtain rfl : q = u := by omega
        cases hf : hfreeTo ps l k q
        · have HL2 : Hid (hcTo ps (k + 1) = l) := Lib.hid (by rw [HL.out, hf]; rfl)
          have hown := Lib.hid hown
          clear HL hf hat pk ink hpk
          go_wp2_with fail
          first
            | exact ⟨⟨k + 1, by omega, by go_num, by rw [HL2.out, hm]; exact hown.out, S0⟩, by simp [intOf]; omega⟩
            | (go_roundw <;> first | exact ⟨k + 1, by omega, by go_num, by rw [HL2.out, hm]; exact hown.out, S0⟩ | (simp [intOf]; omega))
        · have HL2 : Hid (hcTo ps (k + 1) = l ++ [(k : Int)]) := Lib.hid (by rw [HL.out, hf]; rfl)
          clear HL hf hat pk ink hpk
          have hsz2 := S0.2.2.1
          go_wp2_with (at_builtin; refine AppOne.append_one _ (by rfl) _ _ rfl (w.heap.size + 1) (.slice Ao q co) q (icells l) (by rfl) hown (k : Int) (by rfl) (by omega) (by omega) ?_)
          intro v1_ wa_ ho_ hb1
          have HN : Hid (wa_.ownsRow (w.heap.size + 1) 3 1 v1_ (hcTo ps (k + 1)).length (icells (hcTo ps (k + 1))) ∧ (Pts.BoxR wa_ w.heap.size (.slice (some bd) n cap) ∧ PtsAt wa_ w.heap.size (some bd) ps ∧ w.heap.size + 1 ≤ wa_.heap.size ∧ Below w.heap.size w wa_)) := Lib.hid (by
            rw [HL2.out, icells_snoc, List.length_append, hm]
            exact ⟨ho_, ⟨(hb1.cell (by show w.heap.size < _; omega)).trans S0.1.1, trivial⟩, S0.2.1.later (hb1.mono (by omega)), Nat.le_trans hsz2 hb1.size, S0.2.2.2.trans (hb1.mono (by omega))⟩)
          clear ho_ hb1 hown HL2 S0
          go_wp2_with fail
          first
            | exact ⟨⟨k + 1, by omega, by go_num, HN.out⟩, by simp [intOf]; omega⟩
            | (go_roundw <;> first | exact ⟨k + 1, by omega, by go_num, HN.out⟩ | (simp [intOf]; omega))
      have hu1 : (u : Int) < (q : Int) := by omega
      have hu0 : (0 : Int) ≤ (u : Int) := by omega
      have hul : u < l.length := by omega
      obtain ⟨j, ej, hjk⟩ := hat.out _ (List.getElem_mem hul)
      have eu : l[u]? = some (j : Int) := by rw [List.getElem?_eq_getElem hul, ej]
      have eg : l.getD u 0 = (j : Int) := by rw [List.getD_eq_getElem?_getD, eu]; rfl
      obtain ⟨ad, eAd, bAd, pU⟩ := (ints_own hown).get eu
      subst eAd
      have hjn : (j : Int) < (n : Int) := by omega
      have hj0 : (0 : Int) ≤ (j : Int) := by omega
      have pj := pt_at (ps := ps) (k := j) (by omega)
      have inj_ := corner_in hroom (k := j) (by omega)
      have HN : Hid (hfreeTo ps l k (u + 1) = (hfreeTo ps l k u && !seesM ps (pt ps j) (pt ps k))) := Lib.hid (by show (hfreeTo ps l k u && !seesM ps (pt ps (l.getD u 0).toNat) (pt ps k)) = _; rw [eg]; rfl)
      obtain ⟨ax, ay, hpj⟩ : ∃ x y, pt ps j = (x, y) := ⟨_, _, rfl⟩
      rw [hpj] at pj inj_ HN
      rw [hpk] at HN
      obtain ⟨b2, e2, _, pJ⟩ := S0.2.1.get pj
      injection e2 with e2
      subst e2
      obtain ⟨b3, e3, _, pK⟩ := S0.2.1.get pk
      injection e3 with e3
      subst e3
      have QS : Hid (∀ w hp, _) := Lib.hid fun w hp => SeenSpec.seesIn (some bd) n cap ax ay bx bY w ps hl inj_ ink hp
      obtain ⟨sb, hsb⟩ : ∃ sb, seesM ps (ax, ay) (bx, bY) = sb := ⟨_, rfl⟩
      rw [hsb] at QS HN
      have HOq : ∀ W W' : World, (Pts.BoxR W w.heap.size (.slice (some bd) n cap) ∧ PtsAt W w.heap.size (some bd) ps ∧ W.ownsRow (w.heap.size + 1) 3 1 (.slice (some ad) q co) q (icells l) ∧ IntAt W ad u (j : Int) ∧ PtAt W bd j ax ay ∧ PtAt W bd k bx bY ∧ wr.heap.size ≤ W.heap.size ∧ w.heap.size + 1 ≤ W.heap.size ∧ Below w.heap.size w W) → Below W.heap.size W W' → (Pts.BoxR W' w.heap.size (.slice (some bd) n cap) ∧ PtsAt W' w.heap.size (some bd) ps ∧ W'.ownsRow (w.heap.size + 1) 3 1 (.slice (some ad) q co) q (icells l) ∧ IntAt W' ad u (j : Int) ∧ PtAt W' bd j ax ay ∧ PtAt W' bd k bx bY ∧ wr.heap.size ≤ W'.heap.size ∧ w.heap.size + 1 ≤ W'.heap.size ∧ Below w.heap.size w W') := fun W W' ⟨h0, x0, x1, x2, x3, x4, x5, x6, hb⟩ h => ⟨h0.later h, x0.later (h.mono hb.size), own_below x1 h, x2.later bAd (h.mono x5), x3.later bA (h.mono hb.size), x4.later bA (h.mono hb.size), Nat.le_trans x5 h.size, Nat.le_trans x6 h.size, hb.trans (h.mono hb.size)⟩
      replace S0 : Pts.BoxR wr w.heap.size (.slice (some bd) n cap) ∧ PtsAt wr w.heap.size (some bd) ps ∧ wr.ownsRow (w.heap.size + 1) 3 1 (.slice (some ad) q co) q (icells l) ∧ IntAt wr ad u (j : Int) ∧ PtAt wr bd j ax ay ∧ PtAt wr bd k bx bY ∧ wr.heap.size ≤ wr.heap.size ∧ w.heap.size + 1 ≤ wr.heap.size ∧ Below w.heap.size w wr := ⟨S0.1, S0.2.1, hown, pU, pJ, pK, Nat.le_refl _, S0.2.2.1, S0.2.2.2⟩
      obtain ⟨fr, hfr⟩ : ∃ fr, hfreeTo ps l k u = fr := ⟨_, rfl⟩
      rw [hfr] at HN
      try rw [hfr]
      clear hown pU pJ pK pj pk inj_ ink hpj hpk ej eu eg hul hat hsb hfr HL
      obtain ⟨⟨_, _⟩, _, _, ⟨_, _⟩, ⟨_, _⟩, ⟨_, _⟩, _, _, _⟩ := id S0
      cases fr
      · have HN2 : Hid (hfreeTo ps l k (u + 1) = false) := Lib.hid (by rw [HN.out]; rfl)
        clear HN
        go_wp2_with fail
        refine Settle.region (fun W => Pts.BoxR W w.heap.size (.slice (some bd) n cap) ∧ PtsAt W w.heap.size (some bd) ps ∧ W.ownsRow (w.heap.size + 1) 3 1 (.slice (some ad) q co) q (icells l) ∧ IntAt W ad u (j : Int) ∧ PtAt W bd j ax ay ∧ PtAt W bd k bx bY ∧ wr.heap.size ≤ W.heap.size ∧ w.heap.size + 1 ≤ W.heap.size ∧ Below w.heap.size w W) (by kernel_rfl) (by kernel_rfl) (by kernel_rfl) (by kernel_rfl) (HOq _ _ S0 ((Below.refl _ _).drew)) ?_
        clear S0
        repeat (first
          | (refine Settle.Settles.off (by rfl) ?_; simp only [Act.put, List.setIfInBounds_toArray, List.set_cons_zero, List.set_cons_succ])
          | (refine Settle.Settles.quiet (v := ?_) (by rfl) ?_ ?_
             rotate_left
             · (intro W hS; obtain ⟨⟨_, _⟩, _, _, ⟨_, _⟩, ⟨_, _⟩, ⟨_, _⟩, _, _, _⟩ := hS; go_simp; with_reducible rfl)
             simp only [Act.put, List.setIfInBounds_toArray, List.set_cons_zero, List.set_cons_succ])
          | (refine Settle.Settles.call (v := ?_) (f := ?_) (args := ?_) (by rfl) ?_ ?_ ?_
             rotate_left 3
             · (intro W; go_simp; refine ⟨?_, ?_⟩ <;> with_reducible rfl)
             · (intro W hS; (go_at_call 89; (with_reducible refine (QS.out _ (hS.2.1.wide hS.2.2.2.2.2.2.2.2.size)).mono ?_); rintro e W1 ⟨rfl, hb⟩; refine ⟨?_, HOq _ _ hS hb⟩; with_reducible rfl))
             simp only [Act.put, List.setIfInBounds_toArray, List.set_cons_zero, List.set_cons_succ]))
        refine Settle.Settles.nil ?_
        intro wr3 S0
        obtain ⟨⟨_, _⟩, _, _, ⟨_, _⟩, ⟨_, _⟩, ⟨_, _⟩, _, _, _⟩ := id S0
        go_wp2_with fail
        first
          | exact ⟨⟨u + 1, by omega, by go_num, by rw [HN2.out], S0.2.2.1, S0.1, S0.2.1, S0.2.2.2.2.2.2.2.1, S0.2.2.2.2.2.2.2.2⟩, by simp [intOf]; omega⟩
          | (go_roundw <;> first | exact ⟨u + 1, by omega, by go_num, by rw [HN2.out], S0.2.2.1, S0.1, S0.2.1, S0.2.2.2.2.2.2.2.1, S0.2.2.2.2.2.2.2.2⟩ | (simp [intOf]; omega))
      · have HN2 : Hid (hfreeTo ps l k (u + 1) = !sb) := Lib.hid (by rw [HN.out]; rfl)
        clear HN
        go_wp2_with fail
        refine Settle.region (fun W => Pts.BoxR W w.heap.size (.slice (some bd) n cap) ∧ PtsAt W w.heap.size (some bd) ps ∧ W.ownsRow (w.heap.size + 1) 3 1 (.slice (some ad) q co) q (icells l) ∧ IntAt W ad u (j : Int) ∧ PtAt W bd j ax ay ∧ PtAt W bd k bx bY ∧ wr.heap.size ≤ W.heap.size ∧ w.heap.size + 1 ≤ W.heap.size ∧ Below w.heap.size w W) (by kernel_rfl) (by kernel_rfl) (by kernel_rfl) (by kernel_rfl) (HOq _ _ S0 ((Below.refl _ _).drew)) ?_
        clear S0
        repeat (first
          | (refine Settle.Settles.off (by rfl) ?_; simp only [Act.put, List.setIfInBounds_toArray, List.set_cons_zero, List.set_cons_succ])
          | (refine Settle.Settles.quiet (v := ?_) (by rfl) ?_ ?_
             rotate_left
             · (intro W hS; obtain ⟨⟨_, _⟩, _, _, ⟨_, _⟩, ⟨_, _⟩, ⟨_, _⟩, _, _, _⟩ := hS; go_simp; with_reducible rfl)
             simp only [Act.put, List.setIfInBounds_toArray, List.set_cons_zero, List.set_cons_succ])
          | (refine Settle.Settles.call (v := ?_) (f := ?_) (args := ?_) (by rfl) ?_ ?_ ?_
             rotate_left 3
             · (intro W; go_simp; refine ⟨?_, ?_⟩ <;> with_reducible rfl)
             · (intro W hS; (go_at_call 89; (with_reducible refine (QS.out _ (hS.2.1.wide hS.2.2.2.2.2.2.2.2.size)).mono ?_); rintro e W1 ⟨rfl, hb⟩; refine ⟨?_, HOq _ _ hS hb⟩; with_reducible rfl))
             simp only [Act.put, List.setIfInBounds_toArray, List.set_cons_zero, List.set_cons_succ]))
        refine Settle.Settles.nil ?_
        intro wr3 S0
        obtain ⟨⟨_, _⟩, _, _, ⟨_, _⟩, ⟨_, _⟩, ⟨_, _⟩, _, _, _⟩ := id S0
        go_wp2_with fail
        first
          | exact ⟨⟨u + 1, by omega, by go_num, by rw [HN2.out], S0.2.2.1, S0.1, S0.2.1, S0.2.2.2.2.2.2.2.1, S0.2.2.2.2.2.2.2.2⟩, by simp [intOf]; omega⟩
          | (go_roundw <;> first | exact ⟨u + 1, by omega, by go_num, by rw [HN2.out], S0.2.2.1, S0.1, S0.2.1, S0.2.2.2.2.2.2.2.1, S0.2.2.2.2.2.2.2.2⟩ | (simp [intOf]; omega))
end Go.Proofs.Ytgampbjdoncdoaa.HidcSpec
