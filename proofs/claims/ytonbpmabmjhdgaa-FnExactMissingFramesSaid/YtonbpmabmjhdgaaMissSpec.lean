/-
  What MissingFrames does, as a contract: what it answers; new memory alone is written.
-/
import Derived.Test.YtonbpmabmjhdgaaListSpec
import Derived.Test.YtonbpmabmjhdgaaMissMath

namespace Go.Proofs.Ytonbpmabmjhdgaa.MissSpec
open Go.RowKit Own PointMath TrackMath DiagMath ListMath MissMath Tup3 Blk 
open PointOk (ret_bool ret_i64 below1 below2 below3)

theorem infoI : (Try.prog.info? 3).map (fun i => (i.zero, i.size, i.bytes)) = some (some (.int .i64 0), 1, 8) := by kernel_rfl

set_option maxRecDepth 100000 in
set_option maxHeartbeats 6400000 in
theorem missing (A : Option Addr) (n cap : Nat) (w : World) (ps : List Tu) (hl : ps.length = n) (hn : n ≤ 1048576) (hp : TsAt w w.heap.size A ps) :
    Calls Try.prog 28 #[.slice A n cap] w (GivesI 3 w (missL ps)) := by
  obtain ⟨r, hr⟩ : ∃ r, missL ps = r := ⟨_, rfl⟩
  have HR := Lib.hid hr
  rw [hr]
  clear hr
  obtain ⟨i0, hi, hz0, hz1, hz2⟩ := info_parts infoI
  go_enter Try.func28, Try.ntmps28
  go_wp2_with fail
  have HO : ∀ W W' : World, (TsAt W w.heap.size A ps ∧ Below w.heap.size w W) → Below W.heap.size W W' → (TsAt W' w.heap.size A ps ∧ Below w.heap.size w W') := fun W W' ⟨x0, hb⟩ h => ⟨x0.later (h.mono hb.size), hb.trans (h.mono hb.size)⟩
  have S0 : TsAt (w.alloc (Obj.cells #[] 3)) w.heap.size A ps ∧ Below w.heap.size w (w.alloc (Obj.cells #[] 3)) := ⟨hp.later (below1 _ _), below1 _ _⟩
  have hown := own_empty w 3 1
  obtain ⟨w0, hw0⟩ : ∃ W, w.alloc (Obj.cells #[] 3) = W := ⟨_, rfl⟩
  rw [hw0] at S0 hown ⊢
  clear hw0 hp
  replace hown : w0.ownsRow w.heap.size 3 1 (.slice (some ⟨w.heap.size, 0, none⟩) 0 0) 0 (icells []) := hown
  refine (ListSpec.framesOk A n cap _ ps hl hn (S0.1.wide S0.2.size)).mono ?_
  rintro e w1 ⟨rfl, hb_⟩
  replace S0 := HO _ _ S0 hb_
  replace hown := own_below hown hb_
  clear hb_
  cases hf_ : framesB ps
  · have E : Hid (r = []) := Lib.hid (by rw [← HR.out]; unfold missL; rw [hf_]; rfl)
    clear hl HR
    go_wp2_with fail
    go_ret
    exact ⟨_, _, by rw [E.out]; rfl, by rw [E.out]; exact hown, S0.2⟩
  by_cases h0 : n = 0
  · have E : Hid (r = []) := Lib.hid (by rw [← HR.out]; unfold missL; rw [hl, h0, show decide ((0 : Nat) ≠ 0) = false from rfl, Bool.and_false, Bool.false_and]; rfl)
    have h1 : (n : Int) = 0 := by omega
    clear hl HR
    go_wp2_with fail
    go_ret
    exact ⟨_, _, by rw [E.out]; rfl, by rw [E.out]; exact hown, S0.2⟩
  have h1 : ¬ (n : Int) = 0 := by omega
  have h1b : ((n : Int) == 0) = false := by simpa using h1
  have g0n : 0 < n := by omega
  have hn0 : (0 : Int) < (n : Int) := by omega
  have hbox : Hid (∀ k, k ≤ n → 0 ≤ loTo ps k ∧ loTo ps k ≤ hiTo ps k ∧ hiTo ps k ≤ 100000) := Lib.hid (fun k hk => box_in (B := 100000) (fun j hj => (frame_parts (show frameB (tt ps j).1 (tt ps j).2.1 (tt ps j).2.2 = true from (framesB_at hf_).2 j hj)).1) (by omega) k (by omega))
  have hfr : Hid (∀ k, k < n → 0 ≤ (tt ps k).1 ∧ (tt ps k).1 ≤ 100000) := Lib.hid (fun k hk => (frame_parts (show frameB (tt ps k).1 (tt ps k).2.1 (tt ps k).2.2 = true from (framesB_at hf_).2 k (by omega))).1)
  have h60 : n ≤ 60 := by have := (framesB_at hf_).1; omega
  have HE1 : Hid (hiTo ps n - loTo ps n ≤ 500 → missTo ps (loTo ps n) (spanI ps + 1) = r) := Lib.hid (fun h => by
    have hb := hbox.out n (Nat.le_refl _)
    rw [← HR.out, ← hl, miss_last (by omega) (by rw [hl]; omega)]
    unfold missL
    rw [hf_, decide_eq_true (show ps.length ≠ 0 by omega), decide_eq_true (show hiTo ps ps.length - loTo ps ps.length ≤ 500 by rw [hl]; exact h)]
    rfl)
  have HE0 : Hid (¬ hiTo ps n - loTo ps n ≤ 500 → r = []) := Lib.hid (fun h => by
    rw [← HR.out]
    unfold missL
    rw [hl, show decide (hiTo ps n - loTo ps n ≤ 500) = false from decide_eq_false h, Bool.and_false]; rfl)
  have HS : Hid ((spanI ps : Int) = hiTo ps n - loTo ps n) := Lib.hid (by have := hbox.out n (Nat.le_refl _); unfold spanI; rw [hl]; omega)
  have p0 := tt_at (ps := ps) (k := 0) (by omega)
  obtain ⟨a, b, c, hg⟩ : ∃ a b c, tt ps 0 = (a, b, c) := ⟨_, _, _, rfl⟩
  have eL : Hid (loTo ps 0 = a) := Lib.hid (by show (tt ps 0).1 = a; rw [hg])
  have eH : Hid (hiTo ps 0 = a) := Lib.hid (by show (tt ps 0).1 = a; rw [hg])
  rw [hg] at p0
  clear HR hf_ hg
  generalize spanI ps = s at *
  obtain ⟨bd, eB, bB, pB⟩ := S0.1.get p0
  subst eB
  replace pB := pB.zero
  obtain ⟨_, _, _⟩ := id pB
  clear p0
  have HO : ∀ W W' : World, (TsAt W w.heap.size (some bd) ps ∧ Below w.heap.size w W) → Below W.heap.size W W' → (TsAt W' w.heap.size (some bd) ps ∧ Below w.heap.size w W') := fun W W' ⟨x0, hb⟩ h => ⟨x0.later (h.mono hb.size), hb.trans (h.mono hb.size)⟩
  go_wp2_with fail
  go_loopw [4, 5, 6] (fun v4 v5 q wr => ∃ k : Nat, k ≤ n ∧ v4 = .int .i64 (loTo ps k) ∧ v5 = .int .i64 (hiTo ps k) ∧ q = .int .i64 k ∧ wr.ownsRow w.heap.size 3 1 (.slice (some ⟨w.heap.size, 0, none⟩) 0 0) 0 (icells []) ∧ (TsAt wr w.heap.size (some bd) ps ∧ Below w.heap.size w wr))
    (fun _ _ q _ => n - (intOf q).toNat)
  case atStart => exact ⟨0, Nat.zero_le _, by rw [eL.out], by rw [eH.out], rfl, hown, S0⟩
  case round =>
    clear S0 hown pB eL eH
    obtain ⟨k, hkn, rfl, rfl, rfl, hown, S0⟩ := hrel
    obtain ⟨_, _⟩ := id S0
    by_cases hlt : k < n
    · skip
      have hk1 : (k : Int) < (n : Int) := by omega
      have hk0 : (0 : Int) ≤ (k : Int) := by omega
      have HL : Hid (loTo ps (k + 1) = min (loTo ps k) (tt ps k).1) := Lib.hid rfl
      have HH : Hid (hiTo ps (k + 1) = max (hiTo ps k) (tt ps k).1) := Lib.hid rfl
      have p0 := tt_at (ps := ps) (k := k) (by omega)
      have hin := hfr.out k hlt
      obtain ⟨a, b, c, hg⟩ : ∃ a b c, tt ps k = (a, b, c) := ⟨_, _, _, rfl⟩
      rw [hg] at p0 HL HH
      obtain ⟨_, eB, _, pB⟩ := S0.1.get p0
      injection eB with eB
      subst eB
      obtain ⟨_, _, _⟩ := id pB
      have hownH := Lib.hid hown
      generalize loTo ps k = lo at *
      generalize hiTo ps k = hh at *
      clear p0 HE1 HE0 HS hbox hfr hl hown hg
      go_wp2_with fail
      first
        | exact ⟨⟨k + 1, by omega, by rw [HL.out], by rw [HH.out], by go_num, hownH.out, S0⟩, by simp [intOf]; omega⟩
        | (go_roundw <;> first | exact ⟨k + 1, by omega, by rw [HL.out], by rw [HH.out], by go_num, hownH.out, S0⟩ | (simp [intOf]; omega))
    obtain rfl : n = k := by omega
    have hb := hbox.out n (Nat.le_refl _)
    have hs := HS.out
    generalize loTo ps n = lo at *
    generalize hiTo ps n = hh at *
    have u5 : IntKind.i64.wrap (hh - lo) = hh - lo := IntWalk.i64_in _ (by omega)
    clear hbox hfr HS
    by_cases h5 : hh - lo ≤ 500
    rotate_left
    · have E := Lib.hid (HE0.out (by omega))
      have d1 : decide (lo ≤ hh) = true := decide_eq_true hb.2.1
      have d5 : decide (hh - lo ≤ 500) = false := decide_eq_false h5
      have hb2 := hb.2.1
      have hownH := Lib.hid hown
      clear HE0 HE1 hl hown
      go_wp2_with fail
      go_loopw [3, 7] (fun v q wr => v = .slice (some ⟨w.heap.size, 0, none⟩) 0 0 ∧ q = .int .i64 lo ∧ Hid (wr.ownsRow w.heap.size 3 1 (.slice (some ⟨w.heap.size, 0, none⟩) 0 0) 0 (icells [])) ∧ (TsAt wr w.heap.size (some bd) ps ∧ Below w.heap.size w wr))
        (fun _ _ _ => 0)
      case atStart => exact ⟨rfl, rfl, hownH, S0⟩
      case round =>
        clear S0 hownH
        obtain ⟨rfl, rfl, hown, S0⟩ := hrel
        go_wp2_with fail
        go_ret
        exact ⟨_, _, by rw [E.out]; rfl, by rw [E.out]; exact hown.out, S0.2⟩
    have HE := Lib.hid (HE1.out h5)
    have hs5 : s ≤ 500 := by omega
    have d5 : decide (hh - lo ≤ 500) = true := decide_eq_true h5
    have hownH := Lib.hid hown
    clear HE0 HE1 hown
    go_wp2_with fail
    go_loopw [3, 7] (fun v q wr => ∃ i : Nat, i ≤ s + 1 ∧ q = .int .i64 (lo + (i : Int)) ∧ Hid (wr.ownsRow w.heap.size 3 1 v (missTo ps lo i).length (icells (missTo ps lo i))) ∧ (TsAt wr w.heap.size (some bd) ps ∧ Below w.heap.size w wr))
      (fun _ q _ => s + 1 - (intOf q - lo).toNat)
    case atStart => exact ⟨0, Nat.zero_le _, by go_num, hownH, S0⟩
    case round =>
      clear S0 hownH
      obtain ⟨i, hin, rfl, hown, S0⟩ := hrel
      obtain ⟨z, hz⟩ : ∃ z, lo + (i : Int) = z := ⟨_, rfl⟩
      rw [hz]
      by_cases hlt : i < s + 1
      rotate_left
      · obtain rfl : s + 1 = i := by omega
        rw [HE.out] at hown
        obtain ⟨A1, c1, rfl⟩ := own_shape hown.out
        have d1 : ¬ z ≤ hh := by omega
        clear hl HE
        go_wp2_with fail
        go_ret
        exact ⟨A1, c1, rfl, hown.out, S0.2⟩
      have d1 : z ≤ hh := by omega
      have uz : IntKind.i64.wrap (z + 1) = z + 1 := IntWalk.i64_in _ (by omega)
      have HL : Hid (missTo ps lo (i + 1) = if hasTo ps z n then missTo ps lo i else missTo ps lo i ++ [z]) := Lib.hid (by rw [← hz, ← hl]; rfl)
      have hlen := missTo_len ps lo i
      clear HE
      generalize missTo ps lo i = l at *
      obtain ⟨q, hq⟩ : ∃ q, l.length = q := ⟨_, rfl⟩
      rw [hq] at hown hlen
      obtain ⟨Ao, co, rfl⟩ := own_shape hown.out
      go_wp2_with fail
      go_loopw [8, 9] (fun v q_ wr => ∃ k : Nat, k ≤ n ∧ v = .bool (hasTo ps z k) ∧ q_ = .int .i64 k ∧ Hid (wr.ownsRow w.heap.size 3 1 (.slice Ao q co) q (icells l)) ∧ w.heap.size ≤ wr.heap.size ∧ (TsAt wr w.heap.size (some bd) ps ∧ Below w.heap.size w wr))
        (fun _ q_ _ => n - (intOf q_).toNat)
      case atStart => exact ⟨0, Nat.zero_le _, rfl, rfl, hown, S0.2.size, S0⟩
      case round =>
        clear S0 hown
        obtain ⟨k, hkn, rfl, rfl, hown, hsz, S0⟩ := hrel
        obtain ⟨_, _⟩ := id S0
        by_cases hlt2 : k < n
        · have hk1 : (k : Int) < (n : Int) := by omega
          have hk0 : (0 : Int) ≤ (k : Int) := by omega
          have HT : Hid (hasTo ps z (k + 1) = (hasTo ps z k || decide ((tt ps k).1 = z))) := Lib.hid rfl
          have p0 := tt_at (ps := ps) (k := k) (by omega)
          obtain ⟨a, b, c, hg⟩ : ∃ a b c, tt ps k = (a, b, c) := ⟨_, _, _, rfl⟩
          rw [hg] at p0 HT
          obtain ⟨_, eB, _, pB⟩ := S0.1.get p0
          injection eB with eB
          subst eB
          obtain ⟨_, _, _⟩ := id pB
          clear p0 hl HL hg
          cases hs_ : hasTo ps z k
          rotate_left
          · have HT2 : Hid (hasTo ps z (k + 1) = true) := Lib.hid (by rw [HT.out, hs_]; rfl)
            clear HT hs_
            go_wp2_with fail
            first
              | exact ⟨⟨k + 1, by omega, by first | (rw [HT2.out]; done) | (rw [HT2.out]; simp [f]), by go_num, hown, hsz, S0⟩, by simp [intOf]; omega⟩
              | (go_roundw <;> first | exact ⟨k + 1, by omega, by first | (rw [HT2.out]; done) | (rw [HT2.out]; simp [f]), by go_num, hown, hsz, S0⟩ | (simp [intOf]; omega))
          by_cases f : a = z
          · have HT2 : Hid (hasTo ps z (k + 1) = true) := Lib.hid (by rw [HT.out, hs_]; simp [f])
            clear HT hs_
            go_wp2_with fail
            first
              | exact ⟨⟨k + 1, by omega, by first | (rw [HT2.out]; done) | (rw [HT2.out]; simp [f]), by go_num, hown, hsz, S0⟩, by simp [intOf]; omega⟩
              | (go_roundw <;> first | exact ⟨k + 1, by omega, by first | (rw [HT2.out]; done) | (rw [HT2.out]; simp [f]), by go_num, hown, hsz, S0⟩ | (simp [intOf]; omega))
          have HT2 : Hid (hasTo ps z (k + 1) = false) := Lib.hid (by rw [HT.out, hs_]; simp [f])
          clear HT hs_
          go_wp2_with fail
          first
            | exact ⟨⟨k + 1, by omega, by first | (rw [HT2.out]; done) | (rw [HT2.out]; simp [f]), by go_num, hown, hsz, S0⟩, by simp [intOf]; omega⟩
            | (go_roundw <;> first | exact ⟨k + 1, by omega, by first | (rw [HT2.out]; done) | (rw [HT2.out]; simp [f]), by go_num, hown, hsz, S0⟩ | (simp [intOf]; omega))
        obtain rfl : n = k := by omega
        cases hs_ : hasTo ps z n
        rotate_left
        · have HL2 : Hid (missTo ps lo (i + 1) = l) := Lib.hid (by rw [HL.out, hs_]; rfl)
          clear HL hs_ hl
          go_wp2_with fail
          exact ⟨⟨i + 1, by omega, by go_num, Lib.hid (by rw [HL2.out, hq]; exact hown.out), S0⟩, by simp [intOf]; omega⟩
        have HL2 : Hid (missTo ps lo (i + 1) = l ++ [z]) := Lib.hid (by rw [HL.out, hs_]; rfl)
        clear HL hs_ hl
        replace hown := hown.out
        go_wp2_with (at_builtin; refine wpList_append_own _ rfl _ _ 46 rfl (w.heap.size) 3 i0 (.int .i64 0) 1 8 Try.underlying46 hi hz0 hz1 hz2 rfl (by decide) _ _ _ rfl (hown.alloc _) ⟨wr.heap.size, 0, none⟩ 1 1 [.int .i64 z] rfl rfl ?c1 ?c2 ?c3 ?c4 ?c5 ?_)
        case c1 => (intro j u hj; match j, hj with | 0, hj => (simp at hj; subst hj; simp [Addr.add]))
        case c2 => (intro u hu; simp at hu; subst hu; rfl)
        case c3 => (unfold maxLen; omega)
        case c4 => omega
        case c5 => (simp; omega)
        intro v1_ wa_ ho_ hg_ _
        have HN : Hid (wa_.ownsRow w.heap.size 3 1 v1_ (missTo ps lo (i + 1)).length (icells (missTo ps lo (i + 1))) ∧ (TsAt wa_ w.heap.size (some bd) ps ∧ Below w.heap.size w wa_)) := Lib.hid (by
          have hb0 : Below w.heap.size wr (wr.alloc (Obj.cells #[.int .i64 z] 3)) := (below1 _ _).mono hsz
          have hb1 := hb0.grown hg_ (by simp; omega) (fun g hg => (hown.lt g hg).1)
          rw [HL2.out, icells_snoc, List.length_append, hq]
          exact ⟨ho_, S0.1.later hb1, S0.2.trans hb1⟩)
        clear ho_ hg_ hown HL2 S0
        go_wp2_with fail
        exact ⟨⟨i + 1, by omega, by go_num, Lib.hid HN.out.1, HN.out.2.1, HN.out.2.2⟩, by simp [intOf]; omega⟩

end Go.Proofs.Ytonbpmabmjhdgaa.MissSpec

