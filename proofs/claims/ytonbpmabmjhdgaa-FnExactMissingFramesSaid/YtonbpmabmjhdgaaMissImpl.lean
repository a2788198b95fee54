/-
  What MissingFrames does, as a contract: what it answers; new memory alone is written.
-/
import Derived.Test.YtonbpmabmjhdgaaListImpl
import Derived.Test.YtonbpmabmjhdgaaMissMath
import Derived.Test.YtonbpmabmjhdgaaIntSet
import Derived.Maps.AppendAt
import Derived.Test.YtonbpmabmjhdgaaGround
namespace Go.Proofs.Ytonbpmabmjhdgaa.MissImpl
open Go.RowKit Own PointMath TrackMath DiagMath ListMath MissMath Tup3 Blk IntSet
open PointOk (ret_bool ret_i64 below1 below2 below3)

theorem infoI : (Try.prog.info? 3).map (fun i => (i.zero, i.size, i.bytes)) = some (some (.int .i64 0), 1, 8) := by kernel_rfl

set_option maxRecDepth 100000 in
set_option maxHeartbeats 6400000 in
theorem missing (A : Option Addr) (n cap : Nat) (w : World) (ps : List Tu) (hl : ps.length = n) (hn : n ≤ 1048576) (hp : TsAt w w.heap.size A ps) :
    Calls Try.prog 30 #[.slice A n cap] w (GivesI 3 w (missL ps)) := by
  obtain ⟨r, hr⟩ : ∃ r, missL ps = r := ⟨_, rfl⟩
  have HR := Lib.hid hr
  rw [hr]
  clear hr
  obtain ⟨i0, hi, hz0, hz1, hz2⟩ := info_parts infoI
  have hmm := @run_makeMap Try.prog
  by_cases h0 : n = 0
  · have E : Hid (r = []) := Lib.hid (by rw [← HR.out]; unfold missL; rw [hl, h0, show decide ((0 : Nat) ≠ 0) = false from rfl, Bool.and_false, Bool.false_and]; rfl)
    subst h0
    clear hl HR hp
    go_enter Try.func30, Try.ntmps30
    go_wp2_with fail
    go_ret
    exact ⟨none, 0, by rw [E.out]; rfl, by rw [E.out]; exact World.ownsRow_nil _ _ _ _, Below.refl _ _⟩
  have h1_ : ¬ (n : Int) = 0 := by omega
  have h1b_ : ((n : Int) == 0) = false := by simpa using h1_
  go_enter Try.func30, Try.ntmps30
  go_wp2_with fail
  have HO : ∀ W W' : World, (TsAt W w.heap.size A ps ∧ Below w.heap.size w W) → Below W.heap.size W W' → (TsAt W' w.heap.size A ps ∧ Below w.heap.size w W') := fun W W' ⟨x0, hb⟩ h => ⟨x0.later (h.mono hb.size), hb.trans (h.mono hb.size)⟩
  have S0 : TsAt w w.heap.size A ps ∧ Below w.heap.size w w := ⟨hp, Below.refl _ _⟩
  clear hp h1_ h1b_
  refine (ListImpl.framesOk A n cap _ ps hl hn (S0.1.wide S0.2.size)).mono ?_
  rintro e w1 ⟨rfl, hb_⟩
  replace S0 := HO _ _ S0 hb_
  clear hb_
  cases hf_ : framesB ps
  · have E : Hid (r = []) := Lib.hid (by rw [← HR.out]; unfold missL; rw [hf_]; rfl)
    clear hl HR
    go_wp2_with fail
    go_ret
    exact ⟨none, 0, by rw [E.out]; rfl, by rw [E.out]; exact World.ownsRow_nil _ _ _ _, S0.2⟩
  have h1 : ¬ (n : Int) = 0 := by omega
  have h1b : ((n : Int) == 0) = false := by simpa using h1
  have g0n : 0 < n := by omega
  have hn0 : (0 : Int) < (n : Int) := by omega
  have hbox : Hid (∀ k, k ≤ n → 0 ≤ loTo ps k ∧ loTo ps k ≤ hiTo ps k ∧ hiTo ps k ≤ 100000) := Lib.hid (fun k hk => box_in (B := 100000) (fun j hj => (frame_parts (show frameB (tt ps j).1 (tt ps j).2.1 (tt ps j).2.2 = true from (framesB_at hf_).2 j hj)).1) (by omega) k (by omega))
  have hfr : Hid (∀ k, k < n → 0 ≤ (tt ps k).1 ∧ (tt ps k).1 ≤ 100000) := Lib.hid (fun k hk => (frame_parts (show frameB (tt ps k).1 (tt ps k).2.1 (tt ps k).2.2 = true from (framesB_at hf_).2 k (by omega))).1)
  have h60 : n ≤ 60 := by have := (framesB_at hf_).1; omega
  have HE1 : Hid (hiTo ps n - loTo ps n ≤ 500 → missTo ps (loTo ps n) (spanI ps) = r) := Lib.hid (fun h => by
    have hb := hbox.out n (Nat.le_refl _)
    rw [← HR.out, ← hl]
    unfold missL
    rw [hf_, decide_eq_true (show ps.length ≠ 0 by omega), decide_eq_true (show hiTo ps ps.length - loTo ps ps.length ≤ 500 by rw [hl]; exact h)]
    rfl)
  have HE0 : Hid (¬ hiTo ps n - loTo ps n ≤ 500 → r = []) := Lib.hid (fun h => by
    rw [← HR.out]
    unfold missL
    rw [hl, show decide (hiTo ps n - loTo ps n ≤ 500) = false from decide_eq_false h, Bool.and_false]; rfl)
  have HS : Hid ((spanI ps : Int) = hiTo ps n - loTo ps n) := Lib.hid (by have := hbox.out n (Nat.le_refl _); unfold spanI; rw [hl]; omega)
  have p0 := tt_at (ps := ps) (k := 0) (by omega)
  obtain ⟨a, b, c, hg⟩ : ∃ a b c, tt ps 0 = (a, b, c) := ⟨_, _, _, rfl⟩
  have eL : Hid (loTo ps 0 = a) := Lib.hid (by show (tt ps 0).1 = a; rw [hg])
  have eH : Hid (hiTo ps 0 = a) := Lib.hid (by show (tt ps 0).1 = a; rw [hg])
  rw [hg] at p0
  clear HR hf_ hg
  generalize spanI ps = s at *
  obtain ⟨bd, eB, bB, pB⟩ := S0.1.get p0
  subst eB
  replace pB := pB.zero
  clear p0
  have HO : ∀ W W' : World, (TsAt W w.heap.size (some bd) ps ∧ THere W bd a b c ∧ Below w.heap.size w W) → Below W.heap.size W W' → (TsAt W' w.heap.size (some bd) ps ∧ THere W' bd a b c ∧ Below w.heap.size w W') := fun W W' ⟨x0, x1, hb⟩ h => ⟨x0.later (h.mono hb.size), x1.later bB (h.mono hb.size), hb.trans (h.mono hb.size)⟩
  replace S0 : TsAt w1 w.heap.size (some bd) ps ∧ THere w1 bd a b c ∧ Below w.heap.size w w1 := ⟨S0.1, pB, S0.2⟩
  clear pB
  obtain ⟨_, ⟨_, _, _⟩, _⟩ := id S0
  go_wp2_with fail
  refine Settle.region (fun W => TsAt W w.heap.size (some bd) ps ∧ THere W bd a b c ∧ Below w.heap.size w W) (by kernel_rfl) (by kernel_rfl) (by kernel_rfl) (by kernel_rfl) (HO _ _ S0 ((Below.refl _ _).drew)) ?_
  clear S0
  repeat (first
    | (refine Settle.Settles.off (by rfl) ?_; simp only [Act.put, List.setIfInBounds_toArray, List.set_cons_zero, List.set_cons_succ])
    | (refine Settle.Settles.quiet (v := ?_) (by rfl) ?_ ?_
       rotate_left
       · (intro W hS; obtain ⟨_, ⟨_, _, _⟩, _⟩ := hS; go_simp; with_reducible rfl)
       simp only [Act.put, List.setIfInBounds_toArray, List.set_cons_zero, List.set_cons_succ])
    | (refine Settle.Settles.call (v := ?_) (f := ?_) (args := ?_) (by rfl) ?_ ?_ ?_
       rotate_left 3
       · (intro W; go_simp; refine ⟨?_, ?_⟩ <;> with_reducible rfl)
       · (intro W hS; fail)
       simp only [Act.put, List.setIfInBounds_toArray, List.set_cons_zero, List.set_cons_succ]))
  refine Settle.Settles.nil ?_
  intro wr S0
  obtain ⟨_, ⟨_, _, _⟩, _⟩ := id S0
  replace S0 := (show TsAt wr w.heap.size (some bd) ps ∧ Below w.heap.size w wr from ⟨S0.1, S0.2.2⟩)
  have HO : ∀ W W' : World, (TsAt W w.heap.size (some bd) ps ∧ Below w.heap.size w W) → Below W.heap.size W W' → (TsAt W' w.heap.size (some bd) ps ∧ Below w.heap.size w W') := fun W W' ⟨x0, hb⟩ h => ⟨x0.later (h.mono hb.size), hb.trans (h.mono hb.size)⟩
  have hszw : w.heap.size ≤ wr.heap.size := S0.2.size
  have HM := made wr
  have b1_ : Below wr.heap.size wr (wr.alloc (.map #[] 0)) := (Below.refl _ _).alloc (Nat.le_refl _) _
  replace S0 := HO _ _ S0 b1_
  have hlt0 : wr.heap.size < (wr.alloc (.map #[] 0)).heap.size := by simp
  clear b1_
  replace HM := Lib.hid HM
  obtain ⟨_, _⟩ := id S0
  go_wp2_with fail
  generalize wr.alloc (.map #[] 0) = v0 at *
  generalize wr.heap.size = bm at *
  replace HM : Hid (SetAt v0 bm 0 (fun z => hasTo ps z 0)) := HM
  go_loopw [3, 4, 29] (fun v3 v4 q wr => ∃ k : Nat, k ≤ n ∧ v3 = .int .i64 (loTo ps k) ∧ v4 = .int .i64 (hiTo ps k) ∧ q = .int .i64 k ∧ Hid (SetAt wr bm k (fun z => hasTo ps z k)) ∧ bm < wr.heap.size ∧ (TsAt wr w.heap.size (some bd) ps ∧ Below w.heap.size w wr))
    (fun _ _ q _ => n - (intOf q).toNat)
  case atStart => exact ⟨0, Nat.zero_le _, by rw [eL.out], by rw [eH.out], rfl, HM, hlt0, S0⟩
  case round =>
    clear S0 HM hlt0 eL eH
    obtain ⟨k, hkn, rfl, rfl, rfl, hset, hbm, S0⟩ := hrel
    obtain ⟨_, _⟩ := id S0
    by_cases hlt : k < n
    · skip
      have hk1 : (k : Int) < (n : Int) := by omega
      have hk0 : (0 : Int) ≤ (k : Int) := by omega
      have HL : Hid (loTo ps (k + 1) = min (loTo ps k) (tt ps k).1) := Lib.hid rfl
      have HH : Hid (hiTo ps (k + 1) = max (hiTo ps k) (tt ps k).1) := Lib.hid rfl
      have p0 := tt_at (ps := ps) (k := k) (by omega)
      have hin := hfr.out k hlt
      obtain ⟨a, b, c, hg⟩ : ∃ a b c, tt ps k = (a, b, c) := ⟨_, _, _, rfl⟩
      have HF : Hid ((fun z => decide (z = a) || hasTo ps z k) = (fun z => hasTo ps z (k + 1))) := Lib.hid (by
        funext z
        show _ = (hasTo ps z k || decide ((tt ps k).1 = z))
        rw [hg, Bool.or_comm]
        congr 1
        exact decide_eq_decide.2 ⟨fun h => h.symm, fun h => h.symm⟩)
      rw [hg] at p0 HL HH hin
      have wa := wf_small (x := a) (by simp only at hin; omega)
      obtain ⟨_, eB, _, pB⟩ := S0.1.get p0
      injection eB with eB
      subst eB
      obtain ⟨_, _, _⟩ := id pB
      generalize loTo ps k = lo at *
      generalize hiTo ps k = hh at *
      have X3 := Tup3.box1 wr a b c 41 (k := wr.heap.size) rfl
      have b1_ := below1 wr (Obj.cells #[.int .i64 a, .int .i64 b, .int .i64 c] 41)
      have S0a := HO _ _ S0 b1_
      obtain ⟨_, _, _⟩ := id X3
      replace S0 := S0a
      replace hset := Lib.hid (hset.out.later b1_)
      have hbm1 : bm < (wr.alloc (Obj.cells #[.int .i64 a, .int .i64 b, .int .i64 c] 41)).heap.size := by simp; omega
      obtain ⟨kb, hkb⟩ : ∃ K, wr.heap.size = K := ⟨_, rfl⟩
      have hkbm : kb ≠ bm := by omega
      have hkz : kb < (wr.alloc (Obj.cells #[.int .i64 a, .int .i64 b, .int .i64 c] 41)).heap.size := by simp; omega
      clear b1_ S0a p0 hg HE1 HE0 HS hbox hfr hl hin
      go_wp2_with fail
      try rw [hkb] at X3
      generalize wr.alloc (Obj.cells #[.int .i64 a, .int .i64 b, .int .i64 c] 41) = v1 at *
      try rw [hkb]
      clear hkb hbm
      have HO : ∀ W W' : World, (TsAt W w.heap.size (some bd) ps ∧ Tup3.Box W kb a b c ∧ Hid (SetAt W bm k (fun z => hasTo ps z k)) ∧ kb < W.heap.size ∧ bm < W.heap.size ∧ Below w.heap.size w W) → Below W.heap.size W W' → (TsAt W' w.heap.size (some bd) ps ∧ Tup3.Box W' kb a b c ∧ Hid (SetAt W' bm k (fun z => hasTo ps z k)) ∧ kb < W'.heap.size ∧ bm < W'.heap.size ∧ Below w.heap.size w W') := fun W W' ⟨x0, x1, x2, x3, x4, hb⟩ h => ⟨x0.later (h.mono hb.size), x1.later h, Lib.hid (x2.out.later h), Nat.lt_of_lt_of_le x3 h.size, Nat.lt_of_lt_of_le x4 h.size, hb.trans (h.mono hb.size)⟩
      replace S0 : TsAt v1 w.heap.size (some bd) ps ∧ Tup3.Box v1 kb a b c ∧ Hid (SetAt v1 bm k (fun z => hasTo ps z k)) ∧ kb < v1.heap.size ∧ bm < v1.heap.size ∧ Below w.heap.size w v1 := ⟨S0.1, X3, hset, hkz, hbm1, S0.2⟩
      clear X3 hset hkz hbm1
      obtain ⟨_, ⟨_, _, _⟩, _, _, _, _⟩ := id S0
      refine Settle.region (fun W => TsAt W w.heap.size (some bd) ps ∧ Tup3.Box W kb a b c ∧ Hid (SetAt W bm k (fun z => hasTo ps z k)) ∧ kb < W.heap.size ∧ bm < W.heap.size ∧ Below w.heap.size w W) (by kernel_rfl) (by kernel_rfl) (by kernel_rfl) (by kernel_rfl) (HO _ _ S0 ((Below.refl _ _).drew)) ?_
      clear S0
      repeat (first
        | (refine Settle.Settles.off (by rfl) ?_; simp only [Act.put, List.setIfInBounds_toArray, List.set_cons_zero, List.set_cons_succ])
        | (refine Settle.Settles.quiet (v := ?_) (by rfl) ?_ ?_
           rotate_left
           · (intro W hS; obtain ⟨_, ⟨_, _, _⟩, _, _, _, _⟩ := hS; go_simp; with_reducible rfl)
           simp only [Act.put, List.setIfInBounds_toArray, List.set_cons_zero, List.set_cons_succ])
        | (refine Settle.Settles.call (v := ?_) (f := ?_) (args := ?_) (by rfl) ?_ ?_ ?_
           rotate_left 3
           · (intro W; go_simp; refine ⟨?_, ?_⟩ <;> with_reducible rfl)
           · (intro W hS; fail)
           simp only [Act.put, List.setIfInBounds_toArray, List.set_cons_zero, List.set_cons_succ]))
      refine Settle.Settles.nil ?_
      intro wr S0
      obtain ⟨_, ⟨_, _, _⟩, _, _, _, _⟩ := id S0
      have hset := S0.2.2.1
      have hszv : w.heap.size ≤ wr.heap.size := S0.2.2.2.2.2.size
      go_wp2_with (at_mapUpdate; refine wpList_update_set _ rfl _ _ _ 87 rfl Try.underlying87 bm k _ rfl hset.out (by unfold maxLen; omega) a rfl wa rfl ?_)
      intro w5 hset5 hg5
      have hw5 : Below w.heap.size wr w5 := (Below.refl _ _).grown hg5 hszv (fun i hi => by injection hi with hi; omega)
      rw [HF.out] at hset5
      have hbm5 : bm < w5.heap.size := by have := hw5.size; have := S0.2.2.2.2.1; omega
      have S5 : TsAt w5 w.heap.size (some bd) ps ∧ Below w.heap.size w w5 := ⟨S0.1.later hw5, S0.2.2.2.2.2.trans hw5⟩
      replace hset5 := Lib.hid hset5
      clear S0 hset HF hw5 hg5
      go_wp2_with fail
      first
        | exact ⟨⟨k + 1, by omega, by rw [HL.out], by rw [HH.out], by go_num, hset5, hbm5, S5⟩, by simp [intOf]; omega⟩
        | (go_roundw <;> first | exact ⟨k + 1, by omega, by rw [HL.out], by rw [HH.out], by go_num, hset5, hbm5, S5⟩ | (simp [intOf]; omega))
    obtain rfl : n = k := by omega
    have hb := hbox.out n (Nat.le_refl _)
    have hs := HS.out
    generalize loTo ps n = lo at *
    generalize hiTo ps n = hh at *
    have u5 : IntKind.i64.wrap (hh - lo) = hh - lo := IntWalk.i64_in _ (by omega)
    clear hbox hfr HS
    by_cases h5 : hh - lo ≤ 500
    rotate_left
    · have E := Lib.hid (HE0.out (by omega))
      have d5 : 500 < hh - lo := by omega
      clear HE0 HE1 hl hset
      go_wp2_with fail
      go_ret
      exact ⟨none, 0, by rw [E.out]; rfl, by rw [E.out]; exact World.ownsRow_nil _ _ _ _, S0.2⟩
    have HE := Lib.hid (HE1.out h5)
    have hs5 : s ≤ 500 := by omega
    have d5 : ¬ 500 < hh - lo := by omega
    clear HE0 HE1
    go_wp2_with fail
    go_loopw [8, 9] (fun v q wr => ∃ i : Nat, i ≤ s ∧ q = .int .i64 (lo + (i : Int)) ∧ Hid (wr.ownsRow w.heap.size 3 1 v (missTo ps lo i).length (icells (missTo ps lo i))) ∧ Hid (SetAt wr bm n (fun z => hasTo ps z n)) ∧ Hid (∀ i, v.ownBlock = some i → i ≠ bm) ∧ bm < wr.heap.size ∧ w.heap.size ≤ wr.heap.size ∧ (TsAt wr w.heap.size (some bd) ps ∧ Below w.heap.size w wr))
      (fun _ q _ => s - (intOf q - lo).toNat)
    case atStart => exact ⟨0, Nat.zero_le _, by go_num, Lib.hid (World.ownsRow_nil _ _ _ _), hset, Lib.hid (fun i h => by cases h), hbm, S0.2.size, S0⟩
    case round =>
      clear S0 hset hbm
      obtain ⟨i, hin, rfl, hown, hset, hD, hbm, hsz, S0⟩ := hrel
      obtain ⟨z, hz⟩ : ∃ z, lo + (i : Int) = z := ⟨_, rfl⟩
      rw [hz]
      by_cases hlt : i < s
      rotate_left
      · obtain rfl : s = i := by omega
        rw [HE.out] at hown
        obtain ⟨A1, c1, rfl⟩ := own_shape hown.out
        have d1 : ¬ z < hh := by omega
        clear hl HE hD
        go_wp2_with fail
        go_ret
        exact ⟨A1, c1, rfl, hown.out, S0.2⟩
      have d1 : z < hh := by omega
      have uz : IntKind.i64.wrap (z + 1) = z + 1 := IntWalk.i64_in _ (by omega)
      have HL : Hid (missTo ps lo (i + 1) = if hasTo ps z n then missTo ps lo i else missTo ps lo i ++ [z]) := Lib.hid (by rw [← hz, ← hl]; rfl)
      have hlen := missTo_len ps lo i
      have wz := wf_small (x := z) (by omega)
      clear HE
      generalize missTo ps lo i = l at *
      obtain ⟨q, hq⟩ : ∃ q, l.length = q := ⟨_, rfl⟩
      rw [hq] at hown hlen
      obtain ⟨Ao, co, rfl⟩ := own_shape hown.out
      obtain ⟨o, ho⟩ : ∃ o, hasTo ps z n = o := ⟨_, rfl⟩
      have ho2 : (fun z => hasTo ps z n) z = o := ho
      rw [ho] at HL
      cases o
      rotate_left
      · have HL2 : Hid (missTo ps lo (i + 1) = l) := Lib.hid (by rw [HL.out]; rfl)
        clear HL hl
        go_wp2_with (at_lookup; refine wpList_lookup_set _ rfl _ _ 87 rfl Try.underlying87 bm n _ rfl hset.out z rfl wz true ho2 ?_)
        exact ⟨⟨i + 1, by omega, by go_num, Lib.hid (by rw [HL2.out, hq]; exact hown.out), hset, hD, hbm, hsz, S0⟩, by simp [intOf]; omega⟩
      have HL2 : Hid (missTo ps lo (i + 1) = l ++ [z]) := Lib.hid (by rw [HL.out]; rfl)
      clear HL hl
      replace hown := hown.out
      go_wp2_with (first | (at_lookup; refine wpList_lookup_set _ rfl _ _ 87 rfl Try.underlying87 bm n _ rfl hset.out z rfl wz false ho2 ?_) | (at_builtin; refine wpList_append_own_at _ rfl _ _ 46 rfl (w.heap.size) 3 i0 (.int .i64 0) 1 8 Try.underlying46 hi hz0 hz1 hz2 rfl (by decide) _ _ _ rfl (hown.alloc _) ⟨wr.heap.size, 0, none⟩ 1 1 [.int .i64 z] rfl rfl (cell_one_new _ _ _) (by intro u hu; simp at hu; subst hu; rfl) (by unfold maxLen; omega) (by omega) (by simp; omega) ?_))
      intro v1_ wa_ ho_ hg_ _ hblk_
      have HN : Hid ((wa_.ownsRow w.heap.size 3 1 v1_ (missTo ps lo (i + 1)).length (icells (missTo ps lo (i + 1))) ∧ SetAt wa_ bm n (fun z => hasTo ps z n) ∧ (∀ i, v1_.ownBlock = some i → i ≠ bm) ∧ bm < wa_.heap.size ∧ w.heap.size ≤ wa_.heap.size) ∧ (TsAt wa_ w.heap.size (some bd) ps ∧ Below w.heap.size w wa_)) := Lib.hid (by
        have hb0 : Below w.heap.size wr (wr.alloc (Obj.cells #[.int .i64 z] 3)) := (below1 _ _).mono hsz
        have hb1 := hb0.grown hg_ (by simp; omega) (fun g hg => (hown.lt g hg).1)
        have hb1S := hb1.size
        rw [HL2.out, icells_snoc, List.length_append, hq]
        have hnb : ∀ i, v1_.ownBlock = some i → i ≠ bm := fun g hgg => by
          rcases hblk_ with h | h
          · exact hD.out g (h ▸ hgg)
          · rw [h] at hgg
            injection hgg with hgg
            first | omega | (simp at hgg; omega)
        have hs6 := (hset.out.later (below1 wr (Obj.cells #[.int .i64 z] 3))).kept hg_ (fun h => hD.out bm h.symm rfl)
        exact ⟨⟨ho_, hs6, hnb, by have := hs6.lt; omega, by omega⟩, S0.1.later hb1, S0.2.trans hb1⟩)
      clear ho_ hg_ hown HL2 S0
      go_wp2_with fail
      exact ⟨⟨i + 1, by omega, by go_num, Lib.hid HN.out.1.1, Lib.hid HN.out.1.2.1, Lib.hid HN.out.1.2.2.1, HN.out.1.2.2.2.1, HN.out.1.2.2.2.2, HN.out.2.1, HN.out.2.2⟩, by simp [intOf]; omega⟩

end Go.Proofs.Ytonbpmabmjhdgaa.MissImpl

