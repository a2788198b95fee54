/-
  What the model's PlanOk does, as a contract: what it answers; new memory alone is written.
-/
import Derived.Test.YtgelkpaiabhklaaPlanSpec
import Derived.Test.YtgelkpaiabhklaaRoomRes
namespace Go.Proofs.Ytgelkpaiabhklaa.PlnSpec
open Go.RowKit Own Blk Ints JoinMath PlanMath DutyMath
open PointOk (ret_bool ret_i64 below1 below2 below3)
open RoomRes (below_set)

set_option maxRecDepth 100000 in
theorem mk (qs : List Int) (m : Nat) (hm : 1 ≤ m ∧ m ≤ 5) : ∀ w, (Instr.makeSlice 30 (.int .i64 (m : Int)) (.int .i64 (m : Int))).run Try.prog w = .ok (.slice (some ⟨w.heap.size, 0, none⟩) m m) (w.alloc (.cells (icells (rowL (used qs 0) m)).toArray 3)) := by
  intro w
  obtain h | h | h | h | h : m = 1 ∨ m = 2 ∨ m = 3 ∨ m = 4 ∨ m = 5 := by omega
  all_goals subst h
  all_goals kernel_rfl

set_option maxRecDepth 100000 in
set_option maxHeartbeats 3200000 in
theorem planOk (A : Option Addr) (n cap : Nat) (B : Option Addr) (m cm : Nat) (C : Option Addr) (l cl : Nat) (D : Option Addr) (q cq : Nat) (w : World)
    (ps : List Tup4.Tu) (hp : ps.length = n) (hn : n ≤ 1048576) (hpA : Tup4.TsAt w w.heap.size A ps)
    (hs : List Tup3.Tu) (hm : hs.length = m) (hn2 : m ≤ 1048576) (hpB : Tup3.TsAt w w.heap.size B hs)
    (ls : List Int) (hl : ls.length = l) (hn3 : l ≤ 1048576) (hpC : IntsAt w w.heap.size C ls)
    (qs : List Int) (hq : qs.length = q) (hn4 : q ≤ 1048576) (hpD : IntsAt w w.heap.size D qs) :
    Calls Try.prog 17 #[.slice A n cap, .slice B m cm, .slice C l cl, .slice D q cq] w fun e w' => e = .returned (.bool (planB ps hs ls qs)) ∧ Below w.heap.size w w' := by
  obtain ⟨r, hr⟩ : ∃ r, planB ps hs ls qs = r := ⟨_, rfl⟩
  have HR := Lib.hid hr
  rw [hr]
  clear hr
  go_enter Try.func17, Try.ntmps17
  go_wp2_with fail
  refine (PlanSpec.valid A B C n cap m cm l cl w ps hs ls hp hm hl hn hn2 hn3 hpC).mono ?_
  rintro e w_ ⟨rfl, rfl⟩
  have HO : ∀ W W' : World, (Tup4.TsAt W w.heap.size A ps ∧ Tup3.TsAt W w.heap.size B hs ∧ IntsAt W w.heap.size C ls ∧ IntsAt W w.heap.size D qs ∧ w.heap.size ≤ W.heap.size ∧ Below w.heap.size w W) → Below W.heap.size W W' → (Tup4.TsAt W' w.heap.size A ps ∧ Tup3.TsAt W' w.heap.size B hs ∧ IntsAt W' w.heap.size C ls ∧ IntsAt W' w.heap.size D qs ∧ w.heap.size ≤ W'.heap.size ∧ Below w.heap.size w W') := fun W W' ⟨x0, x1, x2, x3, x4, hb⟩ h => ⟨x0.later (h.mono hb.size), x1.later (h.mono hb.size), x2.later (h.mono hb.size), x3.later (h.mono hb.size), Nat.le_trans x4 h.size, hb.trans (h.mono hb.size)⟩
  have S0 : Tup4.TsAt w w.heap.size A ps ∧ Tup3.TsAt w w.heap.size B hs ∧ IntsAt w w.heap.size C ls ∧ IntsAt w w.heap.size D qs ∧ w.heap.size ≤ w.heap.size ∧ Below w.heap.size w w := ⟨hpA, hpB, hpC, hpD, Nat.le_refl _, Below.refl _ _⟩
  clear hpA hpB hpC hpD
  cases hv : validB ps hs ls
  · have E : Hid (r = false) := Lib.hid (by rw [← HR.out]; exact plan_invalid hv)
    clear HR
    go_wp2_with fail
    go_ret
    exact ⟨ret_bool E.out.symm, Below.refl _ _⟩
  obtain ⟨v1, v2, v3, v4⟩ := valid_out hv
  rw [hp] at v2
  rw [hm] at v3 v4
  rw [hl] at v1 v4
  by_cases hqn : q = n
  rotate_left
  · have E : Hid (r = false) := Lib.hid (by rw [← HR.out]; exact plan_length (by omega))
    have hx : ((q : Int) == (n : Int)) = false := beq_eq_false_iff_ne.2 (by omega)
    clear HR hv v1
    go_wp2_with fail
    go_ret
    exact ⟨ret_bool E.out.symm, Below.refl _ _⟩
  subst hqn
  subst v4
  have hmk := mk qs l v3
  have un1 : IntKind.i64.wrap ((l : Int) - 1) = (l : Int) - 1 := IntWalk.i64_in _ (by omega)
  have v1 := Lib.hid v1
  have hv := Lib.hid hv
  go_wp2_with fail
  have HB : Ints.Row (w.alloc (Obj.cells (icells (rowL (used qs 0) l)).toArray 3)) w.heap.size 3 (rowL (used qs 0) l) := Blk.Holds.new _ _ _
  replace S0 := HO _ _ S0 (below1 w (Obj.cells (icells (rowL (used qs 0) l)).toArray 3))
  have HO2 : ∀ W W' : World, (Tup4.TsAt W w.heap.size A ps ∧ Tup3.TsAt W w.heap.size B hs ∧ IntsAt W w.heap.size C ls ∧ IntsAt W w.heap.size D qs ∧ w.heap.size ≤ W.heap.size ∧ Below w.heap.size w W) → Below w.heap.size W W' → (Tup4.TsAt W' w.heap.size A ps ∧ Tup3.TsAt W' w.heap.size B hs ∧ IntsAt W' w.heap.size C ls ∧ IntsAt W' w.heap.size D qs ∧ w.heap.size ≤ W'.heap.size ∧ Below w.heap.size w W') := fun W W' ⟨h0, h1, h2, h3, h4, hb⟩ h => ⟨h0.later h, h1.later h, h2.later h, h3.later h, Nat.le_trans h4 h.size, hb.trans h⟩
  generalize w.alloc (Obj.cells (icells (rowL (used qs 0) l)).toArray 3) = w1 at *
  clear hmk
  go_loopw [10] (fun i wr => ∃ k : Nat, k ≤ q ∧ i = .int .i64 k ∧ Hid (∀ j, j < k → fitK ps hs qs j = true) ∧ Ints.Row wr w.heap.size 3 (rowL (used qs k) l) ∧ (Tup4.TsAt wr w.heap.size A ps ∧ Tup3.TsAt wr w.heap.size B hs ∧ IntsAt wr w.heap.size C ls ∧ IntsAt wr w.heap.size D qs ∧ w.heap.size ≤ wr.heap.size ∧ Below w.heap.size w wr))
    (fun i _ => q - (intOf i).toNat)
  case atStart => exact ⟨0, Nat.zero_le _, rfl, Lib.hid (fun j hj => absurd hj (by omega)), HB, S0⟩
  case round =>
    clear S0 HB
    obtain ⟨k, hkn, rfl, hw, HB, S0⟩ := hrel
    by_cases hlt : k < q
    · have hk1 : (k : Int) < (q : Int) := by omega
      have hk0 : (0 : Int) ≤ (k : Int) := by omega
      have p0 := at_d (zs := qs) (k := k) (by omega)
      have HF : Hid (fitK ps hs qs k = false → r = false) := Lib.hid (fun h => by rw [← HR.out]; exact plan_unfit (by omega) h)
      have HV : Hid (fitK ps hs qs k = (decide (0 ≤ qs.getD k 0 ∧ qs.getD k 0 < (l : Int)) && decide (brK ps hs k (qs.getD k 0).toNat = 0))) := Lib.hid (by unfold fitK; rw [hm])
      obtain ⟨z, hz⟩ : ∃ z, qs.getD k 0 = z := ⟨_, rfl⟩
      rw [hz] at p0 HV
      obtain ⟨bd, eB, bB, pB⟩ := S0.2.2.2.1.get p0
      subst eB
      by_cases hin : 0 ≤ z ∧ z ≤ (l : Int) - 1
      rotate_left
      · have E : Hid (r = false) := Lib.hid (HF.out (by rw [HV.out, decide_eq_false (by omega)]; rfl))
        have Q1 : Hid (∀ w, _) := Lib.hid fun w => PointOk.l01In z 0 ((l : Int) - 1) w
        rw [decide_eq_false hin] at Q1
        clear HF HV HR hw hz p0 HO2
        have HO : ∀ W W' : World, (Tup4.TsAt W w.heap.size A ps ∧ Tup3.TsAt W w.heap.size B hs ∧ IntsAt W w.heap.size C ls ∧ IntsAt W w.heap.size (some bd) qs ∧ w.heap.size ≤ W.heap.size ∧ Ints.IntAt W bd k z ∧ Ints.Row W w.heap.size 3 (rowL (used qs k) l) ∧ Below w.heap.size w W) → Below W.heap.size W W' → (Tup4.TsAt W' w.heap.size A ps ∧ Tup3.TsAt W' w.heap.size B hs ∧ IntsAt W' w.heap.size C ls ∧ IntsAt W' w.heap.size (some bd) qs ∧ w.heap.size ≤ W'.heap.size ∧ Ints.IntAt W' bd k z ∧ Ints.Row W' w.heap.size 3 (rowL (used qs k) l) ∧ Below w.heap.size w W') := fun W W' ⟨x0, x1, x2, x3, x4, x5, x6, hb⟩ h => ⟨x0.later (h.mono hb.size), x1.later (h.mono hb.size), x2.later (h.mono hb.size), x3.later (h.mono hb.size), Nat.le_trans x4 h.size, x5.later bB (h.mono hb.size), x6.later h, hb.trans (h.mono hb.size)⟩
        replace S0 : Tup4.TsAt wr w.heap.size A ps ∧ Tup3.TsAt wr w.heap.size B hs ∧ IntsAt wr w.heap.size C ls ∧ IntsAt wr w.heap.size (some bd) qs ∧ w.heap.size ≤ wr.heap.size ∧ Ints.IntAt wr bd k z ∧ Ints.Row wr w.heap.size 3 (rowL (used qs k) l) ∧ Below w.heap.size w wr := ⟨S0.1, S0.2.1, S0.2.2.1, S0.2.2.2.1, S0.2.2.2.2.1, pB, HB, S0.2.2.2.2.2⟩
        clear pB HB
        obtain ⟨_, _, _, _, _, ⟨_, _⟩, _, _⟩ := id S0
        go_wp2_with fail
        refine Settle.region (fun W => Tup4.TsAt W w.heap.size A ps ∧ Tup3.TsAt W w.heap.size B hs ∧ IntsAt W w.heap.size C ls ∧ IntsAt W w.heap.size (some bd) qs ∧ w.heap.size ≤ W.heap.size ∧ Ints.IntAt W bd k z ∧ Ints.Row W w.heap.size 3 (rowL (used qs k) l) ∧ Below w.heap.size w W) (by kernel_rfl) (by kernel_rfl) (by kernel_rfl) (by kernel_rfl) (HO _ _ S0 ((Below.refl _ _).drew)) ?_
        clear S0
        repeat (first
          | (refine Settle.Settles.off (by rfl) ?_; simp only [Act.put, List.setIfInBounds_toArray, List.set_cons_zero, List.set_cons_succ])
          | (refine Settle.Settles.quiet (v := ?_) (by rfl) ?_ ?_
             rotate_left
             · (intro W hS; obtain ⟨_, _, _, _, _, ⟨_, _⟩, _, _⟩ := hS; go_simp; with_reducible rfl)
             simp only [Act.put, List.setIfInBounds_toArray, List.set_cons_zero, List.set_cons_succ])
          | (refine Settle.Settles.call (v := ?_) (f := ?_) (args := ?_) (by rfl) ?_ ?_ ?_
             rotate_left 3
             · (intro W; go_simp; refine ⟨?_, ?_⟩ <;> with_reducible rfl)
             · (intro W hS; first | (go_at_call 64; (with_reducible refine (Q1.out _).mono ?_); rintro e W1 ⟨rfl, rfl⟩; refine ⟨?_, hS⟩; with_reducible rfl))
             simp only [Act.put, List.setIfInBounds_toArray, List.set_cons_zero, List.set_cons_succ]))
        refine Settle.Settles.nil ?_
        intro wr S0
        obtain ⟨_, _, _, _, _, ⟨_, _⟩, _, _⟩ := id S0
        go_wp2_with fail
        go_ret
        exact ⟨ret_bool E.out.symm, S0.2.2.2.2.2.2.2⟩
      obtain ⟨zz, rfl⟩ := Int.eq_ofNat_of_zero_le hin.1
      have hzl : zz < l := by omega
      have hz1 : (zz : Int) < (l : Int) := by omega
      have hz0 : (0 : Int) ≤ (zz : Int) := by omega
      have pl := Tup4.tt_at (ps := ps) (k := k) (by omega)
      have ph := Tup3.tt_at (ps := hs) (k := zz) (by omega)
      replace HV : Hid (fitK ps hs qs k = decide (brK ps hs k zz = 0)) := Lib.hid (by rw [HV.out, decide_eq_true (by omega : 0 ≤ (zz : Int) ∧ (zz : Int) < (l : Int))]; simp)
      obtain ⟨lx, a, b, g, hg⟩ : ∃ lx a b g, Tup4.tt ps k = (lx, a, b, g) := ⟨_, _, _, _, rfl⟩
      obtain ⟨x, h, y, hxy⟩ : ∃ x h y, Tup3.tt hs zz = (x, h, y) := ⟨_, _, _, rfl⟩
      have HV2 : Hid (brK ps hs k zz = breachI lx a b g x h y) := Lib.hid (by unfold brK; rw [hg, hxy])
      rw [hg] at pl
      rw [hxy] at ph
      obtain ⟨ad, eA, bA, pA⟩ := S0.1.get pl
      subst eA
      obtain ⟨hd, eH, bH, pH⟩ := S0.2.1.get ph
      subst eH
      have Q1 : Hid (∀ w, _) := Lib.hid fun w => PointOk.l01In (zz : Int) 0 ((l : Int) - 1) w
      rw [decide_eq_true hin] at Q1
      have Q2 : Hid (∀ w, _) := Lib.hid fun w => DutySpec.breaches lx a b g x h y w
      rw [HV2.out] at HV
      clear HV2
      generalize breachI lx a b g x h y = v at *
      clear pl ph hg hxy p0
      by_cases hv0 : v = 0
      rotate_left
      · have E : Hid (r = false) := Lib.hid (HF.out (by rw [HV.out, decide_eq_false hv0]))
        have hx1 : (v == 0) = false := beq_eq_false_iff_ne.2 hv0
        have hx2 : (v != 0) = true := by simp [hv0]
        clear HF HV HR hw hz HO2
        have HO : ∀ W W' : World, (Tup4.TsAt W w.heap.size (some ad) ps ∧ Tup3.TsAt W w.heap.size (some hd) hs ∧ IntsAt W w.heap.size C ls ∧ IntsAt W w.heap.size (some bd) qs ∧ w.heap.size ≤ W.heap.size ∧ Ints.IntAt W bd k (zz : Int) ∧ Tup4.TAt W ad k lx a b g ∧ Tup3.TAt W hd zz x h y ∧ Ints.Row W w.heap.size 3 (rowL (used qs k) l) ∧ Below w.heap.size w W) → Below W.heap.size W W' → (Tup4.TsAt W' w.heap.size (some ad) ps ∧ Tup3.TsAt W' w.heap.size (some hd) hs ∧ IntsAt W' w.heap.size C ls ∧ IntsAt W' w.heap.size (some bd) qs ∧ w.heap.size ≤ W'.heap.size ∧ Ints.IntAt W' bd k (zz : Int) ∧ Tup4.TAt W' ad k lx a b g ∧ Tup3.TAt W' hd zz x h y ∧ Ints.Row W' w.heap.size 3 (rowL (used qs k) l) ∧ Below w.heap.size w W') := fun W W' ⟨x0, x1, x2, x3, x4, x5, x6, x7, x8, hb⟩ h => ⟨x0.later (h.mono hb.size), x1.later (h.mono hb.size), x2.later (h.mono hb.size), x3.later (h.mono hb.size), Nat.le_trans x4 h.size, x5.later bB (h.mono hb.size), x6.later bA (h.mono hb.size), x7.later bH (h.mono hb.size), x8.later h, hb.trans (h.mono hb.size)⟩
        replace S0 : Tup4.TsAt wr w.heap.size (some ad) ps ∧ Tup3.TsAt wr w.heap.size (some hd) hs ∧ IntsAt wr w.heap.size C ls ∧ IntsAt wr w.heap.size (some bd) qs ∧ w.heap.size ≤ wr.heap.size ∧ Ints.IntAt wr bd k (zz : Int) ∧ Tup4.TAt wr ad k lx a b g ∧ Tup3.TAt wr hd zz x h y ∧ Ints.Row wr w.heap.size 3 (rowL (used qs k) l) ∧ Below w.heap.size w wr := ⟨S0.1, S0.2.1, S0.2.2.1, S0.2.2.2.1, S0.2.2.2.2.1, pB, pA, pH, HB, S0.2.2.2.2.2⟩
        clear pA pB pH HB
        obtain ⟨_, _, _, _, _, ⟨_, _⟩, ⟨_, _, _, _⟩, ⟨_, _, _⟩, _, _⟩ := id S0
        go_wp2_with fail
        refine Settle.region (fun W => Tup4.TsAt W w.heap.size (some ad) ps ∧ Tup3.TsAt W w.heap.size (some hd) hs ∧ IntsAt W w.heap.size C ls ∧ IntsAt W w.heap.size (some bd) qs ∧ w.heap.size ≤ W.heap.size ∧ Ints.IntAt W bd k (zz : Int) ∧ Tup4.TAt W ad k lx a b g ∧ Tup3.TAt W hd zz x h y ∧ Ints.Row W w.heap.size 3 (rowL (used qs k) l) ∧ Below w.heap.size w W) (by kernel_rfl) (by kernel_rfl) (by kernel_rfl) (by kernel_rfl) (HO _ _ S0 ((Below.refl _ _).drew)) ?_
        clear S0
        repeat (first
          | (refine Settle.Settles.off (by rfl) ?_; simp only [Act.put, List.setIfInBounds_toArray, List.set_cons_zero, List.set_cons_succ])
          | (refine Settle.Settles.quiet (v := ?_) (by rfl) ?_ ?_
             rotate_left
             · (intro W hS; obtain ⟨_, _, _, _, _, ⟨_, _⟩, ⟨_, _, _, _⟩, ⟨_, _, _⟩, _, _⟩ := hS; go_simp; with_reducible rfl)
             simp only [Act.put, List.setIfInBounds_toArray, List.set_cons_zero, List.set_cons_succ])
          | (refine Settle.Settles.call (v := ?_) (f := ?_) (args := ?_) (by rfl) ?_ ?_ ?_
             rotate_left 3
             · (intro W; go_simp; refine ⟨?_, ?_⟩ <;> with_reducible rfl)
             · (intro W hS; first | (go_at_call 64; (with_reducible refine (Q1.out _).mono ?_); rintro e W1 ⟨rfl, rfl⟩; refine ⟨?_, hS⟩; with_reducible rfl) | (go_at_call 68; (with_reducible refine (Q2.out _).mono ?_); rintro e W1 ⟨rfl, hb⟩; refine ⟨?_, HO _ _ hS hb⟩; with_reducible rfl))
             simp only [Act.put, List.setIfInBounds_toArray, List.set_cons_zero, List.set_cons_succ]))
        refine Settle.Settles.nil ?_
        intro wr S0
        obtain ⟨_, _, _, _, _, ⟨_, _⟩, ⟨_, _, _, _⟩, ⟨_, _, _⟩, _, _⟩ := id S0
        go_wp2_with fail
        go_ret
        exact ⟨ret_bool E.out.symm, S0.2.2.2.2.2.2.2.2.2⟩
      subst hv0
      have HW : Hid (∀ j, j < k + 1 → fitK ps hs qs j = true) := Lib.hid (fun j hj => by
        rcases Nat.lt_or_ge j k with h1 | h1
        · exact hw.out j h1
        · obtain rfl : j = k := by omega
          rw [HV.out]; rfl)
      have HU := Lib.hid (used_step (m := l) hz)
      have hcb := cnt_le qs zz k
      have hub : 0 ≤ used qs k zz ∧ used qs k zz ≤ (k : Int) := by unfold used; omega
      have hrow := rowL_at (used qs k) hzl
      have hrl := rowL_len (used qs k) l
      clear HF HV HR hw hz
      have HO : ∀ W W' : World, (Tup4.TsAt W w.heap.size (some ad) ps ∧ Tup3.TsAt W w.heap.size (some hd) hs ∧ IntsAt W w.heap.size C ls ∧ IntsAt W w.heap.size (some bd) qs ∧ w.heap.size ≤ W.heap.size ∧ Ints.IntAt W bd k (zz : Int) ∧ Tup4.TAt W ad k lx a b g ∧ Tup3.TAt W hd zz x h y ∧ Ints.Row W w.heap.size 3 (rowL (used qs k) l) ∧ Below w.heap.size w W) → Below W.heap.size W W' → (Tup4.TsAt W' w.heap.size (some ad) ps ∧ Tup3.TsAt W' w.heap.size (some hd) hs ∧ IntsAt W' w.heap.size C ls ∧ IntsAt W' w.heap.size (some bd) qs ∧ w.heap.size ≤ W'.heap.size ∧ Ints.IntAt W' bd k (zz : Int) ∧ Tup4.TAt W' ad k lx a b g ∧ Tup3.TAt W' hd zz x h y ∧ Ints.Row W' w.heap.size 3 (rowL (used qs k) l) ∧ Below w.heap.size w W') := fun W W' ⟨x0, x1, x2, x3, x4, x5, x6, x7, x8, hb⟩ h => ⟨x0.later (h.mono hb.size), x1.later (h.mono hb.size), x2.later (h.mono hb.size), x3.later (h.mono hb.size), Nat.le_trans x4 h.size, x5.later bB (h.mono hb.size), x6.later bA (h.mono hb.size), x7.later bH (h.mono hb.size), x8.later h, hb.trans (h.mono hb.size)⟩
      replace S0 : Tup4.TsAt wr w.heap.size (some ad) ps ∧ Tup3.TsAt wr w.heap.size (some hd) hs ∧ IntsAt wr w.heap.size C ls ∧ IntsAt wr w.heap.size (some bd) qs ∧ w.heap.size ≤ wr.heap.size ∧ Ints.IntAt wr bd k (zz : Int) ∧ Tup4.TAt wr ad k lx a b g ∧ Tup3.TAt wr hd zz x h y ∧ Ints.Row wr w.heap.size 3 (rowL (used qs k) l) ∧ Below w.heap.size w wr := ⟨S0.1, S0.2.1, S0.2.2.1, S0.2.2.2.1, S0.2.2.2.2.1, pB, pA, pH, HB, S0.2.2.2.2.2⟩
      clear pA pB pH HB
      obtain ⟨_, _, _, _, _, ⟨_, _⟩, ⟨_, _, _, _⟩, ⟨_, _, _⟩, _, _⟩ := id S0
      go_wp2_with fail
      refine Settle.region (fun W => Tup4.TsAt W w.heap.size (some ad) ps ∧ Tup3.TsAt W w.heap.size (some hd) hs ∧ IntsAt W w.heap.size C ls ∧ IntsAt W w.heap.size (some bd) qs ∧ w.heap.size ≤ W.heap.size ∧ Ints.IntAt W bd k (zz : Int) ∧ Tup4.TAt W ad k lx a b g ∧ Tup3.TAt W hd zz x h y ∧ Ints.Row W w.heap.size 3 (rowL (used qs k) l) ∧ Below w.heap.size w W) (by kernel_rfl) (by kernel_rfl) (by kernel_rfl) (by kernel_rfl) (HO _ _ S0 ((Below.refl _ _).drew)) ?_
      clear S0
      repeat (first
        | (refine Settle.Settles.off (by rfl) ?_; simp only [Act.put, List.setIfInBounds_toArray, List.set_cons_zero, List.set_cons_succ])
        | (refine Settle.Settles.quiet (v := ?_) (by rfl) ?_ ?_
           rotate_left
           · (intro W hS; obtain ⟨_, _, _, _, _, ⟨_, _⟩, ⟨_, _, _, _⟩, ⟨_, _, _⟩, _, _⟩ := hS; go_simp; with_reducible rfl)
           simp only [Act.put, List.setIfInBounds_toArray, List.set_cons_zero, List.set_cons_succ])
        | (refine Settle.Settles.call (v := ?_) (f := ?_) (args := ?_) (by rfl) ?_ ?_ ?_
           rotate_left 3
           · (intro W; go_simp; refine ⟨?_, ?_⟩ <;> with_reducible rfl)
           · (intro W hS; first | (go_at_call 64; (with_reducible refine (Q1.out _).mono ?_); rintro e W1 ⟨rfl, rfl⟩; refine ⟨?_, hS⟩; with_reducible rfl) | (go_at_call 68; (with_reducible refine (Q2.out _).mono ?_); rintro e W1 ⟨rfl, hb⟩; refine ⟨?_, HO _ _ hS hb⟩; with_reducible rfl))
           simp only [Act.put, List.setIfInBounds_toArray, List.set_cons_zero, List.set_cons_succ]))
      refine Settle.Settles.nil ?_
      intro wr S0
      obtain ⟨_, _, _, _, _, ⟨_, _⟩, ⟨_, _, _, _⟩, ⟨_, _, _⟩, _, _⟩ := id S0
      go_wp2_with fail
      have HB := S0.2.2.2.2.2.2.2.2.1
      have HC := HB.facts zz (by rw [hrl]; exact hzl)
      have hge : (rowL (used qs k) l)[zz]'(by rw [hrl]; exact hzl) = used qs k zz := (List.getElem?_eq_some_iff.1 hrow).2
      rw [hge] at HC
      generalize used qs k zz = u at *
      have hu1 : IntKind.i64.wrap (u + 1) = u + 1 := IntWalk.i64_in _ (by omega)
      obtain ⟨cu, fu⟩ := HC
      have HB2 := Lib.hid (HB.set zz (u + 1))
      have S3 := Lib.hid S0
      clear S0 HB hge hrow Q1 Q2 hcb
      go_wp2_with fail
      go_region
      go_wp2_with fail
      have S4 := Lib.hid (HO2 _ _ ⟨S3.out.1, S3.out.2.1, S3.out.2.2.1, S3.out.2.2.2.1, S3.out.2.2.2.2.1, S3.out.2.2.2.2.2.2.2.2.2⟩ ((below_set wr w.heap.size w.heap.size zz (.int .i64 (u + 1)) (Nat.le_refl _)).trans (⟨rfl, rfl, rfl, Nat.le_refl _, fun _ _ => rfl⟩ : Below w.heap.size (wr.setCell ⟨w.heap.size, zz, none⟩ (.int .i64 (u + 1))) (wr.setCell ⟨w.heap.size, zz, none⟩ (.int .i64 (u + 1))).drew)))
      first
        | exact ⟨⟨k + 1, by omega, by go_num, HW, by rw [← HU.out]; exact HB2.out, S4.out⟩, by simp [intOf]; omega⟩
        | (go_roundw <;> first | exact ⟨k + 1, by omega, by go_num, HW, by rw [← HU.out]; exact HB2.out, S4.out⟩ | (simp [intOf]; omega))
    · obtain rfl : k = q := by omega
      have HY : Hid ((∀ h, h < l → (cnt qs k h : Int) ≤ ls.getD h 0) → r = true) := Lib.hid (fun h => by
        rw [← HR.out]
        exact plan_yes hv.out (by omega) (fun j hj => hw.out j (by omega)) (fun j hj => by rw [hq]; exact h j (by omega)))
      have HN : Hid (∀ h, h < l → ls.getD h 0 < (cnt qs k h : Int) → r = false) := Lib.hid (fun h hh hlt => by
        rw [← HR.out]
        exact plan_over (n := k) (by omega) (by omega) hlt)
      clear hw HR hv
      go_wp2_with fail
      go_loopw [11] (fun i wr => ∃ j : Nat, j ≤ l ∧ i = .int .i64 j ∧ Hid (∀ h, h < j → (cnt qs k h : Int) ≤ ls.getD h 0) ∧ Ints.Row wr w.heap.size 3 (rowL (used qs k) l) ∧ (Tup4.TsAt wr w.heap.size A ps ∧ Tup3.TsAt wr w.heap.size B hs ∧ IntsAt wr w.heap.size C ls ∧ IntsAt wr w.heap.size D qs ∧ w.heap.size ≤ wr.heap.size ∧ Below w.heap.size w wr))
        (fun i _ => l - (intOf i).toNat)
      case atStart => exact ⟨0, Nat.zero_le _, rfl, Lib.hid (fun j hj => absurd hj (by omega)), HB, S0⟩
      case round =>
        clear S0 HB
        obtain ⟨j, hjl, rfl, hw, HB, S0⟩ := hrel
        by_cases hlt2 : j < l
        · have hj1 : (j : Int) < (l : Int) := by omega
          have hj0 : (0 : Int) ≤ (j : Int) := by omega
          have p0 := at_d (zs := ls) (k := j) (by omega)
          have hrow := rowL_at (used qs k) hlt2
          have hrl := rowL_len (used qs k) l
          have HC := HB.facts j (by rw [hrl]; exact hlt2)
          have hge : (rowL (used qs k) l)[j]'(by rw [hrl]; exact hlt2) = used qs k j := (List.getElem?_eq_some_iff.1 hrow).2
          rw [hge] at HC
          have HN2 : Hid (ls.getD j 0 < used qs k j → r = false) := Lib.hid (HN.out j hlt2)
          have HW2 : Hid (used qs k j ≤ ls.getD j 0 → ∀ h, h < j + 1 → (cnt qs k h : Int) ≤ ls.getD h 0) := Lib.hid (fun hle h hh => by
            rcases Nat.lt_or_ge h j with h1 | h1
            · exact hw.out h h1
            · obtain rfl : h = j := by omega
              exact hle)
          generalize used qs k j = u at *
          generalize ls.getD j 0 = lim at *
          obtain ⟨cd, eC, bC, pC⟩ := S0.2.2.1.get p0
          subst eC
          obtain ⟨cu, _⟩ := HC
          obtain ⟨cl_, _⟩ := pC
          have HB := Lib.hid HB
          have S0 := Lib.hid S0
          by_cases hgt : lim < u
          · have E := Lib.hid (HN2.out hgt)
            clear HN HN2 HW2 HY hw hge hrow p0
            go_wp2_with fail
            go_region
            go_wp2_with fail
            go_ret
            exact ⟨ret_bool E.out.symm, S0.out.2.2.2.2.2.trans ⟨rfl, rfl, rfl, Nat.le_refl _, fun _ _ => rfl⟩⟩
          · have HW := Lib.hid (HW2.out (by omega))
            have hgt2 : u ≤ lim := by omega
            clear HN2 HW2 hge hrow p0
            go_wp2_with fail
            go_region
            go_wp2_with fail
            have S1 := Lib.hid (HO2 _ _ S0.out (⟨rfl, rfl, rfl, Nat.le_refl _, fun _ _ => rfl⟩ : Below w.heap.size wr wr.drew))
            first
              | exact ⟨⟨j + 1, by omega, by go_num, HW, HB.out, S1.out⟩, by simp [intOf]; omega⟩
              | (go_roundw <;> first | exact ⟨j + 1, by omega, by go_num, HW, HB.out, S1.out⟩ | (simp [intOf]; omega))
        · obtain rfl : j = l := by omega
          have E := Lib.hid (HY.out hw.out)
          clear HN HY hw
          go_wp2_with fail
          go_ret
          exact ⟨ret_bool E.out.symm, S0.2.2.2.2.2⟩

end Go.Proofs.Ytgelkpaiabhklaa.PlnSpec

