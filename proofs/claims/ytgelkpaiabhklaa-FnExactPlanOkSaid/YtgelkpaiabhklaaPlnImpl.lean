/-
  What the landed PlanOk does, as a contract: what it answers; new memory alone is written.
-/
import Derived.Test.YtgelkpaiabhklaaPlanMath
import Derived.Test.YtgelkpaiabhklaaDutyImpl
import Derived.Test.YtgelkpaiabhklaaInNumImpl
import Derived.Test.YtgelkpaiabhklaaShelfClone
import Derived.Test.YtgelkpaiabhklaaRoomRes
import Derived.Laws.OwnMore
import Derived.OwnWalk
import Derived.BigRegion
namespace Go.Proofs.Ytgelkpaiabhklaa.PlnImpl
open Go.RowKit Own Blk Ints JoinMath PlanMath DutyMath
open PointOk (ret_bool ret_i64 below1 below2 below3)
open RoomRes (below_set)

/-- A cell that may be written. -/
def CF (w : World) (g j : Nat) (v : Value) : Prop := w.cell? ⟨g, j, none⟩ = some v ∧ w.frozen? ⟨g, j, none⟩ = false
theorem CF.later {w w' : World} {g j : Nat} {v : Value} (h : CF w g j v) (hb : Below w.heap.size w w') : CF w' g j v := by
  have hlt : g < w.heap.size := by
    rcases Nat.lt_or_ge g w.heap.size with h1 | h1
    · exact h1
    · have h2 : w.heap[g]? = none := Array.getElem?_eq_none h1
      have h3 := h.1
      simp [World.cell?, h2] at h3
  exact ⟨(World.cell?_of_block (hb.block g hlt)).trans h.1, (World.frozen?_of_block (hb.block g hlt)).trans h.2⟩
theorem isBad (x : Int) (w : World) : Calls Try.prog 122 #[.int .i64 x] w fun e w' => e = .returned (.bool (!inB 6 x)) ∧ Below w.heap.size w w' := by
  have Q := Lib.hid fun w => DutyImpl.isUpTo x 6 w
  unfold inB
  generalize decide (0 ≤ x ∧ x ≤ 6) = r at *
  go_enter Try.func122, Try.ntmps122
  go_wp2_with fail
  refine (Q.out _).mono ?_
  rintro e w_ ⟨rfl, rfl⟩
  go_wp2_with fail
  go_ret
  exact ⟨rfl, Below.refl _ _⟩

set_option maxRecDepth 100000 in
set_option maxHeartbeats 1600000 in
theorem canPlan (A B C : Option Addr) (n cap m cm l cl : Nat) (w : World) (ps : List Tup4.Tu) (hs : List Tup3.Tu) (ls : List Int) (hp : ps.length = n) (hm : hs.length = m) (hl : ls.length = l) (_hn : n ≤ 1048576) (_hn2 : m ≤ 1048576) (hn3 : l ≤ 1048576) (hi : IntsAt w w.heap.size C ls) :
    Calls Try.prog 71 #[.slice A n cap, .slice B m cm, .slice C l cl] w fun e w' => e = .returned (.bool (validB ps hs ls)) ∧ Below w.heap.size w w' := by
  obtain ⟨r, hr⟩ : ∃ r, validB ps hs ls = r := ⟨_, rfl⟩
  have HR := Lib.hid hr
  rw [hr]
  clear hr
  have HE : Hid (r = (decide (n ≤ 6) && decide (1 ≤ m) && decide (m ≤ 5) && decide (l = m) && !(List.range l).any fun k => !inB 6 (ls.getD k 0))) := Lib.hid (by rw [← HR.out]; exact valid_any hp hm hl)
  clear HR
  by_cases h6 : n ≤ 6
  rotate_left
  · have E : Hid (r = false) := Lib.hid (by rw [HE.out, show decide (n ≤ 6) = false from decide_eq_false (by omega)]; simp)
    have k6 : ¬ (n : Int) ≤ 6 := by omega
    clear HE hl hi
    go_enter Try.func71, Try.ntmps71
    go_wp2_with fail
    go_ret
    exact ⟨ret_bool E.out.symm, Below.refl _ _⟩
  have k6 : (n : Int) ≤ 6 := by omega
  by_cases h1 : 1 ≤ m
  rotate_left
  · have E : Hid (r = false) := Lib.hid (by rw [HE.out, show decide (1 ≤ m) = false from decide_eq_false (by omega)]; simp)
    have k1 : ¬ (1 : Int) ≤ (m : Int) := by omega
    clear HE hl hi
    go_enter Try.func71, Try.ntmps71
    go_wp2_with fail
    go_ret
    exact ⟨ret_bool E.out.symm, Below.refl _ _⟩
  have k1 : (1 : Int) ≤ (m : Int) := by omega
  by_cases h5 : m ≤ 5
  rotate_left
  · have E : Hid (r = false) := Lib.hid (by rw [HE.out, show decide (m ≤ 5) = false from decide_eq_false (by omega)]; simp)
    have k5 : ¬ (m : Int) ≤ 5 := by omega
    clear HE hl hi
    go_enter Try.func71, Try.ntmps71
    go_wp2_with fail
    go_ret
    exact ⟨ret_bool E.out.symm, Below.refl _ _⟩
  have k5 : (m : Int) ≤ 5 := by omega
  by_cases hlm : l = m
  rotate_left
  · have E : Hid (r = false) := Lib.hid (by rw [HE.out, show decide (l = m) = false from decide_eq_false (by omega)]; simp)
    have kx : ((l : Int) == (m : Int)) = false := beq_eq_false_iff_ne.2 (by omega)
    clear HE hl hi
    go_enter Try.func71, Try.ntmps71
    go_wp2_with fail
    go_ret
    exact ⟨ret_bool E.out.symm, Below.refl _ _⟩
  have QC := Lib.hid fun eF Q => InNumImpl.containsFunc 122 #[] (fun k => !inB 6 (ls.getD k 0)) C l cl w ls hl hn3 hi eF Q
  have E : Hid (r = !(List.range l).any fun k => !inB 6 (ls.getD k 0)) := Lib.hid (by rw [HE.out, decide_eq_true h6, decide_eq_true h1, decide_eq_true h5, decide_eq_true hlm]; simp)
  clear HE hl hi hn3
  generalize hz : ((List.range l).any fun k => !inB 6 (ls.getD k 0)) = z at *
  clear hz
  subst hlm
  go_enter Try.func71, Try.ntmps71
  go_wp2_with fail
  refine (QC.out Try.call122 (fun W k hk hb => isBad (ls.getD k 0) W)).mono ?_
  rintro e w1 ⟨rfl, hb_⟩
  go_wp2_with fail
  go_ret
  exact ⟨ret_bool E.out.symm, hb_⟩

set_option maxRecDepth 100000 in
set_option maxHeartbeats 3200000 in
theorem planOk (A : Option Addr) (n cap : Nat) (B : Option Addr) (m cm : Nat) (C : Option Addr) (l cl : Nat) (D : Option Addr) (q cq : Nat) (w : World)
    (ps : List Tup4.Tu) (hp : ps.length = n) (hn : n ≤ 1048576) (hpA : Tup4.TsAt w w.heap.size A ps)
    (hs : List Tup3.Tu) (hm : hs.length = m) (hn2 : m ≤ 1048576) (hpB : Tup3.TsAt w w.heap.size B hs)
    (ls : List Int) (hl : ls.length = l) (hn3 : l ≤ 1048576) (hpC : IntsAt w w.heap.size C ls) (hsp : ∀ ad, C = some ad → ad.spot = none)
    (qs : List Int) (hq : qs.length = q) (hn4 : q ≤ 1048576) (hpD : IntsAt w w.heap.size D qs) :
    Calls Try.prog 21 #[.slice A n cap, .slice B m cm, .slice C l cl, .slice D q cq] w fun e w' => e = .returned (.bool (planB ps hs ls qs)) ∧ Below w.heap.size w w' := by
  obtain ⟨r, hr⟩ : ∃ r, planB ps hs ls qs = r := ⟨_, rfl⟩
  have HR := Lib.hid hr
  rw [hr]
  clear hr
  go_enter Try.func21, Try.ntmps21
  go_wp2_with fail
  refine (canPlan A B C n cap m cm l cl w ps hs ls hp hm hl hn hn2 hn3 hpC).mono ?_
  rintro e w1 ⟨rfl, hb1_⟩
  have HO : ∀ W W' : World, (Tup4.TsAt W w.heap.size A ps ∧ Tup3.TsAt W w.heap.size B hs ∧ IntsAt W w.heap.size C ls ∧ IntsAt W w.heap.size D qs ∧ w.heap.size ≤ W.heap.size ∧ Below w.heap.size w W) → Below W.heap.size W W' → (Tup4.TsAt W' w.heap.size A ps ∧ Tup3.TsAt W' w.heap.size B hs ∧ IntsAt W' w.heap.size C ls ∧ IntsAt W' w.heap.size D qs ∧ w.heap.size ≤ W'.heap.size ∧ Below w.heap.size w W') := fun W W' ⟨x0, x1, x2, x3, x4, hb⟩ h => ⟨x0.later (h.mono hb.size), x1.later (h.mono hb.size), x2.later (h.mono hb.size), x3.later (h.mono hb.size), Nat.le_trans x4 h.size, hb.trans (h.mono hb.size)⟩
  have S0 : Tup4.TsAt w1 w.heap.size A ps ∧ Tup3.TsAt w1 w.heap.size B hs ∧ IntsAt w1 w.heap.size C ls ∧ IntsAt w1 w.heap.size D qs ∧ w.heap.size ≤ w1.heap.size ∧ Below w.heap.size w w1 := ⟨hpA.later hb1_, hpB.later hb1_, hpC.later hb1_, hpD.later hb1_, hb1_.size, hb1_⟩
  clear hpA hpB hpC hpD hb1_
  cases hv : validB ps hs ls
  · have E : Hid (r = false) := Lib.hid (by rw [← HR.out]; exact plan_invalid hv)
    clear HR
    go_wp2_with fail
    go_ret
    exact ⟨ret_bool E.out.symm, S0.2.2.2.2.2⟩
  obtain ⟨v1, v2, v3, v4⟩ := valid_out hv
  rw [hp] at v2
  rw [hm] at v3 v4
  rw [hl] at v1 v4
  by_cases hqn : q = n
  rotate_left
  · have E : Hid (r = false) := Lib.hid (by rw [← HR.out]; exact plan_length (by omega))
    have hx : ((q : Int) == (n : Int)) = false := beq_eq_false_iff_ne.2 (by omega)
    have hx2 : ((q : Int) != (n : Int)) = true := by simp; omega
    clear HR hv v1
    go_wp2_with fail
    go_ret
    exact ⟨ret_bool E.out.symm, S0.2.2.2.2.2⟩
  subst hqn
  subst v4
  have v1 := Lib.hid v1
  have hv := Lib.hid hv
  obtain ⟨cd, eC, bC, _⟩ := S0.2.2.1.get (at_d (zs := ls) (k := 0) (by omega))
  subst eC
  have hcs := hsp cd rfl
  obtain ⟨cb, co, csp⟩ := cd
  simp only at hcs
  subst hcs
  have hcell : ∀ j, j < ls.length → w1.cell? ⟨cb, co + j, none⟩ = some (.int .i64 (ls.getD j 0)) := fun j hj => by
    obtain ⟨ad, e1, _, h3, _⟩ := S0.2.2.1.get (at_d (zs := ls) (k := j) hj)
    injection e1 with e1
    subst e1
    unfold Addr.add at h3
    split at h3
    · rename_i h0; subst h0; exact h3
    · exact h3
  have QL := Lib.hid (Try.slices_Clone_int cb co l cl ls w1 (by omega) (by omega) hcell)
  clear hcell hsp
  have hw1 : w.heap.size ≤ w1.heap.size := S0.2.2.2.2.1
  go_wp2_with fail
  refine QL.out.mono ?_
  rintro e w2 ⟨v', rfl, H1, _, hb_⟩
  replace S0 := HO _ _ S0 hb_
  replace H1 := own_base H1 hw1
  clear hb_ QL hw1
  obtain ⟨g, c', hv', hbg, hlt⟩ := H1.form (by omega)
  subst hv'
  have HB : w2.ownsRow w.heap.size 3 1 (.slice (some ⟨g, 0, none⟩) l c') l (icells (rowL (left ls qs 0) l)) := by
    rw [left_zero hl]
    have e : ls.take l = ls := List.take_of_length_le (by omega)
    rw [e] at H1
    exact H1
  clear H1 hlt
  replace S0 : (Tup4.TsAt w2 w.heap.size A ps ∧ Tup3.TsAt w2 w.heap.size B hs ∧ IntsAt w2 w.heap.size D qs ∧ w.heap.size ≤ w2.heap.size ∧ Below w.heap.size w w2) := ⟨S0.1, S0.2.1, S0.2.2.2.1, S0.2.2.2.2.1, S0.2.2.2.2.2⟩
  have HO : ∀ W W' : World, (Tup4.TsAt W w.heap.size A ps ∧ Tup3.TsAt W w.heap.size B hs ∧ IntsAt W w.heap.size D qs ∧ w.heap.size ≤ W.heap.size ∧ Below w.heap.size w W) → Below W.heap.size W W' → (Tup4.TsAt W' w.heap.size A ps ∧ Tup3.TsAt W' w.heap.size B hs ∧ IntsAt W' w.heap.size D qs ∧ w.heap.size ≤ W'.heap.size ∧ Below w.heap.size w W') := fun W W' ⟨x0, x1, x2, x3, hb⟩ h => ⟨x0.later (h.mono hb.size), x1.later (h.mono hb.size), x2.later (h.mono hb.size), Nat.le_trans x3 h.size, hb.trans (h.mono hb.size)⟩
  have HO2 : ∀ W W' : World, (Tup4.TsAt W w.heap.size A ps ∧ Tup3.TsAt W w.heap.size B hs ∧ IntsAt W w.heap.size D qs ∧ w.heap.size ≤ W.heap.size ∧ Below w.heap.size w W) → Below w.heap.size W W' → (Tup4.TsAt W' w.heap.size A ps ∧ Tup3.TsAt W' w.heap.size B hs ∧ IntsAt W' w.heap.size D qs ∧ w.heap.size ≤ W'.heap.size ∧ Below w.heap.size w W') := fun W W' ⟨h0, h1, h3, h4, hb⟩ h => ⟨h0.later h, h1.later h, h3.later h, Nat.le_trans h4 h.size, hb.trans h⟩
  have hc0 : ∀ h, h < l → (cnt qs 0 h : Int) ≤ ls.getD h 0 := fun h hh => (v1.out h hh).1
  have hc0 := Lib.hid hc0
  go_wp2_with fail
  go_loopw [28] (fun i wr => ∃ k : Nat, k ≤ q ∧ i = .int .i64 k ∧ Hid (∀ j, j < k → fitK ps hs qs j = true) ∧ Hid (∀ h, h < l → (cnt qs k h : Int) ≤ ls.getD h 0) ∧ wr.ownsRow w.heap.size 3 1 (.slice (some ⟨g, 0, none⟩) l c') l (icells (rowL (left ls qs k) l)) ∧ (Tup4.TsAt wr w.heap.size A ps ∧ Tup3.TsAt wr w.heap.size B hs ∧ IntsAt wr w.heap.size D qs ∧ w.heap.size ≤ wr.heap.size ∧ Below w.heap.size w wr))
    (fun i _ => q - (intOf i).toNat)
  case atStart => exact ⟨0, Nat.zero_le _, rfl, Lib.hid (fun j hj => absurd hj (by omega)), hc0, HB, S0⟩
  case round =>
    clear S0 HB hc0
    obtain ⟨k, hkn, rfl, hw, hc, HB, S0⟩ := hrel
    by_cases hlt : k < q
    rotate_left
    · obtain rfl : k = q := by omega
      have E : Hid (r = true) := Lib.hid (by
        rw [← HR.out]
        exact plan_yes hv.out (by omega) (fun j hj => hw.out j (by omega)) (fun j hj => by rw [hq]; exact hc.out j (by omega)))
      clear hw hc HR hv HB
      go_wp2_with fail
      go_ret
      exact ⟨ret_bool E.out.symm, S0.2.2.2.2⟩
    have hk1 : (k : Int) < (q : Int) := by omega
    have hk0 : (0 : Int) ≤ (k : Int) := by omega
    have p0 := at_d (zs := qs) (k := k) (by omega)
    have HF : Hid (fitK ps hs qs k = false → r = false) := Lib.hid (fun h => by rw [← HR.out]; exact plan_unfit (by omega) h)
    have HV : Hid (fitK ps hs qs k = (decide (0 ≤ qs.getD k 0 ∧ qs.getD k 0 < (l : Int)) && decide (brK ps hs k (qs.getD k 0).toNat = 0))) := Lib.hid (by unfold fitK; rw [hm])
    obtain ⟨z, hz⟩ : ∃ z, qs.getD k 0 = z := ⟨_, rfl⟩
    rw [hz] at p0 HV
    obtain ⟨bd, eB, bB, pB⟩ := S0.2.2.1.get p0
    subst eB
    obtain ⟨_, _⟩ := id pB
    by_cases hz0 : 0 ≤ z
    rotate_left
    · have E : Hid (r = false) := Lib.hid (HF.out (by rw [HV.out, decide_eq_false (by omega)]; rfl))
      have hz1 : z < 0 := by omega
      have hd1 : decide (z < 0) = true := decide_eq_true hz1
      have Q0 : Hid (∀ w, _) := Lib.hid fun w => DutyImpl.breaches 0 0 0 0 0 0 0 w
      clear HF HV HR hw hc hz p0 HO2 HB
      have HO : ∀ W W' : World, (Tup4.TsAt W w.heap.size A ps ∧ Tup3.TsAt W w.heap.size B hs ∧ IntsAt W w.heap.size (some bd) qs ∧ w.heap.size ≤ W.heap.size ∧ Below w.heap.size w W) → Below W.heap.size W W' → (Tup4.TsAt W' w.heap.size A ps ∧ Tup3.TsAt W' w.heap.size B hs ∧ IntsAt W' w.heap.size (some bd) qs ∧ w.heap.size ≤ W'.heap.size ∧ Below w.heap.size w W') := fun W W' ⟨x0, x1, x2, x3, hb⟩ h => ⟨x0.later (h.mono hb.size), x1.later (h.mono hb.size), x2.later (h.mono hb.size), Nat.le_trans x3 h.size, hb.trans (h.mono hb.size)⟩
      go_wp2_with fail
      refine Settle.region (fun W => Tup4.TsAt W w.heap.size A ps ∧ Tup3.TsAt W w.heap.size B hs ∧ IntsAt W w.heap.size (some bd) qs ∧ w.heap.size ≤ W.heap.size ∧ Below w.heap.size w W) (by kernel_rfl) (by kernel_rfl) (by kernel_rfl) (by kernel_rfl) (HO _ _ S0 ((Below.refl _ _).drew)) ?_
      clear S0
      repeat (first
        | (refine Settle.Settles.off (by rfl) ?_; simp only [Act.put, List.setIfInBounds_toArray, List.set_cons_zero, List.set_cons_succ])
        | (refine Settle.Settles.quiet (v := ?_) (by rfl) ?_ ?_
           rotate_left
           · (intro W hS; obtain ⟨_, _, _, _, _⟩ := hS; go_simp; with_reducible rfl)
           simp only [Act.put, List.setIfInBounds_toArray, List.set_cons_zero, List.set_cons_succ])
        | (refine Settle.Settles.call (v := ?_) (f := ?_) (args := ?_) (by rfl) ?_ ?_ ?_
           rotate_left 3
           · (intro W; go_simp; refine ⟨?_, ?_⟩ <;> with_reducible rfl)
           · (intro W hS; first | (go_at_call 41; (with_reducible refine (Q0.out _).mono ?_); rintro e W1 ⟨rfl, hb⟩; refine ⟨?_, HO _ _ hS hb⟩; with_reducible rfl))
           simp only [Act.put, List.setIfInBounds_toArray, List.set_cons_zero, List.set_cons_succ]))
      refine Settle.Settles.nil ?_
      intro wr S0
      obtain ⟨_, _, _, _, _⟩ := id S0
      go_wp2_with fail
      go_ret
      exact ⟨ret_bool E.out.symm, S0.2.2.2.2⟩
    by_cases hzl0 : z < (l : Int)
    rotate_left
    · have E : Hid (r = false) := Lib.hid (HF.out (by rw [HV.out, decide_eq_false (by omega)]; rfl))
      have hz1 : ¬ z < 0 := by omega
      have hz2 : (l : Int) ≤ z := by omega
      have hd1 : decide (z < 0) = false := decide_eq_false hz1
      have hd2 : decide ((l : Int) ≤ z) = true := decide_eq_true hz2
      have Q0 : Hid (∀ w, _) := Lib.hid fun w => DutyImpl.breaches 0 0 0 0 0 0 0 w
      clear HF HV HR hw hc hz p0 HO2 HB
      have HO : ∀ W W' : World, (Tup4.TsAt W w.heap.size A ps ∧ Tup3.TsAt W w.heap.size B hs ∧ IntsAt W w.heap.size (some bd) qs ∧ w.heap.size ≤ W.heap.size ∧ Below w.heap.size w W) → Below W.heap.size W W' → (Tup4.TsAt W' w.heap.size A ps ∧ Tup3.TsAt W' w.heap.size B hs ∧ IntsAt W' w.heap.size (some bd) qs ∧ w.heap.size ≤ W'.heap.size ∧ Below w.heap.size w W') := fun W W' ⟨x0, x1, x2, x3, hb⟩ h => ⟨x0.later (h.mono hb.size), x1.later (h.mono hb.size), x2.later (h.mono hb.size), Nat.le_trans x3 h.size, hb.trans (h.mono hb.size)⟩
      go_wp2_with fail
      refine Settle.region (fun W => Tup4.TsAt W w.heap.size A ps ∧ Tup3.TsAt W w.heap.size B hs ∧ IntsAt W w.heap.size (some bd) qs ∧ w.heap.size ≤ W.heap.size ∧ Below w.heap.size w W) (by kernel_rfl) (by kernel_rfl) (by kernel_rfl) (by kernel_rfl) (HO _ _ S0 ((Below.refl _ _).drew)) ?_
      clear S0
      repeat (first
        | (refine Settle.Settles.off (by rfl) ?_; simp only [Act.put, List.setIfInBounds_toArray, List.set_cons_zero, List.set_cons_succ])
        | (refine Settle.Settles.quiet (v := ?_) (by rfl) ?_ ?_
           rotate_left
           · (intro W hS; obtain ⟨_, _, _, _, _⟩ := hS; go_simp; with_reducible rfl)
           simp only [Act.put, List.setIfInBounds_toArray, List.set_cons_zero, List.set_cons_succ])
        | (refine Settle.Settles.call (v := ?_) (f := ?_) (args := ?_) (by rfl) ?_ ?_ ?_
           rotate_left 3
           · (intro W; go_simp; refine ⟨?_, ?_⟩ <;> with_reducible rfl)
           · (intro W hS; first | (go_at_call 41; (with_reducible refine (Q0.out _).mono ?_); rintro e W1 ⟨rfl, hb⟩; refine ⟨?_, HO _ _ hS hb⟩; with_reducible rfl))
           simp only [Act.put, List.setIfInBounds_toArray, List.set_cons_zero, List.set_cons_succ]))
      refine Settle.Settles.nil ?_
      intro wr S0
      obtain ⟨_, _, _, _, _⟩ := id S0
      go_wp2_with fail
      go_ret
      exact ⟨ret_bool E.out.symm, S0.2.2.2.2⟩
    obtain ⟨zz, rfl⟩ := Int.eq_ofNat_of_zero_le hz0
    have hzl : zz < l := by omega
    have hz1 : (zz : Int) < (l : Int) := by omega
    have pl := Tup4.tt_at (ps := ps) (k := k) (by omega)
    have ph := Tup3.tt_at (ps := hs) (k := zz) (by omega)
    replace HV : Hid (fitK ps hs qs k = decide (brK ps hs k zz = 0)) := Lib.hid (by rw [HV.out, decide_eq_true (by omega : 0 ≤ (zz : Int) ∧ (zz : Int) < (l : Int))]; simp)
    obtain ⟨lx, a, b, e0, hg⟩ : ∃ lx a b g, Tup4.tt ps k = (lx, a, b, g) := ⟨_, _, _, _, rfl⟩
    obtain ⟨x, h, y, hxy⟩ : ∃ x h y, Tup3.tt hs zz = (x, h, y) := ⟨_, _, _, rfl⟩
    have HV2 : Hid (brK ps hs k zz = breachI lx a b e0 x h y) := Lib.hid (by unfold brK; rw [hg, hxy])
    rw [hg] at pl
    rw [hxy] at ph
    obtain ⟨ad, eA, bA, pA⟩ := S0.1.get pl
    subst eA
    obtain ⟨hd, eH, bH, pH⟩ := S0.2.1.get ph
    subst eH
    have Q2 : Hid (∀ w, _) := Lib.hid fun w => DutyImpl.breaches lx a b e0 x h y w
    rw [HV2.out] at HV
    clear HV2
    generalize breachI lx a b e0 x h y = v at *
    have hrow := rowL_at (left ls qs k) hzl
    have hcell : wr.cell? ⟨g, zz, none⟩ = some (.int .i64 (left ls qs k zz)) := by
      rw [HB.cellAt zz (by omega)]
      simp only [icells, List.getElem?_map, hrow]
      rfl
    have hfr := HB.frozenAt zz
    have HO3 : Hid (left ls qs k zz = 0 → fitK ps hs qs k = true → r = false) := Lib.hid (fun h0 _ => by
      rw [← HR.out]
      refine plan_over (n := k + 1) (z := zz) (by omega) (by omega) ?_
      rw [cnt_here hz]
      have := hc.out zz hzl
      unfold left at h0
      omega)
    have HU := Lib.hid (left_step (ls := ls) (m := l) hz)
    have hub : 0 ≤ left ls qs k zz ∧ left ls qs k zz ≤ 6 := by
      have h1 := hc.out zz hzl
      have h2 := (v1.out zz hzl).2
      unfold left
      omega
    have HST : Hid (left ls qs k zz ≠ 0 → ∀ h, h < l → (cnt qs (k + 1) h : Int) ≤ ls.getD h 0) := Lib.hid (fun h0 => left_stays hz h0 hc.out)
    obtain ⟨u, hu⟩ : ∃ u, left ls qs k zz = u := ⟨_, rfl⟩
    rw [hu] at hcell HO3 HU hub HST
    have hx3 : ¬ (zz : Int) < 0 := by omega
    have hx5 : ¬ (l : Int) ≤ (zz : Int) := by omega
    have hd1 : decide ((zz : Int) < 0) = false := decide_eq_false hx3
    have hd2 : decide (l ≤ zz) = false := decide_eq_false (by omega)
    clear pl ph hg hxy p0 hu hrow hz
    have HO : ∀ W W' : World, (Tup4.TsAt W w.heap.size (some ad) ps ∧ Tup3.TsAt W w.heap.size (some hd) hs ∧ IntsAt W w.heap.size (some bd) qs ∧ w.heap.size ≤ W.heap.size ∧ Tup4.TAt W ad k lx a b e0 ∧ Tup3.TAt W hd zz x h y ∧ CF W g zz (.int .i64 u) ∧ W.ownsRow w.heap.size 3 1 (.slice (some ⟨g, 0, none⟩) l c') l (icells (rowL (left ls qs k) l)) ∧ Below w.heap.size w W) → Below W.heap.size W W' → (Tup4.TsAt W' w.heap.size (some ad) ps ∧ Tup3.TsAt W' w.heap.size (some hd) hs ∧ IntsAt W' w.heap.size (some bd) qs ∧ w.heap.size ≤ W'.heap.size ∧ Tup4.TAt W' ad k lx a b e0 ∧ Tup3.TAt W' hd zz x h y ∧ CF W' g zz (.int .i64 u) ∧ W'.ownsRow w.heap.size 3 1 (.slice (some ⟨g, 0, none⟩) l c') l (icells (rowL (left ls qs k) l)) ∧ Below w.heap.size w W') := fun W W' ⟨x0, x1, x2, x3, x4, x5, x6, x7, hb⟩ h => ⟨x0.later (h.mono hb.size), x1.later (h.mono hb.size), x2.later (h.mono hb.size), Nat.le_trans x3 h.size, x4.later bA (h.mono hb.size), x5.later bH (h.mono hb.size), x6.later h, own_below x7 h, hb.trans (h.mono hb.size)⟩
    replace S0 : Tup4.TsAt wr w.heap.size (some ad) ps ∧ Tup3.TsAt wr w.heap.size (some hd) hs ∧ IntsAt wr w.heap.size (some bd) qs ∧ w.heap.size ≤ wr.heap.size ∧ Tup4.TAt wr ad k lx a b e0 ∧ Tup3.TAt wr hd zz x h y ∧ CF wr g zz (.int .i64 u) ∧ wr.ownsRow w.heap.size 3 1 (.slice (some ⟨g, 0, none⟩) l c') l (icells (rowL (left ls qs k) l)) ∧ Below w.heap.size w wr := ⟨S0.1, S0.2.1, S0.2.2.1, S0.2.2.2.1, pA, pH, ⟨hcell, hfr⟩, HB, S0.2.2.2.2⟩
    clear pA pB pH HB hcell hfr
    by_cases hv0 : v = 0
    rotate_left
    · have E : Hid (r = false) := Lib.hid (HF.out (by rw [HV.out, decide_eq_false hv0]))
      have hx1 : (v == 0) = false := beq_eq_false_iff_ne.2 hv0
      have hx2 : (v != 0) = true := by simp [hv0]
      clear HF HV HR hw hc HO2 HO3 HU HST
      obtain ⟨_, _, _, _, ⟨_, _, _, _⟩, ⟨_, _, _⟩, ⟨_, _⟩, _, _⟩ := id S0
      go_wp2_with fail
      refine Settle.region (fun W => Tup4.TsAt W w.heap.size (some ad) ps ∧ Tup3.TsAt W w.heap.size (some hd) hs ∧ IntsAt W w.heap.size (some bd) qs ∧ w.heap.size ≤ W.heap.size ∧ Tup4.TAt W ad k lx a b e0 ∧ Tup3.TAt W hd zz x h y ∧ CF W g zz (.int .i64 u) ∧ W.ownsRow w.heap.size 3 1 (.slice (some ⟨g, 0, none⟩) l c') l (icells (rowL (left ls qs k) l)) ∧ Below w.heap.size w W) (by kernel_rfl) (by kernel_rfl) (by kernel_rfl) (by kernel_rfl) (HO _ _ S0 ((Below.refl _ _).drew)) ?_
      clear S0
      repeat (first
        | (refine Settle.Settles.off (by rfl) ?_; simp only [Act.put, List.setIfInBounds_toArray, List.set_cons_zero, List.set_cons_succ])
        | (refine Settle.Settles.quiet (v := ?_) (by rfl) ?_ ?_
           rotate_left
           · (intro W hS; obtain ⟨_, _, _, _, ⟨_, _, _, _⟩, ⟨_, _, _⟩, ⟨_, _⟩, _, _⟩ := hS; go_simp; with_reducible rfl)
           simp only [Act.put, List.setIfInBounds_toArray, List.set_cons_zero, List.set_cons_succ])
        | (refine Settle.Settles.call (v := ?_) (f := ?_) (args := ?_) (by rfl) ?_ ?_ ?_
           rotate_left 3
           · (intro W; go_simp; refine ⟨?_, ?_⟩ <;> with_reducible rfl)
           · (intro W hS; first | (go_at_call 41; (with_reducible refine (Q2.out _).mono ?_); rintro e W1 ⟨rfl, hb⟩; refine ⟨?_, HO _ _ hS hb⟩; with_reducible rfl))
           simp only [Act.put, List.setIfInBounds_toArray, List.set_cons_zero, List.set_cons_succ]))
      refine Settle.Settles.nil ?_
      intro wr S0
      obtain ⟨_, _, _, _, ⟨_, _, _, _⟩, ⟨_, _, _⟩, ⟨_, _⟩, _, _⟩ := id S0
      go_wp2_with fail
      go_ret
      exact ⟨ret_bool E.out.symm, S0.2.2.2.2.2.2.2.2⟩
    subst hv0
    by_cases hu0 : u = 0
    · have E : Hid (r = false) := Lib.hid (HO3.out hu0 (by rw [HV.out]; rfl))
      subst hu0
      clear HF HV HR hw hc HO2 HO3 HU HST hub
      obtain ⟨_, _, _, _, ⟨_, _, _, _⟩, ⟨_, _, _⟩, ⟨_, _⟩, _, _⟩ := id S0
      have HO : ∀ W W' : World, (Tup4.TsAt W w.heap.size (some ad) ps ∧ Tup3.TsAt W w.heap.size (some hd) hs ∧ IntsAt W w.heap.size (some bd) qs ∧ w.heap.size ≤ W.heap.size ∧ Tup4.TAt W ad k lx a b e0 ∧ Tup3.TAt W hd zz x h y ∧ CF W g zz (.int .i64 0) ∧ W.ownsRow w.heap.size 3 1 (.slice (some ⟨g, 0, none⟩) l c') l (icells (rowL (left ls qs k) l)) ∧ Below w.heap.size w W) → Below W.heap.size W W' → (Tup4.TsAt W' w.heap.size (some ad) ps ∧ Tup3.TsAt W' w.heap.size (some hd) hs ∧ IntsAt W' w.heap.size (some bd) qs ∧ w.heap.size ≤ W'.heap.size ∧ Tup4.TAt W' ad k lx a b e0 ∧ Tup3.TAt W' hd zz x h y ∧ CF W' g zz (.int .i64 0) ∧ W'.ownsRow w.heap.size 3 1 (.slice (some ⟨g, 0, none⟩) l c') l (icells (rowL (left ls qs k) l)) ∧ Below w.heap.size w W') := fun W W' ⟨x0, x1, x2, x3, x4, x5, x6, x7, hb⟩ h => ⟨x0.later (h.mono hb.size), x1.later (h.mono hb.size), x2.later (h.mono hb.size), Nat.le_trans x3 h.size, x4.later bA (h.mono hb.size), x5.later bH (h.mono hb.size), x6.later h, own_below x7 h, hb.trans (h.mono hb.size)⟩
      have HO : ∀ W W' : World, (Tup4.TsAt W w.heap.size (some ad) ps ∧ Tup3.TsAt W w.heap.size (some hd) hs ∧ IntsAt W w.heap.size (some bd) qs ∧ w.heap.size ≤ W.heap.size ∧ Tup4.TAt W ad k lx a b e0 ∧ Tup3.TAt W hd zz x h y ∧ CF W g zz (.int .i64 0) ∧ W.ownsRow w.heap.size 3 1 (.slice (some ⟨g, 0, none⟩) l c') l (icells (rowL (left ls qs k) l)) ∧ Below w.heap.size w W) → Below W.heap.size W W' → (Tup4.TsAt W' w.heap.size (some ad) ps ∧ Tup3.TsAt W' w.heap.size (some hd) hs ∧ IntsAt W' w.heap.size (some bd) qs ∧ w.heap.size ≤ W'.heap.size ∧ Tup4.TAt W' ad k lx a b e0 ∧ Tup3.TAt W' hd zz x h y ∧ CF W' g zz (.int .i64 0) ∧ W'.ownsRow w.heap.size 3 1 (.slice (some ⟨g, 0, none⟩) l c') l (icells (rowL (left ls qs k) l)) ∧ Below w.heap.size w W') := HO
      go_wp2_with fail
      refine Settle.region (fun W => Tup4.TsAt W w.heap.size (some ad) ps ∧ Tup3.TsAt W w.heap.size (some hd) hs ∧ IntsAt W w.heap.size (some bd) qs ∧ w.heap.size ≤ W.heap.size ∧ Tup4.TAt W ad k lx a b e0 ∧ Tup3.TAt W hd zz x h y ∧ CF W g zz (.int .i64 0) ∧ W.ownsRow w.heap.size 3 1 (.slice (some ⟨g, 0, none⟩) l c') l (icells (rowL (left ls qs k) l)) ∧ Below w.heap.size w W) (by kernel_rfl) (by kernel_rfl) (by kernel_rfl) (by kernel_rfl) (HO _ _ S0 ((Below.refl _ _).drew)) ?_
      clear S0
      repeat (first
        | (refine Settle.Settles.off (by rfl) ?_; simp only [Act.put, List.setIfInBounds_toArray, List.set_cons_zero, List.set_cons_succ])
        | (refine Settle.Settles.quiet (v := ?_) (by rfl) ?_ ?_
           rotate_left
           · (intro W hS; obtain ⟨_, _, _, _, ⟨_, _, _, _⟩, ⟨_, _, _⟩, ⟨_, _⟩, _, _⟩ := hS; go_simp; with_reducible rfl)
           simp only [Act.put, List.setIfInBounds_toArray, List.set_cons_zero, List.set_cons_succ])
        | (refine Settle.Settles.call (v := ?_) (f := ?_) (args := ?_) (by rfl) ?_ ?_ ?_
           rotate_left 3
           · (intro W; go_simp; refine ⟨?_, ?_⟩ <;> with_reducible rfl)
           · (intro W hS; first | (go_at_call 41; (with_reducible refine (Q2.out _).mono ?_); rintro e W1 ⟨rfl, hb⟩; refine ⟨?_, HO _ _ hS hb⟩; with_reducible rfl))
           simp only [Act.put, List.setIfInBounds_toArray, List.set_cons_zero, List.set_cons_succ]))
      refine Settle.Settles.nil ?_
      intro wr S0
      obtain ⟨_, _, _, _, ⟨_, _, _, _⟩, ⟨_, _, _⟩, ⟨_, _⟩, _, _⟩ := id S0
      go_wp2_with fail
      go_ret
      exact ⟨ret_bool E.out.symm, S0.2.2.2.2.2.2.2.2⟩
    have HO : ∀ W W' : World, (Tup4.TsAt W w.heap.size (some ad) ps ∧ Tup3.TsAt W w.heap.size (some hd) hs ∧ IntsAt W w.heap.size (some bd) qs ∧ w.heap.size ≤ W.heap.size ∧ Tup4.TAt W ad k lx a b e0 ∧ Tup3.TAt W hd zz x h y ∧ CF W g zz (.int .i64 u) ∧ W.ownsRow w.heap.size 3 1 (.slice (some ⟨g, 0, none⟩) l c') l (icells (rowL (left ls qs k) l)) ∧ Below w.heap.size w W) → Below W.heap.size W W' → (Tup4.TsAt W' w.heap.size (some ad) ps ∧ Tup3.TsAt W' w.heap.size (some hd) hs ∧ IntsAt W' w.heap.size (some bd) qs ∧ w.heap.size ≤ W'.heap.size ∧ Tup4.TAt W' ad k lx a b e0 ∧ Tup3.TAt W' hd zz x h y ∧ CF W' g zz (.int .i64 u) ∧ W'.ownsRow w.heap.size 3 1 (.slice (some ⟨g, 0, none⟩) l c') l (icells (rowL (left ls qs k) l)) ∧ Below w.heap.size w W') := fun W W' ⟨x0, x1, x2, x3, x4, x5, x6, x7, hb⟩ h => ⟨x0.later (h.mono hb.size), x1.later (h.mono hb.size), x2.later (h.mono hb.size), Nat.le_trans x3 h.size, x4.later bA (h.mono hb.size), x5.later bH (h.mono hb.size), x6.later h, own_below x7 h, hb.trans (h.mono hb.size)⟩
    have hx4 : (u == 0) = false := beq_eq_false_iff_ne.2 hu0
    have HW : Hid (∀ j, j < k + 1 → fitK ps hs qs j = true) := Lib.hid (fun j hj => by
      rcases Nat.lt_or_ge j k with h1 | h1
      · exact hw.out j h1
      · obtain rfl : j = k := by omega
        rw [HV.out]; rfl)
    have HC := Lib.hid (HST.out hu0)
    have hu1 : IntKind.i64.wrap (u - 1) = u - 1 := IntWalk.i64_in _ (by omega)
    clear HF HV HR hw hc HO3 HST hub
    obtain ⟨_, _, _, _, ⟨_, _, _, _⟩, ⟨_, _, _⟩, ⟨_, _⟩, _, _⟩ := id S0
    go_wp2_with fail
    refine Settle.region (fun W => Tup4.TsAt W w.heap.size (some ad) ps ∧ Tup3.TsAt W w.heap.size (some hd) hs ∧ IntsAt W w.heap.size (some bd) qs ∧ w.heap.size ≤ W.heap.size ∧ Tup4.TAt W ad k lx a b e0 ∧ Tup3.TAt W hd zz x h y ∧ CF W g zz (.int .i64 u) ∧ W.ownsRow w.heap.size 3 1 (.slice (some ⟨g, 0, none⟩) l c') l (icells (rowL (left ls qs k) l)) ∧ Below w.heap.size w W) (by kernel_rfl) (by kernel_rfl) (by kernel_rfl) (by kernel_rfl) (HO _ _ S0 ((Below.refl _ _).drew)) ?_
    clear S0
    repeat (first
      | (refine Settle.Settles.off (by rfl) ?_; simp only [Act.put, List.setIfInBounds_toArray, List.set_cons_zero, List.set_cons_succ])
      | (refine Settle.Settles.quiet (v := ?_) (by rfl) ?_ ?_
         rotate_left
         · (intro W hS; obtain ⟨_, _, _, _, ⟨_, _, _, _⟩, ⟨_, _, _⟩, ⟨_, _⟩, _, _⟩ := hS; go_simp; with_reducible rfl)
         simp only [Act.put, List.setIfInBounds_toArray, List.set_cons_zero, List.set_cons_succ])
      | (refine Settle.Settles.call (v := ?_) (f := ?_) (args := ?_) (by rfl) ?_ ?_ ?_
         rotate_left 3
         · (intro W; go_simp; refine ⟨?_, ?_⟩ <;> with_reducible rfl)
         · (intro W hS; first | (go_at_call 41; (with_reducible refine (Q2.out _).mono ?_); rintro e W1 ⟨rfl, hb⟩; refine ⟨?_, HO _ _ hS hb⟩; with_reducible rfl))
         simp only [Act.put, List.setIfInBounds_toArray, List.set_cons_zero, List.set_cons_succ]))
    refine Settle.Settles.nil ?_
    intro wr S0
    obtain ⟨_, _, _, _, ⟨_, _, _, _⟩, ⟨_, _, _⟩, ⟨_, _⟩, _, _⟩ := id S0
    go_wp2_with fail
    have HB := S0.2.2.2.2.2.2.2.1
    have hfr := HB.frozenAt zz
    have e1 : icells ((rowL (left ls qs k) l).set zz (u - 1)) = (icells (rowL (left ls qs k) l)).set zz (.int .i64 (u - 1)) := by simp [icells, List.map_set]
    have HB2 : Hid ((wr.setCell ⟨g, zz, none⟩ (.int .i64 (u - 1))).ownsRow w.heap.size 3 1 (.slice (some ⟨g, 0, none⟩) l c') l (icells (rowL (left ls qs (k + 1)) l))) := Lib.hid (by
      rw [← HU.out, e1]
      exact (World.ownsRow.stored HB zz (.int .i64 (u - 1))).1)
    have S4 := Lib.hid (HO2 _ _ ⟨S0.1, S0.2.1, S0.2.2.1, S0.2.2.2.1, S0.2.2.2.2.2.2.2.2⟩ (below_set wr w.heap.size g zz (.int .i64 (u - 1)) hbg))
    refine ⟨⟨k + 1, by omega, by go_num, HW, HC, HB2.out, S4.out⟩, ?_⟩
    simp [intOf]
    omega

end Go.Proofs.Ytgelkpaiabhklaa.PlnImpl

