/-
  What slices.Repeat makes of one number and a count from 1 to 7.
-/
import Derived.Test.YtcfoleiooohbhaaGround
import Derived.OwnWalk
import Derived.Laws.CopyOwn
import Derived.Laws.OwnMore
import Derived.Deep.RegionLaw
import Derived.Deep.RegionHeld3
namespace Go.Proofs.Ytcfoleiooohbhaa.HouRep
open Go.RowKit PointOk Blk Pts

theorem infoI : (Try.prog.info? 3).map (fun i => (i.zero, i.size, i.bytes)) = some (some (.int .i64 0), 1, 8) := by kernel_rfl

set_option maxHeartbeats 1600000 in
theorem mul (H : Nat) (h1 : 1 ≤ H) (h7 : H ≤ 7) (w : World) : Calls Try.prog 66 #[.int .u64 1, .int .u64 H] w fun e w' => e = .returned (.tuple #[.int .u64 0, .int .u64 H]) ∧ w = w' := by
  have : H = 1 ∨ H = 2 ∨ H = 3 ∨ H = 4 ∨ H = 5 ∨ H = 6 ∨ H = 7 := by omega
  rcases this with rfl | rfl | rfl | rfl | rfl | rfl | rfl
  all_goals
    go_enter Try.func66, Try.ntmps66
    go_wp2
    go_ret2
    exact ⟨by kernel_rfl, rfl⟩

theorem fill (H k m : Nat) (v z : Value) : splice (List.replicate k v ++ List.replicate (H - k) z) k (List.replicate m v) = List.replicate (k + m) v ++ List.replicate (H - (k + m)) z := by
  unfold splice
  have h1 : (List.replicate k v ++ List.replicate (H - k) z).take k = List.replicate k v := by
    rw [List.take_append_of_le_length (by simp)]; exact List.take_of_length_le (by simp)
  have h2 : (List.replicate k v ++ List.replicate (H - k) z).drop (k + (List.replicate m v).length) = List.replicate (H - (k + m)) z := by
    rw [List.drop_append, List.drop_of_length_le (by simp), List.nil_append, List.drop_replicate]
    congr 1
    simp
    omega
  rw [h1, h2, ← List.append_assoc, List.replicate_append_replicate]

theorem holds_of_owns {w : World} {b g n : Nat} {T : TypeId} {cs : List Value} (h : w.ownsRow b T 1 (.slice (some ⟨g, 0, none⟩) n n) n cs) : Holds w g cs.toArray T ∧ b ≤ g := by
  rcases h.2 with ⟨h', _⟩ | ⟨g', cap', cu, h', hb, hg, _, _, hs, ht⟩
  · cases h'
  · injection h' with h1 h2 h3
    injection h1 with h1
    injection h1 with h1
    subst h1; subst h3
    refine ⟨?_, hb⟩
    unfold Holds
    rw [hg, ← ht, List.take_of_length_le (by simp [hs])]

set_option maxRecDepth 100000 in
set_option maxHeartbeats 1600000 in
theorem repeatI (b H : Nat) (h1 : 1 ≤ H) (h7 : H ≤ 7) (w : World) (hc : w.cell? ⟨b, 0, none⟩ = some (.int .i64 (-1))) :
    Calls Try.prog 57 #[.slice (some ⟨b, 0, none⟩) 1 1, .int .i64 H] w fun e w' => ∃ g, e = .returned (.slice (some ⟨g, 0, none⟩) H H) ∧
      Holds w' g (List.replicate H (.int .i64 (-1))).toArray 3 ∧ w.heap.size ≤ g ∧ Below w.heap.size w w' := by
  have hbl : b < w.heap.size := World.block_lt_of_cell? _ _ hc
  have QM := Lib.hid fun w => mul H h1 h7 w
  obtain ⟨i0, hi, hz0, hz1, hz2⟩ := info_parts infoI
  have u1 : IntKind.u64.wrap (H : Int) = H := by simp [IntKind.wrap, IntKind.bits, IntKind.signed]; omega
  have u2 : IntKind.i64.wrap (H : Int) = H := IntWalk.i64_in _ (by omega)
  have k1 : ¬ ((H : Int) < 0) := by omega
  have k2 : ¬ ((9223372036854775807 : Int) < H) := by omega
  go_enter Try.func57, Try.ntmps57
  go_wp2_with fail
  refine (QM.out _).mono ?_
  rintro e w_ ⟨rfl, rfl⟩
  clear QM
  go_wp2_with (at_make; refine wpList_make_full _ rfl _ _ 31 rfl w.heap.size 3 i0 (.int .i64 0) 1 Try.underlying31 hi hz0 hz1 _ _ _ _ H rfl rfl (by omega) (by omega) ?b2 ?b3 (Nat.le_refl _) ?_)
  case b2 => rw [hz2]; omega
  case b3 => unfold maxLen; omega
  intro w1 hown hgr
  have hb : Below w.heap.size w w1 := Below.grown (Below.refl _ _) hgr (Nat.le_refl _) (fun g' hg' => by cases hg')
  have e0 : (madeCells #[Value.int IntKind.i64 0] H).toList = List.replicate H (.int .i64 0) := toList_madeCells_one _ _
  rw [e0] at hown
  obtain ⟨hG, hle⟩ := holds_of_owns hown
  have hc1 := (hb.cell (p := ⟨b, 0, none⟩) hbl).trans hc
  clear hown hgr hc e0 hi hz0 hz1 hz2
  obtain ⟨g, hgg⟩ : ∃ g, w.heap.size = g := ⟨_, rfl⟩
  have hbg : b ≠ g := by omega
  rw [hgg] at hG hle hb ⊢
  have hS : (Try.prog.info? 3).map (·.size) = some 1 := by kernel_rfl
  go_wp2_with (refine wpList_copy_splice rfl _ _ 31 31 rfl 3 Try.underlying31 hS _ _ _ _ _ _ rfl rfl g 0 (List.replicate H (.int .i64 0)) 3 hG [.int .i64 (-1)] ?n1 ?p1 ?f1 ?o1 g w hb (Nat.le_refl _) ?_)
  case n1 => show 1 = min 1 H; omega
  case p1 =>
    intro j v hj
    match j, hj with
    | 0, hj => simp at hj; subst hj; exact hc1
  case f1 => simp; omega
  case o1 => intro v hv; simp at hv; subst hv; rfl
  intro w2 hG2 hb2
  have hG3 : Hid (Holds w2 g (List.replicate 1 (Value.int .i64 (-1)) ++ List.replicate (H - 1) (Value.int .i64 0)).toArray 3) := Lib.hid (by
    have e := fill H 0 1 (Value.int .i64 (-1)) (Value.int .i64 0)
    have h := hG2.out
    simp only [List.replicate_zero, List.nil_append, Nat.sub_zero, Nat.zero_add] at e
    rw [← e]
    exact h)
  clear hG hG2 hb hc1
  go_wp2_with fail
  go_loopw [8] (fun i wr => ∃ k : Nat, 1 ≤ k ∧ k ≤ H ∧ i = .int .i64 k ∧ Hid (Holds wr g (List.replicate k (Value.int .i64 (-1)) ++ List.replicate (H - k) (Value.int .i64 0)).toArray 3) ∧ Below g w wr)
    (fun i _ => H - (intOf i).toNat)
  case atStart => exact ⟨1, Nat.le_refl _, h1, rfl, hG3, hb2⟩
  case round =>
    clear hG3 hb2
    obtain ⟨k, hk1, hk, rfl, HG, hb⟩ := hrel
    by_cases hkn : k < H
    rotate_left
    · obtain rfl : k = H := by omega
      have hG := HG.out
      simp only [Nat.sub_self, List.replicate_zero, List.append_nil] at hG
      clear HG
      have hG := Lib.hid hG
      go_wp2_with fail
      go_ret
      exact ⟨g, rfl, hG.out, Nat.le_of_eq hgg, by rw [hgg]; exact hb⟩
    · have hk2 : (k : Int) < (H : Int) := by omega
      have hG := HG.out
      obtain ⟨m, hm⟩ : ∃ m, m = min k (H - k) := ⟨_, rfl⟩
      have hfill := Lib.hid (fill H k m (Value.int .i64 (-1)) (Value.int .i64 0))
      obtain ⟨cs, hcs⟩ : ∃ cs, cs = List.replicate m (Value.int .i64 (-1)) := ⟨_, rfl⟩
      have hcl : cs.length = m := by rw [hcs]; simp
      have hG' : wr.drew.heap[g]? = some (.cells (List.replicate k (Value.int .i64 (-1)) ++ List.replicate (H - k) (Value.int .i64 0)).toArray 3 (0, 0)) := hG
      have hd : Below g w wr.drew := hb.drew
      have hb' : ∀ j v, cs[j]? = some v → wr.drew.cell? ⟨g, j, none⟩ = some v := fun j v hj => by
        have hjm : j < k := by
          have := (List.getElem?_eq_some_iff.1 hj).1
          rw [hcl, hm] at this
          exact Nat.lt_of_lt_of_le this (Nat.min_le_left _ _)
        have e := cell_of_row wr.drew g j _ _ _ hG'
        rw [e, List.getElem?_toArray, List.getElem?_append_left (by simp; omega)]
        have e2 := List.eq_of_mem_replicate (a := Value.int .i64 (-1)) (n := m) (b := v) (by rw [← hcs]; exact List.mem_of_getElem? hj)
        rw [e2]
        simp [hjm]
      have ho : ∀ v ∈ cs, v.oneCell' = true := fun v hv => by rw [hcs] at hv; rw [List.eq_of_mem_replicate hv]; rfl
      have HM := Lib.hid hm
      have hcl2 : cs.length = Nat.min k (H - k) := by rw [hcl, hm]
      clear hm
      obtain ⟨xs, hxs⟩ : ∃ xs, List.replicate k (Value.int .i64 (-1)) ++ List.replicate (H - k) (Value.int .i64 0) = xs := ⟨_, rfl⟩
      have hxl : xs.length = H := by rw [← hxs]; simp; omega
      rw [hxs] at hG' hfill
      obtain ⟨N, hN⟩ : ∃ N, k + m = N := ⟨_, rfl⟩
      have hml : N ≤ H := by have := HM.out; omega
      have hmp : k < N := by have := HM.out; omega
      have hwr : IntKind.i64.wrap ((k : Int) + (m : Int)) = (N : Int) := by rw [show (k : Int) + (m : Int) = (N : Int) by omega]; exact IntWalk.i64_in _ (by omega)
      rw [hN] at hfill
      have hkmH : k + m ≤ H := by omega
      clear hN
      have hHk : ¬ H = k := by omega
      have HCS := Lib.hid hcs
      clear HG hcs hxs hG hb
      go_wp2_with fail
      refine wp_region_held_drew (S := fun _ => True) (by kernel_rfl) trivial (fun hHeld => ?_)
      refine wpAnyH_take (i := 0) (oi := ⟨some 38, _, _, _, _, _⟩) (v := ?_) rfl (by kernel_rfl) (by kernel_rfl) (by kernel_rfl) (fun _ _ _ h => h) (Or.inl ⟨by rfl, ?_⟩) (by assumption) ?_
      rotate_left 1
      · (intro w hSw; go_simp; try with_reducible rfl)
      try simp only [Act.put, List.setIfInBounds_toArray, List.set_cons_zero, List.set_cons_succ]
      refine wpAnyH_take (i := 1) (oi := ⟨some 39, _, _, _, _, _⟩) (v := ?_) rfl (by kernel_rfl) (by kernel_rfl) (by kernel_rfl) (fun _ _ _ h => h) (Or.inl ⟨by rfl, ?_⟩) (by assumption) ?_
      rotate_left 1
      · (intro w hSw; go_simp; try with_reducible rfl)
      try simp only [Act.put, List.setIfInBounds_toArray, List.set_cons_zero, List.set_cons_succ]
      refine wpAnyH_take (i := 2) (oi := ⟨some 40, _, _, _, _, _⟩) (v := ?_) rfl (by kernel_rfl) (by kernel_rfl) (by kernel_rfl) (fun _ _ _ h => h) (Or.inl ⟨by rfl, ?_⟩) (by assumption) ?_
      rotate_left 1
      · (intro w hSw; go_simp; try with_reducible rfl)
      try simp only [Act.put, List.setIfInBounds_toArray, List.set_cons_zero, List.set_cons_succ]
      refine wpAnyH_take (i := 3) (oi := ⟨some 41, _, _, _, _, _⟩) (v := ?_) rfl (by kernel_rfl) (by kernel_rfl) (by kernel_rfl) (fun _ _ _ h => h) (Or.inl ⟨by rfl, ?_⟩) (by assumption) ?_
      rotate_left 1
      · (intro w hSw; go_simp; try with_reducible rfl)
      try simp only [Act.put, List.setIfInBounds_toArray, List.set_cons_zero, List.set_cons_succ]
      refine wpAnyH_take (i := 4) (oi := ⟨some 42, _, _, _, _, _⟩) (v := ?_) rfl (by kernel_rfl) (by kernel_rfl) (by kernel_rfl) (fun _ _ _ h => h) (Or.inl ⟨by rfl, ?_⟩) (by assumption) ?_
      rotate_left 1
      · (intro w hSw; go_simp; try with_reducible rfl)
      try simp only [Act.put, List.setIfInBounds_toArray, List.set_cons_zero, List.set_cons_succ]
      refine wpAnyH_take (i := 5) (oi := ⟨some 43, _, _, _, _, _⟩) (v := ?_) rfl (by kernel_rfl) (by kernel_rfl) (by kernel_rfl) (fun _ _ _ h => h) (Or.inl ⟨by rfl, ?_⟩) (by assumption) ?_
      rotate_left 1
      · (intro w hSw; go_simp; try with_reducible rfl)
      try simp only [Act.put, List.setIfInBounds_toArray, List.set_cons_zero, List.set_cons_succ]
      refine wpAnyH_take (i := 6) (oi := ⟨some 44, _, _, _, _, _⟩) (v := ?_) rfl (by kernel_rfl) (by kernel_rfl) (by kernel_rfl) (fun _ _ _ h => h) (Or.inl ⟨by rfl, ?_⟩) (by assumption) ?_
      rotate_left 1
      · (intro w hSw; go_simp; try with_reducible rfl)
      try simp only [Act.put, List.setIfInBounds_toArray, List.set_cons_zero, List.set_cons_succ]
      refine wpAnyH_ready (rs := [7]) (by kernel_rfl) (by simp) ?_
      refine AllReadyH.cons (o := ⟨some 45, _, _, _, _, _⟩) rfl (fun K hK => ?_) ?_
      rotate_left 1
      · exact AllReadyH.nil
      refine step_copy_splice rfl (.tmp 41) (.tmp 44) 31 31 rfl 3 Try.underlying31 hS (some ⟨g, k, none⟩) (some ⟨g, 0, none⟩) (H - k) (H - k) k H rfl rfl g k xs 3 hG' cs hcl2 (fun _ => ⟨rfl, ⟨g, 0, none⟩, rfl, fun j v hj => ?_⟩) ?_ ho g w hd (Nat.le_refl _) ?_
      · have e : (⟨g, 0, none⟩ : Addr).add j = ⟨g, j, none⟩ := Pts.add_head g j
        rw [e]; exact hb' j v hj
      · omega
      intro w4 hg4 hb4
      have hg5 : Hid (Holds w4 g (List.replicate N (Value.int .i64 (-1)) ++ List.replicate (H - N) (Value.int .i64 0)).toArray 3) := Lib.hid (by
        have h := hg4.out
        have e : cs = List.replicate m (Value.int .i64 (-1)) := HCS.out
        rw [e, hfill.out] at h
        exact h)
      rw [hcl]
      refine hK.out _ _ trivial (fun hHeld => ?_)
      clear hK K hg4 hG' hd
      simp only [Act.put, List.setIfInBounds_toArray, List.set_cons_zero, List.set_cons_succ]
      refine wpAnyH_take (i := 8) (oi := ⟨some 46, _, _, _, _, _⟩) (v := ?_) rfl (by kernel_rfl) (by kernel_rfl) (by kernel_rfl) (fun _ _ _ h => h) (Or.inl ⟨by rfl, ?_⟩) (by assumption) ?_
      rotate_left 1
      · (intro w hSw; go_simp; try with_reducible rfl)
      try simp only [Act.put, List.setIfInBounds_toArray, List.set_cons_zero, List.set_cons_succ]
      refine wpAnyH_take (i := 9) (oi := ⟨some 8, _, _, _, _, _⟩) (v := ?_) rfl (by kernel_rfl) (by kernel_rfl) (by kernel_rfl) (fun _ _ _ h => h) (Or.inl ⟨by rfl, ?_⟩) (by assumption) ?_
      rotate_left 1
      · (intro w hSw; go_simp; try with_reducible rfl)
      try simp only [Act.put, List.setIfInBounds_toArray, List.set_cons_zero, List.set_cons_succ]
      refine wpAnyH_done (by kernel_rfl) ?_ _
      go_wp2_with fail
      first
        | exact ⟨⟨N, by omega, hml, rfl, hg5, hb4⟩, by simp [intOf]; omega⟩
        | (go_roundw <;> first | exact ⟨N, by omega, hml, rfl, hg5, hb4⟩ | (simp [intOf]; omega))
end Go.Proofs.Ytcfoleiooohbhaa.HouRep
