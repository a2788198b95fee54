/-
  The law's copies, sizes and comparisons of slices of numbers that came in, as contracts.
-/
import Derived.Test.YtkcodmafakjkfaaGreatGround
import Derived.Test.YtkcodmafakjkfaaGreatLawRoom
namespace Go.Proofs.YtkcodmafakjkfaaGreat.LawInts
open Go.RowKit Own Ints Blk
open PointOk (ret_bool ret_i64 below1 below2 below3)

theorem infoI : (Tryz.prog.info? 3).map (fun i => (i.zero, i.size, i.bytes)) = some (some (.int .i64 0), 1, 8) := by kernel_rfl
theorem zeros (n : Nat) : (madeCells #[.int .i64 0] n).toList = icells (List.replicate n 0) := by
  apply List.ext_getElem
  · simp [madeCells, icells]
  · intro i h1 h2
    simp [madeCells, icells, Nat.mod_one]

set_option maxRecDepth 100000 in
set_option maxHeartbeats 1600000 in
theorem toIntS (A : Option Addr) (zs : List Int) (n cap : Nat) (w : World) (hl : zs.length = n) (hn : n ≤ 1048576) (hp : IntsAt w w.heap.size A zs) :
    Calls Tryz.prog 37 #[.slice A n cap] w fun e w' => ∃ g, e = .returned (.slice (some ⟨g, 0, none⟩) n n) ∧ Row w' g 3 zs ∧ w.heap.size ≤ g ∧ g < w'.heap.size ∧ Below w.heap.size w w' := by
  obtain ⟨i0, hi, hz0, hz1, hz2⟩ := info_parts infoI
  go_enter Tryz.func37, Tryz.ntmps37
  go_wp2_with (at_make; go_must (refine wpList_make_full _ rfl _ _ 43 rfl w.heap.size 3 i0 (.int .i64 0) 1 Tryz.underlying43 hi hz0 hz1 _ _ _ _ n rfl rfl (by omega) (by omega) ?b2 ?b3 (Nat.le_refl _) ?_))
  case b2 => rw [hz2]; omega
  case b3 => unfold maxLen; omega
  intro w0 hown0 hgr0
  have hb0 : Below w.heap.size w w0 := Below.grown (Below.refl _ _) hgr0 (Nat.le_refl _) (fun g' hg' => by cases hg')
  rw [zeros n] at hown0
  obtain ⟨R0, _, hlt0⟩ := Row.of_owns hown0
  replace hp := hp.later hb0
  clear hown0 hgr0
  go_wp2_with fail
  obtain ⟨g, hg⟩ : ∃ g, w.heap.size = g := ⟨_, rfl⟩
  rw [hg] at hp hb0 R0 hlt0 ⊢
  go_loopw [4] (fun i wr => ∃ (k : Nat) (qs : List Int), k ≤ n ∧ i = .int .i64 k ∧ qs.length = n ∧ Hid (∀ j, j < k → qs[j]? = zs[j]?) ∧ Row wr g 3 qs ∧ IntsAt wr g A zs ∧ g < wr.heap.size ∧ Below g w wr)
    (fun i _ => n - (intOf i).toNat)
  case atStart => exact ⟨0, List.replicate n 0, Nat.zero_le _, rfl, by simp, Lib.hid (fun j hj => absurd hj (by omega)), R0, hp, hlt0, hb0⟩
  case round =>
    clear R0 hp hb0 hlt0
    obtain ⟨k, qs, hk, rfl, hq, hsame, R, hp, hlt, hb⟩ := hrel
    by_cases hkn : k < n
    · obtain ⟨ad, rfl, hbl, c0⟩ := hp k (by omega)
      have hk1 : (k : Int) < (n : Int) := by omega
      have hk0 : (0 : Int) ≤ (k : Int) := by omega
      obtain ⟨p, hpk⟩ : ∃ p, zs[k]'(by omega) = p := ⟨_, rfl⟩
      have HP : Hid (zs[k]? = some p) := Lib.hid (by rw [List.getElem?_eq_getElem (by omega), hpk])
      rw [hpk] at c0
      have HQ := Lib.hid hq
      have HL := Lib.hid hl
      clear hq hl hpk
      obtain ⟨d0, f0⟩ := R.facts k (by rw [HQ.out]; exact hkn)
      have R2 := Lib.hid (R.set k p)
      have hb2 := Lib.hid (hb.setCell (p := ⟨g, k, none⟩) (Nat.le_refl _) (.int .i64 p))
      clear R hb
      go_wp2_with fail
      refine ⟨⟨k + 1, qs.set k p, by omega, by go_num, by rw [List.length_set]; exact HQ.out, Lib.hid ?_, R2.out, hp.later ((Below.refl g wr).setCell (p := ⟨g, k, none⟩) (Nat.le_refl _) (.int .i64 p)), by simpa [World.setCell] using hlt, hb2.out⟩, by simp [intOf]; omega⟩
      intro j hj
      rcases Nat.lt_or_ge j k with h | h
      · rw [List.getElem?_set_ne (by omega)]; exact hsame.out j h
      · obtain rfl : j = k := by omega
        rw [HP.out, List.getElem?_set_self (by rw [HQ.out]; exact hkn)]
    · obtain rfl : k = n := by omega
      obtain rfl : qs = zs := by
        apply List.ext_getElem?
        intro j
        rcases Nat.lt_or_ge j k with h | h
        · exact hsame.out j h
        · rw [List.getElem?_eq_none (by omega), List.getElem?_eq_none (by omega)]
      have HL := Lib.hid hl
      clear hl hq hp
      go_wp2_with fail
      go_ret
      exact ⟨g, rfl, R, Nat.le_refl _, hlt, hb⟩

set_option maxRecDepth 100000 in
set_option maxHeartbeats 1600000 in
theorem eqIntS_same (A B : Option Addr) (zs : List Int) (n ca cb : Nat) (w : World) (hl : zs.length = n) (hn : n ≤ 1048576) (hA : IntsAt w w.heap.size A zs) (hB : IntsAt w w.heap.size B zs) :
    Calls Tryz.prog 29 #[.slice A n ca, .slice B n cb] w fun e w' => e = .returned (.bool true) ∧ Below w.heap.size w w' := by
  go_enter Tryz.func29, Tryz.ntmps29
  go_wp2_with fail
  go_loopw [5] (fun i wr => ∃ k : Nat, k ≤ n ∧ i = .int .i64 k ∧ IntsAt wr w.heap.size A zs ∧ IntsAt wr w.heap.size B zs ∧ Below w.heap.size w wr)
    (fun i _ => n - (intOf i).toNat)
  case atStart => exact ⟨0, Nat.zero_le _, rfl, hA, hB, Below.refl _ _⟩
  case round =>
    clear hA hB
    obtain ⟨k, hk, rfl, hA, hB, hb⟩ := hrel
    by_cases hkn : k < n
    · obtain ⟨p, hpk⟩ : ∃ p, zs[k]? = some p := ⟨_, List.getElem?_eq_getElem (by omega)⟩
      obtain ⟨ad, eA, bA, pA⟩ := hA.get hpk
      obtain ⟨ae, eB, bB, pB⟩ := hB.get hpk
      subst eA eB
      have hk1 : (k : Int) < (n : Int) := by omega
      have hk0 : (0 : Int) ≤ (k : Int) := by omega
      have HL := Lib.hid hl
      clear hl hpk
      have HO : ∀ W W' : World, (IntsAt W w.heap.size (some ad) zs ∧ IntsAt W w.heap.size (some ae) zs ∧ IntAt W ad k p ∧ IntAt W ae k p ∧ Below w.heap.size w W) → Below W.heap.size W W' → (IntsAt W' w.heap.size (some ad) zs ∧ IntsAt W' w.heap.size (some ae) zs ∧ IntAt W' ad k p ∧ IntAt W' ae k p ∧ Below w.heap.size w W') := fun W W' ⟨x0, x1, x2, x3, hb⟩ h => ⟨x0.later (h.mono hb.size), x1.later (h.mono hb.size), x2.later bA (h.mono hb.size), x3.later bB (h.mono hb.size), hb.trans (h.mono hb.size)⟩
      have S0 := And.intro hA (And.intro hB (And.intro pA (And.intro pB hb)))
      clear hA hB pA pB hb
      go_wp2_with fail
      refine Settle.region (fun W => IntsAt W w.heap.size (some ad) zs ∧ IntsAt W w.heap.size (some ae) zs ∧ IntAt W ad k p ∧ IntAt W ae k p ∧ Below w.heap.size w W) (by kernel_rfl) (by kernel_rfl) (by kernel_rfl) (by kernel_rfl) (HO _ _ S0 ((Below.refl _ _).drew)) ?_
      clear S0
      repeat (first
        | (refine Settle.Settles.off (by rfl) ?_; simp only [Act.put, List.setIfInBounds_toArray, List.set_cons_zero, List.set_cons_succ])
        | (refine Settle.Settles.quiet (v := ?_) (by rfl) ?_ ?_
           rotate_left
           · (intro W hS; obtain ⟨_, _, ⟨_, _⟩, ⟨_, _⟩, _⟩ := hS; go_simp; with_reducible rfl)
           simp only [Act.put, List.setIfInBounds_toArray, List.set_cons_zero, List.set_cons_succ])
        | (refine Settle.Settles.call (v := ?_) (f := ?_) (args := ?_) (by rfl) ?_ ?_ ?_
           rotate_left 3
           · (intro W; go_simp; refine ⟨?_, ?_⟩ <;> with_reducible rfl)
           · (intro W hS; fail)
           simp only [Act.put, List.setIfInBounds_toArray, List.set_cons_zero, List.set_cons_succ]))
      refine Settle.Settles.nil ?_
      intro wr S0
      obtain ⟨_, _, ⟨_, _⟩, ⟨_, _⟩, _⟩ := id S0
      go_wp2_with fail
      exact ⟨⟨k + 1, by omega, by go_num, S0.1, S0.2.1, S0.2.2.2.2⟩, by simp [intOf]; omega⟩
    · obtain rfl : k = n := by omega
      clear hA hB
      go_wp2_with fail
      go_ret
      exact ⟨rfl, hb⟩

end Go.Proofs.YtkcodmafakjkfaaGreat.LawInts

