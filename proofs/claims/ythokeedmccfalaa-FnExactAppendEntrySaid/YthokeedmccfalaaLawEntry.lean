/-
  The law's own copy of a Entry, and of a slice of them, as contracts.
-/
import Derived.Test.YthokeedmccfalaaGround
import Derived.Test.YthokeedmccfalaaLawRoom
import Derived.Test.YthokeedmccfalaaTupISI
import Derived.Laws.IdiomStrings
import Derived.WalkKit

namespace Go.Proofs.Ythokeedmccfalaa.LawEntry
open Go.RowKit PointOk Blk TupISI

theorem facts {w : World} {k : Nat} {v0 v1 v2 : Value} {T : TypeId} (h : Holds w k #[v0, v1, v2] T) :
    (w.cell? ⟨k, 0, none⟩ = some v0 ∧ w.cell? ⟨k, 1, none⟩ = some v1 ∧ w.cell? ⟨k, 2, none⟩ = some v2) ∧ w.frozen? ⟨k, 0, none⟩ = false ∧ w.frozen? ⟨k, 1, none⟩ = false ∧ w.frozen? ⟨k, 2, none⟩ = false := by
  have c0 := cell_of_row w k 0 _ _ _ h
  have c1 := cell_of_row w k 1 _ _ _ h
  have c2 := cell_of_row w k 2 _ _ _ h
  unfold Holds at h
  simp at c0 c1 c2
  exact ⟨⟨c0, c1, c2⟩, by simp [World.frozen?, h], by simp [World.frozen?, h], by simp [World.frozen?, h]⟩

set_option maxHeartbeats 800000 in
theorem toEntry (z0 : Int) (z1 : ByteArray) (z2 : Int) (w : World) : Calls Try.prog 58 #[.agg #[.int .i64 z0, .string z1, .int .i64 z2]] w fun e w' => e = .returned (.agg #[.int .i64 z0, .string z1, .int .i64 z2]) ∧ Below w.heap.size w w' := by
  go_enter Try.func58, Try.ntmps58
  go_wp2_with fail
  refine bodyPost_ret (v := .agg #[.int .i64 z0, .string z1, .int .i64 z2]) (by simp [results, Try.results58, go_sem]) rfl ⟨rfl, ?_⟩
  exact below3 _ _ _ _

theorem infoEntry : (Try.prog.info? 90).map (fun i => (i.zero, i.size, i.bytes)) = some (some (.agg #[.int .i64 0, .string ⟨#[]⟩, .int .i64 0]), 3, 32) := by kernel_rfl
set_option maxHeartbeats 800000 in
theorem toEntryS (A : Option Addr) (ps : List Tu) (n cap : Nat) (w : World) (hl : ps.length = n) (hn : n ≤ 1048576) (hp : TsAt w w.heap.size A ps) :
    Calls Try.prog 12 #[.slice A n cap] w fun e w' => ∃ g, e = .returned (.slice (some ⟨g, 0, none⟩) n n) ∧ Row w' g 90 ps ∧ w.heap.size ≤ g ∧ g < w'.heap.size ∧ Below w.heap.size w w' := by
  obtain ⟨i0, hi, hz0, hz1, hz2⟩ := info_parts infoEntry
  go_enter Try.func12, Try.ntmps12
  go_wp2_with (at_make; go_must (refine wpList_make_full _ rfl _ _ 24 rfl w.heap.size 90 i0 (.agg #[.int .i64 0, .string ⟨#[]⟩, .int .i64 0]) 3 Try.underlying24 hi hz0 hz1 _ _ _ _ n rfl rfl (by omega) (by omega) ?b2 ?b3 (Nat.le_refl _) ?_))
  case b2 => rw [hz2]; omega
  case b3 => unfold maxLen; omega
  intro w0 hown0 hgr0
  have hb0 : Below w.heap.size w w0 := Below.grown (Below.refl _ _) hgr0 (Nat.le_refl _) (fun g' hg' => by cases hg')
  rw [zeros n] at hown0
  obtain ⟨R0, _, hlt0⟩ := Row.of_owns hown0
  replace hp := hp.later hb0
  clear hown0 hgr0
  go_wp2_with fail
  obtain ⟨g, hg⟩ : ∃ g, w.heap.size = g := ⟨_, rfl⟩
  rw [hg] at hp hb0 R0 hlt0 ⊢
  go_loopw [4] (fun i wr => ∃ (k : Nat) (qs : List Tu), k ≤ n ∧ i = .int .i64 k ∧ qs.length = n ∧ Hid (∀ j, j < k → qs[j]? = ps[j]?) ∧ Row wr g 90 qs ∧ TsAt wr g A ps ∧ g < wr.heap.size ∧ Below g w wr)
    (fun i _ => n - (intOf i).toNat)
  case atStart => exact ⟨0, List.replicate n (0, ⟨#[]⟩, 0), Nat.zero_le _, rfl, by simp, Lib.hid (fun j hj => absurd hj (by omega)), R0, hp, hlt0, hb0⟩
  case round =>
    clear R0 hp hb0 hlt0
    obtain ⟨k, qs, hk, rfl, hq, hsame, R, hp, hlt, hb⟩ := hrel
    by_cases hkn : k < n
    · obtain ⟨ad, rfl, hbl, c0, c1, c2⟩ := hp k (by omega)
      have hk1 : (k : Int) < (n : Int) := by omega
      obtain ⟨p, hpk⟩ : ∃ p, ps[k]'(by omega) = p := ⟨_, rfl⟩
      have HP : Hid (ps[k]? = some p) := Lib.hid (by rw [List.getElem?_eq_getElem (by omega), hpk])
      rw [hpk] at c0 c1 c2
      have HQ := Lib.hid hq
      have HL := Lib.hid hl
      clear hq hl hpk
      obtain ⟨z0, z1, z2⟩ := p
      go_wp2_with fail
      refine (toEntry z0 z1 z2 _).mono ?_
      rintro e w1 ⟨rfl, hb1⟩
      replace R := R.below hb1 hlt
      replace hp := hp.later (hb1.mono (Nat.le_of_lt hlt))
      replace hb := hb.trans (hb1.mono (Nat.le_of_lt hlt))
      replace hlt := Nat.lt_of_lt_of_le hlt hb1.size
      clear hb1
      obtain ⟨⟨d0, d1, d2⟩, f0, f1, f2⟩ := R.facts k (by rw [HQ.out]; exact hkn)
      have R2 := Lib.hid (R.set k z0 z1 z2)
      have hb2 := Lib.hid (((hb.setCell (p := ⟨g, k * 3, none⟩) (Nat.le_refl _) (.int .i64 z0)).setCell (p := ⟨g, k * 3 + 1, none⟩) (Nat.le_refl _) (.string z1)).setCell (p := ⟨g, k * 3 + 2, none⟩) (Nat.le_refl _) (.int .i64 z2))
      clear R hb
      go_wp2_with fail
      refine ⟨⟨k + 1, qs.set k (z0, z1, z2), by omega, by go_num, by rw [List.length_set]; exact HQ.out, Lib.hid ?_, R2.out, hp.later ((((Below.refl g w1).setCell (p := ⟨g, k * 3, none⟩) (Nat.le_refl _) (.int .i64 z0)).setCell (p := ⟨g, k * 3 + 1, none⟩) (Nat.le_refl _) (.string z1)).setCell (p := ⟨g, k * 3 + 2, none⟩) (Nat.le_refl _) (.int .i64 z2)), by simpa [World.setCell] using hlt, hb2.out⟩, by simp [intOf]; omega⟩
      intro j hj
      rcases Nat.lt_or_ge j k with h | h
      · rw [List.getElem?_set_ne (by omega)]; exact hsame.out j h
      · obtain rfl : j = k := by omega
        rw [HP.out, List.getElem?_set_self (by rw [HQ.out]; exact hkn)]
    · obtain rfl : k = n := by omega
      obtain rfl : qs = ps := by
        apply List.ext_getElem?
        intro j
        rcases Nat.lt_or_ge j k with h | h
        · exact hsame.out j h
        · rw [List.getElem?_eq_none (by omega), List.getElem?_eq_none (by omega)]
      have HL := Lib.hid hl
      clear hl hq hp
      go_wp2_with fail
      go_ret
      exact ⟨g, rfl, R, Nat.le_refl _, hlt, hb⟩

set_option maxHeartbeats 800000 in
theorem eqEntry_same (z0 : Int) (z1 : ByteArray) (z2 : Int) (w : World) :
    Calls Try.prog 64 #[.agg #[.int .i64 z0, .string z1, .int .i64 z2], .agg #[.int .i64 z0, .string z1, .int .i64 z2]] w fun e w' => e = .returned (.bool true) ∧ Below w.heap.size w w' := by
  go_enter Try.func64, Try.ntmps64
  go_wp2_with fail
  go_ret
  exact ⟨rfl, below2 _ _ _⟩

set_option maxHeartbeats 800000 in
theorem eqEntryS_same (A B : Option Addr) (ps : List Tu) (n ca cb : Nat) (w : World) (hl : ps.length = n) (hn : n ≤ 1048576) (hA : TsAt w w.heap.size A ps) (hB : TsAt w w.heap.size B ps) :
    Calls Try.prog 14 #[.slice A n ca, .slice B n cb] w fun e w' => e = .returned (.bool true) ∧ Below w.heap.size w w' := by
  go_enter Try.func14, Try.ntmps14
  go_wp2_with fail
  go_loopw [5] (fun i wr => ∃ k : Nat, k ≤ n ∧ i = .int .i64 k ∧ TsAt wr w.heap.size A ps ∧ TsAt wr w.heap.size B ps ∧ Below w.heap.size w wr)
    (fun i _ => n - (intOf i).toNat)
  case atStart => exact ⟨0, Nat.zero_le _, rfl, hA, hB, Below.refl _ _⟩
  case round =>
    clear hA hB
    obtain ⟨k, hk, rfl, hA, hB, hb⟩ := hrel
    by_cases hkn : k < n
    · obtain ⟨p, hpk⟩ : ∃ p, ps[k]'(by omega) = p := ⟨_, rfl⟩
      obtain ⟨ad, eA, bA, pA⟩ := hA.at_ k (by omega)
      obtain ⟨ae, eB, bB, pB⟩ := hB.at_ k (by omega)
      rw [hpk] at pA pB
      subst eA eB
      obtain ⟨z0, z1, z2⟩ := p
      have hk1 : (k : Int) < (n : Int) := by omega
      have HL := Lib.hid hl
      clear hl hpk
      have HO : ∀ W W' : World, (TsAt W w.heap.size (some ad) ps ∧ TsAt W w.heap.size (some ae) ps ∧ TAt W ad k z0 z1 z2 ∧ TAt W ae k z0 z1 z2 ∧ Below w.heap.size w W) → Below W.heap.size W W' → (TsAt W' w.heap.size (some ad) ps ∧ TsAt W' w.heap.size (some ae) ps ∧ TAt W' ad k z0 z1 z2 ∧ TAt W' ae k z0 z1 z2 ∧ Below w.heap.size w W') := fun W W' ⟨x0, x1, x2, x3, hb⟩ h => ⟨x0.later (h.mono hb.size), x1.later (h.mono hb.size), x2.later bA (h.mono hb.size), x3.later bB (h.mono hb.size), hb.trans (h.mono hb.size)⟩
      have S0 : TsAt wr w.heap.size (some ad) ps ∧ TsAt wr w.heap.size (some ae) ps ∧ TAt wr ad k z0 z1 z2 ∧ TAt wr ae k z0 z1 z2 ∧ Below w.heap.size w wr := ⟨hA, hB, pA, pB, hb⟩
      clear hA hB pA pB hb
      obtain ⟨_, _, ⟨_, _, _⟩, ⟨_, _, _⟩, _⟩ := id S0
      go_wp2_with fail
      refine Settle.region (fun W => TsAt W w.heap.size (some ad) ps ∧ TsAt W w.heap.size (some ae) ps ∧ TAt W ad k z0 z1 z2 ∧ TAt W ae k z0 z1 z2 ∧ Below w.heap.size w W) (by kernel_rfl) (by kernel_rfl) (by kernel_rfl) (by kernel_rfl) (HO _ _ S0 ((Below.refl _ _).drew)) ?_
      clear S0
      repeat (first
        | (refine Settle.Settles.off (by rfl) ?_; simp only [Act.put, List.setIfInBounds_toArray, List.set_cons_zero, List.set_cons_succ])
        | (refine Settle.Settles.quiet (v := ?_) (by rfl) ?_ ?_
           rotate_left
           · (intro W hS; obtain ⟨_, _, ⟨_, _, _⟩, ⟨_, _, _⟩, _⟩ := hS; go_simp; with_reducible rfl)
           simp only [Act.put, List.setIfInBounds_toArray, List.set_cons_zero, List.set_cons_succ])
        | (refine Settle.Settles.call (v := ?_) (f := ?_) (args := ?_) (by rfl) ?_ ?_ ?_
           rotate_left 3
           · (intro W; go_simp; refine ⟨?_, ?_⟩ <;> with_reducible rfl)
           · (intro W hS; first | (go_at_call 64; (with_reducible refine (eqEntry_same z0 z1 z2 _).mono ?_); rintro e W1 ⟨rfl, hb⟩; refine ⟨?_, HO _ _ hS hb⟩; with_reducible rfl))
           simp only [Act.put, List.setIfInBounds_toArray, List.set_cons_zero, List.set_cons_succ]))
      refine Settle.Settles.nil ?_
      intro wr S0
      obtain ⟨_, _, ⟨_, _, _⟩, ⟨_, _, _⟩, _⟩ := id S0
      go_wp2_with fail
      exact ⟨⟨k + 1, by omega, by go_num, S0.1, S0.2.1, S0.2.2.2.2⟩, by simp [intOf]; omega⟩
    · obtain rfl : k = n := by omega
      clear hA hB
      go_wp2_with fail
      go_ret
      exact ⟨rfl, hb⟩
end Go.Proofs.Ythokeedmccfalaa.LawEntry

