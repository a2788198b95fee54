/-
  What the model's functions on corners do, as contracts: what each answers; new memory alone is written.
-/
import Derived.Test.YtgelkpaiabhklaaWallOfSpec
import Derived.Test.YtgelkpaiabhklaaFacts
import Derived.Test.YtgelkpaiabhklaaGround
namespace Go.Proofs.Ytgelkpaiabhklaa.CornerSpec
open Go.RowKit Own PointMath WallMath RoomMath Pts Blk AreaMath
open PointOk (ret_bool ret_i64 below1 below2 below3)

theorem infoI : (Try.prog.info? 3).map (fun i => (i.zero, i.size, i.bytes)) = some (some (.int .i64 0), 1, 8) := by kernel_rfl

set_option maxRecDepth 100000 in
set_option maxHeartbeats 4000000 in
theorem lowest (A : Option Addr) (n cap : Nat) (w : World) (ps : List (Int × Int)) (hl : ps.length = n) (hn : n ≤ 1048576) (hp : PtsAt w w.heap.size A ps) :
    Calls Try.prog 26 #[.agg #[.slice A n cap]] w fun e w' => e = .returned (.int .i64 (lowestI ps)) ∧ Below w.heap.size w w' := by
  obtain ⟨r, hr⟩ : ∃ r, lowestI ps = r := ⟨_, rfl⟩
  have HR := Lib.hid hr
  rw [hr]
  clear hr
  go_enter Try.func26, Try.ntmps26
  go_wp2_with fail
  have X0 := Pts.boxR w (.slice A n cap) 50 (k := w.heap.size) (by simp)
  have b0 := PointOk.below1 w (Obj.cells #[.slice A n cap] 50)
  have HO : ∀ W W' : World, (Pts.BoxR W (w.heap.size) (.slice A n cap) ∧ PtsAt W w.heap.size A ps ∧ Below w.heap.size w W) → Below W.heap.size W W' → (Pts.BoxR W' (w.heap.size) (.slice A n cap) ∧ PtsAt W' w.heap.size A ps ∧ Below w.heap.size w W') := fun W W' ⟨h0, x0, hb⟩ h => ⟨h0.later h, x0.later (h.mono hb.size), hb.trans (h.mono hb.size)⟩
  have hz0_ : Hid (((w.alloc (Obj.cells #[.slice A n cap] 50))).heap.size = w.heap.size + 1) := Lib.hid (by simp)
  have Y0 : PtsAt ((w.alloc (Obj.cells #[.slice A n cap] 50))) w.heap.size A ps := hp.later b0
  generalize (w.alloc (Obj.cells #[.slice A n cap] 50)) = w0 at X0 Y0 b0 hz0_ ⊢
  have S0 := (⟨X0, Y0, b0⟩ : Pts.BoxR w0 (w.heap.size) (.slice A n cap) ∧ PtsAt w0 w.heap.size A ps ∧ Below w.heap.size w w0)
  clear X0 Y0 b0
  obtain ⟨⟨_, _⟩, _, _⟩ := id S0
  go_loopw [3, 4] (fun s i wr => ∃ k : Nat, k ≤ n ∧ (k = 0 ∨ roomB ps = true) ∧ i = .int .i64 k ∧ s = .int .i64 (lowTo0 ps k) ∧ (Pts.BoxR wr (w.heap.size) (.slice A n cap) ∧ PtsAt wr w.heap.size A ps ∧ Below w.heap.size w wr))
    (fun _ i _ => n - (intOf i).toNat)
  case atStart => exact ⟨0, Nat.zero_le _, .inl rfl, rfl, rfl, S0⟩
  case round =>
    clear S0
    obtain ⟨k, hkn, hc, rfl, rfl, S0⟩ := hrel
    obtain ⟨⟨_, _⟩, _, _⟩ := id S0
    have hex := exit_of (ps := ps) (F := lowTo0 ps) hc (by omega)
    rw [← lowestI_eq] at hex
    by_cases hlt : k < n
    · have hk1 : (k : Int) < (n : Int) := by omega
      go_wp2_with fail
      refine (RoomOkSpec.roomOk A n cap _ ps hl hn (S0.2.1.wide S0.2.2.size)).mono ?_
      rintro e w1 ⟨rfl, hb_⟩
      replace S0 := HO _ _ S0 hb_
      clear hb_
      obtain ⟨⟨_, _⟩, _, _⟩ := id S0
      cases hr : roomB ps
      · have E : Hid (lowTo0 ps k = r) := Lib.hid (by rw [← HR.out, hex (.inl hr)])
        generalize lowTo0 ps k = s at *
        clear hl HR hc hex
        go_wp2_with fail
        go_ret
        exact ⟨ret_i64 E.out, S0.2.2⟩
      replace hr := Lib.hid hr
      by_cases k0 : k = 0
      · subst k0
        have E0 : lowTo0 ps 0 = -1 := rfl
        have E1 : Hid (lowTo0 ps 1 = 0) := Lib.hid (by unfold lowTo0; rw [if_neg (by omega), lowTo_one]; rfl)
        rw [E0]
        clear hl HR hc hex E0
        go_wp2_with fail
        refine Settle.region (fun W => Pts.BoxR W (w.heap.size) (.slice A n cap) ∧ PtsAt W w.heap.size A ps ∧ Below w.heap.size w W) (by kernel_rfl) (by kernel_rfl) (by kernel_rfl) (by kernel_rfl) (HO _ _ S0 ((Below.refl _ _).drew)) ?_
        clear S0
        repeat (first
          | (refine Settle.Settles.off (by rfl) ?_; simp only [Act.put, List.setIfInBounds_toArray, List.set_cons_zero, List.set_cons_succ])
          | (refine Settle.Settles.quiet (v := ?_) (by rfl) ?_ ?_
             rotate_left
             · (intro W hS; obtain ⟨⟨_, _⟩, _, _⟩ := hS; go_simp; with_reducible rfl)
             simp only [Act.put, List.setIfInBounds_toArray, List.set_cons_zero, List.set_cons_succ])
          | (refine Settle.Settles.call (v := ?_) (f := ?_) (args := ?_) (by rfl) ?_ ?_ ?_
             rotate_left 3
             · (intro W; go_simp; refine ⟨?_, ?_⟩ <;> with_reducible rfl)
             · (intro W hS; fail)
             simp only [Act.put, List.setIfInBounds_toArray, List.set_cons_zero, List.set_cons_succ]))
        refine Settle.Settles.nil ?_
        intro wr S0
        obtain ⟨⟨_, _⟩, _, _⟩ := id S0
        go_wp2_with fail
        refine ⟨⟨1, by omega, .inr hr.out, ?_, ?_, S0⟩, ?_⟩
        · try first | rfl | go_num | simp
        · rw [E1.out]
          try first | rfl | go_num | simp
        · try first | (simp [intOf]; omega) | simp [intOf]
      obtain ⟨HL, e0⟩ := lowTo0_step (ps := ps) k0
      rw [e0]
      replace HL := Lib.hid HL
      have hml := lowTo_lt ps k
      generalize lowTo ps k = m at *
      have p0 := pt_at (ps := ps) (k := k) (by omega)
      have p1 := pt_at (ps := ps) (k := m) (by omega)
      obtain ⟨ax, ay, ha⟩ : ∃ x y, pt ps k = (x, y) := ⟨_, _, rfl⟩
      obtain ⟨bx, bY, hb⟩ : ∃ x y, pt ps m = (x, y) := ⟨_, _, rfl⟩
      rw [ha] at p0 HL
      rw [hb] at p1 HL
      obtain ⟨ad, eA, bA, pA⟩ := S0.2.1.get p0
      obtain ⟨ad2, eA2, _, pB⟩ := S0.2.1.get p1
      rw [eA] at eA2
      injection eA2 with eA2
      subst eA2
      subst eA
      have hm1 : (m : Int) < (n : Int) := by omega
      have hm0 : (0 : Int) ≤ (m : Int) := by omega
      have hm2 : ¬ (m : Int) < 0 := by omega
      have hk0 : (0 : Int) ≤ (k : Int) := by omega
      have uk : IntKind.i64.wrap ((k : Int) + 1) = (k : Int) + 1 := IntWalk.i64_in _ (by omega)
      clear ha hb p0 p1 hl HR hex e0 hc
      have HO : ∀ W W' : World, (Pts.BoxR W (w.heap.size) (.slice (some ad) n cap) ∧ PtsAt W w.heap.size (some ad) ps ∧ PtAt W ad k ax ay ∧ PtAt W ad m bx bY ∧ Below w.heap.size w W) → Below W.heap.size W W' → (Pts.BoxR W' (w.heap.size) (.slice (some ad) n cap) ∧ PtsAt W' w.heap.size (some ad) ps ∧ PtAt W' ad k ax ay ∧ PtAt W' ad m bx bY ∧ Below w.heap.size w W') := fun W W' ⟨h0, x0, x1, x2, hb⟩ h => ⟨h0.later h, x0.later (h.mono hb.size), x1.later bA (h.mono hb.size), x2.later bA (h.mono hb.size), hb.trans (h.mono hb.size)⟩
      replace S0 : Pts.BoxR w1 (w.heap.size) (.slice (some ad) n cap) ∧ PtsAt w1 w.heap.size (some ad) ps ∧ PtAt w1 ad k ax ay ∧ PtAt w1 ad m bx bY ∧ Below w.heap.size w w1 := ⟨S0.1, S0.2.1, pA, pB, S0.2.2⟩
      clear pA pB
      obtain ⟨⟨_, _⟩, _, ⟨_, _⟩, ⟨_, _⟩, _⟩ := id S0
      by_cases h1 : ay < bY
      · have HL2 : Hid (lowTo0 ps (k + 1) = (k : Int)) := Lib.hid (by rw [HL.out]; simp [lowB, h1])
        clear HL
        go_wp2_with fail
        refine Settle.region (fun W => Pts.BoxR W (w.heap.size) (.slice (some ad) n cap) ∧ PtsAt W w.heap.size (some ad) ps ∧ PtAt W ad k ax ay ∧ PtAt W ad m bx bY ∧ Below w.heap.size w W) (by kernel_rfl) (by kernel_rfl) (by kernel_rfl) (by kernel_rfl) (HO _ _ S0 ((Below.refl _ _).drew)) ?_
        clear S0
        repeat (first
          | (refine Settle.Settles.off (by rfl) ?_; simp only [Act.put, List.setIfInBounds_toArray, List.set_cons_zero, List.set_cons_succ])
          | (refine Settle.Settles.quiet (v := ?_) (by rfl) ?_ ?_
             rotate_left
             · (intro W hS; obtain ⟨⟨_, _⟩, _, ⟨_, _⟩, ⟨_, _⟩, _⟩ := hS; go_simp; with_reducible rfl)
             simp only [Act.put, List.setIfInBounds_toArray, List.set_cons_zero, List.set_cons_succ])
          | (refine Settle.Settles.call (v := ?_) (f := ?_) (args := ?_) (by rfl) ?_ ?_ ?_
             rotate_left 3
             · (intro W; go_simp; refine ⟨?_, ?_⟩ <;> with_reducible rfl)
             · (intro W hS; fail)
             simp only [Act.put, List.setIfInBounds_toArray, List.set_cons_zero, List.set_cons_succ]))
        refine Settle.Settles.nil ?_
        intro wr S0
        obtain ⟨⟨_, _⟩, _, ⟨_, _⟩, ⟨_, _⟩, _⟩ := id S0
        go_wp2_with fail
        first
          | exact ⟨⟨k + 1, by omega, .inr hr.out, by go_num, by rw [HL2.out], S0.1, S0.2.1, S0.2.2.2.2⟩, by simp [intOf]; omega⟩
          | (go_roundw <;> first | exact ⟨k + 1, by omega, .inr hr.out, by go_num, by rw [HL2.out], S0.1, S0.2.1, S0.2.2.2.2⟩ | (simp [intOf]; omega))
      by_cases h2 : ay = bY
      · subst h2
        by_cases h3 : ax < bx
        · have HL2 : Hid (lowTo0 ps (k + 1) = (k : Int)) := Lib.hid (by rw [HL.out]; simp [lowB, h3])
          clear HL
          have HO : ∀ W W' : World, (Pts.BoxR W (w.heap.size) (.slice (some ad) n cap) ∧ PtsAt W w.heap.size (some ad) ps ∧ PtAt W ad k ax ay ∧ PtAt W ad m bx ay ∧ Below w.heap.size w W) → Below W.heap.size W W' → (Pts.BoxR W' (w.heap.size) (.slice (some ad) n cap) ∧ PtsAt W' w.heap.size (some ad) ps ∧ PtAt W' ad k ax ay ∧ PtAt W' ad m bx ay ∧ Below w.heap.size w W') := fun W W' ⟨h0, x0, x1, x2, hb⟩ h => ⟨h0.later h, x0.later (h.mono hb.size), x1.later bA (h.mono hb.size), x2.later bA (h.mono hb.size), hb.trans (h.mono hb.size)⟩
          go_wp2_with fail
          refine Settle.region (fun W => Pts.BoxR W (w.heap.size) (.slice (some ad) n cap) ∧ PtsAt W w.heap.size (some ad) ps ∧ PtAt W ad k ax ay ∧ PtAt W ad m bx ay ∧ Below w.heap.size w W) (by kernel_rfl) (by kernel_rfl) (by kernel_rfl) (by kernel_rfl) (HO _ _ S0 ((Below.refl _ _).drew)) ?_
          clear S0
          repeat (first
            | (refine Settle.Settles.off (by rfl) ?_; simp only [Act.put, List.setIfInBounds_toArray, List.set_cons_zero, List.set_cons_succ])
            | (refine Settle.Settles.quiet (v := ?_) (by rfl) ?_ ?_
               rotate_left
               · (intro W hS; obtain ⟨⟨_, _⟩, _, ⟨_, _⟩, ⟨_, _⟩, _⟩ := hS; go_simp; with_reducible rfl)
               simp only [Act.put, List.setIfInBounds_toArray, List.set_cons_zero, List.set_cons_succ])
            | (refine Settle.Settles.call (v := ?_) (f := ?_) (args := ?_) (by rfl) ?_ ?_ ?_
               rotate_left 3
               · (intro W; go_simp; refine ⟨?_, ?_⟩ <;> with_reducible rfl)
               · (intro W hS; fail)
               simp only [Act.put, List.setIfInBounds_toArray, List.set_cons_zero, List.set_cons_succ]))
          refine Settle.Settles.nil ?_
          intro wr S0
          obtain ⟨⟨_, _⟩, _, ⟨_, _⟩, ⟨_, _⟩, _⟩ := id S0
          go_wp2_with fail
          first
            | exact ⟨⟨k + 1, by omega, .inr hr.out, by go_num, by rw [HL2.out], S0.1, S0.2.1, S0.2.2.2.2⟩, by simp [intOf]; omega⟩
            | (go_roundw <;> first | exact ⟨k + 1, by omega, .inr hr.out, by go_num, by rw [HL2.out], S0.1, S0.2.1, S0.2.2.2.2⟩ | (simp [intOf]; omega))
        · have HL2 : Hid (lowTo0 ps (k + 1) = (m : Int)) := Lib.hid (by rw [HL.out]; simp [lowB, h3])
          clear HL
          have HO : ∀ W W' : World, (Pts.BoxR W (w.heap.size) (.slice (some ad) n cap) ∧ PtsAt W w.heap.size (some ad) ps ∧ PtAt W ad k ax ay ∧ PtAt W ad m bx ay ∧ Below w.heap.size w W) → Below W.heap.size W W' → (Pts.BoxR W' (w.heap.size) (.slice (some ad) n cap) ∧ PtsAt W' w.heap.size (some ad) ps ∧ PtAt W' ad k ax ay ∧ PtAt W' ad m bx ay ∧ Below w.heap.size w W') := fun W W' ⟨h0, x0, x1, x2, hb⟩ h => ⟨h0.later h, x0.later (h.mono hb.size), x1.later bA (h.mono hb.size), x2.later bA (h.mono hb.size), hb.trans (h.mono hb.size)⟩
          go_wp2_with fail
          refine Settle.region (fun W => Pts.BoxR W (w.heap.size) (.slice (some ad) n cap) ∧ PtsAt W w.heap.size (some ad) ps ∧ PtAt W ad k ax ay ∧ PtAt W ad m bx ay ∧ Below w.heap.size w W) (by kernel_rfl) (by kernel_rfl) (by kernel_rfl) (by kernel_rfl) (HO _ _ S0 ((Below.refl _ _).drew)) ?_
          clear S0
          repeat (first
            | (refine Settle.Settles.off (by rfl) ?_; simp only [Act.put, List.setIfInBounds_toArray, List.set_cons_zero, List.set_cons_succ])
            | (refine Settle.Settles.quiet (v := ?_) (by rfl) ?_ ?_
               rotate_left
               · (intro W hS; obtain ⟨⟨_, _⟩, _, ⟨_, _⟩, ⟨_, _⟩, _⟩ := hS; go_simp; with_reducible rfl)
               simp only [Act.put, List.setIfInBounds_toArray, List.set_cons_zero, List.set_cons_succ])
            | (refine Settle.Settles.call (v := ?_) (f := ?_) (args := ?_) (by rfl) ?_ ?_ ?_
               rotate_left 3
               · (intro W; go_simp; refine ⟨?_, ?_⟩ <;> with_reducible rfl)
               · (intro W hS; fail)
               simp only [Act.put, List.setIfInBounds_toArray, List.set_cons_zero, List.set_cons_succ]))
          refine Settle.Settles.nil ?_
          intro wr S0
          obtain ⟨⟨_, _⟩, _, ⟨_, _⟩, ⟨_, _⟩, _⟩ := id S0
          go_wp2_with fail
          first
            | exact ⟨⟨k + 1, by omega, .inr hr.out, by go_num, by rw [HL2.out], S0.1, S0.2.1, S0.2.2.2.2⟩, by simp [intOf]; omega⟩
            | (go_roundw <;> first | exact ⟨k + 1, by omega, .inr hr.out, by go_num, by rw [HL2.out], S0.1, S0.2.1, S0.2.2.2.2⟩ | (simp [intOf]; omega))
      have h3 : (ay == bY) = false := beq_eq_false_iff_ne.2 h2
      have d1 : decide ((m : Int) < 0) = false := decide_eq_false hm2
      have d2 : decide (ay < bY) = false := decide_eq_false h1
      have HL2 : Hid (lowTo0 ps (k + 1) = (m : Int)) := Lib.hid (by rw [HL.out]; simp [lowB, h1, h2])
      clear HL
      have HO : ∀ W W' : World, (Pts.BoxR W (w.heap.size) (.slice (some ad) n cap) ∧ PtsAt W w.heap.size (some ad) ps ∧ PtAt W ad k ax ay ∧ PtAt W ad m bx bY ∧ Below w.heap.size w W) → Below W.heap.size W W' → (Pts.BoxR W' (w.heap.size) (.slice (some ad) n cap) ∧ PtsAt W' w.heap.size (some ad) ps ∧ PtAt W' ad k ax ay ∧ PtAt W' ad m bx bY ∧ Below w.heap.size w W') := fun W W' ⟨h0, x0, x1, x2, hb⟩ h => ⟨h0.later h, x0.later (h.mono hb.size), x1.later bA (h.mono hb.size), x2.later bA (h.mono hb.size), hb.trans (h.mono hb.size)⟩
      go_wp2_with fail
      refine Settle.region (fun W => Pts.BoxR W (w.heap.size) (.slice (some ad) n cap) ∧ PtsAt W w.heap.size (some ad) ps ∧ PtAt W ad k ax ay ∧ PtAt W ad m bx bY ∧ Below w.heap.size w W) (by kernel_rfl) (by kernel_rfl) (by kernel_rfl) (by kernel_rfl) (HO _ _ S0 ((Below.refl _ _).drew)) ?_
      clear S0
      repeat (first
        | (refine Settle.Settles.off (by rfl) ?_; simp only [Act.put, List.setIfInBounds_toArray, List.set_cons_zero, List.set_cons_succ])
        | (refine Settle.Settles.quiet (v := ?_) (by rfl) ?_ ?_
           rotate_left
           · (intro W hS; obtain ⟨⟨_, _⟩, _, ⟨_, _⟩, ⟨_, _⟩, _⟩ := hS; go_simp; with_reducible rfl)
           simp only [Act.put, List.setIfInBounds_toArray, List.set_cons_zero, List.set_cons_succ])
        | (refine Settle.Settles.call (v := ?_) (f := ?_) (args := ?_) (by rfl) ?_ ?_ ?_
           rotate_left 3
           · (intro W; go_simp; refine ⟨?_, ?_⟩ <;> with_reducible rfl)
           · (intro W hS; fail)
           simp only [Act.put, List.setIfInBounds_toArray, List.set_cons_zero, List.set_cons_succ]))
      refine Settle.Settles.nil ?_
      intro wr S0
      obtain ⟨⟨_, _⟩, _, ⟨_, _⟩, ⟨_, _⟩, _⟩ := id S0
      go_wp2_with fail
      first
        | exact ⟨⟨k + 1, by omega, .inr hr.out, by go_num, by rw [HL2.out], S0.1, S0.2.1, S0.2.2.2.2⟩, by simp [intOf]; omega⟩
        | (go_roundw <;> first | exact ⟨k + 1, by omega, .inr hr.out, by go_num, by rw [HL2.out], S0.1, S0.2.1, S0.2.2.2.2⟩ | (simp [intOf]; omega))
    · obtain rfl : n = k := by omega
      have E : Hid (lowTo0 ps n = r) := Lib.hid (by rw [← HR.out, hex (.inr hl.symm)])
      generalize lowTo0 ps n = s at *
      clear hl HR hc hex
      go_wp2_with fail
      go_ret
      exact ⟨ret_i64 E.out, S0.2.2⟩

end Go.Proofs.Ytgelkpaiabhklaa.CornerSpec

