/-
  What the model's WallOf does, as a contract: what it answers; new memory alone is written.
-/
import Derived.Test.YtaphdannaaiidaaRoomOkSpec
namespace Go.Proofs.Ytaphdannaaiidaa.WallOfSpec
open Go.RowKit PointMath WallMath RoomMath Pts Blk
open PointOk (ret_bool ret_i64 below1 below2 below3)

set_option maxHeartbeats 800000 in
theorem wallOf (A : Option Addr) (n cap : Nat) (k : Int) (w : World) (ps : List (Int × Int)) (hl : ps.length = n) (hn : n ≤ 1048576) (hp : PtsAt w w.heap.size A ps) :
    Calls Try.prog 16 #[.agg #[.slice A n cap], .int .i64 k] w fun e w' => e = .returned (.agg #[.int .i64 (wallI ps k).1.1, .int .i64 (wallI ps k).1.2, .int .i64 (wallI ps k).2.1, .int .i64 (wallI ps k).2.2]) ∧ Below w.heap.size w w' := by
  obtain ⟨q, hq⟩ : ∃ q, wallI ps k = q := ⟨_, rfl⟩
  have HQ := Lib.hid hq
  rw [hq]
  clear hq
  go_enter Try.func16, Try.ntmps16
  go_wp2_with fail
  have X0 := (Pts.boxR w (.slice A n cap) 33 (k := w.heap.size) (by simp)).alloc (Obj.cells #[.int .i64 0, .int .i64 0, .int .i64 0, .int .i64 0] 29)
  have X1 := Blk.Holds.box (w.alloc (Obj.cells #[.slice A n cap] 33)) #[.int .i64 0, .int .i64 0, .int .i64 0, .int .i64 0] 29 (k := w.heap.size + 1) (by simp)
  have b0 := PointOk.below2 w (Obj.cells #[.slice A n cap] 33) (Obj.cells #[.int .i64 0, .int .i64 0, .int .i64 0, .int .i64 0] 29)
  have HO : ∀ W W' : World, (Pts.BoxR W (w.heap.size) (.slice A n cap) ∧ Blk.Holds W (w.heap.size + 1) #[.int .i64 0, .int .i64 0, .int .i64 0, .int .i64 0] 29 ∧ PtsAt W w.heap.size A ps ∧ Below w.heap.size w W) → Below W.heap.size W W' → (Pts.BoxR W' (w.heap.size) (.slice A n cap) ∧ Blk.Holds W' (w.heap.size + 1) #[.int .i64 0, .int .i64 0, .int .i64 0, .int .i64 0] 29 ∧ PtsAt W' w.heap.size A ps ∧ Below w.heap.size w W') := fun W W' ⟨h0, h1, x0, hb⟩ h => ⟨h0.later h, h1.later h, x0.later (h.mono hb.size), hb.trans (h.mono hb.size)⟩
  have hz0_ : Hid ((((w.alloc (Obj.cells #[.slice A n cap] 33)).alloc (Obj.cells #[.int .i64 0, .int .i64 0, .int .i64 0, .int .i64 0] 29))).heap.size = w.heap.size + 1 + 1) := Lib.hid (by simp)
  have Y0 : PtsAt (((w.alloc (Obj.cells #[.slice A n cap] 33)).alloc (Obj.cells #[.int .i64 0, .int .i64 0, .int .i64 0, .int .i64 0] 29))) w.heap.size A ps := hp.later b0
  generalize ((w.alloc (Obj.cells #[.slice A n cap] 33)).alloc (Obj.cells #[.int .i64 0, .int .i64 0, .int .i64 0, .int .i64 0] 29)) = w0 at X0 X1 Y0 b0 hz0_ ⊢
  have S0 := (⟨X0, X1, Y0, b0⟩ : Pts.BoxR w0 (w.heap.size) (.slice A n cap) ∧ Blk.Holds w0 (w.heap.size + 1) #[.int .i64 0, .int .i64 0, .int .i64 0, .int .i64 0] 29 ∧ PtsAt w0 w.heap.size A ps ∧ Below w.heap.size w w0)
  clear X0 X1 Y0 b0
  obtain ⟨⟨_, _⟩, _, _, _⟩ := id S0
  refine (RoomOkSpec.roomOk A n cap _ ps hl hn (S0.2.2.1.wide S0.2.2.2.size)).mono ?_
  rintro e w1 ⟨rfl, hb_⟩
  replace S0 := HO _ _ S0 hb_
  clear hb_
  obtain ⟨⟨_, _⟩, _, _, _⟩ := id S0
  cases hr : roomB ps
  · have E : Hid (q = ((0, 0), (0, 0))) := Lib.hid (by rw [← HQ.out]; unfold wallI; rw [if_neg (by rw [hr]; simp)])
    clear hl
    obtain ⟨⟨_, _, _, _⟩, _, _, _, _⟩ := Blk.Holds.four S0.2.1
    go_wp2_with fail
    have E_ := Blk.set_own (Blk.set_own (Blk.set_own (Blk.set_own (S0.2.1) 0 (.int .i64 (0))) 1 (.int .i64 (0))) 2 (.int .i64 (0))) 3 (.int .i64 (0))
    obtain ⟨⟨r0_, r1_, r2_, r3_⟩, _⟩ := Blk.Holds.four E_
    refine bodyPost_ret (v := .agg #[.int .i64 (0), .int .i64 (0), .int .i64 (0), .int .i64 (0)]) (by simp [results, Try.results16, go_sem, r0_, r1_, r2_, r3_]) rfl ⟨by rw [E.out], ?_⟩
    exact (((((S0.2.2.2)).setCell (p := ⟨w.heap.size + 1, 0, none⟩) (show w.heap.size ≤ w.heap.size + 1 by omega) _).setCell (p := ⟨w.heap.size + 1, 1, none⟩) (show w.heap.size ≤ w.heap.size + 1 by omega) _).setCell (p := ⟨w.heap.size + 1, 2, none⟩) (show w.heap.size ≤ w.heap.size + 1 by omega) _).setCell (p := ⟨w.heap.size + 1, 3, none⟩) (show w.heap.size ≤ w.heap.size + 1 by omega) _
  have u0 : IntKind.i64.wrap ((n : Int) - 1) = (n : Int) - 1 := IntWalk.i64_in _ (by omega)
  by_cases hk : 0 ≤ k ∧ k < (n : Int)
  rotate_left
  · have E : Hid (q = ((0, 0), (0, 0))) := Lib.hid (by rw [← HQ.out]; unfold wallI; rw [if_neg (by rw [hl]; exact fun h => hk h.2)])
    have d1 : decide (0 ≤ k ∧ k ≤ (n : Int) - 1) = false := decide_eq_false (by omega)
    clear hl hk
    go_wp2_with fail
    refine (PointOk.l01In k 0 ((n : Int) - 1) _).mono ?_
    rintro e w' ⟨rfl, rfl⟩
    rw [d1]
    obtain ⟨⟨_, _, _, _⟩, _, _, _, _⟩ := Blk.Holds.four S0.2.1
    go_wp2_with fail
    have E_ := Blk.set_own (Blk.set_own (Blk.set_own (Blk.set_own (S0.2.1) 0 (.int .i64 (0))) 1 (.int .i64 (0))) 2 (.int .i64 (0))) 3 (.int .i64 (0))
    obtain ⟨⟨r0_, r1_, r2_, r3_⟩, _⟩ := Blk.Holds.four E_
    refine bodyPost_ret (v := .agg #[.int .i64 (0), .int .i64 (0), .int .i64 (0), .int .i64 (0)]) (by simp [results, Try.results16, go_sem, r0_, r1_, r2_, r3_]) rfl ⟨by rw [E.out], ?_⟩
    exact (((((S0.2.2.2)).setCell (p := ⟨w.heap.size + 1, 0, none⟩) (show w.heap.size ≤ w.heap.size + 1 by omega) _).setCell (p := ⟨w.heap.size + 1, 1, none⟩) (show w.heap.size ≤ w.heap.size + 1 by omega) _).setCell (p := ⟨w.heap.size + 1, 2, none⟩) (show w.heap.size ≤ w.heap.size + 1 by omega) _).setCell (p := ⟨w.heap.size + 1, 3, none⟩) (show w.heap.size ≤ w.heap.size + 1 by omega) _
  obtain ⟨kk, rfl⟩ := Int.eq_ofNat_of_zero_le hk.1
  have hkn : kk < n := by omega
  have E : Hid (q = (pt ps kk, pt ps ((kk + 1) % n))) := Lib.hid (by rw [← HQ.out]; unfold wallI; rw [if_pos ⟨hr, by rw [hl]; exact hk⟩, hl]; rfl)
  have d1 : decide (0 ≤ (kk : Int) ∧ (kk : Int) ≤ (n : Int) - 1) = true := decide_eq_true (by omega)
  have hm : (kk + 1) % n < n := Nat.mod_lt _ (by omega)
  have p0 := pt_at (ps := ps) (k := kk) (by omega)
  have p1 := pt_at (ps := ps) (k := (kk + 1) % n) (by omega)
  have e1 := succ_emod n kk
  have e1t : ((kk : Int) + 1).tmod (n : Int) = (((kk + 1) % n : Nat) : Int) := by rw [Int.tmod_eq_emod_of_nonneg (by omega)]; exact e1
  generalize (kk + 1) % n = m at *
  obtain ⟨ax, ay, ha⟩ : ∃ x y, pt ps kk = (x, y) := ⟨_, _, rfl⟩
  obtain ⟨bx, bY, hb⟩ : ∃ x y, pt ps m = (x, y) := ⟨_, _, rfl⟩
  rw [ha] at p0 E
  rw [hb] at p1 E
  obtain ⟨ad, eA, bA, pA⟩ := S0.2.2.1.get p0
  obtain ⟨ad2, eA2, _, pB⟩ := S0.2.2.1.get p1
  rw [eA] at eA2
  injection eA2 with eA2
  subst eA2
  subst eA
  have hk1 : (kk : Int) < (n : Int) := by omega
  have hk0 : (0 : Int) ≤ (kk : Int) := by omega
  have hm1 : (m : Int) < (n : Int) := by omega
  have hm0 : (0 : Int) ≤ (m : Int) := by omega
  have hn0 : ¬ ((n : Int) = 0) := by omega
  have hn1 : ¬ (n = 0) := by omega
  have uk : IntKind.i64.wrap ((kk : Int) + 1) = (kk : Int) + 1 := IntWalk.i64_in _ (by omega)
  clear hl p0 p1 ha hb hr hk HQ
  have HO : ∀ W W' : World, (Pts.BoxR W (w.heap.size) (.slice (some ad) n cap) ∧ Blk.Holds W (w.heap.size + 1) #[.int .i64 0, .int .i64 0, .int .i64 0, .int .i64 0] 29 ∧ PtsAt W w.heap.size (some ad) ps ∧ PtAt W ad kk ax ay ∧ PtAt W ad m bx bY ∧ Below w.heap.size w W) → Below W.heap.size W W' → (Pts.BoxR W' (w.heap.size) (.slice (some ad) n cap) ∧ Blk.Holds W' (w.heap.size + 1) #[.int .i64 0, .int .i64 0, .int .i64 0, .int .i64 0] 29 ∧ PtsAt W' w.heap.size (some ad) ps ∧ PtAt W' ad kk ax ay ∧ PtAt W' ad m bx bY ∧ Below w.heap.size w W') := fun W W' ⟨h0, h1, x0, x1, x2, hb⟩ h => ⟨h0.later h, h1.later h, x0.later (h.mono hb.size), x1.later bA (h.mono hb.size), x2.later bA (h.mono hb.size), hb.trans (h.mono hb.size)⟩
  replace S0 := (⟨S0.1, S0.2.1, S0.2.2.1, pA, pB, S0.2.2.2⟩ : Pts.BoxR w1 (w.heap.size) (.slice (some ad) n cap) ∧ Blk.Holds w1 (w.heap.size + 1) #[.int .i64 0, .int .i64 0, .int .i64 0, .int .i64 0] 29 ∧ PtsAt w1 w.heap.size (some ad) ps ∧ PtAt w1 ad kk ax ay ∧ PtAt w1 ad m bx bY ∧ Below w.heap.size w w1)
  clear pA pB
  go_wp2_with fail
  refine (PointOk.l01In (kk : Int) 0 ((n : Int) - 1) _).mono ?_
  rintro e w' ⟨rfl, rfl⟩
  rw [d1]
  go_wp2_with fail
  refine Settle.regionTails (fun W => Pts.BoxR W (w.heap.size) (.slice (some ad) n cap) ∧ Blk.Holds W (w.heap.size + 1) #[.int .i64 0, .int .i64 0, .int .i64 0, .int .i64 0] 29 ∧ PtsAt W w.heap.size (some ad) ps ∧ PtAt W ad kk ax ay ∧ PtAt W ad m bx bY ∧ Below w.heap.size w W) 16 (by kernel_rfl) (by kernel_rfl) (of_decide_eq_true (by kernel_rfl)) (by kernel_rfl) (by kernel_rfl) (by kernel_rfl) (by kernel_rfl) (HO _ _ S0 ((Below.refl _ _).drew)) ?_
  simp only [List.take_succ_cons, List.take_zero, List.drop_succ_cons, List.drop_zero]
  clear S0
  repeat (first
    | (refine Settle.Settles.off (by rfl) ?_; simp only [Act.put, List.setIfInBounds_toArray, List.set_cons_zero, List.set_cons_succ])
    | (refine Settle.Settles.quiet (v := ?_) (by rfl) ?_ ?_
       rotate_left
       · (intro W hS; obtain ⟨⟨_, _⟩, _, _, ⟨_, _⟩, ⟨_, _⟩, _⟩ := hS; go_simp; with_reducible rfl)
       simp only [Act.put, List.setIfInBounds_toArray, List.set_cons_zero, List.set_cons_succ])
    | (refine Settle.Settles.call (v := ?_) (f := ?_) (args := ?_) (by rfl) ?_ ?_ ?_
       rotate_left 3
       · (intro W; go_simp; refine ⟨?_, ?_⟩ <;> with_reducible rfl)
       · (intro W hS; fail)
       simp only [Act.put, List.setIfInBounds_toArray, List.set_cons_zero, List.set_cons_succ]))
  refine Settle.Settles.nil ?_
  intro wr S0 K_ hK_
  obtain ⟨⟨_, _⟩, _, _, ⟨_, _⟩, ⟨_, _⟩, _⟩ := id S0
  obtain ⟨⟨_, _, _, _⟩, _, _, _, _⟩ := Blk.Holds.four S0.2.1
  go_wp2_with fail
  have E_ := Blk.set_own (Blk.set_own (Blk.set_own (Blk.set_own (S0.2.1) 0 (.int .i64 (ax))) 1 (.int .i64 (ay))) 2 (.int .i64 (bx))) 3 (.int .i64 (bY))
  obtain ⟨⟨r0_, r1_, r2_, r3_⟩, _⟩ := Blk.Holds.four E_
  refine bodyPost_ret (v := .agg #[.int .i64 (ax), .int .i64 (ay), .int .i64 (bx), .int .i64 (bY)]) (by simp [results, Try.results16, go_sem, r0_, r1_, r2_, r3_]) rfl ⟨by rw [E.out], ?_⟩
  exact (((((S0.2.2.2.2.2)).setCell (p := ⟨w.heap.size + 1, 0, none⟩) (show w.heap.size ≤ w.heap.size + 1 by omega) _).setCell (p := ⟨w.heap.size + 1, 1, none⟩) (show w.heap.size ≤ w.heap.size + 1 by omega) _).setCell (p := ⟨w.heap.size + 1, 2, none⟩) (show w.heap.size ≤ w.heap.size + 1 by omega) _).setCell (p := ⟨w.heap.size + 1, 3, none⟩) (show w.heap.size ≤ w.heap.size + 1 by omega) _

end Go.Proofs.Ytaphdannaaiidaa.WallOfSpec

