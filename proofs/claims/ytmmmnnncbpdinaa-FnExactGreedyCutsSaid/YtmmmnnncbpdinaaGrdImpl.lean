/-
  What the landed GreedyCuts does, as a contract: the diagonals that it takes, in new memory; what it asks of each.
-/
import Derived.Test.YtmmmnnncbpdinaaDgsImpl
import Derived.Test.YtmmmnnncbpdinaaWallImpl
import Derived.Test.YtmmmnnncbpdinaaFirstMath
import Derived.Test.YtmmmnnncbpdinaaSettleB
import Derived.Test.YtmmmnnncbpdinaaGrdRow
namespace Go.Proofs.Ytmmmnnncbpdinaa.GrdImpl
open Go.RowKit Own PointMath WallMath RoomMath Pts Blk AreaMath PlaceMath FloorMath LineMath CutsMath SightMath DiagMath EdgeMath DgsMath GrdMath GrdRow
open PointOk (ret_bool ret_i64 below1 below2 below3)
open Nest (GivesN sv)

set_option maxRecDepth 100000 in
set_option maxHeartbeats 3200000 in
theorem equal2 (g1 g2 : Nat) (a b c d : Int) (w : World) (h1 : Pair w g1 a b) (h2 : Pair w g2 c d) :
    Calls Try.prog 75 #[.slice (some ⟨g1, 0, none⟩) 2 2, .slice (some ⟨g2, 0, none⟩) 2 2] w fun e w' => e = .returned (.bool (decide ((a, b) = (c, d)))) ∧ Below w.heap.size w w' := by
  obtain ⟨r, hr⟩ : ∃ r, decide ((a, b) = (c, d)) = r := ⟨_, rfl⟩
  have HR := Lib.hid hr
  rw [hr]
  clear hr
  have HT : Hid (a = c → b = d → r = true) := Lib.hid (fun e1 e2 => by rw [← HR.out, e1, e2]; simp)
  have HF1 : Hid (a ≠ c → r = false) := Lib.hid (fun h => by rw [← HR.out, decide_eq_false]; intro e; injection e with e; exact h e)
  have HF2 : Hid (b ≠ d → r = false) := Lib.hid (fun h => by rw [← HR.out, decide_eq_false]; intro e; injection e with _ e; exact h e)
  clear HR
  go_enter Try.func75, Try.ntmps75
  go_wp2_with fail
  have HO : ∀ W W' : World, (Pair W g1 a b ∧ Pair W g2 c d ∧ Below w.heap.size w W) → Below W.heap.size W W' → (Pair W' g1 a b ∧ Pair W' g2 c d ∧ Below w.heap.size w W') := fun W W' ⟨x0, x1, hb⟩ h => ⟨x0.later h, x1.later h, hb.trans (h.mono hb.size)⟩
  have S0 : Pair w g1 a b ∧ Pair w g2 c d ∧ Below w.heap.size w w := ⟨h1, h2, Below.refl _ _⟩
  clear h1 h2
  go_loopw [13] (fun q wr => ∃ k : Nat, k ≤ 2 ∧ q = .int .i64 k ∧ Hid (0 < k → a = c) ∧ Hid (1 < k → b = d) ∧ (Pair wr g1 a b ∧ Pair wr g2 c d ∧ Below w.heap.size w wr))
    (fun q _ => 2 - (intOf q).toNat)
  case atStart => exact ⟨0, by omega, rfl, Lib.hid (fun h => by omega), Lib.hid (fun h => by omega), S0⟩
  case round =>
    clear S0
    obtain ⟨k, hk, rfl, H1, H2, S0⟩ := hrel
    obtain ⟨⟨_, _, _⟩, ⟨_, _, _⟩, _⟩ := id S0
    rcases (by omega : k = 0 ∨ k = 1 ∨ k = 2) with rfl | rfl | rfl
    rotate_left 2
    · have E : Hid (r = true) := Lib.hid (HT.out (H1.out (by omega)) (H2.out (by omega)))
      clear HT HF1 HF2 H1 H2
      go_wp2_with fail
      go_ret
      exact ⟨ret_bool E.out.symm, S0.2.2⟩
    · clear HT HF2 H1 H2
      by_cases e : a = c
      · have f1 : (a != c) = false := by simp [e]
        have HN : Hid (0 < 1 → a = c) := Lib.hid (fun _ => e)
        clear e HF1
        go_wp2_with fail
        refine Settle.region (fun W => Pair W g1 a b ∧ Pair W g2 c d ∧ Below w.heap.size w W) (by kernel_rfl) (by kernel_rfl) (by kernel_rfl) (by kernel_rfl) (HO _ _ S0 ((Below.refl _ _).drew)) ?_
        clear S0
        repeat (first
          | (refine Settle.Settles.off (by rfl) ?_; simp only [Act.put, List.setIfInBounds_toArray, List.set_cons_zero, List.set_cons_succ])
          | (refine Settle.Settles.quiet (v := ?_) (by rfl) ?_ ?_
             rotate_left
             · (intro W hS; obtain ⟨⟨_, _, _⟩, ⟨_, _, _⟩, _⟩ := hS; go_simp; with_reducible rfl)
             simp only [Act.put, List.setIfInBounds_toArray, List.set_cons_zero, List.set_cons_succ])
          | (refine Settle.Settles.call (v := ?_) (f := ?_) (args := ?_) (by rfl) ?_ ?_ ?_
             rotate_left 3
             · (intro W; go_simp; refine ⟨?_, ?_⟩ <;> with_reducible rfl)
             · (intro W hS; fail)
             simp only [Act.put, List.setIfInBounds_toArray, List.set_cons_zero, List.set_cons_succ]))
        refine Settle.Settles.nil ?_
        intro wr S0
        obtain ⟨⟨_, _, _⟩, ⟨_, _, _⟩, _⟩ := id S0
        go_wp2_with fail
        first
          | exact ⟨⟨1, by omega, rfl, HN, Lib.hid (fun h => by omega), S0⟩, by simp [intOf]⟩
          | (go_roundw <;> first | exact ⟨1, by omega, rfl, HN, Lib.hid (fun h => by omega), S0⟩ | simp [intOf])
      · have f1 : (a != c) = true := by simp [e]
        have E : Hid (r = false) := Lib.hid (HF1.out e)
        clear e HF1
        go_wp2_with fail
        refine Settle.region (fun W => Pair W g1 a b ∧ Pair W g2 c d ∧ Below w.heap.size w W) (by kernel_rfl) (by kernel_rfl) (by kernel_rfl) (by kernel_rfl) (HO _ _ S0 ((Below.refl _ _).drew)) ?_
        clear S0
        repeat (first
          | (refine Settle.Settles.off (by rfl) ?_; simp only [Act.put, List.setIfInBounds_toArray, List.set_cons_zero, List.set_cons_succ])
          | (refine Settle.Settles.quiet (v := ?_) (by rfl) ?_ ?_
             rotate_left
             · (intro W hS; obtain ⟨⟨_, _, _⟩, ⟨_, _, _⟩, _⟩ := hS; go_simp; with_reducible rfl)
             simp only [Act.put, List.setIfInBounds_toArray, List.set_cons_zero, List.set_cons_succ])
          | (refine Settle.Settles.call (v := ?_) (f := ?_) (args := ?_) (by rfl) ?_ ?_ ?_
             rotate_left 3
             · (intro W; go_simp; refine ⟨?_, ?_⟩ <;> with_reducible rfl)
             · (intro W hS; fail)
             simp only [Act.put, List.setIfInBounds_toArray, List.set_cons_zero, List.set_cons_succ]))
        refine Settle.Settles.nil ?_
        intro wr S0
        obtain ⟨⟨_, _, _⟩, ⟨_, _, _⟩, _⟩ := id S0
        go_wp2_with fail
        go_ret
        exact ⟨ret_bool E.out.symm, S0.2.2⟩
    · clear HT HF1 H2
      by_cases e : b = d
      · have f1 : (b != d) = false := by simp [e]
        have HN : Hid (1 < 2 → b = d) := Lib.hid (fun _ => e)
        have HM : Hid (0 < 2 → a = c) := Lib.hid (fun _ => H1.out (by omega))
        clear e HF2 H1
        go_wp2_with fail
        refine Settle.region (fun W => Pair W g1 a b ∧ Pair W g2 c d ∧ Below w.heap.size w W) (by kernel_rfl) (by kernel_rfl) (by kernel_rfl) (by kernel_rfl) (HO _ _ S0 ((Below.refl _ _).drew)) ?_
        clear S0
        repeat (first
          | (refine Settle.Settles.off (by rfl) ?_; simp only [Act.put, List.setIfInBounds_toArray, List.set_cons_zero, List.set_cons_succ])
          | (refine Settle.Settles.quiet (v := ?_) (by rfl) ?_ ?_
             rotate_left
             · (intro W hS; obtain ⟨⟨_, _, _⟩, ⟨_, _, _⟩, _⟩ := hS; go_simp; with_reducible rfl)
             simp only [Act.put, List.setIfInBounds_toArray, List.set_cons_zero, List.set_cons_succ])
          | (refine Settle.Settles.call (v := ?_) (f := ?_) (args := ?_) (by rfl) ?_ ?_ ?_
             rotate_left 3
             · (intro W; go_simp; refine ⟨?_, ?_⟩ <;> with_reducible rfl)
             · (intro W hS; fail)
             simp only [Act.put, List.setIfInBounds_toArray, List.set_cons_zero, List.set_cons_succ]))
        refine Settle.Settles.nil ?_
        intro wr S0
        obtain ⟨⟨_, _, _⟩, ⟨_, _, _⟩, _⟩ := id S0
        go_wp2_with fail
        first
          | exact ⟨⟨2, by omega, rfl, HM, HN, S0⟩, by simp [intOf]⟩
          | (go_roundw <;> first | exact ⟨2, by omega, rfl, HM, HN, S0⟩ | simp [intOf])
      · have f1 : (b != d) = true := by simp [e]
        have E : Hid (r = false) := Lib.hid (HF2.out e)
        clear e HF2 H1
        go_wp2_with fail
        refine Settle.region (fun W => Pair W g1 a b ∧ Pair W g2 c d ∧ Below w.heap.size w W) (by kernel_rfl) (by kernel_rfl) (by kernel_rfl) (by kernel_rfl) (HO _ _ S0 ((Below.refl _ _).drew)) ?_
        clear S0
        repeat (first
          | (refine Settle.Settles.off (by rfl) ?_; simp only [Act.put, List.setIfInBounds_toArray, List.set_cons_zero, List.set_cons_succ])
          | (refine Settle.Settles.quiet (v := ?_) (by rfl) ?_ ?_
             rotate_left
             · (intro W hS; obtain ⟨⟨_, _, _⟩, ⟨_, _, _⟩, _⟩ := hS; go_simp; with_reducible rfl)
             simp only [Act.put, List.setIfInBounds_toArray, List.set_cons_zero, List.set_cons_succ])
          | (refine Settle.Settles.call (v := ?_) (f := ?_) (args := ?_) (by rfl) ?_ ?_ ?_
             rotate_left 3
             · (intro W; go_simp; refine ⟨?_, ?_⟩ <;> with_reducible rfl)
             · (intro W hS; fail)
             simp only [Act.put, List.setIfInBounds_toArray, List.set_cons_zero, List.set_cons_succ]))
        refine Settle.Settles.nil ?_
        intro wr S0
        obtain ⟨⟨_, _, _⟩, ⟨_, _, _⟩, _⟩ := id S0
        go_wp2_with fail
        go_ret
        exact ⟨ret_bool E.out.symm, S0.2.2⟩

set_option maxRecDepth 100000 in
set_option maxHeartbeats 3200000 in
theorem asks (A : Option Addr) (n cap g go Bp Bw Br di dk s t : Nat) (ps : List (Int × Int)) (hl : ps.length = n) (hr : roomB ps = true) (hdi : di < n) (hdk : dk < n) (hs : s < n) (ht : t < n) (w : World)
    (h1 : w.cell? ⟨Bp, 0, none⟩ = some (.slice (some ⟨g, 0, none⟩) 2 2) ∧ Bp < w.heap.size) (h2 : Holds w Bw #[.int .i64 (pt ps di).1, .int .i64 (pt ps di).2, .int .i64 (pt ps dk).1, .int .i64 (pt ps dk).2] 74) (h3 : BoxR w Br (.slice A n cap))
    (hp : PtsAt w w.heap.size A ps) (p1 : Pair w g di dk) (p2 : Pair w go s t) :
    Calls Try.prog 74 (#[.slice (some ⟨go, 0, none⟩) 2 2] ++ #[.pointer (some ⟨Bp, 0, none⟩), .pointer (some ⟨Bw, 0, none⟩), .pointer (some ⟨Br, 0, none⟩)]) w fun e w' => e = .returned (.bool (decide ((((s : Nat) : Int), ((t : Nat) : Int)) = ((di : Int), (dk : Int))) || crossD ps ((di : Int), (dk : Int)) ((s : Int), (t : Int)))) ∧ Below w.heap.size w w' := by
  show Calls Try.prog 74 #[.slice (some ⟨go, 0, none⟩) 2 2, .pointer (some ⟨Bp, 0, none⟩), .pointer (some ⟨Bw, 0, none⟩), .pointer (some ⟨Br, 0, none⟩)] w _
  have hok := (roomB_yes hr).2.1
  have Q1 : Hid (∀ W x y, _) := Lib.hid fun W x y => equal2 go g (s : Int) (t : Int) (di : Int) (dk : Int) W x y
  have Q2 : Hid (∀ W h, _) := Lib.hid fun W h => DiagImpl.wayOf A n cap s t W ps hl hs ht h
  have Q3 : Hid (∀ W, _) := Lib.hid fun W => WallImpl.crosses (pt ps di).1 (pt ps di).2 (pt ps dk).1 (pt ps dk).2 (pt ps s).1 (pt ps s).2 (pt ps t).1 (pt ps t).2 (okP_sm (okAll_at hok (k := di) (by omega))) (okP_sm (okAll_at hok (k := dk) (by omega))) (okP_sm (okAll_at hok (k := s) (by omega))) (okP_sm (okAll_at hok (k := t) (by omega))) W
  have hX : crossD ps ((di : Int), (dk : Int)) ((s : Int), (t : Int)) = cutW (pt ps di).1 (pt ps di).2 (pt ps dk).1 (pt ps dk).2 (pt ps s).1 (pt ps s).2 (pt ps t).1 (pt ps t).2 := rfl
  rw [hX]
  clear hX hok
  generalize cutW (pt ps di).1 (pt ps di).2 (pt ps dk).1 (pt ps dk).2 (pt ps s).1 (pt ps s).2 (pt ps t).1 (pt ps t).2 = x at *
  generalize pt ps di = pa at *
  generalize pt ps dk = pb at *
  generalize pt ps s = pc at *
  generalize pt ps t = pd at *
  obtain ⟨b, hb⟩ : ∃ b, decide ((((s : Nat) : Int), ((t : Nat) : Int)) = ((di : Int), (dk : Int))) = b := ⟨_, rfl⟩
  rw [hb] at Q1 ⊢
  clear hb hr
  go_enter Try.func74, Try.ntmps74
  obtain ⟨⟨q0, q1, q2, q3⟩, _⟩ := Holds.four h2
  have HO : ∀ W W' : World, ((W.cell? ⟨Bp, 0, none⟩ = some (.slice (some ⟨g, 0, none⟩) 2 2) ∧ Bp < W.heap.size) ∧ (W.cell? ⟨Bw, 0, none⟩ = some (.int .i64 pa.1) ∧ W.cell? ⟨Bw, 1, none⟩ = some (.int .i64 pa.2) ∧ W.cell? ⟨Bw, 2, none⟩ = some (.int .i64 pb.1) ∧ W.cell? ⟨Bw, 3, none⟩ = some (.int .i64 pb.2) ∧ Bw < W.heap.size) ∧ BoxR W Br (.slice A n cap) ∧ PtsAt W w.heap.size A ps ∧ Pair W g (di : Int) (dk : Int) ∧ Pair W go (s : Int) (t : Int) ∧ Below w.heap.size w W) → Below W.heap.size W W' → ((W'.cell? ⟨Bp, 0, none⟩ = some (.slice (some ⟨g, 0, none⟩) 2 2) ∧ Bp < W'.heap.size) ∧ (W'.cell? ⟨Bw, 0, none⟩ = some (.int .i64 pa.1) ∧ W'.cell? ⟨Bw, 1, none⟩ = some (.int .i64 pa.2) ∧ W'.cell? ⟨Bw, 2, none⟩ = some (.int .i64 pb.1) ∧ W'.cell? ⟨Bw, 3, none⟩ = some (.int .i64 pb.2) ∧ Bw < W'.heap.size) ∧ BoxR W' Br (.slice A n cap) ∧ PtsAt W' w.heap.size A ps ∧ Pair W' g (di : Int) (dk : Int) ∧ Pair W' go (s : Int) (t : Int) ∧ Below w.heap.size w W') := fun W W' ⟨x0, x1, x2, x3, x4, x5, hb⟩ h => ⟨⟨(h.cell x0.2).trans x0.1, Nat.lt_of_lt_of_le x0.2 h.size⟩, ⟨(h.cell x1.2.2.2.2).trans x1.1, (h.cell x1.2.2.2.2).trans x1.2.1, (h.cell x1.2.2.2.2).trans x1.2.2.1, (h.cell x1.2.2.2.2).trans x1.2.2.2.1, Nat.lt_of_lt_of_le x1.2.2.2.2 h.size⟩, x2.later h, x3.later (h.mono hb.size), x4.later h, x5.later h, hb.trans (h.mono hb.size)⟩
  have S0 : (w.cell? ⟨Bp, 0, none⟩ = some (.slice (some ⟨g, 0, none⟩) 2 2) ∧ Bp < w.heap.size) ∧ (w.cell? ⟨Bw, 0, none⟩ = some (.int .i64 pa.1) ∧ w.cell? ⟨Bw, 1, none⟩ = some (.int .i64 pa.2) ∧ w.cell? ⟨Bw, 2, none⟩ = some (.int .i64 pb.1) ∧ w.cell? ⟨Bw, 3, none⟩ = some (.int .i64 pb.2) ∧ Bw < w.heap.size) ∧ BoxR w Br (.slice A n cap) ∧ PtsAt w w.heap.size A ps ∧ Pair w g (di : Int) (dk : Int) ∧ Pair w go (s : Int) (t : Int) ∧ Below w.heap.size w w := ⟨h1, ⟨q0, q1, q2, q3, h2.lt⟩, h3, hp, p1, p2, Below.refl _ _⟩
  clear h1 h2 h3 hp p1 p2 q0 q1 q2 q3
  obtain ⟨⟨_, _⟩, ⟨_, _, _, _, _⟩, ⟨_, _⟩, _, ⟨_, _, _⟩, ⟨_, _, _⟩, _⟩ := id S0
  go_wp2_with fail
  cases b
  · skip
    refine Settle.region (fun W => (W.cell? ⟨Bp, 0, none⟩ = some (.slice (some ⟨g, 0, none⟩) 2 2) ∧ Bp < W.heap.size) ∧ (W.cell? ⟨Bw, 0, none⟩ = some (.int .i64 pa.1) ∧ W.cell? ⟨Bw, 1, none⟩ = some (.int .i64 pa.2) ∧ W.cell? ⟨Bw, 2, none⟩ = some (.int .i64 pb.1) ∧ W.cell? ⟨Bw, 3, none⟩ = some (.int .i64 pb.2) ∧ Bw < W.heap.size) ∧ BoxR W Br (.slice A n cap) ∧ PtsAt W w.heap.size A ps ∧ Pair W g (di : Int) (dk : Int) ∧ Pair W go (s : Int) (t : Int) ∧ Below w.heap.size w W) (by kernel_rfl) (by kernel_rfl) (by kernel_rfl) (by kernel_rfl) (HO _ _ S0 ((Below.refl _ _).drew)) ?_
    clear S0
    repeat (first
      | (refine Settle.Settles.off (by rfl) ?_; simp only [Act.put, List.setIfInBounds_toArray, List.set_cons_zero, List.set_cons_succ])
      | (refine Settle.Settles.quiet (v := ?_) (by rfl) ?_ ?_
         rotate_left
         · (intro W hS; obtain ⟨⟨_, _⟩, ⟨_, _, _, _, _⟩, ⟨_, _⟩, _, ⟨_, _, _⟩, ⟨_, _, _⟩, _⟩ := hS; go_simp; with_reducible rfl)
         simp only [Act.put, List.setIfInBounds_toArray, List.set_cons_zero, List.set_cons_succ])
      | (refine Settle.Settles.call (v := ?_) (f := ?_) (args := ?_) (by rfl) ?_ ?_ ?_
         rotate_left 3
         · (intro W; go_simp; refine ⟨?_, ?_⟩ <;> with_reducible rfl)
         · (intro W hS; first | (go_at_call 75; (with_reducible refine (Q1.out _ hS.2.2.2.2.2.1 hS.2.2.2.2.1).mono ?_); rintro e W1 ⟨rfl, hb⟩; refine ⟨?_, HO _ _ hS hb⟩; with_reducible rfl) | (go_at_call 72; (with_reducible refine (Q2.out _ (hS.2.2.2.1.wide hS.2.2.2.2.2.2.size)).mono ?_); rintro e W1 ⟨rfl, hb⟩; refine ⟨?_, HO _ _ hS hb⟩; with_reducible rfl) | (go_at_call 76; (with_reducible refine (Q3.out _).mono ?_); rintro e W1 ⟨rfl, hb⟩; refine ⟨?_, HO _ _ hS hb⟩; with_reducible rfl))
         simp only [Act.put, List.setIfInBounds_toArray, List.set_cons_zero, List.set_cons_succ]))
    refine Settle.Settles.nil ?_
    intro wr S0
    obtain ⟨⟨_, _⟩, ⟨_, _, _, _, _⟩, ⟨_, _⟩, _, ⟨_, _, _⟩, ⟨_, _, _⟩, _⟩ := id S0
    go_wp2_with fail
    go_ret
    exact ⟨by simp, S0.2.2.2.2.2.2⟩
  · skip
    refine Settle.region (fun W => (W.cell? ⟨Bp, 0, none⟩ = some (.slice (some ⟨g, 0, none⟩) 2 2) ∧ Bp < W.heap.size) ∧ (W.cell? ⟨Bw, 0, none⟩ = some (.int .i64 pa.1) ∧ W.cell? ⟨Bw, 1, none⟩ = some (.int .i64 pa.2) ∧ W.cell? ⟨Bw, 2, none⟩ = some (.int .i64 pb.1) ∧ W.cell? ⟨Bw, 3, none⟩ = some (.int .i64 pb.2) ∧ Bw < W.heap.size) ∧ BoxR W Br (.slice A n cap) ∧ PtsAt W w.heap.size A ps ∧ Pair W g (di : Int) (dk : Int) ∧ Pair W go (s : Int) (t : Int) ∧ Below w.heap.size w W) (by kernel_rfl) (by kernel_rfl) (by kernel_rfl) (by kernel_rfl) (HO _ _ S0 ((Below.refl _ _).drew)) ?_
    clear S0
    repeat (first
      | (refine Settle.Settles.off (by rfl) ?_; simp only [Act.put, List.setIfInBounds_toArray, List.set_cons_zero, List.set_cons_succ])
      | (refine Settle.Settles.quiet (v := ?_) (by rfl) ?_ ?_
         rotate_left
         · (intro W hS; obtain ⟨⟨_, _⟩, ⟨_, _, _, _, _⟩, ⟨_, _⟩, _, ⟨_, _, _⟩, ⟨_, _, _⟩, _⟩ := hS; go_simp; with_reducible rfl)
         simp only [Act.put, List.setIfInBounds_toArray, List.set_cons_zero, List.set_cons_succ])
      | (refine Settle.Settles.call (v := ?_) (f := ?_) (args := ?_) (by rfl) ?_ ?_ ?_
         rotate_left 3
         · (intro W; go_simp; refine ⟨?_, ?_⟩ <;> with_reducible rfl)
         · (intro W hS; first | (go_at_call 75; (with_reducible refine (Q1.out _ hS.2.2.2.2.2.1 hS.2.2.2.2.1).mono ?_); rintro e W1 ⟨rfl, hb⟩; refine ⟨?_, HO _ _ hS hb⟩; with_reducible rfl))
         simp only [Act.put, List.setIfInBounds_toArray, List.set_cons_zero, List.set_cons_succ]))
    refine Settle.Settles.nil ?_
    intro wr S0
    obtain ⟨⟨_, _⟩, ⟨_, _, _, _, _⟩, ⟨_, _⟩, _, ⟨_, _, _⟩, ⟨_, _, _⟩, _⟩ := id S0
    go_wp2_with fail
    go_ret
    exact ⟨by simp, S0.2.2.2.2.2.2⟩

set_option maxRecDepth 100000 in
set_option maxHeartbeats 1600000 in
theorem indexFunc (F : FuncId) (cs : Array Value) (f : Nat → Bool) (B : Option Addr) (m cb : Nat) (w : World) (bs : Nat → Nat) (hn2 : m ≤ 1048576) (hq : ∀ k, k < m → ∃ g0, B = some ⟨g0, 0, none⟩ ∧ Cell w g0 k (bs k)) (eF : ∀ (args : Array Value) (w : World), (callFunc F args).run Try.prog w = .ok (.enter F args) w)
    (Q : ∀ (W : World) (k : Nat), k < m → Below w.heap.size w W → Calls Try.prog F (#[.slice (some ⟨bs k, 0, none⟩) 2 2] ++ cs) W fun e w' => e = .returned (.bool (f k)) ∧ Below W.heap.size W w') :
    Calls Try.prog 94 #[.slice B m cb, .func (.func F) #[] cs] w fun e w' => e = .returned (.int .i64 (FirstMath.firstI m f)) ∧ Below w.heap.size w w' := by
  obtain ⟨r, hr⟩ : ∃ r, FirstMath.firstI m f = r := ⟨_, rfl⟩
  have HR := Lib.hid hr
  rw [hr]
  clear hr
  have Q := Lib.hid Q
  go_enter Try.func94, Try.ntmps94
  go_wp2_with fail
  have HO : ∀ W W' : World, ((∀ k, k < m → ∃ g0, B = some ⟨g0, 0, none⟩ ∧ Cell W g0 k (bs k)) ∧ Below w.heap.size w W) → Below W.heap.size W W' → ((∀ k, k < m → ∃ g0, B = some ⟨g0, 0, none⟩ ∧ Cell W' g0 k (bs k)) ∧ Below w.heap.size w W') := fun W W' ⟨x0, hb⟩ h => ⟨fun k hk => by obtain ⟨g0, e, c⟩ := x0 k hk; exact ⟨g0, e, c.later h⟩, hb.trans (h.mono hb.size)⟩
  have S0 : (∀ k, k < m → ∃ g0, B = some ⟨g0, 0, none⟩ ∧ Cell w g0 k (bs k)) ∧ Below w.heap.size w w := ⟨hq, Below.refl _ _⟩
  clear hq
  go_loopw [8] (fun q wr => ∃ k : Nat, k ≤ m ∧ q = .int .i64 k ∧ Hid (∀ j, j < k → f j = false) ∧ ((∀ k, k < m → ∃ g0, B = some ⟨g0, 0, none⟩ ∧ Cell wr g0 k (bs k)) ∧ Below w.heap.size w wr))
    (fun q _ => m - (intOf q).toNat)
  case atStart => exact ⟨0, Nat.zero_le _, rfl, Lib.hid (fun t ht => absurd ht (by omega)), S0⟩
  case round =>
    clear S0
    obtain ⟨k, hk, rfl, hno, S0⟩ := hrel
    have S0 := Lib.hid S0
    by_cases hkm : k < m
    · have hk1 : (k : Int) < (m : Int) := by omega
      have hk0 : (0 : Int) ≤ (k : Int) := by omega
      have QK : Hid (∀ W hb, _) := Lib.hid fun W hb => Q.out W k hkm hb
      have uk : IntKind.i64.wrap ((k : Int) + 1) = (k : Int) + 1 := IntWalk.i64_in _ (by omega)
      obtain ⟨g0, rfl, c0, _⟩ := S0.out.1 k hkm
      obtain ⟨o, ho⟩ : ∃ o, f k = o := ⟨_, rfl⟩
      rw [ho] at QK
      clear Q
      go_wp2_with fail
      refine (QK.out _ S0.out.2).mono ?_
      rintro e w4 ⟨rfl, hb_⟩
      replace S0 := Lib.hid (HO _ _ S0.out hb_)
      clear hb_ QK c0
      cases o
      · have hno2 : Hid (∀ j, j < k + 1 → f j = false) := Lib.hid (by
          intro j hj
          rcases Nat.lt_or_ge j k with h | h
          · exact hno.out j h
          · obtain rfl : j = k := by omega
            exact ho)
        clear hno ho HR
        go_wp2_with fail
        first
          | exact ⟨⟨k + 1, by omega, by go_num, hno2, S0.out⟩, by simp [intOf]; omega⟩
          | (go_roundw <;> first | exact ⟨k + 1, by omega, by go_num, hno2, S0.out⟩ | (simp [intOf]; omega))
      · have E : Hid (r = (k : Int)) := Lib.hid (by rw [← HR.out]; exact FirstMath.firstI_at hkm ho hno.out)
        clear hno ho HR
        go_wp2_with fail
        go_ret
        exact ⟨ret_i64 E.out.symm, S0.out.2⟩
    · obtain rfl : m = k := by omega
      have E : Hid (r = -1) := Lib.hid (by rw [← HR.out]; exact FirstMath.firstI_none hno.out)
      clear hno HR
      go_wp2_with fail
      go_ret
      exact ⟨ret_i64 E.out.symm, S0.out.2⟩

set_option maxRecDepth 100000 in
theorem containsFunc (F : FuncId) (cs : Array Value) (f : Nat → Bool) (B : Option Addr) (m cb : Nat) (w : World) (bs : Nat → Nat) (hn2 : m ≤ 1048576) (hq : ∀ k, k < m → ∃ g0, B = some ⟨g0, 0, none⟩ ∧ Cell w g0 k (bs k)) (eF : ∀ (args : Array Value) (w : World), (callFunc F args).run Try.prog w = .ok (.enter F args) w)
    (Q : ∀ (W : World) (k : Nat), k < m → Below w.heap.size w W → Calls Try.prog F (#[.slice (some ⟨bs k, 0, none⟩) 2 2] ++ cs) W fun e w' => e = .returned (.bool (f k)) ∧ Below W.heap.size W w') :
    Calls Try.prog 73 #[.slice B m cb, .func (.func F) #[] cs] w fun e w' => e = .returned (.bool ((List.range m).any f)) ∧ Below w.heap.size w w' := by
  have QI := Lib.hid (indexFunc F cs f B m cb w bs hn2 hq eF Q)
  rw [← FirstMath.first_any]
  generalize FirstMath.firstI m f = q at *
  clear Q eF hq hn2
  go_enter Try.func73, Try.ntmps73
  go_wp2_with fail
  refine QI.out.mono ?_
  rintro e w1 ⟨rfl, hb_⟩
  go_wp2_with fail
  go_ret
  exact ⟨ret_bool (by first | rfl | (rw [Bool.eq_iff_iff]; simp)), hb_⟩

theorem any_range (L : List (Int × Int)) (f : Int × Int → Bool) : (List.range L.length).any (fun k => f (L.getD k (0, 0))) = L.any f := by
  rw [Bool.eq_iff_iff, List.any_eq_true, List.any_eq_true]
  constructor
  · rintro ⟨k, hk, h⟩
    have hk := List.mem_range.1 hk
    have e : L.getD k (0, 0) = L[k] := by simp [List.getD, List.getElem?_eq_getElem hk]
    exact ⟨L.getD k (0, 0), by rw [e]; exact List.getElem_mem hk, h⟩
  · rintro ⟨x, hx, h⟩
    obtain ⟨k, hk, rfl⟩ := List.mem_iff_getElem.1 hx
    have e : L.getD k (0, 0) = L[k] := by simp [List.getD, List.getElem?_eq_getElem hk]
    exact ⟨k, List.mem_range.2 hk, by rw [e]; exact h⟩

set_option maxRecDepth 100000 in
set_option maxHeartbeats 6400000 in
theorem inTheWay (A : Option Addr) (n cap : Nat) (Ao : Option Addr) (q co g di dk : Nat) (w : World) (ps : List (Int × Int)) (hl : ps.length = n) (hr : roomB ps = true) (hdi : di < n) (hdk : dk < n) (hp : PtsAt w w.heap.size A ps) (hP : Pair w g di dk)
    (L : List (Int × Int)) (hq : L.length = q) (hqb : q ≤ 1048576) (bs : Nat → Nat) (hc : ∀ k, k < q → ∃ g0, Ao = some ⟨g0, 0, none⟩ ∧ Cell w g0 k (bs k)) (hL : ∀ k, k < q → ∃ s t : Nat, L.getD k (0, 0) = ((s : Int), (t : Int)) ∧ s < n ∧ t < n ∧ Pair w (bs k) s t) :
    Calls Try.prog 45 #[.agg #[.slice A n cap], .slice Ao q co, .slice (some ⟨g, 0, none⟩) 2 2] w fun e w' => e = .returned (.bool (L.any fun e => decide (e = ((di : Int), (dk : Int))) || crossD ps ((di : Int), (dk : Int)) e)) ∧ Below w.heap.size w w' := by
  obtain ⟨r, hr⟩ : ∃ r, (L.any fun e => decide (e = ((di : Int), (dk : Int))) || crossD ps ((di : Int), (dk : Int)) e) = r := ⟨_, rfl⟩
  have HR := Lib.hid hr
  rw [hr]
  clear hr
  have hgl := hP.2.2
  have QW : Hid (∀ W h, _) := Lib.hid fun W h => DiagImpl.wayOf A n cap di dk W ps hl hdi hdk h
  have QC : Hid (∀ (Bp Bw Br : Nat) (W : World), Below w.heap.size w W → (W.cell? ⟨Bp, 0, none⟩ = some (.slice (some ⟨g, 0, none⟩) 2 2) ∧ Bp < W.heap.size) → Holds W Bw #[.int .i64 (pt ps di).1, .int .i64 (pt ps di).2, .int .i64 (pt ps dk).1, .int .i64 (pt ps dk).2] 74 → BoxR W Br (.slice A n cap) →
      ∀ eF, Calls Try.prog 73 #[.slice Ao q co, .func (.func 74) #[] #[.pointer (some ⟨Bp, 0, none⟩), .pointer (some ⟨Bw, 0, none⟩), .pointer (some ⟨Br, 0, none⟩)]] W fun e w' => e = .returned (.bool r) ∧ Below W.heap.size W w') := Lib.hid (by
    intro Bp Bw Br W hb c1 c2 c3 eF
    have := containsFunc 74 #[.pointer (some ⟨Bp, 0, none⟩), .pointer (some ⟨Bw, 0, none⟩), .pointer (some ⟨Br, 0, none⟩)] (fun k => decide (L.getD k (0, 0) = ((di : Int), (dk : Int))) || crossD ps ((di : Int), (dk : Int)) (L.getD k (0, 0))) Ao q co W bs hqb
      (fun k hk => by obtain ⟨g0, e, c⟩ := hc k hk; exact ⟨g0, e, (hb.cell c.2).trans c.1, Nat.lt_of_lt_of_le c.2 hb.size⟩) eF
      (fun W2 k hk hb2 => by
        obtain ⟨s, t, e, hs, ht, p⟩ := hL k hk
        have hbb := hb.trans (hb2.mono hb.size)
        rw [e]
        exact asks A n cap g (bs k) Bp Bw Br di dk s t ps hl hr hdi hdk hs ht W2 ⟨(hb2.cell c1.2).trans c1.1, Nat.lt_of_lt_of_le c1.2 hb2.size⟩ (c2.later hb2) (c3.later hb2) ((hp.later hbb).wide hbb.size)
          ⟨(hbb.cell hP.2.2).trans hP.1, (hbb.cell hP.2.2).trans hP.2.1, Nat.lt_of_lt_of_le hP.2.2 hbb.size⟩ ⟨(hbb.cell p.2.2).trans p.1, (hbb.cell p.2.2).trans p.2.1, Nat.lt_of_lt_of_le p.2.2 hbb.size⟩)
    rw [← hq, any_range L (fun e => decide (e = ((di : Int), (dk : Int))) || crossD ps ((di : Int), (dk : Int)) e), HR.out, hq] at this
    exact this)
  clear HR hc hL hq hl hr
  generalize pt ps di = pa at *
  generalize pt ps dk = pb at *
  go_enter Try.func45, Try.ntmps45
  go_wp2_with fail
  have X0 := (Pts.boxR w (.slice A n cap) 28 (k := w.heap.size) (by simp)).alloc (Obj.cells #[.slice (some ⟨g, 0, none⟩) 2 2] 61)
  have X1 := Pts.boxR (w.alloc (Obj.cells #[.slice A n cap] 28)) (.slice (some ⟨g, 0, none⟩) 2 2) 61 (k := w.heap.size + 1) (by simp)
  have b0 := PointOk.below2 w (Obj.cells #[.slice A n cap] 28) (Obj.cells #[.slice (some ⟨g, 0, none⟩) 2 2] 61)
  have HO : ∀ W W' : World, (Pts.BoxR W (w.heap.size) (.slice A n cap) ∧ Pts.BoxR W (w.heap.size + 1) (.slice (some ⟨g, 0, none⟩) 2 2) ∧ PtsAt W w.heap.size A ps ∧ Pair W g (di : Int) (dk : Int) ∧ w.heap.size + 2 ≤ W.heap.size ∧ Below w.heap.size w W) → Below W.heap.size W W' → (Pts.BoxR W' (w.heap.size) (.slice A n cap) ∧ Pts.BoxR W' (w.heap.size + 1) (.slice (some ⟨g, 0, none⟩) 2 2) ∧ PtsAt W' w.heap.size A ps ∧ Pair W' g (di : Int) (dk : Int) ∧ w.heap.size + 2 ≤ W'.heap.size ∧ Below w.heap.size w W') := fun W W' ⟨h0, h1, x0, x1, x2, hb⟩ h => ⟨h0.later h, h1.later h, x0.later (h.mono hb.size), x1.later h, Nat.le_trans x2 h.size, hb.trans (h.mono hb.size)⟩
  have hz0_ : Hid ((((w.alloc (Obj.cells #[.slice A n cap] 28)).alloc (Obj.cells #[.slice (some ⟨g, 0, none⟩) 2 2] 61))).heap.size = w.heap.size + 1 + 1) := Lib.hid (by simp)
  have Y0 : PtsAt (((w.alloc (Obj.cells #[.slice A n cap] 28)).alloc (Obj.cells #[.slice (some ⟨g, 0, none⟩) 2 2] 61))) w.heap.size A ps := hp.later b0
  have Y1 : Pair (((w.alloc (Obj.cells #[.slice A n cap] 28)).alloc (Obj.cells #[.slice (some ⟨g, 0, none⟩) 2 2] 61))) g (di : Int) (dk : Int) := ⟨(b0.cell hgl).trans hP.1, (b0.cell hgl).trans hP.2.1, Nat.lt_of_lt_of_le hgl b0.size⟩
  have Y2 : w.heap.size + 2 ≤ (((w.alloc (Obj.cells #[.slice A n cap] 28)).alloc (Obj.cells #[.slice (some ⟨g, 0, none⟩) 2 2] 61))).heap.size := by simp
  generalize ((w.alloc (Obj.cells #[.slice A n cap] 28)).alloc (Obj.cells #[.slice (some ⟨g, 0, none⟩) 2 2] 61)) = w0 at X0 X1 Y0 Y1 Y2 b0 hz0_ ⊢
  have S0 := (⟨X0, X1, Y0, Y1, Y2, b0⟩ : Pts.BoxR w0 (w.heap.size) (.slice A n cap) ∧ Pts.BoxR w0 (w.heap.size + 1) (.slice (some ⟨g, 0, none⟩) 2 2) ∧ PtsAt w0 w.heap.size A ps ∧ Pair w0 g (di : Int) (dk : Int) ∧ w.heap.size + 2 ≤ w0.heap.size ∧ Below w.heap.size w w0)
  clear X0 X1 Y0 Y1 Y2 b0
  obtain ⟨⟨_, _⟩, ⟨_, _⟩, _, ⟨_, _, _⟩, _, _⟩ := id S0
  have HO2 : ∀ W W' : World, (Pts.BoxR W (w.heap.size) (.slice A n cap) ∧ Pts.BoxR W (w.heap.size + 1) (.slice (some ⟨g, 0, none⟩) 2 2) ∧ PtsAt W w.heap.size A ps ∧ Pair W g (di : Int) (dk : Int) ∧ w.heap.size + 2 ≤ W.heap.size ∧ Below w.heap.size w W) → Below (w.heap.size + 2) W W' → (Pts.BoxR W' (w.heap.size) (.slice A n cap) ∧ Pts.BoxR W' (w.heap.size + 1) (.slice (some ⟨g, 0, none⟩) 2 2) ∧ PtsAt W' w.heap.size A ps ∧ Pair W' g (di : Int) (dk : Int) ∧ w.heap.size + 2 ≤ W'.heap.size ∧ Below w.heap.size w W') := fun W W' ⟨h0, h1, x0, x1, x2, hb⟩ h => ⟨⟨(h.cell (by simp)).trans h0.1, trivial⟩, ⟨(h.cell (by simp)).trans h1.1, trivial⟩, x0.later (h.mono (by omega)), ⟨(h.cell (by dsimp only; omega)).trans x1.1, (h.cell (by dsimp only; omega)).trans x1.2.1, Nat.lt_of_lt_of_le x1.2.2 h.size⟩, Nat.le_trans x2 h.size, hb.trans (h.mono (by omega))⟩
  refine SettleB.regionOne (fun W => Pts.BoxR W (w.heap.size) (.slice A n cap) ∧ Pts.BoxR W (w.heap.size + 1) (.slice (some ⟨g, 0, none⟩) 2 2) ∧ PtsAt W w.heap.size A ps ∧ Pair W g (di : Int) (dk : Int) ∧ w.heap.size + 2 ≤ W.heap.size ∧ Below w.heap.size w W) 8 7 (w.heap.size + 2) #[.int .i64 0, .int .i64 0, .int .i64 0, .int .i64 0] #[.int .i64 pa.1, .int .i64 pa.2, .int .i64 pb.1, .int .i64 pb.2] 74 (by kernel_rfl) (by kernel_rfl) (by kernel_rfl) (by kernel_rfl) rfl rfl rfl rfl rfl rfl (by kernel_rfl) (by kernel_rfl) (by kernel_rfl) (by kernel_rfl) (fun a w => by go_simp; rfl) (fun W hS => HO _ _ hS (PointOk.below1 W _)) (fun W hS => hS.2.2.2.2.1) (HO _ _ S0 ((Below.refl _ _).drew)) ?_
  simp only [List.take_succ_cons, List.take_zero]
  clear S0
  repeat (first
    | (refine SettleA.SettlesB.off (by rfl) ?_; simp only [Act.put, List.setIfInBounds_toArray, List.set_cons_zero, List.set_cons_succ])
    | (refine SettleA.SettlesB.quiet (v := ?_) (by rfl) ?_ ?_
       rotate_left
       · (intro W hS; obtain ⟨⟨_, _⟩, ⟨_, _⟩, _, ⟨_, _, _⟩, _, _⟩ := hS; go_simp; with_reducible rfl)
       simp only [Act.put, List.setIfInBounds_toArray, List.set_cons_zero, List.set_cons_succ])
    | (refine SettleA.SettlesB.call (v := ?_) (f := ?_) (args := ?_) (by rfl) ?_ ?_ ?_
       rotate_left 3
       · (intro W; go_simp; refine ⟨?_, ?_⟩ <;> with_reducible rfl)
       · (intro W hS; first | (go_at_call 72; (with_reducible refine (QW.out _ (hS.2.2.1.wide hS.2.2.2.2.2.size)).mono ?_); rintro e W1 ⟨rfl, hb⟩; refine ⟨?_, HO _ _ hS hb, hb⟩; with_reducible rfl))
       simp only [Act.put, List.setIfInBounds_toArray, List.set_cons_zero, List.set_cons_succ]))
  refine SettleA.SettlesB.nil ⟨by simp, fun g1_ => ⟨?_, ?_⟩⟩
  · skip
    rintro W ⟨hS, b1_, c1_⟩
    obtain ⟨⟨_, _, _, _⟩, _, _, _, _⟩ := Blk.Holds.four c1_
    simp only [Act.put, SettleA.ptr, List.setIfInBounds_toArray, List.set_cons_zero, List.set_cons_succ]
    first
      | refine ⟨.skip, _, .inl rfl, (by go_simp; rfl), ?_⟩
      | refine ⟨.value _, _, .inr ⟨_, rfl⟩, (by go_simp; rfl), ?_⟩
    exact ⟨HO2 _ _ hS (((((Below.refl _ _).setCell b1_ _).setCell b1_ _).setCell b1_ _).setCell b1_ _), b1_, (Blk.set_own (Blk.set_own (Blk.set_own (Blk.set_own c1_ 0 _) 1 _) 2 _) 3 _)⟩
  rintro wr ⟨S0, b1_, B1_⟩
  simp only [Act.put, SettleA.ptr, List.setIfInBounds_toArray, List.set_cons_zero, List.set_cons_succ]
  replace B1_ : Blk.Holds wr g1_ #[.int .i64 pa.1, .int .i64 pa.2, .int .i64 pb.1, .int .i64 pb.2] 74 := B1_
  obtain ⟨⟨_, _⟩, ⟨_, _⟩, _, ⟨_, _, _⟩, _, _⟩ := id S0
  go_wp2_with fail
  refine (QC.out (w.heap.size + 1) g1_ w.heap.size _ S0.2.2.2.2.2 ⟨S0.2.1.1, Nat.lt_of_lt_of_le (by omega) S0.2.2.2.2.1⟩ B1_ S0.1 ?eF).mono ?_
  case eF => (intro args w; first | exact Try.call74 args w | rfl)
  rintro e w3 ⟨rfl, hb_⟩
  replace S0 := HO _ _ S0 hb_
  clear QC QW
  go_wp2_with fail
  go_ret
  exact ⟨rfl, S0.2.2.2.2.2⟩
end Go.Proofs.Ytmmmnnncbpdinaa.GrdImpl

