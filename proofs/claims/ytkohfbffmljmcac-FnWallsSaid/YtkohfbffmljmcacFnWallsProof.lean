/-
  For every slice of bytes, the landed functions on walls keep the promise at the two walls that are drawn from them: the law's call returns true and writes nothing that was there. No condition.
-/
import Derived.Test.YtkohfbffmljmcacRows
import Derived.WalkKit
import Derived.ProofKit
import Derived.OpenShut
import Derived.ShutString
import Derived.Test.YtkohfbffmljmcacWallImpl
import Derived.Test.YtkohfbffmljmcacGcdImpl
import Derived.Test.YtkohfbffmljmcacWallFacts
import Derived.Test.YtkohfbffmljmcacDrawBig
import Derived.Test.YtkohfbffmljmcacDrawWall
import Derived.Test.YtkohfbffmljmcacSettle
namespace Go.Proofs.Ytkohfbffmljmcac.fnWalls
open Go.ChangeShapes Go.WideShapes Go.ChangeAt Go.RowKit
open Go.ChangeMaps (open_string shut_string)
open PointMath WallMath GcdMath DrawNum DrawWall
set_option linter.unusedVariables false

theorem own : ownKnob Try.prog.godebug = none := by kernel_rfl
theorem laidOut : laidOutB Try.prog = true := by kernel_rfl

/-- What is known of a slice of integers that came in: nil, or a row of 'cap' cells. -/
def IsRow (k : IntKind) (w : World) (a : Option Addr) (len cap : Nat) (zs : List Int) : Prop :=
  (a = none ∧ len = 0 ∧ cap = 0 ∧ zs = []) ∨
  ∃ x, a = some x ∧ len ≤ cap ∧ cap ≤ maxLen ∧ zs.length = cap ∧ (∀ i, i < zs.length → w.cell? (x.add i) = some (.int k (zs.getD i 0))) ∧ ∀ n ∈ zs, (Lit.int k n).wf = true

set_option maxRecDepth 100000 in
set_option maxHeartbeats 16000000 in
theorem walk (w : World) (a0 : Option Addr) (len0 cap0 : Nat) (z0 : List Int) (w0 : IsRow .u8 w a0 len0 cap0 z0) :
    Calls Try.prog 6 #[.slice a0 len0 cap0] w fun e w' => e = .returned (.bool true) ∧ Below w.heap.size w w' := by
  have hcode : Draw.Code w w.heap.size a0 len0 := code_of_row w0
  by_cases hbig : (1048576 : Int) < (len0 : Int)
  · go_enter Try.func6, Try.ntmps6
    go_wp2_with fail
    refine (big _ a0 len0 cap0).mono ?_
    rintro e w' ⟨rfl, rfl⟩
    go_wp2_with fail
    go_ret
    exact ⟨rfl, Below.refl _ _⟩
  · go_enter Try.func6, Try.ntmps6
    go_wp2_with fail
    refine (big _ a0 len0 cap0).mono ?_
    rintro e w' ⟨rfl, rfl⟩
    go_wp2_with fail
    refine (drawWalls _ a0 len0 cap0 (by omega) hcode).mono ?_
    rintro e v0 ⟨ax, ay, bx, bY, cx, cy, dx, dy, hv, hw, rfl, hb1⟩
    clear hcode w0
    have kv := hv.ok
    have kw := hw.ok
    obtain ⟨es, s1, s80⟩ := WallFacts.steps_pos kw
    have eL := WallFacts.len_parts kw
    obtain ⟨s, hs⟩ : ∃ s, gcdI (dx - cx) (dy - cy) = s := ⟨_, rfl⟩
    obtain ⟨L, hL⟩ : ∃ L, lenI cx cy dx dy = L := ⟨_, rfl⟩
    rw [hs] at es s1 s80 eL
    rw [hL] at eL
    have p1 := mul_bound (a := s) (b := s) (n := 80) (by omega) (by omega) (by omega) (by omega)
    have p2 : 1 ≤ s * s := by have := Int.mul_le_mul s1 s1 (by omega) (by omega); omega
    obtain ⟨p, hp⟩ : ∃ p, s * s = p := ⟨_, rfl⟩
    rw [hp] at eL p1 p2
    have u1 : IntKind.i64.wrap (s * s) = p := by rw [hp]; exact IntWalk.i64_in _ (by omega)
    have u2 : ¬(p = 0) := by omega
    have u3 : (1 : Int) ≤ s := s1
    have u4 : s ≤ 80 := s80
    have u5 : IntKind.i64.wrap 0 = 0 := by decide
    have e1 : Hid (stepsI cx cy dx dy = s) := Lib.hid es
    have e6 : stepsI dx dy cx cy = s := by rw [WallFacts.steps_rev, es]
    have e2 := WallFacts.cross_comm cx cy dx dy ax ay bx bY
    have e4 := WallFacts.meet_comm cx cy dx dy ax ay bx bY
    have e7 := WallFacts.cross_rev ax ay bx bY cx cy dx dy
    have e8 := WallFacts.on_first kw
    have eJ : bx = cx → bY = cy → crossB ax ay bx bY cx cy dx dy = false ∧ meetB ax ay bx bY cx cy dx dy = true := fun h1 h2 => by
      subst h1 h2
      exact ⟨WallFacts.joined_cross _ _ _ _ _ _, WallFacts.joined_meet kv kw⟩
    have eM : crossB ax ay bx bY cx cy dx dy = true → meetB ax ay bx bY cx cy dx dy = true := WallFacts.cross_meet
    have Q1 : Hid (∀ w, _) := Lib.hid fun w => WallImpl.doCross ax ay bx bY cx cy dx dy w
    have Q2 : Hid (∀ w, _) := Lib.hid fun w => WallImpl.doCross cx cy dx dy ax ay bx bY w
    have Q3 : Hid (∀ w, _) := Lib.hid fun w => WallImpl.doMeet ax ay bx bY cx cy dx dy w
    have Q4 : Hid (∀ w, _) := Lib.hid fun w => WallImpl.doMeet cx cy dx dy ax ay bx bY w
    have Q5 : Hid (∀ w, _) := Lib.hid fun w => WallImpl.lengthSquare cx cy dx dy w
    have Q6 : Hid (∀ w, _) := Lib.hid fun w => GcdImpl.latticeSteps dx dy cx cy w
    have Q7 : Hid (∀ w, _) := Lib.hid fun w => WallImpl.doCross ax ay bx bY dx dy cx cy w
    have Q8 : Hid (∀ w, _) := Lib.hid fun w => WallImpl.isOnWall cx cy dx dy cx cy w
    rw [e2] at Q2
    rw [e4] at Q4
    rw [hL] at Q5
    rw [e6] at Q6
    rw [e7] at Q7
    rw [e8] at Q8
    clear e2 e4 e6 e7 e8 hs hL es s1 s80 p1 p2 hp kv kw hv hw
    generalize crossB ax ay bx bY cx cy dx dy = c at *
    generalize meetB ax ay bx bY cx cy dx dy = m at *
    replace eJ := Lib.hid eJ
    replace eM := Lib.hid eM
    go_wp2_with fail
    have X0 := (PointOk.box4 v0 ax ay bx bY 35 (k := v0.heap.size) (by simp)).alloc (Obj.cells #[.int .i64 cx, .int .i64 cy, .int .i64 dx, .int .i64 dy] 35)
    have X1 := PointOk.box4 (v0.alloc (Obj.cells #[.int .i64 ax, .int .i64 ay, .int .i64 bx, .int .i64 bY] 35)) cx cy dx dy 35 (k := v0.heap.size + 1) (by simp)
    have b0 := PointOk.below2 v0 (Obj.cells #[.int .i64 ax, .int .i64 ay, .int .i64 bx, .int .i64 bY] 35) (Obj.cells #[.int .i64 cx, .int .i64 cy, .int .i64 dx, .int .i64 dy] 35)
    have HO : ∀ W W' : World, (PointOk.Box4 W (v0.heap.size) ax ay bx bY ∧ PointOk.Box4 W (v0.heap.size + 1) cx cy dx dy ∧ Below v0.heap.size v0 W) → Below W.heap.size W W' → (PointOk.Box4 W' (v0.heap.size) ax ay bx bY ∧ PointOk.Box4 W' (v0.heap.size + 1) cx cy dx dy ∧ Below v0.heap.size v0 W') := fun W W' ⟨h0, h1, hb⟩ h => ⟨h0.later h, h1.later h, hb.trans (h.mono hb.size)⟩
    generalize ((v0.alloc (Obj.cells #[.int .i64 ax, .int .i64 ay, .int .i64 bx, .int .i64 bY] 35)).alloc (Obj.cells #[.int .i64 cx, .int .i64 cy, .int .i64 dx, .int .i64 dy] 35)) = w0 at X0 X1 b0 ⊢
    have S0 := (⟨X0, X1, b0⟩ : PointOk.Box4 w0 (v0.heap.size) ax ay bx bY ∧ PointOk.Box4 w0 (v0.heap.size + 1) cx cy dx dy ∧ Below v0.heap.size v0 w0)
    clear X0 X1 b0
    obtain ⟨⟨_, _, _, _⟩, ⟨_, _, _, _⟩, _⟩ := id S0
    refine (GcdImpl.latticeSteps cx cy dx dy _).mono ?_
    rintro e w1 ⟨rfl, hb_⟩
    replace S0 := HO _ _ S0 hb_
    clear hb_
    obtain ⟨⟨_, _, _, _⟩, ⟨_, _, _, _⟩, _⟩ := id S0
    rw [e1.out]
    clear e1
    have XB := PointOk.box4 w1 dx dy cx cy 35 (k := w1.heap.size) rfl
    have hb_ := PointOk.below1 w1 (Obj.cells #[.int .i64 dx, .int .i64 dy, .int .i64 cx, .int .i64 cy] 35)
    go_wp2_with fail
    replace S0 := HO _ _ S0 hb_
    clear hb_ HO
    replace S0 := (⟨S0.1, S0.2.1, XB, S0.2.2⟩ : _ ∧ _ ∧ _ ∧ _)
    clear XB
    generalize w1.alloc (Obj.cells #[.int .i64 dx, .int .i64 dy, .int .i64 cx, .int .i64 cy] 35) = w2 at *
    generalize w1.heap.size = kx at *
    have HO : ∀ W W' : World, (PointOk.Box4 W (v0.heap.size) ax ay bx bY ∧ PointOk.Box4 W (v0.heap.size + 1) cx cy dx dy ∧ PointOk.Box4 W kx dx dy cx cy ∧ Below v0.heap.size v0 W) → Below W.heap.size W W' → (PointOk.Box4 W' (v0.heap.size) ax ay bx bY ∧ PointOk.Box4 W' (v0.heap.size + 1) cx cy dx dy ∧ PointOk.Box4 W' kx dx dy cx cy ∧ Below v0.heap.size v0 W') := fun W W' ⟨h0, h1, x0, hb⟩ h => ⟨h0.later h, h1.later h, x0.later h, hb.trans (h.mono hb.size)⟩
    by_cases h1 : ¬(bx = cx)
    · clear eJ
      cases c
      · clear eM
        refine Settle.region (fun W => PointOk.Box4 W (v0.heap.size) ax ay bx bY ∧ PointOk.Box4 W (v0.heap.size + 1) cx cy dx dy ∧ PointOk.Box4 W kx dx dy cx cy ∧ Below v0.heap.size v0 W) (by kernel_rfl) (by kernel_rfl) (by kernel_rfl) (by kernel_rfl) (HO _ _ S0 ((Below.refl _ _).drew)) ?_
        clear S0
        repeat (first
          | (refine Settle.Settles.off (by rfl) ?_; simp only [Act.put, List.setIfInBounds_toArray, List.set_cons_zero, List.set_cons_succ])
          | (refine Settle.Settles.quiet (v := ?_) (by rfl) ?_ ?_
             rotate_left
             · (intro W hS; obtain ⟨⟨_, _, _, _⟩, ⟨_, _, _, _⟩, ⟨_, _, _, _⟩, _⟩ := hS; go_simp; with_reducible rfl)
             simp only [Act.put, List.setIfInBounds_toArray, List.set_cons_zero, List.set_cons_succ])
          | (refine Settle.Settles.call (v := ?_) (f := ?_) (args := ?_) (by rfl) ?_ ?_ ?_
             rotate_left 3
             · (intro W; go_simp; refine ⟨?_, ?_⟩ <;> with_reducible rfl)
             · (intro W hS; first | (go_at_call 21; (with_reducible refine (Q1.out _).mono ?_); rintro e W1 ⟨rfl, hb⟩; refine ⟨?_, HO _ _ hS hb⟩; with_reducible rfl) | (go_at_call 21; (with_reducible refine (Q2.out _).mono ?_); rintro e W1 ⟨rfl, hb⟩; refine ⟨?_, HO _ _ hS hb⟩; with_reducible rfl) | (go_at_call 21; (with_reducible refine (Q7.out _).mono ?_); rintro e W1 ⟨rfl, hb⟩; refine ⟨?_, HO _ _ hS hb⟩; with_reducible rfl) | (go_at_call 22; (with_reducible refine (Q3.out _).mono ?_); rintro e W1 ⟨rfl, hb⟩; refine ⟨?_, HO _ _ hS hb⟩; with_reducible rfl) | (go_at_call 22; (with_reducible refine (Q4.out _).mono ?_); rintro e W1 ⟨rfl, hb⟩; refine ⟨?_, HO _ _ hS hb⟩; with_reducible rfl) | (go_at_call 23; (with_reducible refine (Q5.out _).mono ?_); rintro e W1 ⟨rfl, hb⟩; refine ⟨?_, HO _ _ hS hb⟩; with_reducible rfl) | (go_at_call 20; (with_reducible refine (Q6.out _).mono ?_); rintro e W1 ⟨rfl, hb⟩; refine ⟨?_, HO _ _ hS hb⟩; with_reducible rfl) | (go_at_call 24; (with_reducible refine (Q8.out _).mono ?_); rintro e W1 ⟨rfl, hb⟩; refine ⟨?_, HO _ _ hS hb⟩; with_reducible rfl))
             simp only [Act.put, List.setIfInBounds_toArray, List.set_cons_zero, List.set_cons_succ]))
        refine Settle.Settles.nil ?_
        intro wr S0
        obtain ⟨⟨_, _, _, _⟩, ⟨_, _, _, _⟩, ⟨_, _, _, _⟩, _⟩ := id S0
        go_wp2_with fail
        go_ret
        exact ⟨rfl, hb1.trans (S0.2.2.2.mono hb1.size)⟩
      · have hm := eM.out rfl
        clear eM
        subst hm
        refine Settle.region (fun W => PointOk.Box4 W (v0.heap.size) ax ay bx bY ∧ PointOk.Box4 W (v0.heap.size + 1) cx cy dx dy ∧ PointOk.Box4 W kx dx dy cx cy ∧ Below v0.heap.size v0 W) (by kernel_rfl) (by kernel_rfl) (by kernel_rfl) (by kernel_rfl) (HO _ _ S0 ((Below.refl _ _).drew)) ?_
        clear S0
        repeat (first
          | (refine Settle.Settles.off (by rfl) ?_; simp only [Act.put, List.setIfInBounds_toArray, List.set_cons_zero, List.set_cons_succ])
          | (refine Settle.Settles.quiet (v := ?_) (by rfl) ?_ ?_
             rotate_left
             · (intro W hS; obtain ⟨⟨_, _, _, _⟩, ⟨_, _, _, _⟩, ⟨_, _, _, _⟩, _⟩ := hS; go_simp; with_reducible rfl)
             simp only [Act.put, List.setIfInBounds_toArray, List.set_cons_zero, List.set_cons_succ])
          | (refine Settle.Settles.call (v := ?_) (f := ?_) (args := ?_) (by rfl) ?_ ?_ ?_
             rotate_left 3
             · (intro W; go_simp; refine ⟨?_, ?_⟩ <;> with_reducible rfl)
             · (intro W hS; first | (go_at_call 21; (with_reducible refine (Q1.out _).mono ?_); rintro e W1 ⟨rfl, hb⟩; refine ⟨?_, HO _ _ hS hb⟩; with_reducible rfl) | (go_at_call 21; (with_reducible refine (Q2.out _).mono ?_); rintro e W1 ⟨rfl, hb⟩; refine ⟨?_, HO _ _ hS hb⟩; with_reducible rfl) | (go_at_call 21; (with_reducible refine (Q7.out _).mono ?_); rintro e W1 ⟨rfl, hb⟩; refine ⟨?_, HO _ _ hS hb⟩; with_reducible rfl) | (go_at_call 22; (with_reducible refine (Q3.out _).mono ?_); rintro e W1 ⟨rfl, hb⟩; refine ⟨?_, HO _ _ hS hb⟩; with_reducible rfl) | (go_at_call 22; (with_reducible refine (Q4.out _).mono ?_); rintro e W1 ⟨rfl, hb⟩; refine ⟨?_, HO _ _ hS hb⟩; with_reducible rfl) | (go_at_call 23; (with_reducible refine (Q5.out _).mono ?_); rintro e W1 ⟨rfl, hb⟩; refine ⟨?_, HO _ _ hS hb⟩; with_reducible rfl) | (go_at_call 20; (with_reducible refine (Q6.out _).mono ?_); rintro e W1 ⟨rfl, hb⟩; refine ⟨?_, HO _ _ hS hb⟩; with_reducible rfl) | (go_at_call 24; (with_reducible refine (Q8.out _).mono ?_); rintro e W1 ⟨rfl, hb⟩; refine ⟨?_, HO _ _ hS hb⟩; with_reducible rfl))
             simp only [Act.put, List.setIfInBounds_toArray, List.set_cons_zero, List.set_cons_succ]))
        refine Settle.Settles.nil ?_
        intro wr S0
        obtain ⟨⟨_, _, _, _⟩, ⟨_, _, _, _⟩, ⟨_, _, _, _⟩, _⟩ := id S0
        go_wp2_with fail
        go_ret
        exact ⟨rfl, hb1.trans (S0.2.2.2.mono hb1.size)⟩
    · replace h1 : bx = cx := Decidable.not_not.mp h1
      by_cases h2 : ¬(bY = cy)
      · clear eJ HO
        subst h1
        have HO : ∀ W W' : World, (PointOk.Box4 W (v0.heap.size) ax ay bx bY ∧ PointOk.Box4 W (v0.heap.size + 1) bx cy dx dy ∧ PointOk.Box4 W kx dx dy bx cy ∧ Below v0.heap.size v0 W) → Below W.heap.size W W' → (PointOk.Box4 W' (v0.heap.size) ax ay bx bY ∧ PointOk.Box4 W' (v0.heap.size + 1) bx cy dx dy ∧ PointOk.Box4 W' kx dx dy bx cy ∧ Below v0.heap.size v0 W') := fun W W' ⟨h0, h1, x0, hb⟩ h => ⟨h0.later h, h1.later h, x0.later h, hb.trans (h.mono hb.size)⟩
        cases c
        · clear eM
          refine Settle.region (fun W => PointOk.Box4 W (v0.heap.size) ax ay bx bY ∧ PointOk.Box4 W (v0.heap.size + 1) bx cy dx dy ∧ PointOk.Box4 W kx dx dy bx cy ∧ Below v0.heap.size v0 W) (by kernel_rfl) (by kernel_rfl) (by kernel_rfl) (by kernel_rfl) (HO _ _ S0 ((Below.refl _ _).drew)) ?_
          clear S0
          repeat (first
            | (refine Settle.Settles.off (by rfl) ?_; simp only [Act.put, List.setIfInBounds_toArray, List.set_cons_zero, List.set_cons_succ])
            | (refine Settle.Settles.quiet (v := ?_) (by rfl) ?_ ?_
               rotate_left
               · (intro W hS; obtain ⟨⟨_, _, _, _⟩, ⟨_, _, _, _⟩, ⟨_, _, _, _⟩, _⟩ := hS; go_simp; with_reducible rfl)
               simp only [Act.put, List.setIfInBounds_toArray, List.set_cons_zero, List.set_cons_succ])
            | (refine Settle.Settles.call (v := ?_) (f := ?_) (args := ?_) (by rfl) ?_ ?_ ?_
               rotate_left 3
               · (intro W; go_simp; refine ⟨?_, ?_⟩ <;> with_reducible rfl)
               · (intro W hS; first | (go_at_call 21; (with_reducible refine (Q1.out _).mono ?_); rintro e W1 ⟨rfl, hb⟩; refine ⟨?_, HO _ _ hS hb⟩; with_reducible rfl) | (go_at_call 21; (with_reducible refine (Q2.out _).mono ?_); rintro e W1 ⟨rfl, hb⟩; refine ⟨?_, HO _ _ hS hb⟩; with_reducible rfl) | (go_at_call 21; (with_reducible refine (Q7.out _).mono ?_); rintro e W1 ⟨rfl, hb⟩; refine ⟨?_, HO _ _ hS hb⟩; with_reducible rfl) | (go_at_call 22; (with_reducible refine (Q3.out _).mono ?_); rintro e W1 ⟨rfl, hb⟩; refine ⟨?_, HO _ _ hS hb⟩; with_reducible rfl) | (go_at_call 22; (with_reducible refine (Q4.out _).mono ?_); rintro e W1 ⟨rfl, hb⟩; refine ⟨?_, HO _ _ hS hb⟩; with_reducible rfl) | (go_at_call 23; (with_reducible refine (Q5.out _).mono ?_); rintro e W1 ⟨rfl, hb⟩; refine ⟨?_, HO _ _ hS hb⟩; with_reducible rfl) | (go_at_call 20; (with_reducible refine (Q6.out _).mono ?_); rintro e W1 ⟨rfl, hb⟩; refine ⟨?_, HO _ _ hS hb⟩; with_reducible rfl) | (go_at_call 24; (with_reducible refine (Q8.out _).mono ?_); rintro e W1 ⟨rfl, hb⟩; refine ⟨?_, HO _ _ hS hb⟩; with_reducible rfl))
               simp only [Act.put, List.setIfInBounds_toArray, List.set_cons_zero, List.set_cons_succ]))
          refine Settle.Settles.nil ?_
          intro wr S0
          obtain ⟨⟨_, _, _, _⟩, ⟨_, _, _, _⟩, ⟨_, _, _, _⟩, _⟩ := id S0
          go_wp2_with fail
          go_ret
          exact ⟨rfl, hb1.trans (S0.2.2.2.mono hb1.size)⟩
        · have hm := eM.out rfl
          clear eM
          subst hm
          refine Settle.region (fun W => PointOk.Box4 W (v0.heap.size) ax ay bx bY ∧ PointOk.Box4 W (v0.heap.size + 1) bx cy dx dy ∧ PointOk.Box4 W kx dx dy bx cy ∧ Below v0.heap.size v0 W) (by kernel_rfl) (by kernel_rfl) (by kernel_rfl) (by kernel_rfl) (HO _ _ S0 ((Below.refl _ _).drew)) ?_
          clear S0
          repeat (first
            | (refine Settle.Settles.off (by rfl) ?_; simp only [Act.put, List.setIfInBounds_toArray, List.set_cons_zero, List.set_cons_succ])
            | (refine Settle.Settles.quiet (v := ?_) (by rfl) ?_ ?_
               rotate_left
               · (intro W hS; obtain ⟨⟨_, _, _, _⟩, ⟨_, _, _, _⟩, ⟨_, _, _, _⟩, _⟩ := hS; go_simp; with_reducible rfl)
               simp only [Act.put, List.setIfInBounds_toArray, List.set_cons_zero, List.set_cons_succ])
            | (refine Settle.Settles.call (v := ?_) (f := ?_) (args := ?_) (by rfl) ?_ ?_ ?_
               rotate_left 3
               · (intro W; go_simp; refine ⟨?_, ?_⟩ <;> with_reducible rfl)
               · (intro W hS; first | (go_at_call 21; (with_reducible refine (Q1.out _).mono ?_); rintro e W1 ⟨rfl, hb⟩; refine ⟨?_, HO _ _ hS hb⟩; with_reducible rfl) | (go_at_call 21; (with_reducible refine (Q2.out _).mono ?_); rintro e W1 ⟨rfl, hb⟩; refine ⟨?_, HO _ _ hS hb⟩; with_reducible rfl) | (go_at_call 21; (with_reducible refine (Q7.out _).mono ?_); rintro e W1 ⟨rfl, hb⟩; refine ⟨?_, HO _ _ hS hb⟩; with_reducible rfl) | (go_at_call 22; (with_reducible refine (Q3.out _).mono ?_); rintro e W1 ⟨rfl, hb⟩; refine ⟨?_, HO _ _ hS hb⟩; with_reducible rfl) | (go_at_call 22; (with_reducible refine (Q4.out _).mono ?_); rintro e W1 ⟨rfl, hb⟩; refine ⟨?_, HO _ _ hS hb⟩; with_reducible rfl) | (go_at_call 23; (with_reducible refine (Q5.out _).mono ?_); rintro e W1 ⟨rfl, hb⟩; refine ⟨?_, HO _ _ hS hb⟩; with_reducible rfl) | (go_at_call 20; (with_reducible refine (Q6.out _).mono ?_); rintro e W1 ⟨rfl, hb⟩; refine ⟨?_, HO _ _ hS hb⟩; with_reducible rfl) | (go_at_call 24; (with_reducible refine (Q8.out _).mono ?_); rintro e W1 ⟨rfl, hb⟩; refine ⟨?_, HO _ _ hS hb⟩; with_reducible rfl))
               simp only [Act.put, List.setIfInBounds_toArray, List.set_cons_zero, List.set_cons_succ]))
          refine Settle.Settles.nil ?_
          intro wr S0
          obtain ⟨⟨_, _, _, _⟩, ⟨_, _, _, _⟩, ⟨_, _, _, _⟩, _⟩ := id S0
          go_wp2_with fail
          go_ret
          exact ⟨rfl, hb1.trans (S0.2.2.2.mono hb1.size)⟩
      · replace h2 : bY = cy := Decidable.not_not.mp h2
        have hJ := eJ.out h1 h2
        clear eJ eM HO
        obtain ⟨hc, hm⟩ := hJ
        subst h1 h2 hc hm
        have HO : ∀ W W' : World, (PointOk.Box4 W (v0.heap.size) ax ay bx bY ∧ PointOk.Box4 W (v0.heap.size + 1) bx bY dx dy ∧ PointOk.Box4 W kx dx dy bx bY ∧ Below v0.heap.size v0 W) → Below W.heap.size W W' → (PointOk.Box4 W' (v0.heap.size) ax ay bx bY ∧ PointOk.Box4 W' (v0.heap.size + 1) bx bY dx dy ∧ PointOk.Box4 W' kx dx dy bx bY ∧ Below v0.heap.size v0 W') := fun W W' ⟨h0, h1, x0, hb⟩ h => ⟨h0.later h, h1.later h, x0.later h, hb.trans (h.mono hb.size)⟩
        refine Settle.region (fun W => PointOk.Box4 W (v0.heap.size) ax ay bx bY ∧ PointOk.Box4 W (v0.heap.size + 1) bx bY dx dy ∧ PointOk.Box4 W kx dx dy bx bY ∧ Below v0.heap.size v0 W) (by kernel_rfl) (by kernel_rfl) (by kernel_rfl) (by kernel_rfl) (HO _ _ S0 ((Below.refl _ _).drew)) ?_
        clear S0
        repeat (first
          | (refine Settle.Settles.off (by rfl) ?_; simp only [Act.put, List.setIfInBounds_toArray, List.set_cons_zero, List.set_cons_succ])
          | (refine Settle.Settles.quiet (v := ?_) (by rfl) ?_ ?_
             rotate_left
             · (intro W hS; obtain ⟨⟨_, _, _, _⟩, ⟨_, _, _, _⟩, ⟨_, _, _, _⟩, _⟩ := hS; go_simp; with_reducible rfl)
             simp only [Act.put, List.setIfInBounds_toArray, List.set_cons_zero, List.set_cons_succ])
          | (refine Settle.Settles.call (v := ?_) (f := ?_) (args := ?_) (by rfl) ?_ ?_ ?_
             rotate_left 3
             · (intro W; go_simp; refine ⟨?_, ?_⟩ <;> with_reducible rfl)
             · (intro W hS; first | (go_at_call 21; (with_reducible refine (Q1.out _).mono ?_); rintro e W1 ⟨rfl, hb⟩; refine ⟨?_, HO _ _ hS hb⟩; with_reducible rfl) | (go_at_call 21; (with_reducible refine (Q2.out _).mono ?_); rintro e W1 ⟨rfl, hb⟩; refine ⟨?_, HO _ _ hS hb⟩; with_reducible rfl) | (go_at_call 21; (with_reducible refine (Q7.out _).mono ?_); rintro e W1 ⟨rfl, hb⟩; refine ⟨?_, HO _ _ hS hb⟩; with_reducible rfl) | (go_at_call 22; (with_reducible refine (Q3.out _).mono ?_); rintro e W1 ⟨rfl, hb⟩; refine ⟨?_, HO _ _ hS hb⟩; with_reducible rfl) | (go_at_call 22; (with_reducible refine (Q4.out _).mono ?_); rintro e W1 ⟨rfl, hb⟩; refine ⟨?_, HO _ _ hS hb⟩; with_reducible rfl) | (go_at_call 23; (with_reducible refine (Q5.out _).mono ?_); rintro e W1 ⟨rfl, hb⟩; refine ⟨?_, HO _ _ hS hb⟩; with_reducible rfl) | (go_at_call 20; (with_reducible refine (Q6.out _).mono ?_); rintro e W1 ⟨rfl, hb⟩; refine ⟨?_, HO _ _ hS hb⟩; with_reducible rfl) | (go_at_call 24; (with_reducible refine (Q8.out _).mono ?_); rintro e W1 ⟨rfl, hb⟩; refine ⟨?_, HO _ _ hS hb⟩; with_reducible rfl))
             simp only [Act.put, List.setIfInBounds_toArray, List.set_cons_zero, List.set_cons_succ]))
        refine Settle.Settles.nil ?_
        intro wr S0
        obtain ⟨⟨_, _, _, _⟩, ⟨_, _, _, _⟩, ⟨_, _, _, _⟩, _⟩ := id S0
        go_wp2_with fail
        go_ret
        exact ⟨rfl, hb1.trans (S0.2.2.2.mono hb1.size)⟩

set_option maxRecDepth 100000 in
theorem contract (H : Type) (enc : TypeId × Value → H) (W : World) (base : Nat) (args : Array Value) (ds gs : List (DataW H)) (before : List MemPlace)
    (hval : ∀ (j : Nat) t v, Try.f6.params[j]? = some t → args[j]? = some v → Value.okWide Try.prog W .any base t v)
    (hW : DataW.Whole enc Try.prog Try.f6.params.toList Rows.fnWallsSpec.vars false W args.toList ds gs before) :
    Calls Try.prog 6 args W fun e W' => ∃ v, e = .returned v ∧ Rows.fnWallsSpec.post enc Try.prog Try.f6 false true false false W args v W' := by
  have hW' := hW
  obtain ⟨p, q, hA0, hV, rfl, hfz, hnd⟩ := hW
  have hA : DataW.TrodAll enc Try.prog W 0 (fun _ => true) true Try.f6.params.toList args.toList ds p := hA0
  rw [Try.params6] at hA hval
  obtain ⟨v0, vs0, d0, ds0, p0, q0, hargs, rfl, rfl, h0, r0⟩ := trodAll_cons hA
  obtain ⟨rfl, rfl, rfl⟩ := trodAll_nil r0
  obtain rfl : args = #[v0] := by cases args; simp_all
  obtain ⟨rfl, rfl⟩ := trodVars_none hV
  obtain ⟨a0, len0, cap0, rfl⟩ := okWide_slice Try.underlying22 (hval 0 22 v0 rfl rfl)
  have k0 := h0
  have lt0 : ∀ x ∈ p0, x.block < W.heap.size := by obtain ⟨m, hm⟩ := k0; exact DataW.trod_lt m _ _ _ hm
  obtain ⟨z0, w0⟩ : ∃ zs, IsRow .u8 W a0 len0 cap0 zs := by
    obtain ⟨fuel, hf⟩ := h0
    rcases open_ints Try.underlying22 Try.underlying5 (by kernel_rfl) hf with ⟨hcs, _⟩ | ⟨x, l, c, zs, hcs, _, hl, hm, hz, _, hcell, hwz⟩
    · simp [Value.cells] at hcs
      obtain ⟨rfl, rfl, rfl⟩ := hcs
      exact ⟨[], .inl ⟨rfl, rfl, rfl, rfl⟩⟩
    · simp [Value.cells] at hcs
      obtain ⟨rfl, rfl, rfl⟩ := hcs
      exact ⟨zs, .inr ⟨_, rfl, hl, hm, by simpa using hz, hcell, hwz⟩⟩
  clear hA0
  refine (walk W a0 len0 cap0 z0 w0).mono fun e W' ⟨he, hg⟩ => ?_
  subst he
  exact ⟨_, rfl, _, _, _, [], _, [], hW', (trodAll_cons_mk (shut_bool Try.underlying4 _) trodAll_mk0), (trodAll_cons_mk (Below.trod laidOut (by kernel_rfl) (of_decide_eq_true (by kernel_rfl)) k0 hg lt0) trodAll_mk0), rfl, hg.frame _, fun h => by cases h⟩

set_option maxRecDepth 100000 in
theorem lifted (os : Os) (started : os.Started) (H : Type) (enc : TypeId × Value → H) :
    ReturnsInHanded {} Try.checked os 6 .any (Rows.fnWallsSpec.pre6 enc Try.prog Try.f6 Rows.fnWallsRow.domain false) (Rows.fnWallsSpec.post enc Try.prog Try.f6 false true false false) := by
  refine returnsInHanded_of_change (C := Try.checked) own started (by kernel_rfl) Try.func6
    (ChangeSpec.witness6 (enc := enc) (C := Try.checked) false ⟨#[], #[Value.slice none 0 0], []⟩ 8 (by kernel_rfl) (by kernel_rfl) (by kernel_rfl) (by kernel_rfl)) ?_
  intro W base args ds gs before hval hW hcnd _
  exact contract H enc W base args ds gs before hval hW

theorem proved : Rows.FnWallsSaid :=
  OpenClaim.holds_of_wide 6 Try.f6 rfl rfl rfl rfl rfl rfl rfl ⟨rfl, rfl, rfl, rfl, rfl⟩ rfl rfl rfl rfl rfl (by kernel_rfl) Try.func6 (by kernel_rfl)
    (of_decide_eq_true (by kernel_rfl)) (by unfold Func.isWrapper; first | (rw [if_pos (by decide +kernel)]; kernel_rfl) | (rw [if_neg (by decide +kernel)]; exact ⟨rfl, rfl⟩))
    (fun os started H enc _ => lifted os started H enc)
#print axioms proved
end Go.Proofs.Ytkohfbffmljmcac.fnWalls
