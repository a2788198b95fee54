/-
  For every slice of bytes, the landed functions on loans keep the promise at the two loans and the halls that are drawn from them: the law's call returns true and writes nothing that was there. No condition.
-/
import Derived.Test.YtcfoleiooohbhaaRows
import Derived.WalkKit
import Derived.ProofKit
import Derived.OpenShut
import Derived.ShutString
import Derived.Test.YtcfoleiooohbhaaDutyImpl
import Derived.Test.YtcfoleiooohbhaaHallsImpl
import Derived.Test.YtcfoleiooohbhaaDrawLoan
import Derived.Test.YtcfoleiooohbhaaLoanMath
import Derived.Test.YtcfoleiooohbhaaHasMath
import Derived.Test.YtcfoleiooohbhaaGround
namespace Go.Proofs.Ytcfoleiooohbhaa.fnLoans
open Go.ChangeShapes Go.WideShapes Go.ChangeAt Go.RowKit
open Go.ChangeMaps (open_string shut_string)
open DutyMath LoanMath Draw DrawNum DrawLoan Own Ints HasMath
set_option linter.unusedVariables false

theorem own : ownKnob Try.prog.godebug = none := by kernel_rfl
theorem laidOut : laidOutB Try.prog = true := by kernel_rfl

/-- What is known of a slice of integers that came in: nil, or a row of 'cap' cells. -/
def IsRow (k : IntKind) (w : World) (a : Option Addr) (len cap : Nat) (zs : List Int) : Prop :=
  (a = none ∧ len = 0 ∧ cap = 0 ∧ zs = []) ∨
  ∃ x, a = some x ∧ len ≤ cap ∧ cap ≤ maxLen ∧ zs.length = cap ∧ (∀ i, i < zs.length → w.cell? (x.add i) = some (.int k (zs.getD i 0))) ∧ ∀ n ∈ zs, (Lit.int k n).wf = true

set_option maxRecDepth 100000 in
set_option maxHeartbeats 16000000 in
theorem walk (w : World) (a0 : Option Addr) (len0 cap0 : Nat) (z0 : List Int) (w0 : IsRow .u8 w a0 len0 cap0 z0) :
    Calls Try.prog 3 #[.slice a0 len0 cap0] w fun e w' => e = .returned (.bool true) ∧ Below w.heap.size w w' := by
  have hcode : Draw.Code w w.heap.size a0 len0 := code_of_row w0
  by_cases hbig : (1048576 : Int) < (len0 : Int)
  · go_enter Try.func3, Try.ntmps3
    go_wp2_with fail
    refine (big _ a0 len0 cap0).mono ?_
    rintro e w' ⟨rfl, rfl⟩
    go_wp2_with fail
    go_ret
    exact ⟨rfl, Below.refl _ _⟩
  go_enter Try.func3, Try.ntmps3
  go_wp2_with fail
  refine (big _ a0 len0 cap0).mono ?_
  rintro e w' ⟨rfl, rfl⟩
  go_wp2_with fail
  refine (drawLoans _ a0 len0 cap0 (by omega) hcode).mono ?_
  rintro e v0 ⟨l1, a1, b1, g1, l2, a2, b2, g2, hs, A3, c3, h1, h2, h4, rfl, O0, hb0⟩
  clear hcode w0 hbig
  obtain ⟨j1, j2, j3, j4, ok, hJ, FJ, FN, FS⟩ := join_cases h1 h2
  have hself := strict_self h1
  have FT := fun (hk : strictB l1 a1 b1 g1 l2 a2 b2 g2 = true) (k : Nat) (hf : fitF l1 a1 b1 g1 hs k = true) => strict_fit hk (hs := hs) (k := k) hf
  obtain ⟨n3, hn3⟩ : ∃ m, hs.length = m := ⟨_, rfl⟩
  rw [hn3] at h4 O0 ⊢
  have QJ := Lib.hid (fun W => DutyImpl.joinLoans l1 a1 b1 g1 l2 a2 b2 g2 W)
  rw [hJ] at QJ
  have FJ := Lib.hid (FJ hs)
  have FN := Lib.hid (FN hs)
  have FS := Lib.hid FS
  have FT := Lib.hid FT
  clear hJ
  go_wp2_with fail
  have X3 := (Tup4.box1 v0 l1 a1 b1 g1 25 (k := v0.heap.size) rfl).alloc (Obj.cells #[.int .i64 l2, .int .i64 a2, .int .i64 b2, .int .i64 g2] 25)
  have X4 := Tup4.box1 (v0.alloc (Obj.cells #[.int .i64 l1, .int .i64 a1, .int .i64 b1, .int .i64 g1] 25)) l2 a2 b2 g2 25 (k := v0.heap.size + 1) (by simp)
  have B1 := PointOk.below2 v0 (Obj.cells #[.int .i64 l1, .int .i64 a1, .int .i64 b1, .int .i64 g1] 25) (Obj.cells #[.int .i64 l2, .int .i64 a2, .int .i64 b2, .int .i64 g2] 25)
  replace O0 := Lib.hid (own_below O0 B1)
  replace hb0 := hb0.trans (B1.mono hb0.size)
  clear B1
  generalize ((v0.alloc (Obj.cells #[.int .i64 l1, .int .i64 a1, .int .i64 b1, .int .i64 g1] 25)).alloc (Obj.cells #[.int .i64 l2, .int .i64 a2, .int .i64 b2, .int .i64 g2] 25)) = v1 at *
  refine (QJ.out v1).mono ?_
  rintro e v2 ⟨rfl, hb_⟩
  replace X3 := X3.later hb_
  replace X4 := X4.later hb_
  replace O0 := Lib.hid (own_below O0.out hb_)
  replace hb0 := hb0.trans (hb_.mono hb0.size)
  clear hb_ QJ
  have B2 := PointOk.below1 v2 (Obj.cells #[.int .i64 j1, .int .i64 j2, .int .i64 j3, .int .i64 j4] 25)
  have X6 := Tup4.box1 v2 j1 j2 j3 j4 25 (k := v2.heap.size) rfl
  replace X3 := X3.later B2
  replace X4 := X4.later B2
  replace O0 := Lib.hid (own_below O0.out B2)
  replace hb0 := hb0.trans (B2.mono hb0.size)
  clear B2
  obtain ⟨_, _, _, _⟩ := id X3
  go_wp2_with fail
  generalize v2.alloc (Obj.cells #[.int .i64 j1, .int .i64 j2, .int .i64 j3, .int .i64 j4] 25) = w3 at *
  have HO : ∀ W W' : World, (Tup4.Box W v0.heap.size l1 a1 b1 g1 ∧ Tup4.Box W (v0.heap.size + 1) l2 a2 b2 g2 ∧ Tup4.Box W v2.heap.size j1 j2 j3 j4 ∧ Hid (W.ownsRow w.heap.size 36 3 (.slice A3 n3 c3) n3 (Tup3.cellsT hs)) ∧ Below w.heap.size w W) → Below W.heap.size W W' → (Tup4.Box W' v0.heap.size l1 a1 b1 g1 ∧ Tup4.Box W' (v0.heap.size + 1) l2 a2 b2 g2 ∧ Tup4.Box W' v2.heap.size j1 j2 j3 j4 ∧ Hid (W'.ownsRow w.heap.size 36 3 (.slice A3 n3 c3) n3 (Tup3.cellsT hs)) ∧ Below w.heap.size w W') := fun W W' ⟨x0, x1, x2, x3, hb⟩ h => ⟨x0.later h, x1.later h, x2.later h, Lib.hid (own_below (x3).out h), hb.trans (h.mono hb.size)⟩
  have S0 : Tup4.Box w3 v0.heap.size l1 a1 b1 g1 ∧ Tup4.Box w3 (v0.heap.size + 1) l2 a2 b2 g2 ∧ Tup4.Box w3 v2.heap.size j1 j2 j3 j4 ∧ Hid (w3.ownsRow w.heap.size 36 3 (.slice A3 n3 c3) n3 (Tup3.cellsT hs)) ∧ Below w.heap.size w w3 := ⟨X3, X4, X6, O0, hb0⟩
  clear X3 X4 X6 O0 hb0
  obtain ⟨⟨_, _, _, _⟩, ⟨_, _, _, _⟩, ⟨_, _, _, _⟩, _, _⟩ := id S0
  have TH : ∀ W : World, (Tup4.Box W v0.heap.size l1 a1 b1 g1 ∧ Tup4.Box W (v0.heap.size + 1) l2 a2 b2 g2 ∧ Tup4.Box W v2.heap.size j1 j2 j3 j4 ∧ Hid (W.ownsRow w.heap.size 36 3 (.slice A3 n3 c3) n3 (Tup3.cellsT hs)) ∧ Below w.heap.size w W) → Tup3.TsAt W W.heap.size A3 hs := fun W h => ts_own h.2.2.2.1.out hn3
  have hm1 := hallsL_le l1 a1 b1 g1 hs (by omega)
  have hm2 := hallsL_le l2 a2 b2 g2 hs (by omega)
  have hm3 := hallsL_le j1 j2 j3 j4 hs (by omega)
  have HX1 : Hid (∀ k, k < n3 → decide ((k : Int) ∈ hallsL l1 a1 b1 g1 hs) = fitF l1 a1 b1 g1 hs k) := Lib.hid (fun k hk => has_that (by omega))
  have HX2 : Hid (∀ k, k < n3 → decide ((k : Int) ∈ hallsL l2 a2 b2 g2 hs) = fitF l2 a2 b2 g2 hs k) := Lib.hid (fun k hk => has_that (by omega))
  have HX3 : Hid (∀ k, k < n3 → decide ((k : Int) ∈ hallsL j1 j2 j3 j4 hs) = fitF j1 j2 j3 j4 hs k) := Lib.hid (fun k hk => has_that (by omega))
  have Q1 : Hid (∀ W h, _) := Lib.hid fun W h => HallsImpl.hallsFor l1 a1 b1 g1 A3 n3 c3 W hs hn3 (by omega) h
  have Q2 : Hid (∀ W h, _) := Lib.hid fun W h => HallsImpl.hallsFor l2 a2 b2 g2 A3 n3 c3 W hs hn3 (by omega) h
  have Q3 : Hid (∀ W h, _) := Lib.hid fun W h => HallsImpl.hallsFor j1 j2 j3 j4 A3 n3 c3 W hs hn3 (by omega) h
  unfold GivesI at Q1 Q2 Q3
  generalize hallsL l1 a1 b1 g1 hs = x1 at *
  obtain ⟨m1, he1⟩ : ∃ m, x1.length = m := ⟨_, rfl⟩
  rw [he1] at Q1 hm1
  generalize hallsL l2 a2 b2 g2 hs = x2 at *
  obtain ⟨m2, he2⟩ : ∃ m, x2.length = m := ⟨_, rfl⟩
  rw [he2] at Q2 hm2
  generalize hallsL j1 j2 j3 j4 hs = x3 at *
  obtain ⟨m3, he3⟩ : ∃ m, x3.length = m := ⟨_, rfl⟩
  rw [he3] at Q3 hm3
  refine (Q1.out _ (TH _ S0)).mono ?_
  rintro e w4 ⟨A5, c5, rfl, O1, hb_⟩
  replace O1 := Lib.hid (own_base O1 (b' := w.heap.size) S0.2.2.2.2.size)
  replace S0 := HO _ _ S0 hb_
  clear hb_
  obtain ⟨⟨_, _, _, _⟩, ⟨_, _, _, _⟩, ⟨_, _, _, _⟩, _, _⟩ := id S0
  go_wp2_with fail
  refine (Q2.out _ (TH _ S0)).mono ?_
  rintro e w5 ⟨A6, c6, rfl, O2, hb_⟩
  replace O2 := Lib.hid (own_base O2 (b' := w.heap.size) S0.2.2.2.2.size)
  replace S0 := HO _ _ S0 hb_
  replace O1 := Lib.hid (own_below O1.out hb_)
  clear hb_
  obtain ⟨⟨_, _, _, _⟩, ⟨_, _, _, _⟩, ⟨_, _, _, _⟩, _, _⟩ := id S0
  go_wp2_with fail
  refine (Q3.out _ (TH _ S0)).mono ?_
  rintro e w6 ⟨A7, c7, rfl, O3, hb_⟩
  replace O3 := Lib.hid (own_base O3 (b' := w.heap.size) S0.2.2.2.2.size)
  replace S0 := HO _ _ S0 hb_
  replace O1 := Lib.hid (own_below O1.out hb_)
  replace O2 := Lib.hid (own_below O2.out hb_)
  clear hb_
  obtain ⟨⟨_, _, _, _⟩, ⟨_, _, _, _⟩, ⟨_, _, _, _⟩, _, _⟩ := id S0
  go_wp2_with fail
  clear Q1 Q2 Q3
  have HO : ∀ W W' : World, (Tup4.Box W v0.heap.size l1 a1 b1 g1 ∧ Tup4.Box W (v0.heap.size + 1) l2 a2 b2 g2 ∧ Tup4.Box W v2.heap.size j1 j2 j3 j4 ∧ Hid (W.ownsRow w.heap.size 36 3 (.slice A3 n3 c3) n3 (Tup3.cellsT hs)) ∧ Hid (W.ownsRow w.heap.size 3 1 (.slice A5 m1 c5) m1 (icells x1)) ∧ Hid (W.ownsRow w.heap.size 3 1 (.slice A6 m2 c6) m2 (icells x2)) ∧ Hid (W.ownsRow w.heap.size 3 1 (.slice A7 m3 c7) m3 (icells x3)) ∧ Below w.heap.size w W) → Below W.heap.size W W' → (Tup4.Box W' v0.heap.size l1 a1 b1 g1 ∧ Tup4.Box W' (v0.heap.size + 1) l2 a2 b2 g2 ∧ Tup4.Box W' v2.heap.size j1 j2 j3 j4 ∧ Hid (W'.ownsRow w.heap.size 36 3 (.slice A3 n3 c3) n3 (Tup3.cellsT hs)) ∧ Hid (W'.ownsRow w.heap.size 3 1 (.slice A5 m1 c5) m1 (icells x1)) ∧ Hid (W'.ownsRow w.heap.size 3 1 (.slice A6 m2 c6) m2 (icells x2)) ∧ Hid (W'.ownsRow w.heap.size 3 1 (.slice A7 m3 c7) m3 (icells x3)) ∧ Below w.heap.size w W') := fun W W' ⟨x0, x1, x2, x3, x4, x5, x6, hb⟩ h => ⟨x0.later h, x1.later h, x2.later h, Lib.hid (own_below (x3).out h), Lib.hid (own_below (x4).out h), Lib.hid (own_below (x5).out h), Lib.hid (own_below (x6).out h), hb.trans (h.mono hb.size)⟩
  replace S0 : Tup4.Box w6 v0.heap.size l1 a1 b1 g1 ∧ Tup4.Box w6 (v0.heap.size + 1) l2 a2 b2 g2 ∧ Tup4.Box w6 v2.heap.size j1 j2 j3 j4 ∧ Hid (w6.ownsRow w.heap.size 36 3 (.slice A3 n3 c3) n3 (Tup3.cellsT hs)) ∧ Hid (w6.ownsRow w.heap.size 3 1 (.slice A5 m1 c5) m1 (icells x1)) ∧ Hid (w6.ownsRow w.heap.size 3 1 (.slice A6 m2 c6) m2 (icells x2)) ∧ Hid (w6.ownsRow w.heap.size 3 1 (.slice A7 m3 c7) m3 (icells x3)) ∧ Below w.heap.size w w6 := ⟨S0.1, S0.2.1, S0.2.2.1, S0.2.2.2.1, O1, O2, O3, S0.2.2.2.2⟩
  clear O1 O2 O3 TH
  have TH : ∀ W : World, (Tup4.Box W v0.heap.size l1 a1 b1 g1 ∧ Tup4.Box W (v0.heap.size + 1) l2 a2 b2 g2 ∧ Tup4.Box W v2.heap.size j1 j2 j3 j4 ∧ Hid (W.ownsRow w.heap.size 36 3 (.slice A3 n3 c3) n3 (Tup3.cellsT hs)) ∧ Hid (W.ownsRow w.heap.size 3 1 (.slice A5 m1 c5) m1 (icells x1)) ∧ Hid (W.ownsRow w.heap.size 3 1 (.slice A6 m2 c6) m2 (icells x2)) ∧ Hid (W.ownsRow w.heap.size 3 1 (.slice A7 m3 c7) m3 (icells x3)) ∧ Below w.heap.size w W) → Tup3.TsAt W W.heap.size A3 hs := fun W h => ts_own h.2.2.2.1.out hn3
  have I1 : ∀ W : World, (Tup4.Box W v0.heap.size l1 a1 b1 g1 ∧ Tup4.Box W (v0.heap.size + 1) l2 a2 b2 g2 ∧ Tup4.Box W v2.heap.size j1 j2 j3 j4 ∧ Hid (W.ownsRow w.heap.size 36 3 (.slice A3 n3 c3) n3 (Tup3.cellsT hs)) ∧ Hid (W.ownsRow w.heap.size 3 1 (.slice A5 m1 c5) m1 (icells x1)) ∧ Hid (W.ownsRow w.heap.size 3 1 (.slice A6 m2 c6) m2 (icells x2)) ∧ Hid (W.ownsRow w.heap.size 3 1 (.slice A7 m3 c7) m3 (icells x3)) ∧ Below w.heap.size w W) → IntsAt W W.heap.size A5 x1 := fun W h => ints_own h.2.2.2.2.1.out he1
  have I2 : ∀ W : World, (Tup4.Box W v0.heap.size l1 a1 b1 g1 ∧ Tup4.Box W (v0.heap.size + 1) l2 a2 b2 g2 ∧ Tup4.Box W v2.heap.size j1 j2 j3 j4 ∧ Hid (W.ownsRow w.heap.size 36 3 (.slice A3 n3 c3) n3 (Tup3.cellsT hs)) ∧ Hid (W.ownsRow w.heap.size 3 1 (.slice A5 m1 c5) m1 (icells x1)) ∧ Hid (W.ownsRow w.heap.size 3 1 (.slice A6 m2 c6) m2 (icells x2)) ∧ Hid (W.ownsRow w.heap.size 3 1 (.slice A7 m3 c7) m3 (icells x3)) ∧ Below w.heap.size w W) → IntsAt W W.heap.size A6 x2 := fun W h => ints_own h.2.2.2.2.2.1.out he2
  have I3 : ∀ W : World, (Tup4.Box W v0.heap.size l1 a1 b1 g1 ∧ Tup4.Box W (v0.heap.size + 1) l2 a2 b2 g2 ∧ Tup4.Box W v2.heap.size j1 j2 j3 j4 ∧ Hid (W.ownsRow w.heap.size 36 3 (.slice A3 n3 c3) n3 (Tup3.cellsT hs)) ∧ Hid (W.ownsRow w.heap.size 3 1 (.slice A5 m1 c5) m1 (icells x1)) ∧ Hid (W.ownsRow w.heap.size 3 1 (.slice A6 m2 c6) m2 (icells x2)) ∧ Hid (W.ownsRow w.heap.size 3 1 (.slice A7 m3 c7) m3 (icells x3)) ∧ Below w.heap.size w W) → IntsAt W W.heap.size A7 x3 := fun W h => ints_own h.2.2.2.2.2.2.1.out he3
  go_loopw [11] (fun q wr => ∃ k : Nat, k ≤ n3 ∧ q = .int .i64 k ∧ (Tup4.Box wr v0.heap.size l1 a1 b1 g1 ∧ Tup4.Box wr (v0.heap.size + 1) l2 a2 b2 g2 ∧ Tup4.Box wr v2.heap.size j1 j2 j3 j4 ∧ Hid (wr.ownsRow w.heap.size 36 3 (.slice A3 n3 c3) n3 (Tup3.cellsT hs)) ∧ Hid (wr.ownsRow w.heap.size 3 1 (.slice A5 m1 c5) m1 (icells x1)) ∧ Hid (wr.ownsRow w.heap.size 3 1 (.slice A6 m2 c6) m2 (icells x2)) ∧ Hid (wr.ownsRow w.heap.size 3 1 (.slice A7 m3 c7) m3 (icells x3)) ∧ Below w.heap.size w wr)) (fun q _ => n3 - (intOf q).toNat)
  case atStart => exact ⟨0, Nat.zero_le _, rfl, S0⟩
  case round =>
    clear S0
    obtain ⟨k, hkn, rfl, S0⟩ := hrel
    obtain ⟨⟨_, _, _, _⟩, ⟨_, _, _, _⟩, ⟨_, _, _, _⟩, _, _, _, _, _⟩ := id S0
    by_cases hlt : k < n3
    · have hk1 : (k : Int) < (n3 : Int) := by omega
      have hk0 : (0 : Int) ≤ (k : Int) := by omega
      have p0 := Tup3.tt_at (ps := hs) (k := k) (by omega)
      have FB : fitF l1 a1 b1 g1 hs k = decide (breachI l1 a1 b1 g1 (Tup3.tt hs k).1 (Tup3.tt hs k).2.1 (Tup3.tt hs k).2.2 = 0) := rfl
      obtain ⟨y0, y1, y2, hy⟩ : ∃ y0 y1 y2, Tup3.tt hs k = (y0, y1, y2) := ⟨_, _, _, rfl⟩
      rw [hy] at p0 FB
      have QB : Hid (∀ W, _) := Lib.hid fun W => DutyImpl.breaches l1 a1 b1 g1 y0 y1 y2 W
      have QS : Hid (∀ W, _) := Lib.hid fun W => DutyImpl.stricter l1 a1 b1 g1 l2 a2 b2 g2 W
      have QX : Hid (∀ W h, _) := Lib.hid fun W h => has A5 m1 c5 W x1 (k : Int) he1 (by omega) h
      have QY : Hid (∀ W h, _) := Lib.hid fun W h => has A6 m2 c6 W x2 (k : Int) he2 (by omega) h
      have QZ : Hid (∀ W h, _) := Lib.hid fun W h => has A7 m3 c7 W x3 (k : Int) he3 (by omega) h
      rw [HX1.out k hlt] at QX
      rw [HX2.out k hlt] at QY
      rw [HX3.out k hlt] at QZ
      have f1 := FJ.out k
      have f2 := FN.out k
      have f3 := fun h => FT.out h k
      generalize breachI l1 a1 b1 g1 y0 y1 y2 = q at *
      generalize strictB l1 a1 b1 g1 l2 a2 b2 g2 = s at *
      rw [hself] at *
      generalize fitF l1 a1 b1 g1 hs k = X at *
      generalize fitF l2 a2 b2 g2 hs k = Y at *
      generalize fitF j1 j2 j3 j4 hs k = Z at *
      obtain ⟨ad, eA, bA, pA⟩ := (TH _ S0).get p0
      subst eA
      clear FJ FN FT FS HX1 HX2 HX3 TH p0 hy hself
      have HK : ok = true → Z = (X && Y) := f1
      have HN : ok = false → (X && Y) = false := f2
      have HT : s = true → X = true → Y = true := f3
      have HQ : X = decide (q = 0) := FB
      clear f1 f2 f3 FB
      have S1 : Tup3.TAt wr ad k y0 y1 y2 ∧ ad.block < wr.heap.size := ⟨pA, bA⟩
      clear pA bA
      rcases Bool.eq_false_or_eq_true ok with hok | hok <;> rcases Bool.eq_false_or_eq_true X with hX | hX <;> rcases Bool.eq_false_or_eq_true Y with hY | hY <;> rcases Bool.eq_false_or_eq_true s with hs_ | hs_
      · skip
        have hZ : Z = true := by rw [HK hok, hX, hY]; rfl
        rw [hZ] at QZ
        rw [hX] at QX HQ
        rw [hY] at QY
        rw [hs_] at QS
        subst hok
        have hq : q = 0 := of_decide_eq_true HQ.symm
        subst hq
        clear HK HN HT HQ hX hY hs_ hZ
        go_wp2_with fail
        refine (QX.out _ (I1 _ S0)).mono ?_
        rintro e w' ⟨rfl, rfl⟩
        go_wp2_with fail
        refine (QY.out _ (I2 _ S0)).mono ?_
        rintro e w' ⟨rfl, rfl⟩
        go_wp2_with fail
        have HO : ∀ W W' : World, ((Tup3.TAt W ad k y0 y1 y2 ∧ ad.block < W.heap.size) ∧ Tup4.Box W v0.heap.size l1 a1 b1 g1 ∧ Tup4.Box W (v0.heap.size + 1) l2 a2 b2 g2 ∧ Tup4.Box W v2.heap.size j1 j2 j3 j4 ∧ Hid (W.ownsRow w.heap.size 36 3 (.slice (some ad) n3 c3) n3 (Tup3.cellsT hs)) ∧ Hid (W.ownsRow w.heap.size 3 1 (.slice A5 m1 c5) m1 (icells x1)) ∧ Hid (W.ownsRow w.heap.size 3 1 (.slice A6 m2 c6) m2 (icells x2)) ∧ Hid (W.ownsRow w.heap.size 3 1 (.slice A7 m3 c7) m3 (icells x3)) ∧ Below w.heap.size w W) → Below W.heap.size W W' → ((Tup3.TAt W' ad k y0 y1 y2 ∧ ad.block < W'.heap.size) ∧ Tup4.Box W' v0.heap.size l1 a1 b1 g1 ∧ Tup4.Box W' (v0.heap.size + 1) l2 a2 b2 g2 ∧ Tup4.Box W' v2.heap.size j1 j2 j3 j4 ∧ Hid (W'.ownsRow w.heap.size 36 3 (.slice (some ad) n3 c3) n3 (Tup3.cellsT hs)) ∧ Hid (W'.ownsRow w.heap.size 3 1 (.slice A5 m1 c5) m1 (icells x1)) ∧ Hid (W'.ownsRow w.heap.size 3 1 (.slice A6 m2 c6) m2 (icells x2)) ∧ Hid (W'.ownsRow w.heap.size 3 1 (.slice A7 m3 c7) m3 (icells x3)) ∧ Below w.heap.size w W') := fun W W' ⟨x0, x1, x2, x3, x4, x5, x6, x7, hb⟩ h => ⟨⟨x0.1.later x0.2 h, Nat.lt_of_lt_of_le x0.2 h.size⟩, x1.later h, x2.later h, x3.later h, Lib.hid (own_below (x4).out h), Lib.hid (own_below (x5).out h), Lib.hid (own_below (x6).out h), Lib.hid (own_below (x7).out h), hb.trans (h.mono hb.size)⟩
        replace S0 : (Tup3.TAt wr ad k y0 y1 y2 ∧ ad.block < wr.heap.size) ∧ Tup4.Box wr v0.heap.size l1 a1 b1 g1 ∧ Tup4.Box wr (v0.heap.size + 1) l2 a2 b2 g2 ∧ Tup4.Box wr v2.heap.size j1 j2 j3 j4 ∧ Hid (wr.ownsRow w.heap.size 36 3 (.slice (some ad) n3 c3) n3 (Tup3.cellsT hs)) ∧ Hid (wr.ownsRow w.heap.size 3 1 (.slice A5 m1 c5) m1 (icells x1)) ∧ Hid (wr.ownsRow w.heap.size 3 1 (.slice A6 m2 c6) m2 (icells x2)) ∧ Hid (wr.ownsRow w.heap.size 3 1 (.slice A7 m3 c7) m3 (icells x3)) ∧ Below w.heap.size w wr := ⟨S1, S0⟩
        clear S1
        obtain ⟨⟨⟨_, _, _⟩, _⟩, ⟨_, _, _, _⟩, ⟨_, _, _, _⟩, ⟨_, _, _, _⟩, _, _, _, _, _⟩ := id S0
        refine Settle.region (fun W => (Tup3.TAt W ad k y0 y1 y2 ∧ ad.block < W.heap.size) ∧ Tup4.Box W v0.heap.size l1 a1 b1 g1 ∧ Tup4.Box W (v0.heap.size + 1) l2 a2 b2 g2 ∧ Tup4.Box W v2.heap.size j1 j2 j3 j4 ∧ Hid (W.ownsRow w.heap.size 36 3 (.slice (some ad) n3 c3) n3 (Tup3.cellsT hs)) ∧ Hid (W.ownsRow w.heap.size 3 1 (.slice A5 m1 c5) m1 (icells x1)) ∧ Hid (W.ownsRow w.heap.size 3 1 (.slice A6 m2 c6) m2 (icells x2)) ∧ Hid (W.ownsRow w.heap.size 3 1 (.slice A7 m3 c7) m3 (icells x3)) ∧ Below w.heap.size w W) (by kernel_rfl) (by kernel_rfl) (by kernel_rfl) (by kernel_rfl) (HO _ _ S0 ((Below.refl _ _).drew)) ?_
        clear S0
        repeat (first
          | (refine Settle.Settles.off (by rfl) ?_; simp only [Act.put, List.setIfInBounds_toArray, List.set_cons_zero, List.set_cons_succ])
          | (refine Settle.Settles.quiet (v := ?_) (by rfl) ?_ ?_
             rotate_left
             · (intro W hS; obtain ⟨⟨⟨_, _, _⟩, _⟩, ⟨_, _, _, _⟩, ⟨_, _, _, _⟩, ⟨_, _, _, _⟩, _, _, _, _, _⟩ := hS; go_simp; with_reducible rfl)
             simp only [Act.put, List.setIfInBounds_toArray, List.set_cons_zero, List.set_cons_succ])
          | (refine Settle.Settles.call (v := ?_) (f := ?_) (args := ?_) (by rfl) ?_ ?_ ?_
             rotate_left 3
             · (intro W; go_simp; refine ⟨?_, ?_⟩ <;> with_reducible rfl)
             · (intro W hS; first | (go_at_call 10; (with_reducible refine (QZ.out _ (I3 _ hS.2)).mono ?_); rintro e W1 ⟨rfl, rfl⟩; refine ⟨?_, hS⟩; with_reducible rfl) | (go_at_call 11; (with_reducible refine (QB.out _).mono ?_); rintro e W1 ⟨rfl, hb⟩; refine ⟨?_, HO _ _ hS hb⟩; with_reducible rfl) | (go_at_call 10; (with_reducible refine (QX.out _ (I1 _ hS.2)).mono ?_); rintro e W1 ⟨rfl, rfl⟩; refine ⟨?_, hS⟩; with_reducible rfl) | (go_at_call 12; (with_reducible refine (QS.out _).mono ?_); rintro e W1 ⟨rfl, hb⟩; refine ⟨?_, HO _ _ hS hb⟩; with_reducible rfl) | (go_at_call 10; (with_reducible refine (QY.out _ (I2 _ hS.2)).mono ?_); rintro e W1 ⟨rfl, rfl⟩; refine ⟨?_, hS⟩; with_reducible rfl))
             simp only [Act.put, List.setIfInBounds_toArray, List.set_cons_zero, List.set_cons_succ]))
        refine Settle.Settles.nil ?_
        intro wr S0
        obtain ⟨⟨⟨_, _, _⟩, _⟩, ⟨_, _, _, _⟩, ⟨_, _, _, _⟩, ⟨_, _, _, _⟩, _, _, _, _, _⟩ := id S0
        go_wp2_with fail
        exact ⟨⟨k + 1, by omega, by go_num, S0.2⟩, by simp [intOf] <;> omega⟩
      · skip
        have hZ : Z = true := by rw [HK hok, hX, hY]; rfl
        rw [hZ] at QZ
        rw [hX] at QX HQ
        rw [hY] at QY
        rw [hs_] at QS
        subst hok
        have hq : q = 0 := of_decide_eq_true HQ.symm
        subst hq
        clear HK HN HT HQ hX hY hs_ hZ
        go_wp2_with fail
        refine (QX.out _ (I1 _ S0)).mono ?_
        rintro e w' ⟨rfl, rfl⟩
        go_wp2_with fail
        refine (QY.out _ (I2 _ S0)).mono ?_
        rintro e w' ⟨rfl, rfl⟩
        go_wp2_with fail
        have HO : ∀ W W' : World, ((Tup3.TAt W ad k y0 y1 y2 ∧ ad.block < W.heap.size) ∧ Tup4.Box W v0.heap.size l1 a1 b1 g1 ∧ Tup4.Box W (v0.heap.size + 1) l2 a2 b2 g2 ∧ Tup4.Box W v2.heap.size j1 j2 j3 j4 ∧ Hid (W.ownsRow w.heap.size 36 3 (.slice (some ad) n3 c3) n3 (Tup3.cellsT hs)) ∧ Hid (W.ownsRow w.heap.size 3 1 (.slice A5 m1 c5) m1 (icells x1)) ∧ Hid (W.ownsRow w.heap.size 3 1 (.slice A6 m2 c6) m2 (icells x2)) ∧ Hid (W.ownsRow w.heap.size 3 1 (.slice A7 m3 c7) m3 (icells x3)) ∧ Below w.heap.size w W) → Below W.heap.size W W' → ((Tup3.TAt W' ad k y0 y1 y2 ∧ ad.block < W'.heap.size) ∧ Tup4.Box W' v0.heap.size l1 a1 b1 g1 ∧ Tup4.Box W' (v0.heap.size + 1) l2 a2 b2 g2 ∧ Tup4.Box W' v2.heap.size j1 j2 j3 j4 ∧ Hid (W'.ownsRow w.heap.size 36 3 (.slice (some ad) n3 c3) n3 (Tup3.cellsT hs)) ∧ Hid (W'.ownsRow w.heap.size 3 1 (.slice A5 m1 c5) m1 (icells x1)) ∧ Hid (W'.ownsRow w.heap.size 3 1 (.slice A6 m2 c6) m2 (icells x2)) ∧ Hid (W'.ownsRow w.heap.size 3 1 (.slice A7 m3 c7) m3 (icells x3)) ∧ Below w.heap.size w W') := fun W W' ⟨x0, x1, x2, x3, x4, x5, x6, x7, hb⟩ h => ⟨⟨x0.1.later x0.2 h, Nat.lt_of_lt_of_le x0.2 h.size⟩, x1.later h, x2.later h, x3.later h, Lib.hid (own_below (x4).out h), Lib.hid (own_below (x5).out h), Lib.hid (own_below (x6).out h), Lib.hid (own_below (x7).out h), hb.trans (h.mono hb.size)⟩
        replace S0 : (Tup3.TAt wr ad k y0 y1 y2 ∧ ad.block < wr.heap.size) ∧ Tup4.Box wr v0.heap.size l1 a1 b1 g1 ∧ Tup4.Box wr (v0.heap.size + 1) l2 a2 b2 g2 ∧ Tup4.Box wr v2.heap.size j1 j2 j3 j4 ∧ Hid (wr.ownsRow w.heap.size 36 3 (.slice (some ad) n3 c3) n3 (Tup3.cellsT hs)) ∧ Hid (wr.ownsRow w.heap.size 3 1 (.slice A5 m1 c5) m1 (icells x1)) ∧ Hid (wr.ownsRow w.heap.size 3 1 (.slice A6 m2 c6) m2 (icells x2)) ∧ Hid (wr.ownsRow w.heap.size 3 1 (.slice A7 m3 c7) m3 (icells x3)) ∧ Below w.heap.size w wr := ⟨S1, S0⟩
        clear S1
        obtain ⟨⟨⟨_, _, _⟩, _⟩, ⟨_, _, _, _⟩, ⟨_, _, _, _⟩, ⟨_, _, _, _⟩, _, _, _, _, _⟩ := id S0
        refine Settle.region (fun W => (Tup3.TAt W ad k y0 y1 y2 ∧ ad.block < W.heap.size) ∧ Tup4.Box W v0.heap.size l1 a1 b1 g1 ∧ Tup4.Box W (v0.heap.size + 1) l2 a2 b2 g2 ∧ Tup4.Box W v2.heap.size j1 j2 j3 j4 ∧ Hid (W.ownsRow w.heap.size 36 3 (.slice (some ad) n3 c3) n3 (Tup3.cellsT hs)) ∧ Hid (W.ownsRow w.heap.size 3 1 (.slice A5 m1 c5) m1 (icells x1)) ∧ Hid (W.ownsRow w.heap.size 3 1 (.slice A6 m2 c6) m2 (icells x2)) ∧ Hid (W.ownsRow w.heap.size 3 1 (.slice A7 m3 c7) m3 (icells x3)) ∧ Below w.heap.size w W) (by kernel_rfl) (by kernel_rfl) (by kernel_rfl) (by kernel_rfl) (HO _ _ S0 ((Below.refl _ _).drew)) ?_
        clear S0
        repeat (first
          | (refine Settle.Settles.off (by rfl) ?_; simp only [Act.put, List.setIfInBounds_toArray, List.set_cons_zero, List.set_cons_succ])
          | (refine Settle.Settles.quiet (v := ?_) (by rfl) ?_ ?_
             rotate_left
             · (intro W hS; obtain ⟨⟨⟨_, _, _⟩, _⟩, ⟨_, _, _, _⟩, ⟨_, _, _, _⟩, ⟨_, _, _, _⟩, _, _, _, _, _⟩ := hS; go_simp; with_reducible rfl)
             simp only [Act.put, List.setIfInBounds_toArray, List.set_cons_zero, List.set_cons_succ])
          | (refine Settle.Settles.call (v := ?_) (f := ?_) (args := ?_) (by rfl) ?_ ?_ ?_
             rotate_left 3
             · (intro W; go_simp; refine ⟨?_, ?_⟩ <;> with_reducible rfl)
             · (intro W hS; first | (go_at_call 10; (with_reducible refine (QZ.out _ (I3 _ hS.2)).mono ?_); rintro e W1 ⟨rfl, rfl⟩; refine ⟨?_, hS⟩; with_reducible rfl) | (go_at_call 11; (with_reducible refine (QB.out _).mono ?_); rintro e W1 ⟨rfl, hb⟩; refine ⟨?_, HO _ _ hS hb⟩; with_reducible rfl) | (go_at_call 10; (with_reducible refine (QX.out _ (I1 _ hS.2)).mono ?_); rintro e W1 ⟨rfl, rfl⟩; refine ⟨?_, hS⟩; with_reducible rfl) | (go_at_call 12; (with_reducible refine (QS.out _).mono ?_); rintro e W1 ⟨rfl, hb⟩; refine ⟨?_, HO _ _ hS hb⟩; with_reducible rfl))
             simp only [Act.put, List.setIfInBounds_toArray, List.set_cons_zero, List.set_cons_succ]))
        refine Settle.Settles.nil ?_
        intro wr S0
        obtain ⟨⟨⟨_, _, _⟩, _⟩, ⟨_, _, _, _⟩, ⟨_, _, _, _⟩, ⟨_, _, _, _⟩, _, _, _, _, _⟩ := id S0
        go_wp2_with fail
        exact ⟨⟨k + 1, by omega, by go_num, S0.2⟩, by simp [intOf] <;> omega⟩
      · skip
        have := HT hs_ hX
        rw [hY] at this
        cases this
      · skip
        have hZ : Z = false := by rw [HK hok, hX, hY]; rfl
        rw [hZ] at QZ
        rw [hX] at QX HQ
        rw [hY] at QY
        rw [hs_] at QS
        subst hok
        have hq : q = 0 := of_decide_eq_true HQ.symm
        subst hq
        clear HK HN HT HQ hX hY hs_ hZ
        go_wp2_with fail
        refine (QX.out _ (I1 _ S0)).mono ?_
        rintro e w' ⟨rfl, rfl⟩
        go_wp2_with fail
        refine (QY.out _ (I2 _ S0)).mono ?_
        rintro e w' ⟨rfl, rfl⟩
        go_wp2_with fail
        have HO : ∀ W W' : World, ((Tup3.TAt W ad k y0 y1 y2 ∧ ad.block < W.heap.size) ∧ Tup4.Box W v0.heap.size l1 a1 b1 g1 ∧ Tup4.Box W (v0.heap.size + 1) l2 a2 b2 g2 ∧ Tup4.Box W v2.heap.size j1 j2 j3 j4 ∧ Hid (W.ownsRow w.heap.size 36 3 (.slice (some ad) n3 c3) n3 (Tup3.cellsT hs)) ∧ Hid (W.ownsRow w.heap.size 3 1 (.slice A5 m1 c5) m1 (icells x1)) ∧ Hid (W.ownsRow w.heap.size 3 1 (.slice A6 m2 c6) m2 (icells x2)) ∧ Hid (W.ownsRow w.heap.size 3 1 (.slice A7 m3 c7) m3 (icells x3)) ∧ Below w.heap.size w W) → Below W.heap.size W W' → ((Tup3.TAt W' ad k y0 y1 y2 ∧ ad.block < W'.heap.size) ∧ Tup4.Box W' v0.heap.size l1 a1 b1 g1 ∧ Tup4.Box W' (v0.heap.size + 1) l2 a2 b2 g2 ∧ Tup4.Box W' v2.heap.size j1 j2 j3 j4 ∧ Hid (W'.ownsRow w.heap.size 36 3 (.slice (some ad) n3 c3) n3 (Tup3.cellsT hs)) ∧ Hid (W'.ownsRow w.heap.size 3 1 (.slice A5 m1 c5) m1 (icells x1)) ∧ Hid (W'.ownsRow w.heap.size 3 1 (.slice A6 m2 c6) m2 (icells x2)) ∧ Hid (W'.ownsRow w.heap.size 3 1 (.slice A7 m3 c7) m3 (icells x3)) ∧ Below w.heap.size w W') := fun W W' ⟨x0, x1, x2, x3, x4, x5, x6, x7, hb⟩ h => ⟨⟨x0.1.later x0.2 h, Nat.lt_of_lt_of_le x0.2 h.size⟩, x1.later h, x2.later h, x3.later h, Lib.hid (own_below (x4).out h), Lib.hid (own_below (x5).out h), Lib.hid (own_below (x6).out h), Lib.hid (own_below (x7).out h), hb.trans (h.mono hb.size)⟩
        replace S0 : (Tup3.TAt wr ad k y0 y1 y2 ∧ ad.block < wr.heap.size) ∧ Tup4.Box wr v0.heap.size l1 a1 b1 g1 ∧ Tup4.Box wr (v0.heap.size + 1) l2 a2 b2 g2 ∧ Tup4.Box wr v2.heap.size j1 j2 j3 j4 ∧ Hid (wr.ownsRow w.heap.size 36 3 (.slice (some ad) n3 c3) n3 (Tup3.cellsT hs)) ∧ Hid (wr.ownsRow w.heap.size 3 1 (.slice A5 m1 c5) m1 (icells x1)) ∧ Hid (wr.ownsRow w.heap.size 3 1 (.slice A6 m2 c6) m2 (icells x2)) ∧ Hid (wr.ownsRow w.heap.size 3 1 (.slice A7 m3 c7) m3 (icells x3)) ∧ Below w.heap.size w wr := ⟨S1, S0⟩
        clear S1
        obtain ⟨⟨⟨_, _, _⟩, _⟩, ⟨_, _, _, _⟩, ⟨_, _, _, _⟩, ⟨_, _, _, _⟩, _, _, _, _, _⟩ := id S0
        refine Settle.region (fun W => (Tup3.TAt W ad k y0 y1 y2 ∧ ad.block < W.heap.size) ∧ Tup4.Box W v0.heap.size l1 a1 b1 g1 ∧ Tup4.Box W (v0.heap.size + 1) l2 a2 b2 g2 ∧ Tup4.Box W v2.heap.size j1 j2 j3 j4 ∧ Hid (W.ownsRow w.heap.size 36 3 (.slice (some ad) n3 c3) n3 (Tup3.cellsT hs)) ∧ Hid (W.ownsRow w.heap.size 3 1 (.slice A5 m1 c5) m1 (icells x1)) ∧ Hid (W.ownsRow w.heap.size 3 1 (.slice A6 m2 c6) m2 (icells x2)) ∧ Hid (W.ownsRow w.heap.size 3 1 (.slice A7 m3 c7) m3 (icells x3)) ∧ Below w.heap.size w W) (by kernel_rfl) (by kernel_rfl) (by kernel_rfl) (by kernel_rfl) (HO _ _ S0 ((Below.refl _ _).drew)) ?_
        clear S0
        repeat (first
          | (refine Settle.Settles.off (by rfl) ?_; simp only [Act.put, List.setIfInBounds_toArray, List.set_cons_zero, List.set_cons_succ])
          | (refine Settle.Settles.quiet (v := ?_) (by rfl) ?_ ?_
             rotate_left
             · (intro W hS; obtain ⟨⟨⟨_, _, _⟩, _⟩, ⟨_, _, _, _⟩, ⟨_, _, _, _⟩, ⟨_, _, _, _⟩, _, _, _, _, _⟩ := hS; go_simp; with_reducible rfl)
             simp only [Act.put, List.setIfInBounds_toArray, List.set_cons_zero, List.set_cons_succ])
          | (refine Settle.Settles.call (v := ?_) (f := ?_) (args := ?_) (by rfl) ?_ ?_ ?_
             rotate_left 3
             · (intro W; go_simp; refine ⟨?_, ?_⟩ <;> with_reducible rfl)
             · (intro W hS; first | (go_at_call 10; (with_reducible refine (QZ.out _ (I3 _ hS.2)).mono ?_); rintro e W1 ⟨rfl, rfl⟩; refine ⟨?_, hS⟩; with_reducible rfl) | (go_at_call 11; (with_reducible refine (QB.out _).mono ?_); rintro e W1 ⟨rfl, hb⟩; refine ⟨?_, HO _ _ hS hb⟩; with_reducible rfl) | (go_at_call 10; (with_reducible refine (QX.out _ (I1 _ hS.2)).mono ?_); rintro e W1 ⟨rfl, rfl⟩; refine ⟨?_, hS⟩; with_reducible rfl) | (go_at_call 12; (with_reducible refine (QS.out _).mono ?_); rintro e W1 ⟨rfl, hb⟩; refine ⟨?_, HO _ _ hS hb⟩; with_reducible rfl))
             simp only [Act.put, List.setIfInBounds_toArray, List.set_cons_zero, List.set_cons_succ]))
        refine Settle.Settles.nil ?_
        intro wr S0
        obtain ⟨⟨⟨_, _, _⟩, _⟩, ⟨_, _, _, _⟩, ⟨_, _, _, _⟩, ⟨_, _, _, _⟩, _, _, _, _, _⟩ := id S0
        go_wp2_with fail
        exact ⟨⟨k + 1, by omega, by go_num, S0.2⟩, by simp [intOf] <;> omega⟩
      · skip
        have hZ : Z = false := by rw [HK hok, hX, hY]; rfl
        rw [hZ] at QZ
        rw [hX] at QX HQ
        rw [hY] at QY
        rw [hs_] at QS
        subst hok
        have hq : ¬ q = 0 := of_decide_eq_false HQ.symm
        have hq2 : (q == 0) = false := beq_eq_false_iff_ne.2 hq
        clear HK HN HT HQ hX hY hs_ hZ
        go_wp2_with fail
        refine (QX.out _ (I1 _ S0)).mono ?_
        rintro e w' ⟨rfl, rfl⟩
        go_wp2_with fail
        have HO : ∀ W W' : World, ((Tup3.TAt W ad k y0 y1 y2 ∧ ad.block < W.heap.size) ∧ Tup4.Box W v0.heap.size l1 a1 b1 g1 ∧ Tup4.Box W (v0.heap.size + 1) l2 a2 b2 g2 ∧ Tup4.Box W v2.heap.size j1 j2 j3 j4 ∧ Hid (W.ownsRow w.heap.size 36 3 (.slice (some ad) n3 c3) n3 (Tup3.cellsT hs)) ∧ Hid (W.ownsRow w.heap.size 3 1 (.slice A5 m1 c5) m1 (icells x1)) ∧ Hid (W.ownsRow w.heap.size 3 1 (.slice A6 m2 c6) m2 (icells x2)) ∧ Hid (W.ownsRow w.heap.size 3 1 (.slice A7 m3 c7) m3 (icells x3)) ∧ Below w.heap.size w W) → Below W.heap.size W W' → ((Tup3.TAt W' ad k y0 y1 y2 ∧ ad.block < W'.heap.size) ∧ Tup4.Box W' v0.heap.size l1 a1 b1 g1 ∧ Tup4.Box W' (v0.heap.size + 1) l2 a2 b2 g2 ∧ Tup4.Box W' v2.heap.size j1 j2 j3 j4 ∧ Hid (W'.ownsRow w.heap.size 36 3 (.slice (some ad) n3 c3) n3 (Tup3.cellsT hs)) ∧ Hid (W'.ownsRow w.heap.size 3 1 (.slice A5 m1 c5) m1 (icells x1)) ∧ Hid (W'.ownsRow w.heap.size 3 1 (.slice A6 m2 c6) m2 (icells x2)) ∧ Hid (W'.ownsRow w.heap.size 3 1 (.slice A7 m3 c7) m3 (icells x3)) ∧ Below w.heap.size w W') := fun W W' ⟨x0, x1, x2, x3, x4, x5, x6, x7, hb⟩ h => ⟨⟨x0.1.later x0.2 h, Nat.lt_of_lt_of_le x0.2 h.size⟩, x1.later h, x2.later h, x3.later h, Lib.hid (own_below (x4).out h), Lib.hid (own_below (x5).out h), Lib.hid (own_below (x6).out h), Lib.hid (own_below (x7).out h), hb.trans (h.mono hb.size)⟩
        replace S0 : (Tup3.TAt wr ad k y0 y1 y2 ∧ ad.block < wr.heap.size) ∧ Tup4.Box wr v0.heap.size l1 a1 b1 g1 ∧ Tup4.Box wr (v0.heap.size + 1) l2 a2 b2 g2 ∧ Tup4.Box wr v2.heap.size j1 j2 j3 j4 ∧ Hid (wr.ownsRow w.heap.size 36 3 (.slice (some ad) n3 c3) n3 (Tup3.cellsT hs)) ∧ Hid (wr.ownsRow w.heap.size 3 1 (.slice A5 m1 c5) m1 (icells x1)) ∧ Hid (wr.ownsRow w.heap.size 3 1 (.slice A6 m2 c6) m2 (icells x2)) ∧ Hid (wr.ownsRow w.heap.size 3 1 (.slice A7 m3 c7) m3 (icells x3)) ∧ Below w.heap.size w wr := ⟨S1, S0⟩
        clear S1
        obtain ⟨⟨⟨_, _, _⟩, _⟩, ⟨_, _, _, _⟩, ⟨_, _, _, _⟩, ⟨_, _, _, _⟩, _, _, _, _, _⟩ := id S0
        refine Settle.region (fun W => (Tup3.TAt W ad k y0 y1 y2 ∧ ad.block < W.heap.size) ∧ Tup4.Box W v0.heap.size l1 a1 b1 g1 ∧ Tup4.Box W (v0.heap.size + 1) l2 a2 b2 g2 ∧ Tup4.Box W v2.heap.size j1 j2 j3 j4 ∧ Hid (W.ownsRow w.heap.size 36 3 (.slice (some ad) n3 c3) n3 (Tup3.cellsT hs)) ∧ Hid (W.ownsRow w.heap.size 3 1 (.slice A5 m1 c5) m1 (icells x1)) ∧ Hid (W.ownsRow w.heap.size 3 1 (.slice A6 m2 c6) m2 (icells x2)) ∧ Hid (W.ownsRow w.heap.size 3 1 (.slice A7 m3 c7) m3 (icells x3)) ∧ Below w.heap.size w W) (by kernel_rfl) (by kernel_rfl) (by kernel_rfl) (by kernel_rfl) (HO _ _ S0 ((Below.refl _ _).drew)) ?_
        clear S0
        repeat (first
          | (refine Settle.Settles.off (by rfl) ?_; simp only [Act.put, List.setIfInBounds_toArray, List.set_cons_zero, List.set_cons_succ])
          | (refine Settle.Settles.quiet (v := ?_) (by rfl) ?_ ?_
             rotate_left
             · (intro W hS; obtain ⟨⟨⟨_, _, _⟩, _⟩, ⟨_, _, _, _⟩, ⟨_, _, _, _⟩, ⟨_, _, _, _⟩, _, _, _, _, _⟩ := hS; go_simp; with_reducible rfl)
             simp only [Act.put, List.setIfInBounds_toArray, List.set_cons_zero, List.set_cons_succ])
          | (refine Settle.Settles.call (v := ?_) (f := ?_) (args := ?_) (by rfl) ?_ ?_ ?_
             rotate_left 3
             · (intro W; go_simp; refine ⟨?_, ?_⟩ <;> with_reducible rfl)
             · (intro W hS; first | (go_at_call 10; (with_reducible refine (QZ.out _ (I3 _ hS.2)).mono ?_); rintro e W1 ⟨rfl, rfl⟩; refine ⟨?_, hS⟩; with_reducible rfl) | (go_at_call 11; (with_reducible refine (QB.out _).mono ?_); rintro e W1 ⟨rfl, hb⟩; refine ⟨?_, HO _ _ hS hb⟩; with_reducible rfl) | (go_at_call 10; (with_reducible refine (QX.out _ (I1 _ hS.2)).mono ?_); rintro e W1 ⟨rfl, rfl⟩; refine ⟨?_, hS⟩; with_reducible rfl) | (go_at_call 12; (with_reducible refine (QS.out _).mono ?_); rintro e W1 ⟨rfl, hb⟩; refine ⟨?_, HO _ _ hS hb⟩; with_reducible rfl))
             simp only [Act.put, List.setIfInBounds_toArray, List.set_cons_zero, List.set_cons_succ]))
        refine Settle.Settles.nil ?_
        intro wr S0
        obtain ⟨⟨⟨_, _, _⟩, _⟩, ⟨_, _, _, _⟩, ⟨_, _, _, _⟩, ⟨_, _, _, _⟩, _, _, _, _, _⟩ := id S0
        go_wp2_with fail
        exact ⟨⟨k + 1, by omega, by go_num, S0.2⟩, by simp [intOf] <;> omega⟩
      · skip
        have hZ : Z = false := by rw [HK hok, hX, hY]; rfl
        rw [hZ] at QZ
        rw [hX] at QX HQ
        rw [hY] at QY
        rw [hs_] at QS
        subst hok
        have hq : ¬ q = 0 := of_decide_eq_false HQ.symm
        have hq2 : (q == 0) = false := beq_eq_false_iff_ne.2 hq
        clear HK HN HT HQ hX hY hs_ hZ
        go_wp2_with fail
        refine (QX.out _ (I1 _ S0)).mono ?_
        rintro e w' ⟨rfl, rfl⟩
        go_wp2_with fail
        have HO : ∀ W W' : World, ((Tup3.TAt W ad k y0 y1 y2 ∧ ad.block < W.heap.size) ∧ Tup4.Box W v0.heap.size l1 a1 b1 g1 ∧ Tup4.Box W (v0.heap.size + 1) l2 a2 b2 g2 ∧ Tup4.Box W v2.heap.size j1 j2 j3 j4 ∧ Hid (W.ownsRow w.heap.size 36 3 (.slice (some ad) n3 c3) n3 (Tup3.cellsT hs)) ∧ Hid (W.ownsRow w.heap.size 3 1 (.slice A5 m1 c5) m1 (icells x1)) ∧ Hid (W.ownsRow w.heap.size 3 1 (.slice A6 m2 c6) m2 (icells x2)) ∧ Hid (W.ownsRow w.heap.size 3 1 (.slice A7 m3 c7) m3 (icells x3)) ∧ Below w.heap.size w W) → Below W.heap.size W W' → ((Tup3.TAt W' ad k y0 y1 y2 ∧ ad.block < W'.heap.size) ∧ Tup4.Box W' v0.heap.size l1 a1 b1 g1 ∧ Tup4.Box W' (v0.heap.size + 1) l2 a2 b2 g2 ∧ Tup4.Box W' v2.heap.size j1 j2 j3 j4 ∧ Hid (W'.ownsRow w.heap.size 36 3 (.slice (some ad) n3 c3) n3 (Tup3.cellsT hs)) ∧ Hid (W'.ownsRow w.heap.size 3 1 (.slice A5 m1 c5) m1 (icells x1)) ∧ Hid (W'.ownsRow w.heap.size 3 1 (.slice A6 m2 c6) m2 (icells x2)) ∧ Hid (W'.ownsRow w.heap.size 3 1 (.slice A7 m3 c7) m3 (icells x3)) ∧ Below w.heap.size w W') := fun W W' ⟨x0, x1, x2, x3, x4, x5, x6, x7, hb⟩ h => ⟨⟨x0.1.later x0.2 h, Nat.lt_of_lt_of_le x0.2 h.size⟩, x1.later h, x2.later h, x3.later h, Lib.hid (own_below (x4).out h), Lib.hid (own_below (x5).out h), Lib.hid (own_below (x6).out h), Lib.hid (own_below (x7).out h), hb.trans (h.mono hb.size)⟩
        replace S0 : (Tup3.TAt wr ad k y0 y1 y2 ∧ ad.block < wr.heap.size) ∧ Tup4.Box wr v0.heap.size l1 a1 b1 g1 ∧ Tup4.Box wr (v0.heap.size + 1) l2 a2 b2 g2 ∧ Tup4.Box wr v2.heap.size j1 j2 j3 j4 ∧ Hid (wr.ownsRow w.heap.size 36 3 (.slice (some ad) n3 c3) n3 (Tup3.cellsT hs)) ∧ Hid (wr.ownsRow w.heap.size 3 1 (.slice A5 m1 c5) m1 (icells x1)) ∧ Hid (wr.ownsRow w.heap.size 3 1 (.slice A6 m2 c6) m2 (icells x2)) ∧ Hid (wr.ownsRow w.heap.size 3 1 (.slice A7 m3 c7) m3 (icells x3)) ∧ Below w.heap.size w wr := ⟨S1, S0⟩
        clear S1
        obtain ⟨⟨⟨_, _, _⟩, _⟩, ⟨_, _, _, _⟩, ⟨_, _, _, _⟩, ⟨_, _, _, _⟩, _, _, _, _, _⟩ := id S0
        refine Settle.region (fun W => (Tup3.TAt W ad k y0 y1 y2 ∧ ad.block < W.heap.size) ∧ Tup4.Box W v0.heap.size l1 a1 b1 g1 ∧ Tup4.Box W (v0.heap.size + 1) l2 a2 b2 g2 ∧ Tup4.Box W v2.heap.size j1 j2 j3 j4 ∧ Hid (W.ownsRow w.heap.size 36 3 (.slice (some ad) n3 c3) n3 (Tup3.cellsT hs)) ∧ Hid (W.ownsRow w.heap.size 3 1 (.slice A5 m1 c5) m1 (icells x1)) ∧ Hid (W.ownsRow w.heap.size 3 1 (.slice A6 m2 c6) m2 (icells x2)) ∧ Hid (W.ownsRow w.heap.size 3 1 (.slice A7 m3 c7) m3 (icells x3)) ∧ Below w.heap.size w W) (by kernel_rfl) (by kernel_rfl) (by kernel_rfl) (by kernel_rfl) (HO _ _ S0 ((Below.refl _ _).drew)) ?_
        clear S0
        repeat (first
          | (refine Settle.Settles.off (by rfl) ?_; simp only [Act.put, List.setIfInBounds_toArray, List.set_cons_zero, List.set_cons_succ])
          | (refine Settle.Settles.quiet (v := ?_) (by rfl) ?_ ?_
             rotate_left
             · (intro W hS; obtain ⟨⟨⟨_, _, _⟩, _⟩, ⟨_, _, _, _⟩, ⟨_, _, _, _⟩, ⟨_, _, _, _⟩, _, _, _, _, _⟩ := hS; go_simp; with_reducible rfl)
             simp only [Act.put, List.setIfInBounds_toArray, List.set_cons_zero, List.set_cons_succ])
          | (refine Settle.Settles.call (v := ?_) (f := ?_) (args := ?_) (by rfl) ?_ ?_ ?_
             rotate_left 3
             · (intro W; go_simp; refine ⟨?_, ?_⟩ <;> with_reducible rfl)
             · (intro W hS; first | (go_at_call 10; (with_reducible refine (QZ.out _ (I3 _ hS.2)).mono ?_); rintro e W1 ⟨rfl, rfl⟩; refine ⟨?_, hS⟩; with_reducible rfl) | (go_at_call 11; (with_reducible refine (QB.out _).mono ?_); rintro e W1 ⟨rfl, hb⟩; refine ⟨?_, HO _ _ hS hb⟩; with_reducible rfl) | (go_at_call 10; (with_reducible refine (QX.out _ (I1 _ hS.2)).mono ?_); rintro e W1 ⟨rfl, rfl⟩; refine ⟨?_, hS⟩; with_reducible rfl) | (go_at_call 12; (with_reducible refine (QS.out _).mono ?_); rintro e W1 ⟨rfl, hb⟩; refine ⟨?_, HO _ _ hS hb⟩; with_reducible rfl))
             simp only [Act.put, List.setIfInBounds_toArray, List.set_cons_zero, List.set_cons_succ]))
        refine Settle.Settles.nil ?_
        intro wr S0
        obtain ⟨⟨⟨_, _, _⟩, _⟩, ⟨_, _, _, _⟩, ⟨_, _, _, _⟩, ⟨_, _, _, _⟩, _, _, _, _, _⟩ := id S0
        go_wp2_with fail
        exact ⟨⟨k + 1, by omega, by go_num, S0.2⟩, by simp [intOf] <;> omega⟩
      · skip
        have hZ : Z = false := by rw [HK hok, hX, hY]; rfl
        rw [hZ] at QZ
        rw [hX] at QX HQ
        rw [hY] at QY
        rw [hs_] at QS
        subst hok
        have hq : ¬ q = 0 := of_decide_eq_false HQ.symm
        have hq2 : (q == 0) = false := beq_eq_false_iff_ne.2 hq
        clear HK HN HT HQ hX hY hs_ hZ
        go_wp2_with fail
        refine (QX.out _ (I1 _ S0)).mono ?_
        rintro e w' ⟨rfl, rfl⟩
        go_wp2_with fail
        have HO : ∀ W W' : World, ((Tup3.TAt W ad k y0 y1 y2 ∧ ad.block < W.heap.size) ∧ Tup4.Box W v0.heap.size l1 a1 b1 g1 ∧ Tup4.Box W (v0.heap.size + 1) l2 a2 b2 g2 ∧ Tup4.Box W v2.heap.size j1 j2 j3 j4 ∧ Hid (W.ownsRow w.heap.size 36 3 (.slice (some ad) n3 c3) n3 (Tup3.cellsT hs)) ∧ Hid (W.ownsRow w.heap.size 3 1 (.slice A5 m1 c5) m1 (icells x1)) ∧ Hid (W.ownsRow w.heap.size 3 1 (.slice A6 m2 c6) m2 (icells x2)) ∧ Hid (W.ownsRow w.heap.size 3 1 (.slice A7 m3 c7) m3 (icells x3)) ∧ Below w.heap.size w W) → Below W.heap.size W W' → ((Tup3.TAt W' ad k y0 y1 y2 ∧ ad.block < W'.heap.size) ∧ Tup4.Box W' v0.heap.size l1 a1 b1 g1 ∧ Tup4.Box W' (v0.heap.size + 1) l2 a2 b2 g2 ∧ Tup4.Box W' v2.heap.size j1 j2 j3 j4 ∧ Hid (W'.ownsRow w.heap.size 36 3 (.slice (some ad) n3 c3) n3 (Tup3.cellsT hs)) ∧ Hid (W'.ownsRow w.heap.size 3 1 (.slice A5 m1 c5) m1 (icells x1)) ∧ Hid (W'.ownsRow w.heap.size 3 1 (.slice A6 m2 c6) m2 (icells x2)) ∧ Hid (W'.ownsRow w.heap.size 3 1 (.slice A7 m3 c7) m3 (icells x3)) ∧ Below w.heap.size w W') := fun W W' ⟨x0, x1, x2, x3, x4, x5, x6, x7, hb⟩ h => ⟨⟨x0.1.later x0.2 h, Nat.lt_of_lt_of_le x0.2 h.size⟩, x1.later h, x2.later h, x3.later h, Lib.hid (own_below (x4).out h), Lib.hid (own_below (x5).out h), Lib.hid (own_below (x6).out h), Lib.hid (own_below (x7).out h), hb.trans (h.mono hb.size)⟩
        replace S0 : (Tup3.TAt wr ad k y0 y1 y2 ∧ ad.block < wr.heap.size) ∧ Tup4.Box wr v0.heap.size l1 a1 b1 g1 ∧ Tup4.Box wr (v0.heap.size + 1) l2 a2 b2 g2 ∧ Tup4.Box wr v2.heap.size j1 j2 j3 j4 ∧ Hid (wr.ownsRow w.heap.size 36 3 (.slice (some ad) n3 c3) n3 (Tup3.cellsT hs)) ∧ Hid (wr.ownsRow w.heap.size 3 1 (.slice A5 m1 c5) m1 (icells x1)) ∧ Hid (wr.ownsRow w.heap.size 3 1 (.slice A6 m2 c6) m2 (icells x2)) ∧ Hid (wr.ownsRow w.heap.size 3 1 (.slice A7 m3 c7) m3 (icells x3)) ∧ Below w.heap.size w wr := ⟨S1, S0⟩
        clear S1
        obtain ⟨⟨⟨_, _, _⟩, _⟩, ⟨_, _, _, _⟩, ⟨_, _, _, _⟩, ⟨_, _, _, _⟩, _, _, _, _, _⟩ := id S0
        refine Settle.region (fun W => (Tup3.TAt W ad k y0 y1 y2 ∧ ad.block < W.heap.size) ∧ Tup4.Box W v0.heap.size l1 a1 b1 g1 ∧ Tup4.Box W (v0.heap.size + 1) l2 a2 b2 g2 ∧ Tup4.Box W v2.heap.size j1 j2 j3 j4 ∧ Hid (W.ownsRow w.heap.size 36 3 (.slice (some ad) n3 c3) n3 (Tup3.cellsT hs)) ∧ Hid (W.ownsRow w.heap.size 3 1 (.slice A5 m1 c5) m1 (icells x1)) ∧ Hid (W.ownsRow w.heap.size 3 1 (.slice A6 m2 c6) m2 (icells x2)) ∧ Hid (W.ownsRow w.heap.size 3 1 (.slice A7 m3 c7) m3 (icells x3)) ∧ Below w.heap.size w W) (by kernel_rfl) (by kernel_rfl) (by kernel_rfl) (by kernel_rfl) (HO _ _ S0 ((Below.refl _ _).drew)) ?_
        clear S0
        repeat (first
          | (refine Settle.Settles.off (by rfl) ?_; simp only [Act.put, List.setIfInBounds_toArray, List.set_cons_zero, List.set_cons_succ])
          | (refine Settle.Settles.quiet (v := ?_) (by rfl) ?_ ?_
             rotate_left
             · (intro W hS; obtain ⟨⟨⟨_, _, _⟩, _⟩, ⟨_, _, _, _⟩, ⟨_, _, _, _⟩, ⟨_, _, _, _⟩, _, _, _, _, _⟩ := hS; go_simp; with_reducible rfl)
             simp only [Act.put, List.setIfInBounds_toArray, List.set_cons_zero, List.set_cons_succ])
          | (refine Settle.Settles.call (v := ?_) (f := ?_) (args := ?_) (by rfl) ?_ ?_ ?_
             rotate_left 3
             · (intro W; go_simp; refine ⟨?_, ?_⟩ <;> with_reducible rfl)
             · (intro W hS; first | (go_at_call 10; (with_reducible refine (QZ.out _ (I3 _ hS.2)).mono ?_); rintro e W1 ⟨rfl, rfl⟩; refine ⟨?_, hS⟩; with_reducible rfl) | (go_at_call 11; (with_reducible refine (QB.out _).mono ?_); rintro e W1 ⟨rfl, hb⟩; refine ⟨?_, HO _ _ hS hb⟩; with_reducible rfl) | (go_at_call 10; (with_reducible refine (QX.out _ (I1 _ hS.2)).mono ?_); rintro e W1 ⟨rfl, rfl⟩; refine ⟨?_, hS⟩; with_reducible rfl) | (go_at_call 12; (with_reducible refine (QS.out _).mono ?_); rintro e W1 ⟨rfl, hb⟩; refine ⟨?_, HO _ _ hS hb⟩; with_reducible rfl))
             simp only [Act.put, List.setIfInBounds_toArray, List.set_cons_zero, List.set_cons_succ]))
        refine Settle.Settles.nil ?_
        intro wr S0
        obtain ⟨⟨⟨_, _, _⟩, _⟩, ⟨_, _, _, _⟩, ⟨_, _, _, _⟩, ⟨_, _, _, _⟩, _, _, _, _, _⟩ := id S0
        go_wp2_with fail
        exact ⟨⟨k + 1, by omega, by go_num, S0.2⟩, by simp [intOf] <;> omega⟩
      · skip
        have hZ : Z = false := by rw [HK hok, hX, hY]; rfl
        rw [hZ] at QZ
        rw [hX] at QX HQ
        rw [hY] at QY
        rw [hs_] at QS
        subst hok
        have hq : ¬ q = 0 := of_decide_eq_false HQ.symm
        have hq2 : (q == 0) = false := beq_eq_false_iff_ne.2 hq
        clear HK HN HT HQ hX hY hs_ hZ
        go_wp2_with fail
        refine (QX.out _ (I1 _ S0)).mono ?_
        rintro e w' ⟨rfl, rfl⟩
        go_wp2_with fail
        have HO : ∀ W W' : World, ((Tup3.TAt W ad k y0 y1 y2 ∧ ad.block < W.heap.size) ∧ Tup4.Box W v0.heap.size l1 a1 b1 g1 ∧ Tup4.Box W (v0.heap.size + 1) l2 a2 b2 g2 ∧ Tup4.Box W v2.heap.size j1 j2 j3 j4 ∧ Hid (W.ownsRow w.heap.size 36 3 (.slice (some ad) n3 c3) n3 (Tup3.cellsT hs)) ∧ Hid (W.ownsRow w.heap.size 3 1 (.slice A5 m1 c5) m1 (icells x1)) ∧ Hid (W.ownsRow w.heap.size 3 1 (.slice A6 m2 c6) m2 (icells x2)) ∧ Hid (W.ownsRow w.heap.size 3 1 (.slice A7 m3 c7) m3 (icells x3)) ∧ Below w.heap.size w W) → Below W.heap.size W W' → ((Tup3.TAt W' ad k y0 y1 y2 ∧ ad.block < W'.heap.size) ∧ Tup4.Box W' v0.heap.size l1 a1 b1 g1 ∧ Tup4.Box W' (v0.heap.size + 1) l2 a2 b2 g2 ∧ Tup4.Box W' v2.heap.size j1 j2 j3 j4 ∧ Hid (W'.ownsRow w.heap.size 36 3 (.slice (some ad) n3 c3) n3 (Tup3.cellsT hs)) ∧ Hid (W'.ownsRow w.heap.size 3 1 (.slice A5 m1 c5) m1 (icells x1)) ∧ Hid (W'.ownsRow w.heap.size 3 1 (.slice A6 m2 c6) m2 (icells x2)) ∧ Hid (W'.ownsRow w.heap.size 3 1 (.slice A7 m3 c7) m3 (icells x3)) ∧ Below w.heap.size w W') := fun W W' ⟨x0, x1, x2, x3, x4, x5, x6, x7, hb⟩ h => ⟨⟨x0.1.later x0.2 h, Nat.lt_of_lt_of_le x0.2 h.size⟩, x1.later h, x2.later h, x3.later h, Lib.hid (own_below (x4).out h), Lib.hid (own_below (x5).out h), Lib.hid (own_below (x6).out h), Lib.hid (own_below (x7).out h), hb.trans (h.mono hb.size)⟩
        replace S0 : (Tup3.TAt wr ad k y0 y1 y2 ∧ ad.block < wr.heap.size) ∧ Tup4.Box wr v0.heap.size l1 a1 b1 g1 ∧ Tup4.Box wr (v0.heap.size + 1) l2 a2 b2 g2 ∧ Tup4.Box wr v2.heap.size j1 j2 j3 j4 ∧ Hid (wr.ownsRow w.heap.size 36 3 (.slice (some ad) n3 c3) n3 (Tup3.cellsT hs)) ∧ Hid (wr.ownsRow w.heap.size 3 1 (.slice A5 m1 c5) m1 (icells x1)) ∧ Hid (wr.ownsRow w.heap.size 3 1 (.slice A6 m2 c6) m2 (icells x2)) ∧ Hid (wr.ownsRow w.heap.size 3 1 (.slice A7 m3 c7) m3 (icells x3)) ∧ Below w.heap.size w wr := ⟨S1, S0⟩
        clear S1
        obtain ⟨⟨⟨_, _, _⟩, _⟩, ⟨_, _, _, _⟩, ⟨_, _, _, _⟩, ⟨_, _, _, _⟩, _, _, _, _, _⟩ := id S0
        refine Settle.region (fun W => (Tup3.TAt W ad k y0 y1 y2 ∧ ad.block < W.heap.size) ∧ Tup4.Box W v0.heap.size l1 a1 b1 g1 ∧ Tup4.Box W (v0.heap.size + 1) l2 a2 b2 g2 ∧ Tup4.Box W v2.heap.size j1 j2 j3 j4 ∧ Hid (W.ownsRow w.heap.size 36 3 (.slice (some ad) n3 c3) n3 (Tup3.cellsT hs)) ∧ Hid (W.ownsRow w.heap.size 3 1 (.slice A5 m1 c5) m1 (icells x1)) ∧ Hid (W.ownsRow w.heap.size 3 1 (.slice A6 m2 c6) m2 (icells x2)) ∧ Hid (W.ownsRow w.heap.size 3 1 (.slice A7 m3 c7) m3 (icells x3)) ∧ Below w.heap.size w W) (by kernel_rfl) (by kernel_rfl) (by kernel_rfl) (by kernel_rfl) (HO _ _ S0 ((Below.refl _ _).drew)) ?_
        clear S0
        repeat (first
          | (refine Settle.Settles.off (by rfl) ?_; simp only [Act.put, List.setIfInBounds_toArray, List.set_cons_zero, List.set_cons_succ])
          | (refine Settle.Settles.quiet (v := ?_) (by rfl) ?_ ?_
             rotate_left
             · (intro W hS; obtain ⟨⟨⟨_, _, _⟩, _⟩, ⟨_, _, _, _⟩, ⟨_, _, _, _⟩, ⟨_, _, _, _⟩, _, _, _, _, _⟩ := hS; go_simp; with_reducible rfl)
             simp only [Act.put, List.setIfInBounds_toArray, List.set_cons_zero, List.set_cons_succ])
          | (refine Settle.Settles.call (v := ?_) (f := ?_) (args := ?_) (by rfl) ?_ ?_ ?_
             rotate_left 3
             · (intro W; go_simp; refine ⟨?_, ?_⟩ <;> with_reducible rfl)
             · (intro W hS; first | (go_at_call 10; (with_reducible refine (QZ.out _ (I3 _ hS.2)).mono ?_); rintro e W1 ⟨rfl, rfl⟩; refine ⟨?_, hS⟩; with_reducible rfl) | (go_at_call 11; (with_reducible refine (QB.out _).mono ?_); rintro e W1 ⟨rfl, hb⟩; refine ⟨?_, HO _ _ hS hb⟩; with_reducible rfl) | (go_at_call 10; (with_reducible refine (QX.out _ (I1 _ hS.2)).mono ?_); rintro e W1 ⟨rfl, rfl⟩; refine ⟨?_, hS⟩; with_reducible rfl) | (go_at_call 12; (with_reducible refine (QS.out _).mono ?_); rintro e W1 ⟨rfl, hb⟩; refine ⟨?_, HO _ _ hS hb⟩; with_reducible rfl))
             simp only [Act.put, List.setIfInBounds_toArray, List.set_cons_zero, List.set_cons_succ]))
        refine Settle.Settles.nil ?_
        intro wr S0
        obtain ⟨⟨⟨_, _, _⟩, _⟩, ⟨_, _, _, _⟩, ⟨_, _, _, _⟩, ⟨_, _, _, _⟩, _, _, _, _, _⟩ := id S0
        go_wp2_with fail
        exact ⟨⟨k + 1, by omega, by go_num, S0.2⟩, by simp [intOf] <;> omega⟩
      · skip
        have := HN hok
        rw [hX, hY] at this
        cases this
      · skip
        have := HN hok
        rw [hX, hY] at this
        cases this
      · skip
        have := HT hs_ hX
        rw [hY] at this
        cases this
      · skip
        rw [hX] at QX HQ
        rw [hY] at QY
        rw [hs_] at QS
        subst hok
        have hq : q = 0 := of_decide_eq_true HQ.symm
        subst hq
        clear HK HN HT HQ hX hY hs_
        go_wp2_with fail
        refine (QX.out _ (I1 _ S0)).mono ?_
        rintro e w' ⟨rfl, rfl⟩
        go_wp2_with fail
        refine (QY.out _ (I2 _ S0)).mono ?_
        rintro e w' ⟨rfl, rfl⟩
        go_wp2_with fail
        have HO : ∀ W W' : World, ((Tup3.TAt W ad k y0 y1 y2 ∧ ad.block < W.heap.size) ∧ Tup4.Box W v0.heap.size l1 a1 b1 g1 ∧ Tup4.Box W (v0.heap.size + 1) l2 a2 b2 g2 ∧ Tup4.Box W v2.heap.size j1 j2 j3 j4 ∧ Hid (W.ownsRow w.heap.size 36 3 (.slice (some ad) n3 c3) n3 (Tup3.cellsT hs)) ∧ Hid (W.ownsRow w.heap.size 3 1 (.slice A5 m1 c5) m1 (icells x1)) ∧ Hid (W.ownsRow w.heap.size 3 1 (.slice A6 m2 c6) m2 (icells x2)) ∧ Hid (W.ownsRow w.heap.size 3 1 (.slice A7 m3 c7) m3 (icells x3)) ∧ Below w.heap.size w W) → Below W.heap.size W W' → ((Tup3.TAt W' ad k y0 y1 y2 ∧ ad.block < W'.heap.size) ∧ Tup4.Box W' v0.heap.size l1 a1 b1 g1 ∧ Tup4.Box W' (v0.heap.size + 1) l2 a2 b2 g2 ∧ Tup4.Box W' v2.heap.size j1 j2 j3 j4 ∧ Hid (W'.ownsRow w.heap.size 36 3 (.slice (some ad) n3 c3) n3 (Tup3.cellsT hs)) ∧ Hid (W'.ownsRow w.heap.size 3 1 (.slice A5 m1 c5) m1 (icells x1)) ∧ Hid (W'.ownsRow w.heap.size 3 1 (.slice A6 m2 c6) m2 (icells x2)) ∧ Hid (W'.ownsRow w.heap.size 3 1 (.slice A7 m3 c7) m3 (icells x3)) ∧ Below w.heap.size w W') := fun W W' ⟨x0, x1, x2, x3, x4, x5, x6, x7, hb⟩ h => ⟨⟨x0.1.later x0.2 h, Nat.lt_of_lt_of_le x0.2 h.size⟩, x1.later h, x2.later h, x3.later h, Lib.hid (own_below (x4).out h), Lib.hid (own_below (x5).out h), Lib.hid (own_below (x6).out h), Lib.hid (own_below (x7).out h), hb.trans (h.mono hb.size)⟩
        replace S0 : (Tup3.TAt wr ad k y0 y1 y2 ∧ ad.block < wr.heap.size) ∧ Tup4.Box wr v0.heap.size l1 a1 b1 g1 ∧ Tup4.Box wr (v0.heap.size + 1) l2 a2 b2 g2 ∧ Tup4.Box wr v2.heap.size j1 j2 j3 j4 ∧ Hid (wr.ownsRow w.heap.size 36 3 (.slice (some ad) n3 c3) n3 (Tup3.cellsT hs)) ∧ Hid (wr.ownsRow w.heap.size 3 1 (.slice A5 m1 c5) m1 (icells x1)) ∧ Hid (wr.ownsRow w.heap.size 3 1 (.slice A6 m2 c6) m2 (icells x2)) ∧ Hid (wr.ownsRow w.heap.size 3 1 (.slice A7 m3 c7) m3 (icells x3)) ∧ Below w.heap.size w wr := ⟨S1, S0⟩
        clear S1
        obtain ⟨⟨⟨_, _, _⟩, _⟩, ⟨_, _, _, _⟩, ⟨_, _, _, _⟩, ⟨_, _, _, _⟩, _, _, _, _, _⟩ := id S0
        refine Settle.region (fun W => (Tup3.TAt W ad k y0 y1 y2 ∧ ad.block < W.heap.size) ∧ Tup4.Box W v0.heap.size l1 a1 b1 g1 ∧ Tup4.Box W (v0.heap.size + 1) l2 a2 b2 g2 ∧ Tup4.Box W v2.heap.size j1 j2 j3 j4 ∧ Hid (W.ownsRow w.heap.size 36 3 (.slice (some ad) n3 c3) n3 (Tup3.cellsT hs)) ∧ Hid (W.ownsRow w.heap.size 3 1 (.slice A5 m1 c5) m1 (icells x1)) ∧ Hid (W.ownsRow w.heap.size 3 1 (.slice A6 m2 c6) m2 (icells x2)) ∧ Hid (W.ownsRow w.heap.size 3 1 (.slice A7 m3 c7) m3 (icells x3)) ∧ Below w.heap.size w W) (by kernel_rfl) (by kernel_rfl) (by kernel_rfl) (by kernel_rfl) (HO _ _ S0 ((Below.refl _ _).drew)) ?_
        clear S0
        repeat (first
          | (refine Settle.Settles.off (by rfl) ?_; simp only [Act.put, List.setIfInBounds_toArray, List.set_cons_zero, List.set_cons_succ])
          | (refine Settle.Settles.quiet (v := ?_) (by rfl) ?_ ?_
             rotate_left
             · (intro W hS; obtain ⟨⟨⟨_, _, _⟩, _⟩, ⟨_, _, _, _⟩, ⟨_, _, _, _⟩, ⟨_, _, _, _⟩, _, _, _, _, _⟩ := hS; go_simp; with_reducible rfl)
             simp only [Act.put, List.setIfInBounds_toArray, List.set_cons_zero, List.set_cons_succ])
          | (refine Settle.Settles.call (v := ?_) (f := ?_) (args := ?_) (by rfl) ?_ ?_ ?_
             rotate_left 3
             · (intro W; go_simp; refine ⟨?_, ?_⟩ <;> with_reducible rfl)
             · (intro W hS; first | (go_at_call 11; (with_reducible refine (QB.out _).mono ?_); rintro e W1 ⟨rfl, hb⟩; refine ⟨?_, HO _ _ hS hb⟩; with_reducible rfl) | (go_at_call 10; (with_reducible refine (QX.out _ (I1 _ hS.2)).mono ?_); rintro e W1 ⟨rfl, rfl⟩; refine ⟨?_, hS⟩; with_reducible rfl) | (go_at_call 12; (with_reducible refine (QS.out _).mono ?_); rintro e W1 ⟨rfl, hb⟩; refine ⟨?_, HO _ _ hS hb⟩; with_reducible rfl))
             simp only [Act.put, List.setIfInBounds_toArray, List.set_cons_zero, List.set_cons_succ]))
        refine Settle.Settles.nil ?_
        intro wr S0
        obtain ⟨⟨⟨_, _, _⟩, _⟩, ⟨_, _, _, _⟩, ⟨_, _, _, _⟩, ⟨_, _, _, _⟩, _, _, _, _, _⟩ := id S0
        go_wp2_with fail
        exact ⟨⟨k + 1, by omega, by go_num, S0.2⟩, by simp [intOf] <;> omega⟩
      · skip
        rw [hX] at QX HQ
        rw [hY] at QY
        rw [hs_] at QS
        subst hok
        have hq : ¬ q = 0 := of_decide_eq_false HQ.symm
        have hq2 : (q == 0) = false := beq_eq_false_iff_ne.2 hq
        clear HK HN HT HQ hX hY hs_
        go_wp2_with fail
        refine (QX.out _ (I1 _ S0)).mono ?_
        rintro e w' ⟨rfl, rfl⟩
        go_wp2_with fail
        have HO : ∀ W W' : World, ((Tup3.TAt W ad k y0 y1 y2 ∧ ad.block < W.heap.size) ∧ Tup4.Box W v0.heap.size l1 a1 b1 g1 ∧ Tup4.Box W (v0.heap.size + 1) l2 a2 b2 g2 ∧ Tup4.Box W v2.heap.size j1 j2 j3 j4 ∧ Hid (W.ownsRow w.heap.size 36 3 (.slice (some ad) n3 c3) n3 (Tup3.cellsT hs)) ∧ Hid (W.ownsRow w.heap.size 3 1 (.slice A5 m1 c5) m1 (icells x1)) ∧ Hid (W.ownsRow w.heap.size 3 1 (.slice A6 m2 c6) m2 (icells x2)) ∧ Hid (W.ownsRow w.heap.size 3 1 (.slice A7 m3 c7) m3 (icells x3)) ∧ Below w.heap.size w W) → Below W.heap.size W W' → ((Tup3.TAt W' ad k y0 y1 y2 ∧ ad.block < W'.heap.size) ∧ Tup4.Box W' v0.heap.size l1 a1 b1 g1 ∧ Tup4.Box W' (v0.heap.size + 1) l2 a2 b2 g2 ∧ Tup4.Box W' v2.heap.size j1 j2 j3 j4 ∧ Hid (W'.ownsRow w.heap.size 36 3 (.slice (some ad) n3 c3) n3 (Tup3.cellsT hs)) ∧ Hid (W'.ownsRow w.heap.size 3 1 (.slice A5 m1 c5) m1 (icells x1)) ∧ Hid (W'.ownsRow w.heap.size 3 1 (.slice A6 m2 c6) m2 (icells x2)) ∧ Hid (W'.ownsRow w.heap.size 3 1 (.slice A7 m3 c7) m3 (icells x3)) ∧ Below w.heap.size w W') := fun W W' ⟨x0, x1, x2, x3, x4, x5, x6, x7, hb⟩ h => ⟨⟨x0.1.later x0.2 h, Nat.lt_of_lt_of_le x0.2 h.size⟩, x1.later h, x2.later h, x3.later h, Lib.hid (own_below (x4).out h), Lib.hid (own_below (x5).out h), Lib.hid (own_below (x6).out h), Lib.hid (own_below (x7).out h), hb.trans (h.mono hb.size)⟩
        replace S0 : (Tup3.TAt wr ad k y0 y1 y2 ∧ ad.block < wr.heap.size) ∧ Tup4.Box wr v0.heap.size l1 a1 b1 g1 ∧ Tup4.Box wr (v0.heap.size + 1) l2 a2 b2 g2 ∧ Tup4.Box wr v2.heap.size j1 j2 j3 j4 ∧ Hid (wr.ownsRow w.heap.size 36 3 (.slice (some ad) n3 c3) n3 (Tup3.cellsT hs)) ∧ Hid (wr.ownsRow w.heap.size 3 1 (.slice A5 m1 c5) m1 (icells x1)) ∧ Hid (wr.ownsRow w.heap.size 3 1 (.slice A6 m2 c6) m2 (icells x2)) ∧ Hid (wr.ownsRow w.heap.size 3 1 (.slice A7 m3 c7) m3 (icells x3)) ∧ Below w.heap.size w wr := ⟨S1, S0⟩
        clear S1
        obtain ⟨⟨⟨_, _, _⟩, _⟩, ⟨_, _, _, _⟩, ⟨_, _, _, _⟩, ⟨_, _, _, _⟩, _, _, _, _, _⟩ := id S0
        refine Settle.region (fun W => (Tup3.TAt W ad k y0 y1 y2 ∧ ad.block < W.heap.size) ∧ Tup4.Box W v0.heap.size l1 a1 b1 g1 ∧ Tup4.Box W (v0.heap.size + 1) l2 a2 b2 g2 ∧ Tup4.Box W v2.heap.size j1 j2 j3 j4 ∧ Hid (W.ownsRow w.heap.size 36 3 (.slice (some ad) n3 c3) n3 (Tup3.cellsT hs)) ∧ Hid (W.ownsRow w.heap.size 3 1 (.slice A5 m1 c5) m1 (icells x1)) ∧ Hid (W.ownsRow w.heap.size 3 1 (.slice A6 m2 c6) m2 (icells x2)) ∧ Hid (W.ownsRow w.heap.size 3 1 (.slice A7 m3 c7) m3 (icells x3)) ∧ Below w.heap.size w W) (by kernel_rfl) (by kernel_rfl) (by kernel_rfl) (by kernel_rfl) (HO _ _ S0 ((Below.refl _ _).drew)) ?_
        clear S0
        repeat (first
          | (refine Settle.Settles.off (by rfl) ?_; simp only [Act.put, List.setIfInBounds_toArray, List.set_cons_zero, List.set_cons_succ])
          | (refine Settle.Settles.quiet (v := ?_) (by rfl) ?_ ?_
             rotate_left
             · (intro W hS; obtain ⟨⟨⟨_, _, _⟩, _⟩, ⟨_, _, _, _⟩, ⟨_, _, _, _⟩, ⟨_, _, _, _⟩, _, _, _, _, _⟩ := hS; go_simp; with_reducible rfl)
             simp only [Act.put, List.setIfInBounds_toArray, List.set_cons_zero, List.set_cons_succ])
          | (refine Settle.Settles.call (v := ?_) (f := ?_) (args := ?_) (by rfl) ?_ ?_ ?_
             rotate_left 3
             · (intro W; go_simp; refine ⟨?_, ?_⟩ <;> with_reducible rfl)
             · (intro W hS; first | (go_at_call 11; (with_reducible refine (QB.out _).mono ?_); rintro e W1 ⟨rfl, hb⟩; refine ⟨?_, HO _ _ hS hb⟩; with_reducible rfl) | (go_at_call 10; (with_reducible refine (QX.out _ (I1 _ hS.2)).mono ?_); rintro e W1 ⟨rfl, rfl⟩; refine ⟨?_, hS⟩; with_reducible rfl) | (go_at_call 12; (with_reducible refine (QS.out _).mono ?_); rintro e W1 ⟨rfl, hb⟩; refine ⟨?_, HO _ _ hS hb⟩; with_reducible rfl))
             simp only [Act.put, List.setIfInBounds_toArray, List.set_cons_zero, List.set_cons_succ]))
        refine Settle.Settles.nil ?_
        intro wr S0
        obtain ⟨⟨⟨_, _, _⟩, _⟩, ⟨_, _, _, _⟩, ⟨_, _, _, _⟩, ⟨_, _, _, _⟩, _, _, _, _, _⟩ := id S0
        go_wp2_with fail
        exact ⟨⟨k + 1, by omega, by go_num, S0.2⟩, by simp [intOf] <;> omega⟩
      · skip
        rw [hX] at QX HQ
        rw [hY] at QY
        rw [hs_] at QS
        subst hok
        have hq : ¬ q = 0 := of_decide_eq_false HQ.symm
        have hq2 : (q == 0) = false := beq_eq_false_iff_ne.2 hq
        clear HK HN HT HQ hX hY hs_
        go_wp2_with fail
        refine (QX.out _ (I1 _ S0)).mono ?_
        rintro e w' ⟨rfl, rfl⟩
        go_wp2_with fail
        have HO : ∀ W W' : World, ((Tup3.TAt W ad k y0 y1 y2 ∧ ad.block < W.heap.size) ∧ Tup4.Box W v0.heap.size l1 a1 b1 g1 ∧ Tup4.Box W (v0.heap.size + 1) l2 a2 b2 g2 ∧ Tup4.Box W v2.heap.size j1 j2 j3 j4 ∧ Hid (W.ownsRow w.heap.size 36 3 (.slice (some ad) n3 c3) n3 (Tup3.cellsT hs)) ∧ Hid (W.ownsRow w.heap.size 3 1 (.slice A5 m1 c5) m1 (icells x1)) ∧ Hid (W.ownsRow w.heap.size 3 1 (.slice A6 m2 c6) m2 (icells x2)) ∧ Hid (W.ownsRow w.heap.size 3 1 (.slice A7 m3 c7) m3 (icells x3)) ∧ Below w.heap.size w W) → Below W.heap.size W W' → ((Tup3.TAt W' ad k y0 y1 y2 ∧ ad.block < W'.heap.size) ∧ Tup4.Box W' v0.heap.size l1 a1 b1 g1 ∧ Tup4.Box W' (v0.heap.size + 1) l2 a2 b2 g2 ∧ Tup4.Box W' v2.heap.size j1 j2 j3 j4 ∧ Hid (W'.ownsRow w.heap.size 36 3 (.slice (some ad) n3 c3) n3 (Tup3.cellsT hs)) ∧ Hid (W'.ownsRow w.heap.size 3 1 (.slice A5 m1 c5) m1 (icells x1)) ∧ Hid (W'.ownsRow w.heap.size 3 1 (.slice A6 m2 c6) m2 (icells x2)) ∧ Hid (W'.ownsRow w.heap.size 3 1 (.slice A7 m3 c7) m3 (icells x3)) ∧ Below w.heap.size w W') := fun W W' ⟨x0, x1, x2, x3, x4, x5, x6, x7, hb⟩ h => ⟨⟨x0.1.later x0.2 h, Nat.lt_of_lt_of_le x0.2 h.size⟩, x1.later h, x2.later h, x3.later h, Lib.hid (own_below (x4).out h), Lib.hid (own_below (x5).out h), Lib.hid (own_below (x6).out h), Lib.hid (own_below (x7).out h), hb.trans (h.mono hb.size)⟩
        replace S0 : (Tup3.TAt wr ad k y0 y1 y2 ∧ ad.block < wr.heap.size) ∧ Tup4.Box wr v0.heap.size l1 a1 b1 g1 ∧ Tup4.Box wr (v0.heap.size + 1) l2 a2 b2 g2 ∧ Tup4.Box wr v2.heap.size j1 j2 j3 j4 ∧ Hid (wr.ownsRow w.heap.size 36 3 (.slice (some ad) n3 c3) n3 (Tup3.cellsT hs)) ∧ Hid (wr.ownsRow w.heap.size 3 1 (.slice A5 m1 c5) m1 (icells x1)) ∧ Hid (wr.ownsRow w.heap.size 3 1 (.slice A6 m2 c6) m2 (icells x2)) ∧ Hid (wr.ownsRow w.heap.size 3 1 (.slice A7 m3 c7) m3 (icells x3)) ∧ Below w.heap.size w wr := ⟨S1, S0⟩
        clear S1
        obtain ⟨⟨⟨_, _, _⟩, _⟩, ⟨_, _, _, _⟩, ⟨_, _, _, _⟩, ⟨_, _, _, _⟩, _, _, _, _, _⟩ := id S0
        refine Settle.region (fun W => (Tup3.TAt W ad k y0 y1 y2 ∧ ad.block < W.heap.size) ∧ Tup4.Box W v0.heap.size l1 a1 b1 g1 ∧ Tup4.Box W (v0.heap.size + 1) l2 a2 b2 g2 ∧ Tup4.Box W v2.heap.size j1 j2 j3 j4 ∧ Hid (W.ownsRow w.heap.size 36 3 (.slice (some ad) n3 c3) n3 (Tup3.cellsT hs)) ∧ Hid (W.ownsRow w.heap.size 3 1 (.slice A5 m1 c5) m1 (icells x1)) ∧ Hid (W.ownsRow w.heap.size 3 1 (.slice A6 m2 c6) m2 (icells x2)) ∧ Hid (W.ownsRow w.heap.size 3 1 (.slice A7 m3 c7) m3 (icells x3)) ∧ Below w.heap.size w W) (by kernel_rfl) (by kernel_rfl) (by kernel_rfl) (by kernel_rfl) (HO _ _ S0 ((Below.refl _ _).drew)) ?_
        clear S0
        repeat (first
          | (refine Settle.Settles.off (by rfl) ?_; simp only [Act.put, List.setIfInBounds_toArray, List.set_cons_zero, List.set_cons_succ])
          | (refine Settle.Settles.quiet (v := ?_) (by rfl) ?_ ?_
             rotate_left
             · (intro W hS; obtain ⟨⟨⟨_, _, _⟩, _⟩, ⟨_, _, _, _⟩, ⟨_, _, _, _⟩, ⟨_, _, _, _⟩, _, _, _, _, _⟩ := hS; go_simp; with_reducible rfl)
             simp only [Act.put, List.setIfInBounds_toArray, List.set_cons_zero, List.set_cons_succ])
          | (refine Settle.Settles.call (v := ?_) (f := ?_) (args := ?_) (by rfl) ?_ ?_ ?_
             rotate_left 3
             · (intro W; go_simp; refine ⟨?_, ?_⟩ <;> with_reducible rfl)
             · (intro W hS; first | (go_at_call 11; (with_reducible refine (QB.out _).mono ?_); rintro e W1 ⟨rfl, hb⟩; refine ⟨?_, HO _ _ hS hb⟩; with_reducible rfl) | (go_at_call 10; (with_reducible refine (QX.out _ (I1 _ hS.2)).mono ?_); rintro e W1 ⟨rfl, rfl⟩; refine ⟨?_, hS⟩; with_reducible rfl) | (go_at_call 12; (with_reducible refine (QS.out _).mono ?_); rintro e W1 ⟨rfl, hb⟩; refine ⟨?_, HO _ _ hS hb⟩; with_reducible rfl))
             simp only [Act.put, List.setIfInBounds_toArray, List.set_cons_zero, List.set_cons_succ]))
        refine Settle.Settles.nil ?_
        intro wr S0
        obtain ⟨⟨⟨_, _, _⟩, _⟩, ⟨_, _, _, _⟩, ⟨_, _, _, _⟩, ⟨_, _, _, _⟩, _, _, _, _, _⟩ := id S0
        go_wp2_with fail
        exact ⟨⟨k + 1, by omega, by go_num, S0.2⟩, by simp [intOf] <;> omega⟩
      · skip
        rw [hX] at QX HQ
        rw [hY] at QY
        rw [hs_] at QS
        subst hok
        have hq : ¬ q = 0 := of_decide_eq_false HQ.symm
        have hq2 : (q == 0) = false := beq_eq_false_iff_ne.2 hq
        clear HK HN HT HQ hX hY hs_
        go_wp2_with fail
        refine (QX.out _ (I1 _ S0)).mono ?_
        rintro e w' ⟨rfl, rfl⟩
        go_wp2_with fail
        have HO : ∀ W W' : World, ((Tup3.TAt W ad k y0 y1 y2 ∧ ad.block < W.heap.size) ∧ Tup4.Box W v0.heap.size l1 a1 b1 g1 ∧ Tup4.Box W (v0.heap.size + 1) l2 a2 b2 g2 ∧ Tup4.Box W v2.heap.size j1 j2 j3 j4 ∧ Hid (W.ownsRow w.heap.size 36 3 (.slice (some ad) n3 c3) n3 (Tup3.cellsT hs)) ∧ Hid (W.ownsRow w.heap.size 3 1 (.slice A5 m1 c5) m1 (icells x1)) ∧ Hid (W.ownsRow w.heap.size 3 1 (.slice A6 m2 c6) m2 (icells x2)) ∧ Hid (W.ownsRow w.heap.size 3 1 (.slice A7 m3 c7) m3 (icells x3)) ∧ Below w.heap.size w W) → Below W.heap.size W W' → ((Tup3.TAt W' ad k y0 y1 y2 ∧ ad.block < W'.heap.size) ∧ Tup4.Box W' v0.heap.size l1 a1 b1 g1 ∧ Tup4.Box W' (v0.heap.size + 1) l2 a2 b2 g2 ∧ Tup4.Box W' v2.heap.size j1 j2 j3 j4 ∧ Hid (W'.ownsRow w.heap.size 36 3 (.slice (some ad) n3 c3) n3 (Tup3.cellsT hs)) ∧ Hid (W'.ownsRow w.heap.size 3 1 (.slice A5 m1 c5) m1 (icells x1)) ∧ Hid (W'.ownsRow w.heap.size 3 1 (.slice A6 m2 c6) m2 (icells x2)) ∧ Hid (W'.ownsRow w.heap.size 3 1 (.slice A7 m3 c7) m3 (icells x3)) ∧ Below w.heap.size w W') := fun W W' ⟨x0, x1, x2, x3, x4, x5, x6, x7, hb⟩ h => ⟨⟨x0.1.later x0.2 h, Nat.lt_of_lt_of_le x0.2 h.size⟩, x1.later h, x2.later h, x3.later h, Lib.hid (own_below (x4).out h), Lib.hid (own_below (x5).out h), Lib.hid (own_below (x6).out h), Lib.hid (own_below (x7).out h), hb.trans (h.mono hb.size)⟩
        replace S0 : (Tup3.TAt wr ad k y0 y1 y2 ∧ ad.block < wr.heap.size) ∧ Tup4.Box wr v0.heap.size l1 a1 b1 g1 ∧ Tup4.Box wr (v0.heap.size + 1) l2 a2 b2 g2 ∧ Tup4.Box wr v2.heap.size j1 j2 j3 j4 ∧ Hid (wr.ownsRow w.heap.size 36 3 (.slice (some ad) n3 c3) n3 (Tup3.cellsT hs)) ∧ Hid (wr.ownsRow w.heap.size 3 1 (.slice A5 m1 c5) m1 (icells x1)) ∧ Hid (wr.ownsRow w.heap.size 3 1 (.slice A6 m2 c6) m2 (icells x2)) ∧ Hid (wr.ownsRow w.heap.size 3 1 (.slice A7 m3 c7) m3 (icells x3)) ∧ Below w.heap.size w wr := ⟨S1, S0⟩
        clear S1
        obtain ⟨⟨⟨_, _, _⟩, _⟩, ⟨_, _, _, _⟩, ⟨_, _, _, _⟩, ⟨_, _, _, _⟩, _, _, _, _, _⟩ := id S0
        refine Settle.region (fun W => (Tup3.TAt W ad k y0 y1 y2 ∧ ad.block < W.heap.size) ∧ Tup4.Box W v0.heap.size l1 a1 b1 g1 ∧ Tup4.Box W (v0.heap.size + 1) l2 a2 b2 g2 ∧ Tup4.Box W v2.heap.size j1 j2 j3 j4 ∧ Hid (W.ownsRow w.heap.size 36 3 (.slice (some ad) n3 c3) n3 (Tup3.cellsT hs)) ∧ Hid (W.ownsRow w.heap.size 3 1 (.slice A5 m1 c5) m1 (icells x1)) ∧ Hid (W.ownsRow w.heap.size 3 1 (.slice A6 m2 c6) m2 (icells x2)) ∧ Hid (W.ownsRow w.heap.size 3 1 (.slice A7 m3 c7) m3 (icells x3)) ∧ Below w.heap.size w W) (by kernel_rfl) (by kernel_rfl) (by kernel_rfl) (by kernel_rfl) (HO _ _ S0 ((Below.refl _ _).drew)) ?_
        clear S0
        repeat (first
          | (refine Settle.Settles.off (by rfl) ?_; simp only [Act.put, List.setIfInBounds_toArray, List.set_cons_zero, List.set_cons_succ])
          | (refine Settle.Settles.quiet (v := ?_) (by rfl) ?_ ?_
             rotate_left
             · (intro W hS; obtain ⟨⟨⟨_, _, _⟩, _⟩, ⟨_, _, _, _⟩, ⟨_, _, _, _⟩, ⟨_, _, _, _⟩, _, _, _, _, _⟩ := hS; go_simp; with_reducible rfl)
             simp only [Act.put, List.setIfInBounds_toArray, List.set_cons_zero, List.set_cons_succ])
          | (refine Settle.Settles.call (v := ?_) (f := ?_) (args := ?_) (by rfl) ?_ ?_ ?_
             rotate_left 3
             · (intro W; go_simp; refine ⟨?_, ?_⟩ <;> with_reducible rfl)
             · (intro W hS; first | (go_at_call 11; (with_reducible refine (QB.out _).mono ?_); rintro e W1 ⟨rfl, hb⟩; refine ⟨?_, HO _ _ hS hb⟩; with_reducible rfl) | (go_at_call 10; (with_reducible refine (QX.out _ (I1 _ hS.2)).mono ?_); rintro e W1 ⟨rfl, rfl⟩; refine ⟨?_, hS⟩; with_reducible rfl) | (go_at_call 12; (with_reducible refine (QS.out _).mono ?_); rintro e W1 ⟨rfl, hb⟩; refine ⟨?_, HO _ _ hS hb⟩; with_reducible rfl))
             simp only [Act.put, List.setIfInBounds_toArray, List.set_cons_zero, List.set_cons_succ]))
        refine Settle.Settles.nil ?_
        intro wr S0
        obtain ⟨⟨⟨_, _, _⟩, _⟩, ⟨_, _, _, _⟩, ⟨_, _, _, _⟩, ⟨_, _, _, _⟩, _, _, _, _, _⟩ := id S0
        go_wp2_with fail
        exact ⟨⟨k + 1, by omega, by go_num, S0.2⟩, by simp [intOf] <;> omega⟩
      · skip
        rw [hX] at QX HQ
        rw [hY] at QY
        rw [hs_] at QS
        subst hok
        have hq : ¬ q = 0 := of_decide_eq_false HQ.symm
        have hq2 : (q == 0) = false := beq_eq_false_iff_ne.2 hq
        clear HK HN HT HQ hX hY hs_
        go_wp2_with fail
        refine (QX.out _ (I1 _ S0)).mono ?_
        rintro e w' ⟨rfl, rfl⟩
        go_wp2_with fail
        have HO : ∀ W W' : World, ((Tup3.TAt W ad k y0 y1 y2 ∧ ad.block < W.heap.size) ∧ Tup4.Box W v0.heap.size l1 a1 b1 g1 ∧ Tup4.Box W (v0.heap.size + 1) l2 a2 b2 g2 ∧ Tup4.Box W v2.heap.size j1 j2 j3 j4 ∧ Hid (W.ownsRow w.heap.size 36 3 (.slice (some ad) n3 c3) n3 (Tup3.cellsT hs)) ∧ Hid (W.ownsRow w.heap.size 3 1 (.slice A5 m1 c5) m1 (icells x1)) ∧ Hid (W.ownsRow w.heap.size 3 1 (.slice A6 m2 c6) m2 (icells x2)) ∧ Hid (W.ownsRow w.heap.size 3 1 (.slice A7 m3 c7) m3 (icells x3)) ∧ Below w.heap.size w W) → Below W.heap.size W W' → ((Tup3.TAt W' ad k y0 y1 y2 ∧ ad.block < W'.heap.size) ∧ Tup4.Box W' v0.heap.size l1 a1 b1 g1 ∧ Tup4.Box W' (v0.heap.size + 1) l2 a2 b2 g2 ∧ Tup4.Box W' v2.heap.size j1 j2 j3 j4 ∧ Hid (W'.ownsRow w.heap.size 36 3 (.slice (some ad) n3 c3) n3 (Tup3.cellsT hs)) ∧ Hid (W'.ownsRow w.heap.size 3 1 (.slice A5 m1 c5) m1 (icells x1)) ∧ Hid (W'.ownsRow w.heap.size 3 1 (.slice A6 m2 c6) m2 (icells x2)) ∧ Hid (W'.ownsRow w.heap.size 3 1 (.slice A7 m3 c7) m3 (icells x3)) ∧ Below w.heap.size w W') := fun W W' ⟨x0, x1, x2, x3, x4, x5, x6, x7, hb⟩ h => ⟨⟨x0.1.later x0.2 h, Nat.lt_of_lt_of_le x0.2 h.size⟩, x1.later h, x2.later h, x3.later h, Lib.hid (own_below (x4).out h), Lib.hid (own_below (x5).out h), Lib.hid (own_below (x6).out h), Lib.hid (own_below (x7).out h), hb.trans (h.mono hb.size)⟩
        replace S0 : (Tup3.TAt wr ad k y0 y1 y2 ∧ ad.block < wr.heap.size) ∧ Tup4.Box wr v0.heap.size l1 a1 b1 g1 ∧ Tup4.Box wr (v0.heap.size + 1) l2 a2 b2 g2 ∧ Tup4.Box wr v2.heap.size j1 j2 j3 j4 ∧ Hid (wr.ownsRow w.heap.size 36 3 (.slice (some ad) n3 c3) n3 (Tup3.cellsT hs)) ∧ Hid (wr.ownsRow w.heap.size 3 1 (.slice A5 m1 c5) m1 (icells x1)) ∧ Hid (wr.ownsRow w.heap.size 3 1 (.slice A6 m2 c6) m2 (icells x2)) ∧ Hid (wr.ownsRow w.heap.size 3 1 (.slice A7 m3 c7) m3 (icells x3)) ∧ Below w.heap.size w wr := ⟨S1, S0⟩
        clear S1
        obtain ⟨⟨⟨_, _, _⟩, _⟩, ⟨_, _, _, _⟩, ⟨_, _, _, _⟩, ⟨_, _, _, _⟩, _, _, _, _, _⟩ := id S0
        refine Settle.region (fun W => (Tup3.TAt W ad k y0 y1 y2 ∧ ad.block < W.heap.size) ∧ Tup4.Box W v0.heap.size l1 a1 b1 g1 ∧ Tup4.Box W (v0.heap.size + 1) l2 a2 b2 g2 ∧ Tup4.Box W v2.heap.size j1 j2 j3 j4 ∧ Hid (W.ownsRow w.heap.size 36 3 (.slice (some ad) n3 c3) n3 (Tup3.cellsT hs)) ∧ Hid (W.ownsRow w.heap.size 3 1 (.slice A5 m1 c5) m1 (icells x1)) ∧ Hid (W.ownsRow w.heap.size 3 1 (.slice A6 m2 c6) m2 (icells x2)) ∧ Hid (W.ownsRow w.heap.size 3 1 (.slice A7 m3 c7) m3 (icells x3)) ∧ Below w.heap.size w W) (by kernel_rfl) (by kernel_rfl) (by kernel_rfl) (by kernel_rfl) (HO _ _ S0 ((Below.refl _ _).drew)) ?_
        clear S0
        repeat (first
          | (refine Settle.Settles.off (by rfl) ?_; simp only [Act.put, List.setIfInBounds_toArray, List.set_cons_zero, List.set_cons_succ])
          | (refine Settle.Settles.quiet (v := ?_) (by rfl) ?_ ?_
             rotate_left
             · (intro W hS; obtain ⟨⟨⟨_, _, _⟩, _⟩, ⟨_, _, _, _⟩, ⟨_, _, _, _⟩, ⟨_, _, _, _⟩, _, _, _, _, _⟩ := hS; go_simp; with_reducible rfl)
             simp only [Act.put, List.setIfInBounds_toArray, List.set_cons_zero, List.set_cons_succ])
          | (refine Settle.Settles.call (v := ?_) (f := ?_) (args := ?_) (by rfl) ?_ ?_ ?_
             rotate_left 3
             · (intro W; go_simp; refine ⟨?_, ?_⟩ <;> with_reducible rfl)
             · (intro W hS; first | (go_at_call 11; (with_reducible refine (QB.out _).mono ?_); rintro e W1 ⟨rfl, hb⟩; refine ⟨?_, HO _ _ hS hb⟩; with_reducible rfl) | (go_at_call 10; (with_reducible refine (QX.out _ (I1 _ hS.2)).mono ?_); rintro e W1 ⟨rfl, rfl⟩; refine ⟨?_, hS⟩; with_reducible rfl) | (go_at_call 12; (with_reducible refine (QS.out _).mono ?_); rintro e W1 ⟨rfl, hb⟩; refine ⟨?_, HO _ _ hS hb⟩; with_reducible rfl))
             simp only [Act.put, List.setIfInBounds_toArray, List.set_cons_zero, List.set_cons_succ]))
        refine Settle.Settles.nil ?_
        intro wr S0
        obtain ⟨⟨⟨_, _, _⟩, _⟩, ⟨_, _, _, _⟩, ⟨_, _, _, _⟩, ⟨_, _, _, _⟩, _, _, _, _, _⟩ := id S0
        go_wp2_with fail
        exact ⟨⟨k + 1, by omega, by go_num, S0.2⟩, by simp [intOf] <;> omega⟩
    · obtain rfl : k = n3 := by omega
      have QO : Hid (∀ W, _) := Lib.hid fun W => DutyImpl.loanOk l1 a1 b1 g1 W
      have QA : Hid (∀ W, _) := Lib.hid fun W => DutyImpl.stricter l1 a1 b1 g1 l1 a1 b1 g1 W
      have QC : Hid (∀ W, _) := Lib.hid fun W => DutyImpl.stricter j1 j2 j3 j4 l1 a1 b1 g1 W
      have QD : Hid (∀ W, _) := Lib.hid fun W => DutyImpl.stricter j1 j2 j3 j4 l2 a2 b2 g2 W
      rw [h1] at QO
      rw [hself] at QA
      clear TH I1 I2 I3
      cases ok
      · clear QC QD
        go_wp2_with fail
        refine (QO.out _).mono ?_
        rintro e w1 ⟨rfl, hb_⟩
        replace S0 := HO _ _ S0 hb_
        clear hb_
        obtain ⟨⟨_, _, _, _⟩, ⟨_, _, _, _⟩, ⟨_, _, _, _⟩, _, _, _, _, _⟩ := id S0
        go_wp2_with fail
        refine (QA.out _).mono ?_
        rintro e w2 ⟨rfl, hb_⟩
        replace S0 := HO _ _ S0 hb_
        clear hb_
        obtain ⟨⟨_, _, _, _⟩, ⟨_, _, _, _⟩, ⟨_, _, _, _⟩, _, _, _, _, _⟩ := id S0
        go_wp2_with fail
        go_ret
        exact ⟨rfl, S0.2.2.2.2.2.2.2⟩
      · rw [(FS.out rfl).1] at QC
        rw [(FS.out rfl).2] at QD
        go_wp2_with fail
        refine (QO.out _).mono ?_
        rintro e w1 ⟨rfl, hb_⟩
        replace S0 := HO _ _ S0 hb_
        clear hb_
        obtain ⟨⟨_, _, _, _⟩, ⟨_, _, _, _⟩, ⟨_, _, _, _⟩, _, _, _, _, _⟩ := id S0
        go_wp2_with fail
        refine (QA.out _).mono ?_
        rintro e w2 ⟨rfl, hb_⟩
        replace S0 := HO _ _ S0 hb_
        clear hb_
        obtain ⟨⟨_, _, _, _⟩, ⟨_, _, _, _⟩, ⟨_, _, _, _⟩, _, _, _, _, _⟩ := id S0
        go_wp2_with fail
        refine (QC.out _).mono ?_
        rintro e w3 ⟨rfl, hb_⟩
        replace S0 := HO _ _ S0 hb_
        clear hb_
        obtain ⟨⟨_, _, _, _⟩, ⟨_, _, _, _⟩, ⟨_, _, _, _⟩, _, _, _, _, _⟩ := id S0
        go_wp2_with fail
        refine (QD.out _).mono ?_
        rintro e w4 ⟨rfl, hb_⟩
        replace S0 := HO _ _ S0 hb_
        clear hb_
        obtain ⟨⟨_, _, _, _⟩, ⟨_, _, _, _⟩, ⟨_, _, _, _⟩, _, _, _, _, _⟩ := id S0
        go_wp2_with fail
        go_ret
        exact ⟨rfl, S0.2.2.2.2.2.2.2⟩

set_option maxRecDepth 100000 in
theorem contract (H : Type) (enc : TypeId × Value → H) (W : World) (base : Nat) (args : Array Value) (ds gs : List (DataW H)) (before : List MemPlace)
    (hval : ∀ (j : Nat) t v, Try.f3.params[j]? = some t → args[j]? = some v → Value.okWide Try.prog W .any base t v)
    (hW : DataW.Whole enc Try.prog Try.f3.params.toList Rows.fnLoansSpec.vars false W args.toList ds gs before) :
    Calls Try.prog 3 args W fun e W' => ∃ v, e = .returned v ∧ Rows.fnLoansSpec.post enc Try.prog Try.f3 false true false false W args v W' := by
  have hW' := hW
  obtain ⟨p, q, hA0, hV, rfl, hfz, hnd⟩ := hW
  have hA : DataW.TrodAll enc Try.prog W 0 (fun _ => true) true Try.f3.params.toList args.toList ds p := hA0
  rw [Try.params3] at hA hval
  obtain ⟨v0, vs0, d0, ds0, p0, q0, hargs, rfl, rfl, h0, r0⟩ := trodAll_cons hA
  obtain ⟨rfl, rfl, rfl⟩ := trodAll_nil r0
  obtain rfl : args = #[v0] := by cases args; simp_all
  obtain ⟨rfl, rfl⟩ := trodVars_none hV
  obtain ⟨a0, len0, cap0, rfl⟩ := okWide_slice Try.underlying22 (hval 0 22 v0 rfl rfl)
  have k0 := h0
  have lt0 : ∀ x ∈ p0, x.block < W.heap.size := by obtain ⟨m, hm⟩ := k0; exact DataW.trod_lt m _ _ _ hm
  obtain ⟨z0, w0⟩ : ∃ zs, IsRow .u8 W a0 len0 cap0 zs := by
    obtain ⟨fuel, hf⟩ := h0
    rcases open_ints Try.underlying22 Try.underlying5 (by kernel_rfl) hf with ⟨hcs, _⟩ | ⟨x, l, c, zs, hcs, _, hl, hm, hz, _, hcell, hwz⟩
    · simp [Value.cells] at hcs
      obtain ⟨rfl, rfl, rfl⟩ := hcs
      exact ⟨[], .inl ⟨rfl, rfl, rfl, rfl⟩⟩
    · simp [Value.cells] at hcs
      obtain ⟨rfl, rfl, rfl⟩ := hcs
      exact ⟨zs, .inr ⟨_, rfl, hl, hm, by simpa using hz, hcell, hwz⟩⟩
  clear hA0
  refine (walk W a0 len0 cap0 z0 w0).mono fun e W' ⟨he, hg⟩ => ?_
  subst he
  exact ⟨_, rfl, _, _, _, [], _, [], hW', (trodAll_cons_mk (shut_bool Try.underlying4 _) trodAll_mk0), (trodAll_cons_mk (Below.trod laidOut (by kernel_rfl) (of_decide_eq_true (by kernel_rfl)) k0 hg lt0) trodAll_mk0), rfl, hg.frame _, fun h => by cases h⟩

set_option maxRecDepth 100000 in
theorem lifted (os : Os) (started : os.Started) (H : Type) (enc : TypeId × Value → H) :
    ReturnsInHanded {} Try.checked os 3 .any (Rows.fnLoansSpec.pre6 enc Try.prog Try.f3 Rows.fnLoansRow.domain false) (Rows.fnLoansSpec.post enc Try.prog Try.f3 false true false false) := by
  refine returnsInHanded_of_change (C := Try.checked) own started (by kernel_rfl) Try.func3
    (ChangeSpec.witness6 (enc := enc) (C := Try.checked) false ⟨#[], #[Value.slice none 0 0], []⟩ 8 (by kernel_rfl) (by kernel_rfl) (by kernel_rfl) (by kernel_rfl)) ?_
  intro W base args ds gs before hval hW hcnd _
  exact contract H enc W base args ds gs before hval hW

theorem proved : Rows.FnLoansSaid :=
  OpenClaim.holds_of_wide 3 Try.f3 rfl rfl rfl rfl rfl rfl rfl ⟨rfl, rfl, rfl, rfl, rfl⟩ rfl rfl rfl rfl rfl (by kernel_rfl) Try.func3 (by kernel_rfl)
    (of_decide_eq_true (by kernel_rfl)) (by unfold Func.isWrapper; first | (rw [if_pos (by decide +kernel)]; kernel_rfl) | (rw [if_neg (by decide +kernel)]; exact ⟨rfl, rfl⟩))
    (fun os started H enc _ => lifted os started H enc)
#print axioms proved
end Go.Proofs.Ytcfoleiooohbhaa.fnLoans
