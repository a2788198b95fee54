/-
  For every slice of bytes, the landed functions on seals keep the promise at the record that is drawn from them: the law's call returns true and writes nothing that was there. No condition.
-/
import Derived.Test.YtcfoleiooohbhaaRows
import Derived.WalkKit
import Derived.ProofKit
import Derived.OpenShut
import Derived.ShutString
import Derived.Test.YtcfoleiooohbhaaApeImpl
import Derived.Test.YtcfoleiooohbhaaApeSpec
import Derived.Test.YtcfoleiooohbhaaEntryImpl
import Derived.Test.YtcfoleiooohbhaaEntrySpec
import Derived.Test.YtcfoleiooohbhaaEntRow
import Derived.Test.YtcfoleiooohbhaaSealImpl
import Derived.Test.YtcfoleiooohbhaaDrawSeal
import Derived.Test.YtcfoleiooohbhaaSealsMath
import Derived.Test.YtcfoleiooohbhaaAtMath
import Derived.Test.YtcfoleiooohbhaaRoomRes
import Derived.Test.YtcfoleiooohbhaaGround
import Derived.Test.YtcfoleiooohbhaaLawStr
namespace Go.Proofs.Ytcfoleiooohbhaa.fnSeals
open Go.ChangeShapes Go.WideShapes Go.ChangeAt Go.RowKit
open Go.ChangeMaps (open_string shut_string)
open Draw DrawNum TupISI SealMath EntryMath ApeMath SealsMath DrawSeal AtMath Go.Proofs.Ytcfoleiooohbhaa.Own EntRow
set_option linter.unusedVariables false

theorem own : ownKnob Try.prog.godebug = none := by kernel_rfl
theorem laidOut : laidOutB Try.prog = true := by kernel_rfl

/-- What is known of a slice of integers that came in: nil, or a row of 'cap' cells. -/
def IsRow (k : IntKind) (w : World) (a : Option Addr) (len cap : Nat) (zs : List Int) : Prop :=
  (a = none ∧ len = 0 ∧ cap = 0 ∧ zs = []) ∨
  ∃ x, a = some x ∧ len ≤ cap ∧ cap ≤ maxLen ∧ zs.length = cap ∧ (∀ i, i < zs.length → w.cell? (x.add i) = some (.int k (zs.getD i 0))) ∧ ∀ n ∈ zs, (Lit.int k n).wf = true

theorem breaches {l : List Tu} {k : Nat} {tm z sk : Int} {t : ByteArray} (h : sealedB l = true) (hk : k < l.length) (he : tt l k = (tm, t, sk)) (hz : z ≠ sk) : firstI (l.set k (tm, t, z)) = (k : Int) := by
  have := breaks_seal h hk (z := z) (by rw [he]; exact hz)
  rw [he] at this
  exact this
theorem breachet {l : List Tu} {k : Nat} {tm sk : Int} {t t2 : ByteArray} (h : sealedB l = true) (hk : k < l.length) (he : tt l k = (tm, t, sk)) (hz : digestI t2 ≠ digestI t) : firstI (l.set k (tm, t2, sk)) = (k : Int) := by
  have := breaks_text h hk (t := t2) (by rw [he]; exact hz)
  rw [he] at this
  exact this
theorem first_of {l : List Tu} (h : sealedB l = true) : firstI l = -1 := by
  unfold sealedB at h
  rw [Bool.and_eq_true, decide_eq_true_eq, decide_eq_true_eq] at h
  exact h.2
set_option maxRecDepth 100000 in
set_option maxHeartbeats 16000000 in
theorem walk (w : World) (a0 : Option Addr) (len0 cap0 : Nat) (z0 : List Int) (w0 : IsRow .u8 w a0 len0 cap0 z0) :
    Calls Try.prog 5 #[.slice a0 len0 cap0] w fun e w' => e = .returned (.bool true) ∧ Below w.heap.size w w' := by
  have hcode : Draw.Code w w.heap.size a0 len0 := code_of_row w0
  by_cases hbig : (1048576 : Int) < (len0 : Int)
  · go_enter Try.func5, Try.ntmps5
    go_wp2_with fail
    refine (big _ a0 len0 cap0).mono ?_
    rintro e w' ⟨rfl, rfl⟩
    go_wp2_with fail
    go_ret
    exact ⟨rfl, Below.refl _ _⟩
  have hlen : len0 ≤ 1048576 := by omega
  go_enter Try.func5, Try.ntmps5
  go_wp2_with fail
  refine (big _ a0 len0 cap0).mono ?_
  rintro e w' ⟨rfl, rfl⟩
  go_wp2_with fail
  refine (drawRecord _ a0 len0 cap0 hlen hcode).mono ?_
  rintro e v0 ⟨l, A1, c1, hR, rfl, O1, HB⟩
  obtain ⟨n, hn⟩ : ∃ m, l.length = m := ⟨_, rfl⟩
  rw [hn] at O1 ⊢
  obtain ⟨hR1, hR2, hR3, hR4⟩ := hR
  rw [hn] at hR1
  clear w0 hbig
  obtain ⟨g1, g2, g3, g4⟩ := grows (m := 500) (s := (⟨#[110, 101, 119]⟩ : ByteArray)) hR2 (by omega) (by omega) (by omega) (by decide)
  have QA := Lib.hid (ApeImpl.appendEntry A1 n c1 500 (⟨#[110, 101, 119]⟩ : ByteArray) v0 l hn (by omega) (DrawSeal.own_ts O1 hn) (own_cap O1))
  rw [g1, apeL_yes g1] at QA
  have hxn := tt_last (l := l) (e := (500, (⟨#[110, 101, 119]⟩ : ByteArray), sealI (lastI l) 500 (⟨#[110, 101, 119]⟩ : ByteArray)))
  rw [hn] at hxn
  have hx4 : ∀ e ∈ l ++ [(500, (⟨#[110, 101, 119]⟩ : ByteArray), sealI (lastI l) 500 (⟨#[110, 101, 119]⟩ : ByteArray))], e.2.1.size ≤ 200 := fun e he => by
    rw [List.mem_append, List.mem_singleton] at he
    rcases he with he | rfl
    · exact hR4 e he
    · show ((⟨#[110, 101, 119]⟩ : ByteArray) : ByteArray).size ≤ 200; decide
  have hxl : (l ++ [(500, (⟨#[110, 101, 119]⟩ : ByteArray), sealI (lastI l) 500 (⟨#[110, 101, 119]⟩ : ByteArray))]).length = n + 1 := by rw [List.length_append, hn]; rfl
  generalize sealI (lastI l) 500 (⟨#[110, 101, 119]⟩ : ByteArray) = z at *
  generalize l ++ [(500, (⟨#[110, 101, 119]⟩ : ByteArray), z)] = x at *
  have hxs := g2
  have hlx := g3
  obtain ⟨N, hN⟩ : ∃ N, n + 1 = N := ⟨_, rfl⟩
  unfold GivesA at QA
  rw [hN] at hxl
  rw [hxl] at QA
  clear g1 g2 g3 g4 hR3 hR4
  replace O1 := Lib.hid O1
  go_wp2_with fail
  refine QA.out.mono ?_
  rintro e w1 ⟨Ax, cx, rfl, OX, hb1⟩
  replace OX := Lib.hid (own_base OX (b' := w.heap.size) HB.size)
  clear QA
  replace O1 := Lib.hid (own_below O1.out hb1)
  replace HB := HB.trans (hb1.mono HB.size)
  have hun : IntKind.i64.wrap ((n : Int) + 1) = (N : Int) := by rw [IntWalk.i64_in _ (by omega)]; omega
  have p0 := tt_at (ps := x) (k := n) (by omega)
  rw [hxn] at p0
  obtain ⟨ad, eA, bA, pA⟩ := (DrawSeal.own_ts OX.out hxl).get p0
  clear p0
  subst eA
  have QI := Lib.hid (fun W h hc => EntryImpl.isSealed A1 n c1 W l hn (by omega) h hc)
  rw [hR2] at QI
  have QF := Lib.hid (fun W h hc => EntryImpl.firstBroken (some ad) N cx W x hxl (by omega) h hc)
  rw [first_of hxs] at QF
  have QX := Lib.hid (fun W h => EntryImpl.lastSeal (some ad) N cx W x hxl (by omega) h)
  rw [hlx] at QX
  have QR := Lib.hid (fun W h => EntryImpl.lastSeal A1 n c1 W l hn (by omega) h)
  have QS := Lib.hid (fun W h => EntrySpec.lastSeal A1 n c1 W l hn (by omega) h)
  generalize lastI l = r at *
  have hk1 : (n : Int) < (N : Int) := by omega
  have hk0 : (0 : Int) ≤ (n : Int) := by omega
  have HO : ∀ W W' : World, ((TupISI.TAt W ad n 500 (⟨#[110, 101, 119]⟩ : ByteArray) z ∧ ad.block < W.heap.size) ∧ Hid (W.ownsRow w.heap.size 57 3 (.slice A1 n c1) n (cellsT l)) ∧ Hid (W.ownsRow w.heap.size 57 3 (.slice (some ad) N cx) N (cellsT x)) ∧ Below w.heap.size w W) → Below W.heap.size W W' → ((TupISI.TAt W' ad n 500 (⟨#[110, 101, 119]⟩ : ByteArray) z ∧ ad.block < W'.heap.size) ∧ Hid (W'.ownsRow w.heap.size 57 3 (.slice A1 n c1) n (cellsT l)) ∧ Hid (W'.ownsRow w.heap.size 57 3 (.slice (some ad) N cx) N (cellsT x)) ∧ Below w.heap.size w W') := fun W W' ⟨x0, x1, x2, hb⟩ h => ⟨⟨x0.1.later x0.2 h, Nat.lt_of_lt_of_le x0.2 h.size⟩, Lib.hid (own_below (x1).out h), Lib.hid (own_below (x2).out h), hb.trans (h.mono hb.size)⟩
  have S0 : (TupISI.TAt w1 ad n 500 (⟨#[110, 101, 119]⟩ : ByteArray) z ∧ ad.block < w1.heap.size) ∧ Hid (w1.ownsRow w.heap.size 57 3 (.slice A1 n c1) n (cellsT l)) ∧ Hid (w1.ownsRow w.heap.size 57 3 (.slice (some ad) N cx) N (cellsT x)) ∧ Below w.heap.size w w1 := ⟨⟨pA, bA⟩, O1, OX, HB⟩
  clear pA bA O1 OX hxn HB hb1
  obtain ⟨⟨⟨_, _, _⟩, _⟩, _, _, _⟩ := id S0
  go_wp2_with fail
  refine Settle.region (fun W => (TupISI.TAt W ad n 500 (⟨#[110, 101, 119]⟩ : ByteArray) z ∧ ad.block < W.heap.size) ∧ Hid (W.ownsRow w.heap.size 57 3 (.slice A1 n c1) n (cellsT l)) ∧ Hid (W.ownsRow w.heap.size 57 3 (.slice (some ad) N cx) N (cellsT x)) ∧ Below w.heap.size w W) (by kernel_rfl) (by kernel_rfl) (by kernel_rfl) (by kernel_rfl) (HO _ _ S0 ((Below.refl _ _).drew)) ?_
  clear S0
  repeat (first
    | (refine Settle.Settles.off (by rfl) ?_; simp only [Act.put, List.setIfInBounds_toArray, List.set_cons_zero, List.set_cons_succ])
    | (refine Settle.Settles.quiet (v := ?_) (by rfl) ?_ ?_
       rotate_left
       · (intro W hS; obtain ⟨⟨⟨_, _, _⟩, _⟩, _, _, _⟩ := hS; go_simp; with_reducible rfl)
       simp only [Act.put, List.setIfInBounds_toArray, List.set_cons_zero, List.set_cons_succ])
    | (refine Settle.Settles.call (v := ?_) (f := ?_) (args := ?_) (by rfl) ?_ ?_ ?_
       rotate_left 3
       · (intro W; go_simp; refine ⟨?_, ?_⟩ <;> with_reducible rfl)
       · (intro W hS; first | (go_at_call 23; (with_reducible refine (QI.out _ (DrawSeal.own_ts hS.2.1.out hn) (own_cap hS.2.1.out)).mono ?_); rintro e W1 ⟨rfl, hb⟩; refine ⟨?_, HO _ _ hS hb⟩; with_reducible rfl) | (go_at_call 24; (with_reducible refine (QF.out _ (DrawSeal.own_ts hS.2.2.1.out hxl) (own_cap hS.2.2.1.out)).mono ?_); rintro e W1 ⟨rfl, hb⟩; refine ⟨?_, HO _ _ hS hb⟩; with_reducible rfl) | (go_at_call 25; (with_reducible refine (QX.out _ (DrawSeal.own_ts hS.2.2.1.out hxl)).mono ?_); rintro e W1 ⟨rfl, hb⟩; refine ⟨?_, HO _ _ hS hb⟩; with_reducible rfl) | (go_at_call 25; (with_reducible refine (QR.out _ (DrawSeal.own_ts hS.2.1.out hn)).mono ?_); rintro e W1 ⟨rfl, hb⟩; refine ⟨?_, HO _ _ hS hb⟩; with_reducible rfl) | (go_at_call 26; (with_reducible refine (QS.out _ (DrawSeal.own_ts hS.2.1.out hn)).mono ?_); rintro e W1 ⟨rfl, hb⟩; refine ⟨?_, HO _ _ hS hb⟩; with_reducible rfl))
       simp only [Act.put, List.setIfInBounds_toArray, List.set_cons_zero, List.set_cons_succ]))
  refine Settle.Settles.nil ?_
  intro wr S0
  obtain ⟨⟨⟨_, _, _⟩, _⟩, _, _, _⟩ := id S0
  go_wp2_with fail
  have OX := S0.2.2.1
  have HB := S0.2.2.2
  clear S0 HO QI QF QX QR QS
  rename World => w3
  refine (at0 a0 len0 cap0 _ w3 (code_later hcode HB) hlen).mono ?_
  rintro e w' ⟨y, ⟨hy0, hy1⟩, rfl, rfl⟩
  obtain ⟨k, hky⟩ : ∃ k : Nat, y % (N : Int) = (k : Int) := ⟨(y % (N : Int)).toNat, by have := Int.emod_nonneg y (show (N : Int) ≠ 0 by omega); omega⟩
  have hkN : k < N := by have := Int.emod_lt_of_pos y (show (0 : Int) < (N : Int) by omega); omega
  have hkt : y.tmod (N : Int) = (k : Int) := by rw [Int.tmod_eq_emod_of_nonneg hy0]; exact hky
  have hN0 : ¬ ((N : Int) = 0) := by omega
  have hN1 : ¬ (N = 0) := by omega
  have hN2 : ((N : Int) == 0) = false := beq_eq_false_iff_ne.2 hN0
  have hkI : (k : Int) < (N : Int) := by omega
  have hkI0 : (0 : Int) ≤ (k : Int) := by omega
  have uk : IntKind.i64.wrap (k : Int) = (k : Int) := IntWalk.i64_in _ (by omega)
  obtain ⟨tm, t, sk, hxk⟩ : ∃ tm t sk, tt x k = (tm, t, sk) := ⟨_, _, _, rfl⟩
  have hxk2 : x[k]'(by omega) = (tm, t, sk) := by have := tt_at (ps := x) (k := k) (by omega); rw [List.getElem?_eq_getElem (by omega), hxk] at this; injection this
  have hsk := seal_at hxs (show k < x.length by omega)
  rw [hxk] at hsk
  have hsk : 0 ≤ sk ∧ sk ≤ 1000002 := hsk
  have hN8 : N ≤ 8 := by omega
  have hts : t.size ≤ 200 := by have := hx4 _ (List.getElem_mem (show k < x.length by omega)); rw [hxk2] at this; exact this
  have us : IntKind.i64.wrap (sk + 1) = sk + 1 := IntWalk.i64_in _ (by omega)
  have QD1 := Lib.hid (fun W => SealImpl.digestOf ⟨#[97, 98]⟩ W)
  have QD2 := Lib.hid (fun W => SealImpl.digestOf ⟨#[98, 97]⟩ W)
  have hdd := digest_abba
  generalize digestI (⟨#[97, 98]⟩ : ByteArray) = d1 at *
  generalize digestI (⟨#[98, 97]⟩ : ByteArray) = d2 at *
  have hdb : (d1 == d2) = false := beq_eq_false_iff_ne.2 hdd
  have hdn : (d1 != d2) = true := bne_iff_ne.2 hdd
  clear hx4 hR1 hR2 hlx
  have HB1 := PointOk.below1 w3 (Obj.cells #[] 57)
  have HOWN := own_empty w3 57 3
  have HCX := Lib.hid (DrawSeal.own_ts (own_below OX.out HB1) hxl)
  have hsz := HB1.size
  have hszW := HB.size
  go_wp2_with (at_builtin; go_must (refine append_ents _ rfl _ _ rfl w3.heap.size _ 0 [] rfl HOWN (some ad) N cx x hxl rfl HCX.out (by omega) hsz ?_))
  intro v8 w8 O8 hg8
  have hb8 : Below w3.heap.size w3 w8 := HB1.grown hg8 hsz (by intro k hk; simp [Value.ownBlock] at hk; omega)
  try rw [Nat.zero_add, List.nil_append] at O8
  obtain ⟨A8, c8, rfl⟩ := own_shape O8
  have hxlt : ∀ g, (Value.slice (some ad) N cx).ownBlock = some g → g < w3.heap.size := fun g hg => (OX.out.lt g hg).2
  clear HB1 HOWN HCX hsz hg8
  replace OX := Lib.hid (own_below OX.out hb8)
  replace HB := HB.trans (hb8.mono HB.size)
  obtain ⟨q0, q1, q2⟩ := cellsT_at x k (by omega)
  rw [hxk2] at q0 q1 q2
  have hq : k * 3 + 2 < (cellsT x).length := by rw [cellsT_length]; omega
  obtain ⟨g8, hA8, hlo8, hhi8, e1_, f1_⟩ := LawInt.own_cellN O8 (by omega) (j := k * 3 + 1) (by omega) q1
  obtain ⟨g_, hA_, _, _, e2_, f2_⟩ := LawInt.own_cellN O8 (by omega) (j := k * 3 + 2) (by omega) q2
  subst hA8
  injection hA_ with hA_
  injection hA_ with hA_
  subst hA_
  obtain ⟨G, hG⟩ : ∃ G, grownCap w8 t.size 0 5 = G := ⟨_, rfl⟩
  have hconv := run_bytes_of_string (P := Try.prog) w8 9 22 5 t Try.underlying9 Try.underlying22 Try.underlying5
  rw [hG] at hconv
  clear hG
  obtain ⟨gb, hgb⟩ : ∃ g, w8.heap.size = g := ⟨_, rfl⟩
  have hb9 : Below w8.heap.size w8 (w8.drew.alloc (.cells (bytesRow t G) 5 ((bytesRow t G).size, (bytesRow t G).size + 1))) := ((Below.refl w8.heap.size w8).drew).trans (PointOk.below1 w8.drew _)
  have hcb : ∀ j, (w8.drew.alloc (.cells (bytesRow t G) 5 ((bytesRow t G).size, (bytesRow t G).size + 1))).cell? ⟨gb, j, none⟩ = (bytesRow t G)[j]? := fun j => by
    rw [← hgb]; exact World.cell?_alloc_mark w8.drew _ _ _ j
  have hfb : ∀ j, j < t.size → (w8.drew.alloc (.cells (bytesRow t G) 5 ((bytesRow t G).size, (bytesRow t G).size + 1))).frozen? ⟨gb, j, none⟩ = false := fun j hj => by
    rw [← hgb]; exact bytes_free w8.drew t G j hj
  have hgz : gb < (w8.drew.alloc (.cells (bytesRow t G) 5 ((bytesRow t G).size, (bytesRow t G).size + 1))).heap.size := by
    have e : (w8.drew.alloc (.cells (bytesRow t G) 5 ((bytesRow t G).size, (bytesRow t G).size + 1))).heap.size = w8.heap.size + 1 := by first | (simp; done) | (simp; rfl)
    omega
  rw [hgb] at hconv
  generalize w8.drew.alloc (.cells (bytesRow t G) 5 ((bytesRow t G).size, (bytesRow t G).size + 1)) = w9 at *
  have hg8 : g8 < gb := by omega
  have e8_ := e1_
  replace e1_ := (hb9.cell (p := ⟨g8, k * 3 + 1, none⟩) hhi8).trans e1_
  replace f1_ : w9.frozen? ⟨g8, k * 3 + 1, none⟩ = false := frozen_later hb9 hhi8 f1_
  have O9 := Lib.hid (own_below O8 hb9)
  replace OX := Lib.hid (own_below OX.out hb9)
  replace HB := HB.trans (hb9.mono HB.size)
  have hxg : ∀ g, (Value.slice (some ad) N cx).ownBlock = some g → g ≠ g8 := fun g hg => by have := hxlt g hg; omega
  have hxb : ∀ g, (Value.slice (some ad) N cx).ownBlock = some g → g ≠ gb := fun g hg => by have := hxlt g hg; omega
  clear hb9 hb8 e2_ f2_ q0 q1 q2 hq O8 hxlt
  have hsW : w.heap.size ≤ g8 := Nat.le_trans hszW hlo8
  by_cases ht : t.size = 0
  · skip
    obtain ⟨C, hC⟩ : ∃ C : ByteArray, (⟨[97].toArray⟩ : ByteArray) = C := ⟨_, rfl⟩
    obtain ⟨w10, hw10⟩ : ∃ W, w9.alloc (.cells #[.int .u8 97] 5 (1, 2)) = W := ⟨_, rfl⟩
    have hcc : (convert 22 22 (.slice (some ⟨w9.heap.size, 0, none⟩) 1 1)).run Try.prog (w9.alloc (.cells #[.int .u8 97] 5)) = .ok (.slice (some ⟨w9.heap.size, 0, none⟩) 1 1) w10 := by
      rw [← hw10]
      exact Lib.run_convert_bytes_const (P := Try.prog) w9 22 5 #[.int .u8 97] 1 1 Try.underlying22 Try.underlying5
    have hc97 : (convert 22 9 (.slice (some ⟨w9.heap.size, 0, none⟩) 1 1)).run Try.prog w10 = .ok (.string C) w10 := by
      rw [← hC]
      exact run_convert_bytes_back (P := Try.prog) w10 22 9 5 ⟨w9.heap.size, 0, none⟩ 1 [97] Try.underlying22 Try.underlying5 Try.underlying9 (fun j hj => by
        have hj0 : j = 0 := by simpa using hj
        subst hj0
        rw [Pts.add_head, ← hw10, World.cell?_alloc_mark]
        rfl)
    have hdt : digestI C ≠ digestI t := digest_a t ht C (by rw [← hC])
    have hb10 : Below w9.heap.size w9 w10 := by rw [← hw10]; exact PointOk.below1 w9 _
    replace e1_ := (hb10.cell (p := ⟨g8, k * 3 + 1, none⟩) (by show g8 < _; omega)).trans e1_
    replace f1_ := frozen_later hb10 (show g8 < _ by omega) f1_
    replace O9 := Lib.hid (own_below O9.out hb10)
    replace OX := Lib.hid (own_below OX.out hb10)
    replace HB := HB.trans (hb10.mono HB.size)
    have ht0 : (t.size : Int) = 0 := by omega
    clear hb10 hcb hfb hw10 hC
    have st := O9.out.stored (k * 3 + 1) (.string C)
    rw [set_text (by omega) C, hxk] at st
    have O11 := Lib.hid st.1
    have OX11 := Lib.hid (kept_ne OX.out st.2 hxg)
    have HB11 := HB.trans (RoomRes.below_set w10 w.heap.size g8 (k * 3 + 1) (.string C) (by omega))
    have hl11 : (x.set k (tm, C, sk)).length = N := by rw [List.length_set]; exact hxl
    have F11 := breachet hxs (show k < x.length by omega) hxk hdt
    generalize x.set k (tm, C, sk) = x1 at *
    clear st O9
    go_wp2_with fail
    generalize (w10.setCell ⟨g8, k * 3 + 1, none⟩ (.string C)) = w11 at *
    have QF := Lib.hid (EntryImpl.firstBroken (some ⟨g8, 0, none⟩) N c8 w11 x1 hl11 (by omega) (DrawSeal.own_ts O11.out hl11) (own_cap O11.out))
    rw [F11] at QF
    refine QF.out.mono ?_
    rintro e w12 ⟨rfl, hb12⟩
    replace OX := Lib.hid (own_below OX11.out hb12)
    replace HB := HB11.trans (hb12.mono HB11.size)
    clear QF O11 OX11 HB11 hb12 F11 hl11 e1_ f1_ hxg hxb
    have HB1 := PointOk.below1 w12 (Obj.cells #[] 57)
    have HOWN := own_empty w12 57 3
    have HCX := Lib.hid (DrawSeal.own_ts (own_below OX.out HB1) hxl)
    have hsz := HB1.size
    have hszW := HB.size
    go_wp2_with (at_builtin; go_must (refine append_ents _ rfl _ _ rfl w12.heap.size _ 0 [] rfl HOWN (some ad) N cx x hxl rfl HCX.out (by omega) hsz ?_))
    intro v13 w13 O13 hg13
    have hb13 : Below w12.heap.size w12 w13 := HB1.grown hg13 hsz (by intro k hk; simp [Value.ownBlock] at hk; omega)
    try rw [Nat.zero_add, List.nil_append] at O13
    obtain ⟨A13, c13, rfl⟩ := own_shape O13
    have hxlt : ∀ g, (Value.slice (some ad) N cx).ownBlock = some g → g < w12.heap.size := fun g hg => (OX.out.lt g hg).2
    clear HB1 HOWN HCX hsz hg13
    replace OX := Lib.hid (own_below OX.out hb13)
    replace HB := HB.trans (hb13.mono HB.size)
    obtain ⟨q0, q1, q2⟩ := cellsT_at x k (by omega)
    rw [hxk2] at q0 q1 q2
    have hq : k * 3 + 2 < (cellsT x).length := by rw [cellsT_length]; omega
    obtain ⟨g13, hA13, hlo13, hhi13, e1_, f1_⟩ := LawInt.own_cellN O13 (by omega) (j := k * 3 + 1) (by omega) q1
    obtain ⟨g_, hA_, _, _, e2_, f2_⟩ := LawInt.own_cellN O13 (by omega) (j := k * 3 + 2) (by omega) q2
    subst hA13
    injection hA_ with hA_
    injection hA_ with hA_
    subst hA_
    replace O13 := Lib.hid O13
    have O14 := Lib.hid (own_below O13.out (Below.refl w13.heap.size w13).drew)
    have HB14 := HB.trans (Below.refl w.heap.size w13).drew
    have HC14 := code_later hcode HB14
    have hlo14 : w.heap.size ≤ g13 := Nat.le_trans hszW hlo13
    have e3_ : w13.drew.cell? ⟨g13, k * 3 + 2, none⟩ = some (.int .i64 sk) := e2_
    have f3_ : w13.drew.frozen? ⟨g13, k * 3 + 2, none⟩ = false := f2_
    clear e1_ f1_ e2_ f2_ hb13 q0 q1 q2 hq O13 HB OX hxlt hlo13 hhi13
    go_wp2_with fail
    refine wp_region_held_drew (S := fun _ => True) (by kernel_rfl) True.intro (fun hHeld => ?_)
    generalize w13.drew = w14 at *
    refine wpAnyH_take (i := 0) (oi := ⟨some 104, _, _, _, _, _⟩) (v := ?_) rfl (by kernel_rfl) (by kernel_rfl) (by kernel_rfl) (fun _ _ _ h => h) (Or.inl ⟨by rfl, ?_⟩) (by assumption) ?_
    rotate_left 1
    · (intro w hSw; go_simp; try with_reducible rfl)
    try simp only [Act.put, List.setIfInBounds_toArray, List.set_cons_zero, List.set_cons_succ]
    refine wpAnyH_take (i := 1) (oi := ⟨some 105, _, _, _, _, _⟩) (v := ?_) rfl (by kernel_rfl) (by kernel_rfl) (by kernel_rfl) (fun _ _ _ h => h) (Or.inl ⟨by rfl, ?_⟩) (by assumption) ?_
    rotate_left 1
    · (intro w hSw; go_simp; try with_reducible rfl)
    try simp only [Act.put, List.setIfInBounds_toArray, List.set_cons_zero, List.set_cons_succ]
    refine wpAnyH_take (i := 2) (oi := ⟨some 106, _, _, _, _, _⟩) (v := ?_) rfl (by kernel_rfl) (by kernel_rfl) (by kernel_rfl) (fun _ _ _ h => h) (Or.inl ⟨by rfl, ?_⟩) (by assumption) ?_
    rotate_left 1
    · (intro w hSw; go_simp; try with_reducible rfl)
    try simp only [Act.put, List.setIfInBounds_toArray, List.set_cons_zero, List.set_cons_succ]
    refine wpAnyH_take (i := 3) (oi := ⟨some 107, _, _, _, _, _⟩) (v := ?_) rfl (by kernel_rfl) (by kernel_rfl) (by kernel_rfl) (fun _ _ _ h => h) (Or.inl ⟨by rfl, ?_⟩) (by assumption) ?_
    rotate_left 1
    · (intro w hSw; go_simp; try with_reducible rfl)
    try simp only [Act.put, List.setIfInBounds_toArray, List.set_cons_zero, List.set_cons_succ]
    refine wpAnyH_take (i := 4) (oi := ⟨some 108, _, _, _, _, _⟩) (v := ?_) rfl (by kernel_rfl) (by kernel_rfl) (by kernel_rfl) (fun _ _ _ h => h) (Or.inl ⟨by rfl, ?_⟩) (by assumption) ?_
    rotate_left 1
    · (intro w hSw; go_simp; try with_reducible rfl)
    try simp only [Act.put, List.setIfInBounds_toArray, List.set_cons_zero, List.set_cons_succ]
    refine wpAnyH_take (i := 5) (oi := ⟨some 109, _, _, _, _, _⟩) (v := ?_) rfl (by kernel_rfl) (by kernel_rfl) (by kernel_rfl) (fun _ _ _ h => h) (Or.inl ⟨by rfl, ?_⟩) (by assumption) ?_
    rotate_left 1
    · (intro w hSw; go_simp; try with_reducible rfl)
    try simp only [Act.put, List.setIfInBounds_toArray, List.set_cons_zero, List.set_cons_succ]
    refine wpAnyH_take (i := 8) (oi := ⟨some 112, _, _, _, _, _⟩) (v := ?_) rfl (by kernel_rfl) (by kernel_rfl) (by kernel_rfl) (fun _ _ _ h => h) (Or.inl ⟨by rfl, ?_⟩) (by assumption) ?_
    rotate_left 1
    · (intro w hSw; go_simp; try with_reducible rfl)
    try simp only [Act.put, List.setIfInBounds_toArray, List.set_cons_zero, List.set_cons_succ]
    refine wpAnyH_ready (rs := [6, 9]) (by kernel_rfl) (by simp) ?_
    refine AllReadyH.cons (o := ⟨some 110, _, _, _, _, _⟩) rfl (fun K hK => ?_) ?_
    · skip
      go_simp
      refine hK.out _ _ True.intro (fun hHeld => ?_)
      clear hK K
      try simp only [Act.put, List.setIfInBounds_toArray, List.set_cons_zero, List.set_cons_succ]
      refine wpAnyH_take (i := 7) (oi := ⟨some 111, _, _, _, _, _⟩) (v := ?_) rfl (by kernel_rfl) (by kernel_rfl) (by kernel_rfl) (fun _ _ _ h => h) (Or.inl ⟨by rfl, ?_⟩) (by assumption) ?_
      rotate_left 1
      · (intro w hSw; go_simp; try with_reducible rfl)
      try simp only [Act.put, List.setIfInBounds_toArray, List.set_cons_zero, List.set_cons_succ]
      refine wpAnyH_ready (rs := [9]) (by kernel_rfl) (by simp) ?_
      refine AllReadyH.cons (o := ⟨some 113, _, _, _, _, _⟩) rfl (fun K hK => ?_) ?_
      rotate_left 1
      · exact AllReadyH.nil
      go_simp
      go_at_call 15
      refine (at2 a0 len0 cap0 _ w14 HC14 hlen).mono ?_
      rintro e w' ⟨y2, ⟨hy2a, hy2b⟩, rfl, rfl⟩
      refine hK.out _ _ True.intro (fun hHeld => ?_)
      clear hK K
      try simp only [Act.put, List.setIfInBounds_toArray, List.set_cons_zero, List.set_cons_succ]
      have v1 : IntKind.i64.wrap (sk + 1 + y2) = sk + 1 + y2 := IntWalk.i64_in _ (by omega)
      obtain ⟨z2, hz2⟩ : ∃ z2, (sk + 1 + y2) % 1000003 = z2 := ⟨_, rfl⟩
      have v2 : (sk + 1 + y2).tmod 1000003 = z2 := by rw [Int.tmod_eq_emod_of_nonneg (by omega)]; exact hz2
      have v3 : IntKind.i64.wrap z2 = z2 := IntWalk.i64_in _ (by omega)
      have hzne : z2 ≠ sk := by omega
      refine wpAnyH_take (i := 10) (oi := ⟨some 114, _, _, _, _, _⟩) (v := ?_) rfl (by kernel_rfl) (by kernel_rfl) (by kernel_rfl) (fun _ _ _ h => h) (Or.inl ⟨by rfl, ?_⟩) (by assumption) ?_
      rotate_left 1
      · (intro w hSw; go_simp; try with_reducible rfl)
      try simp only [Act.put, List.setIfInBounds_toArray, List.set_cons_zero, List.set_cons_succ]
      refine wpAnyH_take (i := 11) (oi := ⟨some 115, _, _, _, _, _⟩) (v := ?_) rfl (by kernel_rfl) (by kernel_rfl) (by kernel_rfl) (fun _ _ _ h => h) (Or.inl ⟨by rfl, ?_⟩) (by assumption) ?_
      rotate_left 1
      · (intro w hSw; go_simp; try with_reducible rfl)
      try simp only [Act.put, List.setIfInBounds_toArray, List.set_cons_zero, List.set_cons_succ]
      refine wpAnyH_take (i := 12) (oi := ⟨some 116, _, _, _, _, _⟩) (v := ?_) rfl (by kernel_rfl) (by kernel_rfl) (by kernel_rfl) (fun _ _ _ h => h) (Or.inl ⟨by rfl, ?_⟩) (by assumption) ?_
      rotate_left 1
      · (intro w hSw; go_simp; try with_reducible rfl)
      try simp only [Act.put, List.setIfInBounds_toArray, List.set_cons_zero, List.set_cons_succ]
      refine wpAnyH_take (i := 13) (oi := ⟨some 117, _, _, _, _, _⟩) (v := ?_) rfl (by kernel_rfl) (by kernel_rfl) (by kernel_rfl) (fun _ _ _ h => h) (Or.inl ⟨by rfl, ?_⟩) (by assumption) ?_
      rotate_left 1
      · (intro w hSw; go_simp; try with_reducible rfl)
      try simp only [Act.put, List.setIfInBounds_toArray, List.set_cons_zero, List.set_cons_succ]
      refine wpAnyH_ready (rs := [14]) (by kernel_rfl) (by simp) ?_
      refine AllReadyH.cons (o := ⟨none, _, _, _, _, _⟩) rfl (fun K hK => ?_) ?_
      rotate_left 1
      · exact AllReadyH.nil
      have st := O14.out.stored (k * 3 + 2) (.int .i64 z2)
      rw [set_seal (by omega) z2, hxk] at st
      have O15 := Lib.hid st.1
      have HB15 := HB14.trans (RoomRes.below_set w14 w.heap.size g13 (k * 3 + 2) (.int .i64 z2) (by omega))
      have hl15 : (x.set k (tm, t, z2)).length = N := by rw [List.length_set]; exact hxl
      have F15 := breaches hxs (show k < x.length by omega) hxk hzne
      clear st O14 hz2
      go_simp
      refine hK.out _ _ True.intro (fun hHeld => ?_)
      clear hK K
      try simp only [Act.put, List.setIfInBounds_toArray, List.set_cons_zero, List.set_cons_succ]
      refine wpAnyH_done (by kernel_rfl) ?_ _
      clear HC14 HB14 e3_ f3_
      generalize w14.setCell ⟨g13, k * 3 + 2, none⟩ (.int .i64 z2) = w15 at *
      generalize x.set k (tm, t, z2) = x2 at *
      have QF := Lib.hid (EntryImpl.firstBroken (some ⟨g13, 0, none⟩) N c13 w15 x2 hl15 (by omega) (DrawSeal.own_ts O15.out hl15) (own_cap O15.out))
      rw [F15] at QF
      go_wp2_with fail
      refine QF.out.mono ?_
      rintro e w16 ⟨rfl, hb16⟩
      have O16 := Lib.hid (own_below O15.out hb16)
      have HB16 := HB15.trans (hb16.mono HB15.size)
      have QI := Lib.hid (EntryImpl.isSealed (some ⟨g13, 0, none⟩) N c13 w16 x2 hl15 (by omega) (DrawSeal.own_ts O16.out hl15) (own_cap O16.out))
      rw [not_sealed F15] at QI
      clear QF O15 HB15 hb16
      go_wp2_with fail
      refine QI.out.mono ?_
      rintro e w17 ⟨rfl, hb17⟩
      have HB17 := HB16.trans (hb17.mono HB16.size)
      clear QI O16 HB16 hb17
      go_wp2_with fail
      refine (QD1.out _).mono ?_
      rintro e w18 ⟨rfl, hb18⟩
      have HB18 := HB17.trans (hb18.mono HB17.size)
      go_wp2_with fail
      refine (QD2.out _).mono ?_
      rintro e w19 ⟨rfl, hb19⟩
      have HB19 := HB18.trans (hb19.mono HB18.size)
      go_wp2_with fail
      go_ret
      exact ⟨rfl, HB19⟩
    refine AllReadyH.cons (o := ⟨some 113, _, _, _, _, _⟩) rfl (fun K hK => ?_) ?_
    · skip
      go_simp
      go_at_call 15
      refine (at2 a0 len0 cap0 _ w14 HC14 hlen).mono ?_
      rintro e w' ⟨y2, ⟨hy2a, hy2b⟩, rfl, rfl⟩
      refine hK.out _ _ True.intro (fun hHeld => ?_)
      clear hK K
      try simp only [Act.put, List.setIfInBounds_toArray, List.set_cons_zero, List.set_cons_succ]
      refine wpAnyH_ready (rs := [6]) (by kernel_rfl) (by simp) ?_
      refine AllReadyH.cons (o := ⟨some 110, _, _, _, _, _⟩) rfl (fun K hK => ?_) ?_
      rotate_left 1
      · exact AllReadyH.nil
      go_simp
      refine hK.out _ _ True.intro (fun hHeld => ?_)
      clear hK K
      try simp only [Act.put, List.setIfInBounds_toArray, List.set_cons_zero, List.set_cons_succ]
      refine wpAnyH_take (i := 7) (oi := ⟨some 111, _, _, _, _, _⟩) (v := ?_) rfl (by kernel_rfl) (by kernel_rfl) (by kernel_rfl) (fun _ _ _ h => h) (Or.inl ⟨by rfl, ?_⟩) (by assumption) ?_
      rotate_left 1
      · (intro w hSw; go_simp; try with_reducible rfl)
      try simp only [Act.put, List.setIfInBounds_toArray, List.set_cons_zero, List.set_cons_succ]
      have v1 : IntKind.i64.wrap (sk + 1 + y2) = sk + 1 + y2 := IntWalk.i64_in _ (by omega)
      obtain ⟨z2, hz2⟩ : ∃ z2, (sk + 1 + y2) % 1000003 = z2 := ⟨_, rfl⟩
      have v2 : (sk + 1 + y2).tmod 1000003 = z2 := by rw [Int.tmod_eq_emod_of_nonneg (by omega)]; exact hz2
      have v3 : IntKind.i64.wrap z2 = z2 := IntWalk.i64_in _ (by omega)
      have hzne : z2 ≠ sk := by omega
      refine wpAnyH_take (i := 10) (oi := ⟨some 114, _, _, _, _, _⟩) (v := ?_) rfl (by kernel_rfl) (by kernel_rfl) (by kernel_rfl) (fun _ _ _ h => h) (Or.inl ⟨by rfl, ?_⟩) (by assumption) ?_
      rotate_left 1
      · (intro w hSw; go_simp; try with_reducible rfl)
      try simp only [Act.put, List.setIfInBounds_toArray, List.set_cons_zero, List.set_cons_succ]
      refine wpAnyH_take (i := 11) (oi := ⟨some 115, _, _, _, _, _⟩) (v := ?_) rfl (by kernel_rfl) (by kernel_rfl) (by kernel_rfl) (fun _ _ _ h => h) (Or.inl ⟨by rfl, ?_⟩) (by assumption) ?_
      rotate_left 1
      · (intro w hSw; go_simp; try with_reducible rfl)
      try simp only [Act.put, List.setIfInBounds_toArray, List.set_cons_zero, List.set_cons_succ]
      refine wpAnyH_take (i := 12) (oi := ⟨some 116, _, _, _, _, _⟩) (v := ?_) rfl (by kernel_rfl) (by kernel_rfl) (by kernel_rfl) (fun _ _ _ h => h) (Or.inl ⟨by rfl, ?_⟩) (by assumption) ?_
      rotate_left 1
      · (intro w hSw; go_simp; try with_reducible rfl)
      try simp only [Act.put, List.setIfInBounds_toArray, List.set_cons_zero, List.set_cons_succ]
      refine wpAnyH_take (i := 13) (oi := ⟨some 117, _, _, _, _, _⟩) (v := ?_) rfl (by kernel_rfl) (by kernel_rfl) (by kernel_rfl) (fun _ _ _ h => h) (Or.inl ⟨by rfl, ?_⟩) (by assumption) ?_
      rotate_left 1
      · (intro w hSw; go_simp; try with_reducible rfl)
      try simp only [Act.put, List.setIfInBounds_toArray, List.set_cons_zero, List.set_cons_succ]
      refine wpAnyH_ready (rs := [14]) (by kernel_rfl) (by simp) ?_
      refine AllReadyH.cons (o := ⟨none, _, _, _, _, _⟩) rfl (fun K hK => ?_) ?_
      rotate_left 1
      · exact AllReadyH.nil
      have st := O14.out.stored (k * 3 + 2) (.int .i64 z2)
      rw [set_seal (by omega) z2, hxk] at st
      have O15 := Lib.hid st.1
      have HB15 := HB14.trans (RoomRes.below_set w14 w.heap.size g13 (k * 3 + 2) (.int .i64 z2) (by omega))
      have hl15 : (x.set k (tm, t, z2)).length = N := by rw [List.length_set]; exact hxl
      have F15 := breaches hxs (show k < x.length by omega) hxk hzne
      clear st O14 hz2
      go_simp
      refine hK.out _ _ True.intro (fun hHeld => ?_)
      clear hK K
      try simp only [Act.put, List.setIfInBounds_toArray, List.set_cons_zero, List.set_cons_succ]
      refine wpAnyH_done (by kernel_rfl) ?_ _
      clear HC14 HB14 e3_ f3_
      generalize w14.setCell ⟨g13, k * 3 + 2, none⟩ (.int .i64 z2) = w15 at *
      generalize x.set k (tm, t, z2) = x2 at *
      have QF := Lib.hid (EntryImpl.firstBroken (some ⟨g13, 0, none⟩) N c13 w15 x2 hl15 (by omega) (DrawSeal.own_ts O15.out hl15) (own_cap O15.out))
      rw [F15] at QF
      go_wp2_with fail
      refine QF.out.mono ?_
      rintro e w16 ⟨rfl, hb16⟩
      have O16 := Lib.hid (own_below O15.out hb16)
      have HB16 := HB15.trans (hb16.mono HB15.size)
      have QI := Lib.hid (EntryImpl.isSealed (some ⟨g13, 0, none⟩) N c13 w16 x2 hl15 (by omega) (DrawSeal.own_ts O16.out hl15) (own_cap O16.out))
      rw [not_sealed F15] at QI
      clear QF O15 HB15 hb16
      go_wp2_with fail
      refine QI.out.mono ?_
      rintro e w17 ⟨rfl, hb17⟩
      have HB17 := HB16.trans (hb17.mono HB16.size)
      clear QI O16 HB16 hb17
      go_wp2_with fail
      refine (QD1.out _).mono ?_
      rintro e w18 ⟨rfl, hb18⟩
      have HB18 := HB17.trans (hb18.mono HB17.size)
      go_wp2_with fail
      refine (QD2.out _).mono ?_
      rintro e w19 ⟨rfl, hb19⟩
      have HB19 := HB18.trans (hb19.mono HB18.size)
      go_wp2_with fail
      go_ret
      exact ⟨rfl, HB19⟩
    exact AllReadyH.nil
  · have ht0 : ¬ ((t.size : Int) = 0) := by omega
    have htp : 0 < t.size := by omega
    have htb : ((t.size : Int) == 0) = false := beq_eq_false_iff_ne.2 ht0
    have QB := Lib.hid (fun W h => at1 a0 len0 cap0 w.heap.size W h hlen)
    go_wp2_with fail
    refine (QB.out w9 (code_later hcode HB)).mono ?_
    rintro e w' ⟨y1, ⟨hya, hyb⟩, rfl, rfl⟩
    obtain ⟨i, hiy⟩ : ∃ i : Nat, y1 % (t.size : Int) = (i : Int) := ⟨(y1 % (t.size : Int)).toNat, by have := Int.emod_nonneg y1 ht0; omega⟩
    have hiN : i < t.size := by have := Int.emod_lt_of_pos y1 (show (0 : Int) < (t.size : Int) by omega); omega
    have hit : y1.tmod (t.size : Int) = (i : Int) := by rw [Int.tmod_eq_emod_of_nonneg hya]; exact hiy
    have hiI : (i : Int) < (t.size : Int) := by omega
    have hiI0 : (0 : Int) ≤ (i : Int) := by omega
    have ui : IntKind.i64.wrap (i : Int) = (i : Int) := IntWalk.i64_in _ (by omega)
    have hil : i < t.data.toList.length := by rw [Array.length_toList]; exact hiN
    obtain ⟨b, hbv⟩ : ∃ b, t.data.toList[i] = b := ⟨_, rfl⟩
    have hcell : w9.cell? ⟨gb, i, none⟩ = some (.int .u8 (b.toNat : Int)) := by rw [hcb, bytes_at t G hil, hbv]
    have hfr := hfb i hiN
    have hbn : IntKind.u8.wrap ((b.toNat : Int) + 1) = ((b + 1).toNat : Int) := byte_wrap b
    have hdt := digest_set hil hts (b := b + 1) (by rw [hbv]; exact byte_next b) ⟨(t.data.toList.set i (b + 1)).toArray⟩ rfl
    have hc10 := back_set w9 gb t G i (b + 1) hil hcb hcell
    obtain ⟨T, hT⟩ : ∃ T : ByteArray, (⟨(t.data.toList.set i (b + 1)).toArray⟩ : ByteArray) = T := ⟨_, rfl⟩
    rw [hT] at hdt hc10
    have hgs := RoomRes.grown_set w9 gb i (.int .u8 ((b + 1).toNat : Int))
    have hne1 : (⟨gb, i, none⟩ : Addr) ≠ ⟨g8, k * 3 + 1, none⟩ := fun e => by injection e with e; omega
    replace e1_ := (World.cell?_setCell_other w9 _ _ (.int .u8 ((b + 1).toNat : Int)) hne1).trans e1_
    replace f1_ : (w9.setCell ⟨gb, i, none⟩ (.int .u8 ((b + 1).toNat : Int))).frozen? ⟨g8, k * 3 + 1, none⟩ = false := frozen_far hgs (show g8 < w9.heap.size by omega) (fun e => by injection e with e; omega) f1_
    replace O9 := Lib.hid (kept_ne O9.out hgs (fun g hg => by have e_ : some g8 = some g := hg; injection e_ with e_; omega))
    replace OX := Lib.hid (kept_ne OX.out hgs hxb)
    replace HB := HB.trans (RoomRes.below_set w9 w.heap.size gb i (.int .u8 ((b + 1).toNat : Int)) (by omega))
    clear hcb hfb hgs hne1 hbv hT
    have st := O9.out.stored (k * 3 + 1) (.string T)
    rw [set_text (by omega) T, hxk] at st
    have O11 := Lib.hid st.1
    have OX11 := Lib.hid (kept_ne OX.out st.2 hxg)
    have HB11 := HB.trans (RoomRes.below_set (w9.setCell ⟨gb, i, none⟩ (.int .u8 ((b + 1).toNat : Int))) w.heap.size g8 (k * 3 + 1) (.string T) (by omega))
    have hl11 : (x.set k (tm, T, sk)).length = N := by rw [List.length_set]; exact hxl
    have F11 := breachet hxs (show k < x.length by omega) hxk hdt
    generalize x.set k (tm, T, sk) = x1 at *
    clear st O9
    generalize (b + 1).toNat = b2 at *
    generalize b.toNat = b1 at *
    go_wp2_with fail
    generalize ((w9.setCell ⟨gb, i, none⟩ (.int .u8 (b2 : Int))).setCell ⟨g8, k * 3 + 1, none⟩ (.string T)) = w11 at *
    have QF := Lib.hid (EntryImpl.firstBroken (some ⟨g8, 0, none⟩) N c8 w11 x1 hl11 (by omega) (DrawSeal.own_ts O11.out hl11) (own_cap O11.out))
    rw [F11] at QF
    refine QF.out.mono ?_
    rintro e w12 ⟨rfl, hb12⟩
    replace OX := Lib.hid (own_below OX11.out hb12)
    replace HB := HB11.trans (hb12.mono HB11.size)
    clear QF O11 OX11 HB11 hb12 F11 hl11 e1_ f1_ hxg hxb
    have HB1 := PointOk.below1 w12 (Obj.cells #[] 57)
    have HOWN := own_empty w12 57 3
    have HCX := Lib.hid (DrawSeal.own_ts (own_below OX.out HB1) hxl)
    have hsz := HB1.size
    have hszW := HB.size
    go_wp2_with (at_builtin; go_must (refine append_ents _ rfl _ _ rfl w12.heap.size _ 0 [] rfl HOWN (some ad) N cx x hxl rfl HCX.out (by omega) hsz ?_))
    intro v13 w13 O13 hg13
    have hb13 : Below w12.heap.size w12 w13 := HB1.grown hg13 hsz (by intro k hk; simp [Value.ownBlock] at hk; omega)
    try rw [Nat.zero_add, List.nil_append] at O13
    obtain ⟨A13, c13, rfl⟩ := own_shape O13
    have hxlt : ∀ g, (Value.slice (some ad) N cx).ownBlock = some g → g < w12.heap.size := fun g hg => (OX.out.lt g hg).2
    clear HB1 HOWN HCX hsz hg13
    replace OX := Lib.hid (own_below OX.out hb13)
    replace HB := HB.trans (hb13.mono HB.size)
    obtain ⟨q0, q1, q2⟩ := cellsT_at x k (by omega)
    rw [hxk2] at q0 q1 q2
    have hq : k * 3 + 2 < (cellsT x).length := by rw [cellsT_length]; omega
    obtain ⟨g13, hA13, hlo13, hhi13, e1_, f1_⟩ := LawInt.own_cellN O13 (by omega) (j := k * 3 + 1) (by omega) q1
    obtain ⟨g_, hA_, _, _, e2_, f2_⟩ := LawInt.own_cellN O13 (by omega) (j := k * 3 + 2) (by omega) q2
    subst hA13
    injection hA_ with hA_
    injection hA_ with hA_
    subst hA_
    replace O13 := Lib.hid O13
    have O14 := Lib.hid (own_below O13.out (Below.refl w13.heap.size w13).drew)
    have HB14 := HB.trans (Below.refl w.heap.size w13).drew
    have HC14 := code_later hcode HB14
    have hlo14 : w.heap.size ≤ g13 := Nat.le_trans hszW hlo13
    have e3_ : w13.drew.cell? ⟨g13, k * 3 + 2, none⟩ = some (.int .i64 sk) := e2_
    have f3_ : w13.drew.frozen? ⟨g13, k * 3 + 2, none⟩ = false := f2_
    clear e1_ f1_ e2_ f2_ hb13 q0 q1 q2 hq O13 HB OX hxlt hlo13 hhi13
    go_wp2_with fail
    refine wp_region_held_drew (S := fun _ => True) (by kernel_rfl) True.intro (fun hHeld => ?_)
    generalize w13.drew = w14 at *
    refine wpAnyH_take (i := 0) (oi := ⟨some 104, _, _, _, _, _⟩) (v := ?_) rfl (by kernel_rfl) (by kernel_rfl) (by kernel_rfl) (fun _ _ _ h => h) (Or.inl ⟨by rfl, ?_⟩) (by assumption) ?_
    rotate_left 1
    · (intro w hSw; go_simp; try with_reducible rfl)
    try simp only [Act.put, List.setIfInBounds_toArray, List.set_cons_zero, List.set_cons_succ]
    refine wpAnyH_take (i := 1) (oi := ⟨some 105, _, _, _, _, _⟩) (v := ?_) rfl (by kernel_rfl) (by kernel_rfl) (by kernel_rfl) (fun _ _ _ h => h) (Or.inl ⟨by rfl, ?_⟩) (by assumption) ?_
    rotate_left 1
    · (intro w hSw; go_simp; try with_reducible rfl)
    try simp only [Act.put, List.setIfInBounds_toArray, List.set_cons_zero, List.set_cons_succ]
    refine wpAnyH_take (i := 2) (oi := ⟨some 106, _, _, _, _, _⟩) (v := ?_) rfl (by kernel_rfl) (by kernel_rfl) (by kernel_rfl) (fun _ _ _ h => h) (Or.inl ⟨by rfl, ?_⟩) (by assumption) ?_
    rotate_left 1
    · (intro w hSw; go_simp; try with_reducible rfl)
    try simp only [Act.put, List.setIfInBounds_toArray, List.set_cons_zero, List.set_cons_succ]
    refine wpAnyH_take (i := 3) (oi := ⟨some 107, _, _, _, _, _⟩) (v := ?_) rfl (by kernel_rfl) (by kernel_rfl) (by kernel_rfl) (fun _ _ _ h => h) (Or.inl ⟨by rfl, ?_⟩) (by assumption) ?_
    rotate_left 1
    · (intro w hSw; go_simp; try with_reducible rfl)
    try simp only [Act.put, List.setIfInBounds_toArray, List.set_cons_zero, List.set_cons_succ]
    refine wpAnyH_take (i := 4) (oi := ⟨some 108, _, _, _, _, _⟩) (v := ?_) rfl (by kernel_rfl) (by kernel_rfl) (by kernel_rfl) (fun _ _ _ h => h) (Or.inl ⟨by rfl, ?_⟩) (by assumption) ?_
    rotate_left 1
    · (intro w hSw; go_simp; try with_reducible rfl)
    try simp only [Act.put, List.setIfInBounds_toArray, List.set_cons_zero, List.set_cons_succ]
    refine wpAnyH_take (i := 5) (oi := ⟨some 109, _, _, _, _, _⟩) (v := ?_) rfl (by kernel_rfl) (by kernel_rfl) (by kernel_rfl) (fun _ _ _ h => h) (Or.inl ⟨by rfl, ?_⟩) (by assumption) ?_
    rotate_left 1
    · (intro w hSw; go_simp; try with_reducible rfl)
    try simp only [Act.put, List.setIfInBounds_toArray, List.set_cons_zero, List.set_cons_succ]
    refine wpAnyH_take (i := 8) (oi := ⟨some 112, _, _, _, _, _⟩) (v := ?_) rfl (by kernel_rfl) (by kernel_rfl) (by kernel_rfl) (fun _ _ _ h => h) (Or.inl ⟨by rfl, ?_⟩) (by assumption) ?_
    rotate_left 1
    · (intro w hSw; go_simp; try with_reducible rfl)
    try simp only [Act.put, List.setIfInBounds_toArray, List.set_cons_zero, List.set_cons_succ]
    refine wpAnyH_ready (rs := [6, 9]) (by kernel_rfl) (by simp) ?_
    refine AllReadyH.cons (o := ⟨some 110, _, _, _, _, _⟩) rfl (fun K hK => ?_) ?_
    · skip
      go_simp
      refine hK.out _ _ True.intro (fun hHeld => ?_)
      clear hK K
      try simp only [Act.put, List.setIfInBounds_toArray, List.set_cons_zero, List.set_cons_succ]
      refine wpAnyH_take (i := 7) (oi := ⟨some 111, _, _, _, _, _⟩) (v := ?_) rfl (by kernel_rfl) (by kernel_rfl) (by kernel_rfl) (fun _ _ _ h => h) (Or.inl ⟨by rfl, ?_⟩) (by assumption) ?_
      rotate_left 1
      · (intro w hSw; go_simp; try with_reducible rfl)
      try simp only [Act.put, List.setIfInBounds_toArray, List.set_cons_zero, List.set_cons_succ]
      refine wpAnyH_ready (rs := [9]) (by kernel_rfl) (by simp) ?_
      refine AllReadyH.cons (o := ⟨some 113, _, _, _, _, _⟩) rfl (fun K hK => ?_) ?_
      rotate_left 1
      · exact AllReadyH.nil
      go_simp
      go_at_call 15
      refine (at2 a0 len0 cap0 _ w14 HC14 hlen).mono ?_
      rintro e w' ⟨y2, ⟨hy2a, hy2b⟩, rfl, rfl⟩
      refine hK.out _ _ True.intro (fun hHeld => ?_)
      clear hK K
      try simp only [Act.put, List.setIfInBounds_toArray, List.set_cons_zero, List.set_cons_succ]
      have v1 : IntKind.i64.wrap (sk + 1 + y2) = sk + 1 + y2 := IntWalk.i64_in _ (by omega)
      obtain ⟨z2, hz2⟩ : ∃ z2, (sk + 1 + y2) % 1000003 = z2 := ⟨_, rfl⟩
      have v2 : (sk + 1 + y2).tmod 1000003 = z2 := by rw [Int.tmod_eq_emod_of_nonneg (by omega)]; exact hz2
      have v3 : IntKind.i64.wrap z2 = z2 := IntWalk.i64_in _ (by omega)
      have hzne : z2 ≠ sk := by omega
      refine wpAnyH_take (i := 10) (oi := ⟨some 114, _, _, _, _, _⟩) (v := ?_) rfl (by kernel_rfl) (by kernel_rfl) (by kernel_rfl) (fun _ _ _ h => h) (Or.inl ⟨by rfl, ?_⟩) (by assumption) ?_
      rotate_left 1
      · (intro w hSw; go_simp; try with_reducible rfl)
      try simp only [Act.put, List.setIfInBounds_toArray, List.set_cons_zero, List.set_cons_succ]
      refine wpAnyH_take (i := 11) (oi := ⟨some 115, _, _, _, _, _⟩) (v := ?_) rfl (by kernel_rfl) (by kernel_rfl) (by kernel_rfl) (fun _ _ _ h => h) (Or.inl ⟨by rfl, ?_⟩) (by assumption) ?_
      rotate_left 1
      · (intro w hSw; go_simp; try with_reducible rfl)
      try simp only [Act.put, List.setIfInBounds_toArray, List.set_cons_zero, List.set_cons_succ]
      refine wpAnyH_take (i := 12) (oi := ⟨some 116, _, _, _, _, _⟩) (v := ?_) rfl (by kernel_rfl) (by kernel_rfl) (by kernel_rfl) (fun _ _ _ h => h) (Or.inl ⟨by rfl, ?_⟩) (by assumption) ?_
      rotate_left 1
      · (intro w hSw; go_simp; try with_reducible rfl)
      try simp only [Act.put, List.setIfInBounds_toArray, List.set_cons_zero, List.set_cons_succ]
      refine wpAnyH_take (i := 13) (oi := ⟨some 117, _, _, _, _, _⟩) (v := ?_) rfl (by kernel_rfl) (by kernel_rfl) (by kernel_rfl) (fun _ _ _ h => h) (Or.inl ⟨by rfl, ?_⟩) (by assumption) ?_
      rotate_left 1
      · (intro w hSw; go_simp; try with_reducible rfl)
      try simp only [Act.put, List.setIfInBounds_toArray, List.set_cons_zero, List.set_cons_succ]
      refine wpAnyH_ready (rs := [14]) (by kernel_rfl) (by simp) ?_
      refine AllReadyH.cons (o := ⟨none, _, _, _, _, _⟩) rfl (fun K hK => ?_) ?_
      rotate_left 1
      · exact AllReadyH.nil
      have st := O14.out.stored (k * 3 + 2) (.int .i64 z2)
      rw [set_seal (by omega) z2, hxk] at st
      have O15 := Lib.hid st.1
      have HB15 := HB14.trans (RoomRes.below_set w14 w.heap.size g13 (k * 3 + 2) (.int .i64 z2) (by omega))
      have hl15 : (x.set k (tm, t, z2)).length = N := by rw [List.length_set]; exact hxl
      have F15 := breaches hxs (show k < x.length by omega) hxk hzne
      clear st O14 hz2
      go_simp
      refine hK.out _ _ True.intro (fun hHeld => ?_)
      clear hK K
      try simp only [Act.put, List.setIfInBounds_toArray, List.set_cons_zero, List.set_cons_succ]
      refine wpAnyH_done (by kernel_rfl) ?_ _
      clear HC14 HB14 e3_ f3_
      generalize w14.setCell ⟨g13, k * 3 + 2, none⟩ (.int .i64 z2) = w15 at *
      generalize x.set k (tm, t, z2) = x2 at *
      have QF := Lib.hid (EntryImpl.firstBroken (some ⟨g13, 0, none⟩) N c13 w15 x2 hl15 (by omega) (DrawSeal.own_ts O15.out hl15) (own_cap O15.out))
      rw [F15] at QF
      go_wp2_with fail
      refine QF.out.mono ?_
      rintro e w16 ⟨rfl, hb16⟩
      have O16 := Lib.hid (own_below O15.out hb16)
      have HB16 := HB15.trans (hb16.mono HB15.size)
      have QI := Lib.hid (EntryImpl.isSealed (some ⟨g13, 0, none⟩) N c13 w16 x2 hl15 (by omega) (DrawSeal.own_ts O16.out hl15) (own_cap O16.out))
      rw [not_sealed F15] at QI
      clear QF O15 HB15 hb16
      go_wp2_with fail
      refine QI.out.mono ?_
      rintro e w17 ⟨rfl, hb17⟩
      have HB17 := HB16.trans (hb17.mono HB16.size)
      clear QI O16 HB16 hb17
      go_wp2_with fail
      refine (QD1.out _).mono ?_
      rintro e w18 ⟨rfl, hb18⟩
      have HB18 := HB17.trans (hb18.mono HB17.size)
      go_wp2_with fail
      refine (QD2.out _).mono ?_
      rintro e w19 ⟨rfl, hb19⟩
      have HB19 := HB18.trans (hb19.mono HB18.size)
      go_wp2_with fail
      go_ret
      exact ⟨rfl, HB19⟩
    refine AllReadyH.cons (o := ⟨some 113, _, _, _, _, _⟩) rfl (fun K hK => ?_) ?_
    · skip
      go_simp
      go_at_call 15
      refine (at2 a0 len0 cap0 _ w14 HC14 hlen).mono ?_
      rintro e w' ⟨y2, ⟨hy2a, hy2b⟩, rfl, rfl⟩
      refine hK.out _ _ True.intro (fun hHeld => ?_)
      clear hK K
      try simp only [Act.put, List.setIfInBounds_toArray, List.set_cons_zero, List.set_cons_succ]
      refine wpAnyH_ready (rs := [6]) (by kernel_rfl) (by simp) ?_
      refine AllReadyH.cons (o := ⟨some 110, _, _, _, _, _⟩) rfl (fun K hK => ?_) ?_
      rotate_left 1
      · exact AllReadyH.nil
      go_simp
      refine hK.out _ _ True.intro (fun hHeld => ?_)
      clear hK K
      try simp only [Act.put, List.setIfInBounds_toArray, List.set_cons_zero, List.set_cons_succ]
      refine wpAnyH_take (i := 7) (oi := ⟨some 111, _, _, _, _, _⟩) (v := ?_) rfl (by kernel_rfl) (by kernel_rfl) (by kernel_rfl) (fun _ _ _ h => h) (Or.inl ⟨by rfl, ?_⟩) (by assumption) ?_
      rotate_left 1
      · (intro w hSw; go_simp; try with_reducible rfl)
      try simp only [Act.put, List.setIfInBounds_toArray, List.set_cons_zero, List.set_cons_succ]
      have v1 : IntKind.i64.wrap (sk + 1 + y2) = sk + 1 + y2 := IntWalk.i64_in _ (by omega)
      obtain ⟨z2, hz2⟩ : ∃ z2, (sk + 1 + y2) % 1000003 = z2 := ⟨_, rfl⟩
      have v2 : (sk + 1 + y2).tmod 1000003 = z2 := by rw [Int.tmod_eq_emod_of_nonneg (by omega)]; exact hz2
      have v3 : IntKind.i64.wrap z2 = z2 := IntWalk.i64_in _ (by omega)
      have hzne : z2 ≠ sk := by omega
      refine wpAnyH_take (i := 10) (oi := ⟨some 114, _, _, _, _, _⟩) (v := ?_) rfl (by kernel_rfl) (by kernel_rfl) (by kernel_rfl) (fun _ _ _ h => h) (Or.inl ⟨by rfl, ?_⟩) (by assumption) ?_
      rotate_left 1
      · (intro w hSw; go_simp; try with_reducible rfl)
      try simp only [Act.put, List.setIfInBounds_toArray, List.set_cons_zero, List.set_cons_succ]
      refine wpAnyH_take (i := 11) (oi := ⟨some 115, _, _, _, _, _⟩) (v := ?_) rfl (by kernel_rfl) (by kernel_rfl) (by kernel_rfl) (fun _ _ _ h => h) (Or.inl ⟨by rfl, ?_⟩) (by assumption) ?_
      rotate_left 1
      · (intro w hSw; go_simp; try with_reducible rfl)
      try simp only [Act.put, List.setIfInBounds_toArray, List.set_cons_zero, List.set_cons_succ]
      refine wpAnyH_take (i := 12) (oi := ⟨some 116, _, _, _, _, _⟩) (v := ?_) rfl (by kernel_rfl) (by kernel_rfl) (by kernel_rfl) (fun _ _ _ h => h) (Or.inl ⟨by rfl, ?_⟩) (by assumption) ?_
      rotate_left 1
      · (intro w hSw; go_simp; try with_reducible rfl)
      try simp only [Act.put, List.setIfInBounds_toArray, List.set_cons_zero, List.set_cons_succ]
      refine wpAnyH_take (i := 13) (oi := ⟨some 117, _, _, _, _, _⟩) (v := ?_) rfl (by kernel_rfl) (by kernel_rfl) (by kernel_rfl) (fun _ _ _ h => h) (Or.inl ⟨by rfl, ?_⟩) (by assumption) ?_
      rotate_left 1
      · (intro w hSw; go_simp; try with_reducible rfl)
      try simp only [Act.put, List.setIfInBounds_toArray, List.set_cons_zero, List.set_cons_succ]
      refine wpAnyH_ready (rs := [14]) (by kernel_rfl) (by simp) ?_
      refine AllReadyH.cons (o := ⟨none, _, _, _, _, _⟩) rfl (fun K hK => ?_) ?_
      rotate_left 1
      · exact AllReadyH.nil
      have st := O14.out.stored (k * 3 + 2) (.int .i64 z2)
      rw [set_seal (by omega) z2, hxk] at st
      have O15 := Lib.hid st.1
      have HB15 := HB14.trans (RoomRes.below_set w14 w.heap.size g13 (k * 3 + 2) (.int .i64 z2) (by omega))
      have hl15 : (x.set k (tm, t, z2)).length = N := by rw [List.length_set]; exact hxl
      have F15 := breaches hxs (show k < x.length by omega) hxk hzne
      clear st O14 hz2
      go_simp
      refine hK.out _ _ True.intro (fun hHeld => ?_)
      clear hK K
      try simp only [Act.put, List.setIfInBounds_toArray, List.set_cons_zero, List.set_cons_succ]
      refine wpAnyH_done (by kernel_rfl) ?_ _
      clear HC14 HB14 e3_ f3_
      generalize w14.setCell ⟨g13, k * 3 + 2, none⟩ (.int .i64 z2) = w15 at *
      generalize x.set k (tm, t, z2) = x2 at *
      have QF := Lib.hid (EntryImpl.firstBroken (some ⟨g13, 0, none⟩) N c13 w15 x2 hl15 (by omega) (DrawSeal.own_ts O15.out hl15) (own_cap O15.out))
      rw [F15] at QF
      go_wp2_with fail
      refine QF.out.mono ?_
      rintro e w16 ⟨rfl, hb16⟩
      have O16 := Lib.hid (own_below O15.out hb16)
      have HB16 := HB15.trans (hb16.mono HB15.size)
      have QI := Lib.hid (EntryImpl.isSealed (some ⟨g13, 0, none⟩) N c13 w16 x2 hl15 (by omega) (DrawSeal.own_ts O16.out hl15) (own_cap O16.out))
      rw [not_sealed F15] at QI
      clear QF O15 HB15 hb16
      go_wp2_with fail
      refine QI.out.mono ?_
      rintro e w17 ⟨rfl, hb17⟩
      have HB17 := HB16.trans (hb17.mono HB16.size)
      clear QI O16 HB16 hb17
      go_wp2_with fail
      refine (QD1.out _).mono ?_
      rintro e w18 ⟨rfl, hb18⟩
      have HB18 := HB17.trans (hb18.mono HB17.size)
      go_wp2_with fail
      refine (QD2.out _).mono ?_
      rintro e w19 ⟨rfl, hb19⟩
      have HB19 := HB18.trans (hb19.mono HB18.size)
      go_wp2_with fail
      go_ret
      exact ⟨rfl, HB19⟩
    exact AllReadyH.nil

set_option maxRecDepth 100000 in
theorem contract (H : Type) (enc : TypeId × Value → H) (W : World) (base : Nat) (args : Array Value) (ds gs : List (DataW H)) (before : List MemPlace)
    (hval : ∀ (j : Nat) t v, Try.f5.params[j]? = some t → args[j]? = some v → Value.okWide Try.prog W .any base t v)
    (hW : DataW.Whole enc Try.prog Try.f5.params.toList Rows.fnSealsSpec.vars false W args.toList ds gs before) :
    Calls Try.prog 5 args W fun e W' => ∃ v, e = .returned v ∧ Rows.fnSealsSpec.post enc Try.prog Try.f5 false true false false W args v W' := by
  have hW' := hW
  obtain ⟨p, q, hA0, hV, rfl, hfz, hnd⟩ := hW
  have hA : DataW.TrodAll enc Try.prog W 0 (fun _ => true) true Try.f5.params.toList args.toList ds p := hA0
  rw [Try.params5] at hA hval
  obtain ⟨v0, vs0, d0, ds0, p0, q0, hargs, rfl, rfl, h0, r0⟩ := trodAll_cons hA
  obtain ⟨rfl, rfl, rfl⟩ := trodAll_nil r0
  obtain rfl : args = #[v0] := by cases args; simp_all
  obtain ⟨rfl, rfl⟩ := trodVars_none hV
  obtain ⟨a0, len0, cap0, rfl⟩ := okWide_slice Try.underlying22 (hval 0 22 v0 rfl rfl)
  have k0 := h0
  have lt0 : ∀ x ∈ p0, x.block < W.heap.size := by obtain ⟨m, hm⟩ := k0; exact DataW.trod_lt m _ _ _ hm
  obtain ⟨z0, w0⟩ : ∃ zs, IsRow .u8 W a0 len0 cap0 zs := by
    obtain ⟨fuel, hf⟩ := h0
    rcases open_ints Try.underlying22 Try.underlying5 (by kernel_rfl) hf with ⟨hcs, _⟩ | ⟨x, l, c, zs, hcs, _, hl, hm, hz, _, hcell, hwz⟩
    · simp [Value.cells] at hcs
      obtain ⟨rfl, rfl, rfl⟩ := hcs
      exact ⟨[], .inl ⟨rfl, rfl, rfl, rfl⟩⟩
    · simp [Value.cells] at hcs
      obtain ⟨rfl, rfl, rfl⟩ := hcs
      exact ⟨zs, .inr ⟨_, rfl, hl, hm, by simpa using hz, hcell, hwz⟩⟩
  clear hA0
  refine (walk W a0 len0 cap0 z0 w0).mono fun e W' ⟨he, hg⟩ => ?_
  subst he
  exact ⟨_, rfl, _, _, _, [], _, [], hW', (trodAll_cons_mk (shut_bool Try.underlying4 _) trodAll_mk0), (trodAll_cons_mk (Below.trod laidOut (by kernel_rfl) (of_decide_eq_true (by kernel_rfl)) k0 hg lt0) trodAll_mk0), rfl, hg.frame _, fun h => by cases h⟩

set_option maxRecDepth 100000 in
theorem lifted (os : Os) (started : os.Started) (H : Type) (enc : TypeId × Value → H) :
    ReturnsInHanded {} Try.checked os 5 .any (Rows.fnSealsSpec.pre6 enc Try.prog Try.f5 Rows.fnSealsRow.domain false) (Rows.fnSealsSpec.post enc Try.prog Try.f5 false true false false) := by
  refine returnsInHanded_of_change (C := Try.checked) own started (by kernel_rfl) Try.func5
    (ChangeSpec.witness6 (enc := enc) (C := Try.checked) false ⟨#[], #[Value.slice none 0 0], []⟩ 8 (by kernel_rfl) (by kernel_rfl) (by kernel_rfl) (by kernel_rfl)) ?_
  intro W base args ds gs before hval hW hcnd _
  exact contract H enc W base args ds gs before hval hW

theorem proved : Rows.FnSealsSaid :=
  OpenClaim.holds_of_wide 5 Try.f5 rfl rfl rfl rfl rfl rfl rfl ⟨rfl, rfl, rfl, rfl, rfl⟩ rfl rfl rfl rfl rfl (by kernel_rfl) Try.func5 (by kernel_rfl)
    (of_decide_eq_true (by kernel_rfl)) (by unfold Func.isWrapper; first | (rw [if_pos (by decide +kernel)]; kernel_rfl) | (rw [if_neg (by decide +kernel)]; exact ⟨rfl, rfl⟩))
    (fun os started H enc _ => lifted os started H enc)
#print axioms proved
end Go.Proofs.Ytcfoleiooohbhaa.fnSeals
