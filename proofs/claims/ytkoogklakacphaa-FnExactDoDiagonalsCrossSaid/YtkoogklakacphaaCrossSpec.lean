/-
  What the functions on crossing diagonals do, as contracts: what each answers; new memory alone is written.
-/
import Derived.Test.YtkoogklakacphaaEarSpec
import Derived.Test.YtkoogklakacphaaEarMath
import Derived.Test.YtkoogklakacphaaInts
namespace Go.Proofs.Ytkoogklakacphaa.CrossSpec
open Go.RowKit Own Ints PointMath WallMath RoomMath Blk AreaMath PlaceMath FloorMath LineMath CutsMath SightMath DiagMath EarMath
open Pts (PtsAt PtAt BoxR)
open PointOk (ret_bool ret_i64 below1 below2 below3)

set_option maxRecDepth 100000 in
set_option maxHeartbeats 6400000 in
theorem dd (A : Option Addr) (n cap : Nat) (B : Option Addr) (m cb : Nat) (C : Option Addr) (k cc : Nat) (w : World) (ps : List (Int × Int)) (hl : ps.length = n) (hn : n ≤ 1048576) (hp : PtsAt w w.heap.size A ps) (za : List Int) (hla : za.length = m) (_hna : m ≤ 1048576) (hqa : IntsAt w w.heap.size B za) (zb : List Int) (hlb : zb.length = k) (_hnb : k ≤ 1048576) (hqb : IntsAt w w.heap.size C zb) :
    Calls Try.prog 27 #[.agg #[.slice A n cap], .slice B m cb, .slice C k cc] w fun e w' => e = .returned (.bool (crossDB ps za zb)) ∧ Below w.heap.size w w' := by
  obtain ⟨r, hr⟩ : ∃ r, crossDB ps za zb = r := ⟨_, rfl⟩
  have HR := Lib.hid hr
  rw [hr]
  clear hr
  have HE : Hid (r = (decide (m = 2) && decide (k = 2) && isDiagB ps (za.getD 0 0) (za.getD 1 0) && isDiagB ps (zb.getD 0 0) (zb.getD 1 0) && cutP (pt ps (za.getD 0 0).toNat) (pt ps (za.getD 1 0).toNat) (pt ps (zb.getD 0 0).toNat) (pt ps (zb.getD 1 0).toNat))) := Lib.hid (by
    rw [← HR.out, ← hla, ← hlb]; unfold crossDB namesB
    cases decide (za.length = 2) <;> cases decide (zb.length = 2) <;> cases isDiagB ps (za.getD 0 0) (za.getD 1 0) <;> simp)
  clear HR
  go_enter Try.func27, Try.ntmps27
  go_wp2_with fail
  have X0 := Pts.boxR w (.slice A n cap) 29 (k := w.heap.size) (by simp)
  have b0 := PointOk.below1 w (Obj.cells #[.slice A n cap] 29)
  have HO : ∀ W W' : World, (Pts.BoxR W (w.heap.size) (.slice A n cap) ∧ PtsAt W w.heap.size A ps ∧ IntsAt W w.heap.size B za ∧ IntsAt W w.heap.size C zb ∧ Below w.heap.size w W) → Below W.heap.size W W' → (Pts.BoxR W' (w.heap.size) (.slice A n cap) ∧ PtsAt W' w.heap.size A ps ∧ IntsAt W' w.heap.size B za ∧ IntsAt W' w.heap.size C zb ∧ Below w.heap.size w W') := fun W W' ⟨h0, x0, x1, x2, hb⟩ h => ⟨h0.later h, x0.later (h.mono hb.size), x1.later (h.mono hb.size), x2.later (h.mono hb.size), hb.trans (h.mono hb.size)⟩
  have hz0_ : Hid (((w.alloc (Obj.cells #[.slice A n cap] 29))).heap.size = w.heap.size + 1) := Lib.hid (by simp)
  have Y0 : PtsAt ((w.alloc (Obj.cells #[.slice A n cap] 29))) w.heap.size A ps := hp.later b0
  have Y1 : IntsAt ((w.alloc (Obj.cells #[.slice A n cap] 29))) w.heap.size B za := hqa.later b0
  have Y2 : IntsAt ((w.alloc (Obj.cells #[.slice A n cap] 29))) w.heap.size C zb := hqb.later b0
  generalize (w.alloc (Obj.cells #[.slice A n cap] 29)) = w0 at X0 Y0 Y1 Y2 b0 hz0_ ⊢
  have S0 := (⟨X0, Y0, Y1, Y2, b0⟩ : Pts.BoxR w0 (w.heap.size) (.slice A n cap) ∧ PtsAt w0 w.heap.size A ps ∧ IntsAt w0 w.heap.size B za ∧ IntsAt w0 w.heap.size C zb ∧ Below w.heap.size w w0)
  clear X0 Y0 Y1 Y2 b0
  obtain ⟨⟨_, _⟩, _, _, _, _⟩ := id S0
  by_cases c1 : m = 2
  rotate_left
  · have b1 : ((m : Int) != 2) = true := by simp; omega
    have E : Hid (r = false) := Lib.hid (by rw [HE.out]; simp [c1])
    clear HE hl hla hlb c1
    go_wp2_with fail
    refine Settle.region (fun W => Pts.BoxR W (w.heap.size) (.slice A n cap) ∧ PtsAt W w.heap.size A ps ∧ IntsAt W w.heap.size B za ∧ IntsAt W w.heap.size C zb ∧ Below w.heap.size w W) (by kernel_rfl) (by kernel_rfl) (by kernel_rfl) (by kernel_rfl) (HO _ _ S0 ((Below.refl _ _).drew)) ?_
    clear S0
    repeat (first
      | (refine Settle.Settles.off (by rfl) ?_; simp only [Act.put, List.setIfInBounds_toArray, List.set_cons_zero, List.set_cons_succ])
      | (refine Settle.Settles.quiet (v := ?_) (by rfl) ?_ ?_
         rotate_left
         · (intro W hS; obtain ⟨⟨_, _⟩, _, _, _, _⟩ := hS; go_simp; with_reducible rfl)
         simp only [Act.put, List.setIfInBounds_toArray, List.set_cons_zero, List.set_cons_succ])
      | (refine Settle.Settles.call (v := ?_) (f := ?_) (args := ?_) (by rfl) ?_ ?_ ?_
         rotate_left 3
         · (intro W; go_simp; refine ⟨?_, ?_⟩ <;> with_reducible rfl)
         · (intro W hS; fail)
         simp only [Act.put, List.setIfInBounds_toArray, List.set_cons_zero, List.set_cons_succ]))
    refine Settle.Settles.nil ?_
    intro wr S0
    obtain ⟨⟨_, _⟩, _, _, _, _⟩ := id S0
    go_wp2_with fail
    go_ret
    exact ⟨ret_bool E.out.symm, S0.2.2.2.2⟩
  have b1 : ((m : Int) != 2) = false := by simp [c1]
  by_cases c2 : k = 2
  rotate_left
  · have b2 : ((k : Int) != 2) = true := by simp; omega
    have E : Hid (r = false) := Lib.hid (by rw [HE.out]; simp [c2])
    clear HE hl hla hlb c1 c2
    go_wp2_with fail
    refine Settle.region (fun W => Pts.BoxR W (w.heap.size) (.slice A n cap) ∧ PtsAt W w.heap.size A ps ∧ IntsAt W w.heap.size B za ∧ IntsAt W w.heap.size C zb ∧ Below w.heap.size w W) (by kernel_rfl) (by kernel_rfl) (by kernel_rfl) (by kernel_rfl) (HO _ _ S0 ((Below.refl _ _).drew)) ?_
    clear S0
    repeat (first
      | (refine Settle.Settles.off (by rfl) ?_; simp only [Act.put, List.setIfInBounds_toArray, List.set_cons_zero, List.set_cons_succ])
      | (refine Settle.Settles.quiet (v := ?_) (by rfl) ?_ ?_
         rotate_left
         · (intro W hS; obtain ⟨⟨_, _⟩, _, _, _, _⟩ := hS; go_simp; with_reducible rfl)
         simp only [Act.put, List.setIfInBounds_toArray, List.set_cons_zero, List.set_cons_succ])
      | (refine Settle.Settles.call (v := ?_) (f := ?_) (args := ?_) (by rfl) ?_ ?_ ?_
         rotate_left 3
         · (intro W; go_simp; refine ⟨?_, ?_⟩ <;> with_reducible rfl)
         · (intro W hS; fail)
         simp only [Act.put, List.setIfInBounds_toArray, List.set_cons_zero, List.set_cons_succ]))
    refine Settle.Settles.nil ?_
    intro wr S0
    obtain ⟨⟨_, _⟩, _, _, _, _⟩ := id S0
    go_wp2_with fail
    go_ret
    exact ⟨ret_bool E.out.symm, S0.2.2.2.2⟩
  have b2 : ((k : Int) != 2) = false := by simp [c2]
  have t2za := two_at (show za.length = 2 by omega)
  obtain ⟨ad, ead, bad, q0za⟩ := S0.2.2.1.get t2za.1
  obtain ⟨ad2, ead2, _, q1za⟩ := S0.2.2.1.get t2za.2
  rw [ead] at ead2
  injection ead2 with ead2
  subst ead2
  subst ead
  replace q0za := here q0za
  replace q1za := next q1za
  generalize za.getD 0 0 = a0 at *
  generalize za.getD 1 0 = a1 at *
  have t2zb := two_at (show zb.length = 2 by omega)
  obtain ⟨bd, ebd, bbd, q0zb⟩ := S0.2.2.2.1.get t2zb.1
  obtain ⟨bd2, ebd2, _, q1zb⟩ := S0.2.2.2.1.get t2zb.2
  rw [ebd] at ebd2
  injection ebd2 with ebd2
  subst ebd2
  subst ebd
  replace q0zb := here q0zb
  replace q1zb := next q1zb
  generalize zb.getD 0 0 = b0_ at *
  generalize zb.getD 1 0 = b1_ at *
  have g0 : (0 : Int) < (m : Int) := by omega
  have g0n : 0 < m := by omega
  have g1n : 1 < m := by omega
  have g2n : 0 < k := by omega
  have g3n : 1 < k := by omega
  have g1 : (1 : Int) < (m : Int) := by omega
  have g2 : (0 : Int) < (k : Int) := by omega
  have g3 : (1 : Int) < (k : Int) := by omega
  have QA : Hid (∀ w hp, _) := Lib.hid fun w hp => EarSpec.isDiagonal A n cap a0 a1 w ps hl hn hp
  have QB : Hid (∀ w hp, _) := Lib.hid fun w hp => EarSpec.isDiagonal A n cap b0_ b1_ w ps hl hn hp
  have HO : ∀ W W' : World, (BoxR W w.heap.size (.slice A n cap) ∧ PtsAt W w.heap.size A ps ∧ IntHere W ad a0 ∧ IntNext W ad a1 ∧ IntHere W bd b0_ ∧ IntNext W bd b1_ ∧ Below w.heap.size w W) → Below W.heap.size W W' → (BoxR W' w.heap.size (.slice A n cap) ∧ PtsAt W' w.heap.size A ps ∧ IntHere W' ad a0 ∧ IntNext W' ad a1 ∧ IntHere W' bd b0_ ∧ IntNext W' bd b1_ ∧ Below w.heap.size w W') := fun W W' ⟨x0, x1, x2, x3, x4, x5, hb⟩ h => ⟨x0.later h, x1.later (h.mono hb.size), x2.later bad (h.mono hb.size), x3.later bad (h.mono hb.size), x4.later bbd (h.mono hb.size), x5.later bbd (h.mono hb.size), hb.trans (h.mono hb.size)⟩
  replace S0 : BoxR w0 w.heap.size (.slice A n cap) ∧ PtsAt w0 w.heap.size A ps ∧ IntHere w0 ad a0 ∧ IntNext w0 ad a1 ∧ IntHere w0 bd b0_ ∧ IntNext w0 bd b1_ ∧ Below w.heap.size w w0 := ⟨S0.1, S0.2.1, q0za, q1za, q0zb, q1zb, S0.2.2.2.2⟩
  clear q0za q1za q0zb q1zb t2za t2zb hqa hqb
  obtain ⟨⟨_, _⟩, _, ⟨_, _⟩, ⟨_, _⟩, ⟨_, _⟩, ⟨_, _⟩, _⟩ := id S0
  cases d1 : isDiagB ps a0 a1
  · rw [d1] at QA
    have E : Hid (r = false) := Lib.hid (by rw [HE.out]; rw [d1]; simp)
    clear HE hl hla hlb d1 QB c1 c2
    go_wp2_with fail
    refine Settle.region (fun W => BoxR W w.heap.size (.slice A n cap) ∧ PtsAt W w.heap.size A ps ∧ IntHere W ad a0 ∧ IntNext W ad a1 ∧ IntHere W bd b0_ ∧ IntNext W bd b1_ ∧ Below w.heap.size w W) (by kernel_rfl) (by kernel_rfl) (by kernel_rfl) (by kernel_rfl) (HO _ _ S0 ((Below.refl _ _).drew)) ?_
    clear S0
    repeat (first
      | (refine Settle.Settles.off (by rfl) ?_; simp only [Act.put, List.setIfInBounds_toArray, List.set_cons_zero, List.set_cons_succ])
      | (refine Settle.Settles.quiet (v := ?_) (by rfl) ?_ ?_
         rotate_left
         · (intro W hS; obtain ⟨⟨_, _⟩, _, ⟨_, _⟩, ⟨_, _⟩, ⟨_, _⟩, ⟨_, _⟩, _⟩ := hS; go_simp; with_reducible rfl)
         simp only [Act.put, List.setIfInBounds_toArray, List.set_cons_zero, List.set_cons_succ])
      | (refine Settle.Settles.call (v := ?_) (f := ?_) (args := ?_) (by rfl) ?_ ?_ ?_
         rotate_left 3
         · (intro W; go_simp; refine ⟨?_, ?_⟩ <;> with_reducible rfl)
         · (intro W hS; first | (go_at_call 14; (with_reducible refine (QA.out _ (hS.2.1.wide hS.2.2.2.2.2.2.size)).mono ?_); rintro e W1 ⟨rfl, hb⟩; refine ⟨?_, HO _ _ hS hb⟩; with_reducible rfl))
         simp only [Act.put, List.setIfInBounds_toArray, List.set_cons_zero, List.set_cons_succ]))
    refine Settle.Settles.nil ?_
    intro wr S0
    obtain ⟨⟨_, _⟩, _, ⟨_, _⟩, ⟨_, _⟩, ⟨_, _⟩, ⟨_, _⟩, _⟩ := id S0
    go_wp2_with fail
    go_ret
    exact ⟨ret_bool E.out.symm, S0.2.2.2.2.2.2⟩
  cases d2 : isDiagB ps b0_ b1_
  · rw [d1] at QA
    rw [d2] at QB
    have E : Hid (r = false) := Lib.hid (by rw [HE.out]; rw [d2]; simp)
    clear HE hl hla hlb d1 d2 c1 c2
    go_wp2_with fail
    refine Settle.region (fun W => BoxR W w.heap.size (.slice A n cap) ∧ PtsAt W w.heap.size A ps ∧ IntHere W ad a0 ∧ IntNext W ad a1 ∧ IntHere W bd b0_ ∧ IntNext W bd b1_ ∧ Below w.heap.size w W) (by kernel_rfl) (by kernel_rfl) (by kernel_rfl) (by kernel_rfl) (HO _ _ S0 ((Below.refl _ _).drew)) ?_
    clear S0
    repeat (first
      | (refine Settle.Settles.off (by rfl) ?_; simp only [Act.put, List.setIfInBounds_toArray, List.set_cons_zero, List.set_cons_succ])
      | (refine Settle.Settles.quiet (v := ?_) (by rfl) ?_ ?_
         rotate_left
         · (intro W hS; obtain ⟨⟨_, _⟩, _, ⟨_, _⟩, ⟨_, _⟩, ⟨_, _⟩, ⟨_, _⟩, _⟩ := hS; go_simp; with_reducible rfl)
         simp only [Act.put, List.setIfInBounds_toArray, List.set_cons_zero, List.set_cons_succ])
      | (refine Settle.Settles.call (v := ?_) (f := ?_) (args := ?_) (by rfl) ?_ ?_ ?_
         rotate_left 3
         · (intro W; go_simp; refine ⟨?_, ?_⟩ <;> with_reducible rfl)
         · (intro W hS; first | (go_at_call 14; (with_reducible refine (QA.out _ (hS.2.1.wide hS.2.2.2.2.2.2.size)).mono ?_); rintro e W1 ⟨rfl, hb⟩; refine ⟨?_, HO _ _ hS hb⟩; with_reducible rfl) | (go_at_call 14; (with_reducible refine (QB.out _ (hS.2.1.wide hS.2.2.2.2.2.2.size)).mono ?_); rintro e W1 ⟨rfl, hb⟩; refine ⟨?_, HO _ _ hS hb⟩; with_reducible rfl))
         simp only [Act.put, List.setIfInBounds_toArray, List.set_cons_zero, List.set_cons_succ]))
    refine Settle.Settles.nil ?_
    intro wr S0
    obtain ⟨⟨_, _⟩, _, ⟨_, _⟩, ⟨_, _⟩, ⟨_, _⟩, ⟨_, _⟩, _⟩ := id S0
    go_wp2_with fail
    go_ret
    exact ⟨ret_bool E.out.symm, S0.2.2.2.2.2.2⟩
  rw [d1] at QA HE
  rw [d2] at QB HE
  obtain ⟨hr, i, j, rfl, rfl, hi, hj, _⟩ := isDiagB_yes d1
  obtain ⟨_, s, t, rfl, rfl, hs, ht, _⟩ := isDiagB_yes d2
  have hok := (roomB_yes hr).2.1
  replace HE : Hid (r = cutP (pt ps i) (pt ps j) (pt ps s) (pt ps t)) := Lib.hid (by rw [HE.out, decide_eq_true c1, decide_eq_true c2]; rfl)
  have p0 := Pts.PtsAt.get (x := (pt ps i).1) (y := (pt ps i).2) S0.2.1 (pt_at (ps := ps) (k := i) hi)
  have p1 := Pts.PtsAt.get (x := (pt ps j).1) (y := (pt ps j).2) S0.2.1 (pt_at (ps := ps) (k := j) hj)
  have p2 := Pts.PtsAt.get (x := (pt ps s).1) (y := (pt ps s).2) S0.2.1 (pt_at (ps := ps) (k := s) hs)
  have p3 := Pts.PtsAt.get (x := (pt ps t).1) (y := (pt ps t).2) S0.2.1 (pt_at (ps := ps) (k := t) ht)
  have o0 := okP_sm (okAll_at hok (k := i) hi)
  have o1 := okP_sm (okAll_at hok (k := j) hj)
  have o2 := okP_sm (okAll_at hok (k := s) hs)
  have o3 := okP_sm (okAll_at hok (k := t) ht)
  rw [hl] at hi hj hs ht
  generalize pt ps i = pa at *
  generalize pt ps j = pb at *
  generalize pt ps s = pc at *
  generalize pt ps t = pd at *
  obtain ⟨ed, eA, bA, pA⟩ := p0
  obtain ⟨ed2, eA2, _, pB⟩ := p1
  rw [eA] at eA2
  injection eA2 with eA2
  subst eA2
  obtain ⟨ed2, eA2, _, pC⟩ := p2
  rw [eA] at eA2
  injection eA2 with eA2
  subst eA2
  obtain ⟨ed2, eA2, _, pD⟩ := p3
  rw [eA] at eA2
  injection eA2 with eA2
  subst eA2
  subst eA
  have hi1 : (i : Int) < (n : Int) := by omega
  have hj1 : (j : Int) < (n : Int) := by omega
  have hs1 : (s : Int) < (n : Int) := by omega
  have ht1 : (t : Int) < (n : Int) := by omega
  have hi0 : (0 : Int) ≤ (i : Int) := by omega
  have hj0 : (0 : Int) ≤ (j : Int) := by omega
  have hs0 : (0 : Int) ≤ (s : Int) := by omega
  have ht0 : (0 : Int) ≤ (t : Int) := by omega
  have QX : Hid (∀ w, _) := Lib.hid fun w => WallSpec.l03Cross pa.1 pa.2 pb.1 pb.2 pc.1 pc.2 pd.1 pd.2 o0 o1 o2 o3 w
  have E : Hid ((sepW pa.1 pa.2 pb.1 pb.2 pc.1 pc.2 pd.1 pd.2 && sepW pc.1 pc.2 pd.1 pd.2 pa.1 pa.2 pb.1 pb.2) = r) := Lib.hid (by rw [HE.out]; rfl)
  rw [E.out] at QX
  have HO : ∀ W W' : World, (BoxR W w.heap.size (.slice (some ed) n cap) ∧ PtsAt W w.heap.size (some ed) ps ∧ IntHere W ad (i : Int) ∧ IntNext W ad (j : Int) ∧ IntHere W bd (s : Int) ∧ IntNext W bd (t : Int) ∧ PtAt W ed i pa.1 pa.2 ∧ PtAt W ed j pb.1 pb.2 ∧ PtAt W ed s pc.1 pc.2 ∧ PtAt W ed t pd.1 pd.2 ∧ Below w.heap.size w W) → Below W.heap.size W W' → (BoxR W' w.heap.size (.slice (some ed) n cap) ∧ PtsAt W' w.heap.size (some ed) ps ∧ IntHere W' ad (i : Int) ∧ IntNext W' ad (j : Int) ∧ IntHere W' bd (s : Int) ∧ IntNext W' bd (t : Int) ∧ PtAt W' ed i pa.1 pa.2 ∧ PtAt W' ed j pb.1 pb.2 ∧ PtAt W' ed s pc.1 pc.2 ∧ PtAt W' ed t pd.1 pd.2 ∧ Below w.heap.size w W') := fun W W' ⟨x0, x1, x2, x3, x4, x5, x6, x7, x8, x9, hb⟩ h => ⟨x0.later h, x1.later (h.mono hb.size), x2.later bad (h.mono hb.size), x3.later bad (h.mono hb.size), x4.later bbd (h.mono hb.size), x5.later bbd (h.mono hb.size), x6.later bA (h.mono hb.size), x7.later bA (h.mono hb.size), x8.later bA (h.mono hb.size), x9.later bA (h.mono hb.size), hb.trans (h.mono hb.size)⟩
  replace S0 : BoxR w0 w.heap.size (.slice (some ed) n cap) ∧ PtsAt w0 w.heap.size (some ed) ps ∧ IntHere w0 ad (i : Int) ∧ IntNext w0 ad (j : Int) ∧ IntHere w0 bd (s : Int) ∧ IntNext w0 bd (t : Int) ∧ PtAt w0 ed i pa.1 pa.2 ∧ PtAt w0 ed j pb.1 pb.2 ∧ PtAt w0 ed s pc.1 pc.2 ∧ PtAt w0 ed t pd.1 pd.2 ∧ Below w.heap.size w w0 := ⟨S0.1, S0.2.1, S0.2.2.1, S0.2.2.2.1, S0.2.2.2.2.1, S0.2.2.2.2.2.1, pA, pB, pC, pD, S0.2.2.2.2.2.2⟩
  clear pA pB pC pD HE hl hla hlb hr hok o0 o1 o2 o3 d1 d2 E hi hj hs ht c1 c2
  obtain ⟨⟨_, _⟩, _, ⟨_, _⟩, ⟨_, _⟩, ⟨_, _⟩, ⟨_, _⟩, ⟨_, _⟩, ⟨_, _⟩, ⟨_, _⟩, ⟨_, _⟩, _⟩ := id S0
  go_wp2_with fail
  refine Settle.region (fun W => BoxR W w.heap.size (.slice (some ed) n cap) ∧ PtsAt W w.heap.size (some ed) ps ∧ IntHere W ad (i : Int) ∧ IntNext W ad (j : Int) ∧ IntHere W bd (s : Int) ∧ IntNext W bd (t : Int) ∧ PtAt W ed i pa.1 pa.2 ∧ PtAt W ed j pb.1 pb.2 ∧ PtAt W ed s pc.1 pc.2 ∧ PtAt W ed t pd.1 pd.2 ∧ Below w.heap.size w W) (by kernel_rfl) (by kernel_rfl) (by kernel_rfl) (by kernel_rfl) (HO _ _ S0 ((Below.refl _ _).drew)) ?_
  clear S0
  repeat (first
    | (refine Settle.Settles.off (by rfl) ?_; simp only [Act.put, List.setIfInBounds_toArray, List.set_cons_zero, List.set_cons_succ])
    | (refine Settle.Settles.quiet (v := ?_) (by rfl) ?_ ?_
       rotate_left
       · (intro W hS; obtain ⟨⟨_, _⟩, _, ⟨_, _⟩, ⟨_, _⟩, ⟨_, _⟩, ⟨_, _⟩, ⟨_, _⟩, ⟨_, _⟩, ⟨_, _⟩, ⟨_, _⟩, _⟩ := hS; go_simp; with_reducible rfl)
       simp only [Act.put, List.setIfInBounds_toArray, List.set_cons_zero, List.set_cons_succ])
    | (refine Settle.Settles.call (v := ?_) (f := ?_) (args := ?_) (by rfl) ?_ ?_ ?_
       rotate_left 3
       · (intro W; go_simp; refine ⟨?_, ?_⟩ <;> with_reducible rfl)
       · (intro W hS; first | (go_at_call 14; (with_reducible refine (QA.out _ (hS.2.1.wide hS.2.2.2.2.2.2.2.2.2.2.size)).mono ?_); rintro e W1 ⟨rfl, hb⟩; refine ⟨?_, HO _ _ hS hb⟩; with_reducible rfl) | (go_at_call 14; (with_reducible refine (QB.out _ (hS.2.1.wide hS.2.2.2.2.2.2.2.2.2.2.size)).mono ?_); rintro e W1 ⟨rfl, hb⟩; refine ⟨?_, HO _ _ hS hb⟩; with_reducible rfl))
       simp only [Act.put, List.setIfInBounds_toArray, List.set_cons_zero, List.set_cons_succ]))
  refine Settle.Settles.nil ?_
  intro wr S0
  obtain ⟨⟨_, _⟩, _, ⟨_, _⟩, ⟨_, _⟩, ⟨_, _⟩, ⟨_, _⟩, ⟨_, _⟩, ⟨_, _⟩, ⟨_, _⟩, ⟨_, _⟩, _⟩ := id S0
  go_wp2_with fail
  refine Settle.region (fun W => BoxR W w.heap.size (.slice (some ed) n cap) ∧ PtsAt W w.heap.size (some ed) ps ∧ IntHere W ad (i : Int) ∧ IntNext W ad (j : Int) ∧ IntHere W bd (s : Int) ∧ IntNext W bd (t : Int) ∧ PtAt W ed i pa.1 pa.2 ∧ PtAt W ed j pb.1 pb.2 ∧ PtAt W ed s pc.1 pc.2 ∧ PtAt W ed t pd.1 pd.2 ∧ Below w.heap.size w W) (by kernel_rfl) (by kernel_rfl) (by kernel_rfl) (by kernel_rfl) (HO _ _ S0 ((Below.refl _ _).drew)) ?_
  clear S0
  repeat (first
    | (refine Settle.Settles.off (by rfl) ?_; simp only [Act.put, List.setIfInBounds_toArray, List.set_cons_zero, List.set_cons_succ])
    | (refine Settle.Settles.quiet (v := ?_) (by rfl) ?_ ?_
       rotate_left
       · (intro W hS; obtain ⟨⟨_, _⟩, _, ⟨_, _⟩, ⟨_, _⟩, ⟨_, _⟩, ⟨_, _⟩, ⟨_, _⟩, ⟨_, _⟩, ⟨_, _⟩, ⟨_, _⟩, _⟩ := hS; go_simp; with_reducible rfl)
       simp only [Act.put, List.setIfInBounds_toArray, List.set_cons_zero, List.set_cons_succ])
    | (refine Settle.Settles.call (v := ?_) (f := ?_) (args := ?_) (by rfl) ?_ ?_ ?_
       rotate_left 3
       · (intro W; go_simp; refine ⟨?_, ?_⟩ <;> with_reducible rfl)
       · (intro W hS; first | (go_at_call 60; (with_reducible refine (QX.out _).mono ?_); rintro e W1 ⟨rfl, hb⟩; refine ⟨?_, HO _ _ hS hb⟩; with_reducible rfl))
       simp only [Act.put, List.setIfInBounds_toArray, List.set_cons_zero, List.set_cons_succ]))
  refine Settle.Settles.nil ?_
  intro wr S0
  obtain ⟨⟨_, _⟩, _, ⟨_, _⟩, ⟨_, _⟩, ⟨_, _⟩, ⟨_, _⟩, ⟨_, _⟩, ⟨_, _⟩, ⟨_, _⟩, ⟨_, _⟩, _⟩ := id S0
  go_wp2_with fail
  go_ret
  exact ⟨rfl, S0.2.2.2.2.2.2.2.2.2.2⟩

end Go.Proofs.Ytkoogklakacphaa.CrossSpec

