/-
  What the functions on crossing diagonals do, as contracts: what each answers; new memory alone is written.
-/
import Derived.Test.YtkoogklakacphaaDiagImpl
import Derived.Test.YtkoogklakacphaaEarMath
import Derived.Test.YtkoogklakacphaaInts
namespace Go.Proofs.Ytkoogklakacphaa.CrossImpl
open Go.RowKit Own Ints PointMath WallMath RoomMath Blk AreaMath PlaceMath FloorMath LineMath CutsMath SightMath DiagMath EarMath
open Pts (PtsAt PtAt BoxR)
open PointOk (ret_bool ret_i64 below1 below2 below3)

set_option maxRecDepth 100000 in
set_option maxHeartbeats 3200000 in
theorem names (A : Option Addr) (n cap : Nat) (B : Option Addr) (m cb : Nat) (w : World) (ps : List (Int × Int)) (hl : ps.length = n) (hn : n ≤ 1048576) (hp : PtsAt w w.heap.size A ps) (za : List Int) (hla : za.length = m) (_hna : m ≤ 1048576) (hqa : IntsAt w w.heap.size B za) :
    Calls Try.prog 61 #[.agg #[.slice A n cap], .slice B m cb] w fun e w' => e = .returned (.bool (namesB ps za)) ∧ Below w.heap.size w w' := by
  obtain ⟨r, hr⟩ : ∃ r, namesB ps za = r := ⟨_, rfl⟩
  have HR := Lib.hid hr
  rw [hr]
  clear hr
  have HE : Hid (r = (decide (m = 2) && isDiagB ps (za.getD 0 0) (za.getD 1 0))) := Lib.hid (by rw [← HR.out, ← hla]; rfl)
  clear HR
  go_enter Try.func61, Try.ntmps61
  go_wp2_with fail
  have X0 := Pts.boxR w (.slice A n cap) 29 (k := w.heap.size) (by simp)
  have b0 := PointOk.below1 w (Obj.cells #[.slice A n cap] 29)
  have HO : ∀ W W' : World, (Pts.BoxR W (w.heap.size) (.slice A n cap) ∧ PtsAt W w.heap.size A ps ∧ IntsAt W w.heap.size B za ∧ Below w.heap.size w W) → Below W.heap.size W W' → (Pts.BoxR W' (w.heap.size) (.slice A n cap) ∧ PtsAt W' w.heap.size A ps ∧ IntsAt W' w.heap.size B za ∧ Below w.heap.size w W') := fun W W' ⟨h0, x0, x1, hb⟩ h => ⟨h0.later h, x0.later (h.mono hb.size), x1.later (h.mono hb.size), hb.trans (h.mono hb.size)⟩
  have hz0_ : Hid (((w.alloc (Obj.cells #[.slice A n cap] 29))).heap.size = w.heap.size + 1) := Lib.hid (by simp)
  have Y0 : PtsAt ((w.alloc (Obj.cells #[.slice A n cap] 29))) w.heap.size A ps := hp.later b0
  have Y1 : IntsAt ((w.alloc (Obj.cells #[.slice A n cap] 29))) w.heap.size B za := hqa.later b0
  generalize (w.alloc (Obj.cells #[.slice A n cap] 29)) = w0 at X0 Y0 Y1 b0 hz0_ ⊢
  have S0 := (⟨X0, Y0, Y1, b0⟩ : Pts.BoxR w0 (w.heap.size) (.slice A n cap) ∧ PtsAt w0 w.heap.size A ps ∧ IntsAt w0 w.heap.size B za ∧ Below w.heap.size w w0)
  clear X0 Y0 Y1 b0
  obtain ⟨⟨_, _⟩, _, _, _⟩ := id S0
  by_cases c1 : m = 2
  rotate_left
  · have b1 : ((m : Int) == 2) = false := beq_eq_false_iff_ne.2 (by omega)
    have E : Hid (r = false) := Lib.hid (by rw [HE.out]; simp [c1])
    clear HE hl hla c1
    go_wp2_with fail
    refine Settle.region (fun W => Pts.BoxR W (w.heap.size) (.slice A n cap) ∧ PtsAt W w.heap.size A ps ∧ IntsAt W w.heap.size B za ∧ Below w.heap.size w W) (by kernel_rfl) (by kernel_rfl) (by kernel_rfl) (by kernel_rfl) (HO _ _ S0 ((Below.refl _ _).drew)) ?_
    clear S0
    repeat (first
      | (refine Settle.Settles.off (by rfl) ?_; simp only [Act.put, List.setIfInBounds_toArray, List.set_cons_zero, List.set_cons_succ])
      | (refine Settle.Settles.quiet (v := ?_) (by rfl) ?_ ?_
         rotate_left
         · (intro W hS; obtain ⟨⟨_, _⟩, _, _, _⟩ := hS; go_simp; with_reducible rfl)
         simp only [Act.put, List.setIfInBounds_toArray, List.set_cons_zero, List.set_cons_succ])
      | (refine Settle.Settles.call (v := ?_) (f := ?_) (args := ?_) (by rfl) ?_ ?_ ?_
         rotate_left 3
         · (intro W; go_simp; refine ⟨?_, ?_⟩ <;> with_reducible rfl)
         · (intro W hS; fail)
         simp only [Act.put, List.setIfInBounds_toArray, List.set_cons_zero, List.set_cons_succ]))
    refine Settle.Settles.nil ?_
    intro wr S0
    obtain ⟨⟨_, _⟩, _, _, _⟩ := id S0
    go_wp2_with fail
    go_ret
    exact ⟨ret_bool E.out.symm, S0.2.2.2⟩
  have b1 : ((m : Int) == 2) = true := by rw [beq_iff_eq]; omega
  have t2za := two_at (show za.length = 2 by omega)
  obtain ⟨ad, ead, bad, q0za⟩ := S0.2.2.1.get t2za.1
  obtain ⟨ad2, ead2, _, q1za⟩ := S0.2.2.1.get t2za.2
  rw [ead] at ead2
  injection ead2 with ead2
  subst ead2
  subst ead
  replace q0za := here q0za
  replace q1za := next q1za
  generalize za.getD 0 0 = a0 at *
  generalize za.getD 1 0 = a1 at *
  have g0 : (0 : Int) < (m : Int) := by omega
  have g0n : 0 < m := by omega
  have g1n : 1 < m := by omega
  have g1 : (1 : Int) < (m : Int) := by omega
  have QA : Hid (∀ w hp, _) := Lib.hid fun w hp => DiagImpl.isDiagonal A n cap a0 a1 w ps hl hn hp
  have E : Hid (isDiagB ps a0 a1 = r) := Lib.hid (by rw [HE.out, decide_eq_true c1]; rfl)
  rw [E.out] at QA
  have HO : ∀ W W' : World, (BoxR W w.heap.size (.slice A n cap) ∧ PtsAt W w.heap.size A ps ∧ IntHere W ad a0 ∧ IntNext W ad a1 ∧ Below w.heap.size w W) → Below W.heap.size W W' → (BoxR W' w.heap.size (.slice A n cap) ∧ PtsAt W' w.heap.size A ps ∧ IntHere W' ad a0 ∧ IntNext W' ad a1 ∧ Below w.heap.size w W') := fun W W' ⟨x0, x1, x2, x3, hb⟩ h => ⟨x0.later h, x1.later (h.mono hb.size), x2.later bad (h.mono hb.size), x3.later bad (h.mono hb.size), hb.trans (h.mono hb.size)⟩
  replace S0 : BoxR w0 w.heap.size (.slice A n cap) ∧ PtsAt w0 w.heap.size A ps ∧ IntHere w0 ad a0 ∧ IntNext w0 ad a1 ∧ Below w.heap.size w w0 := ⟨S0.1, S0.2.1, q0za, q1za, S0.2.2.2⟩
  clear q0za q1za t2za hqa HE E hl hla c1
  obtain ⟨⟨_, _⟩, _, ⟨_, _⟩, ⟨_, _⟩, _⟩ := id S0
  go_wp2_with fail
  refine Settle.region (fun W => BoxR W w.heap.size (.slice A n cap) ∧ PtsAt W w.heap.size A ps ∧ IntHere W ad a0 ∧ IntNext W ad a1 ∧ Below w.heap.size w W) (by kernel_rfl) (by kernel_rfl) (by kernel_rfl) (by kernel_rfl) (HO _ _ S0 ((Below.refl _ _).drew)) ?_
  clear S0
  repeat (first
    | (refine Settle.Settles.off (by rfl) ?_; simp only [Act.put, List.setIfInBounds_toArray, List.set_cons_zero, List.set_cons_succ])
    | (refine Settle.Settles.quiet (v := ?_) (by rfl) ?_ ?_
       rotate_left
       · (intro W hS; obtain ⟨⟨_, _⟩, _, ⟨_, _⟩, ⟨_, _⟩, _⟩ := hS; go_simp; with_reducible rfl)
       simp only [Act.put, List.setIfInBounds_toArray, List.set_cons_zero, List.set_cons_succ])
    | (refine Settle.Settles.call (v := ?_) (f := ?_) (args := ?_) (by rfl) ?_ ?_ ?_
       rotate_left 3
       · (intro W; go_simp; refine ⟨?_, ?_⟩ <;> with_reducible rfl)
       · (intro W hS; first | (go_at_call 16; (with_reducible refine (QA.out _ (hS.2.1.wide hS.2.2.2.2.size)).mono ?_); rintro e W1 ⟨rfl, hb⟩; refine ⟨?_, HO _ _ hS hb⟩; with_reducible rfl))
       simp only [Act.put, List.setIfInBounds_toArray, List.set_cons_zero, List.set_cons_succ]))
  refine Settle.Settles.nil ?_
  intro wr S0
  obtain ⟨⟨_, _⟩, _, ⟨_, _⟩, ⟨_, _⟩, _⟩ := id S0
  go_wp2_with fail
  go_ret
  exact ⟨rfl, S0.2.2.2.2⟩

set_option maxRecDepth 100000 in
set_option maxHeartbeats 6400000 in
theorem dd (A : Option Addr) (n cap : Nat) (B : Option Addr) (m cb : Nat) (C : Option Addr) (k cc : Nat) (w : World) (ps : List (Int × Int)) (hl : ps.length = n) (hn : n ≤ 1048576) (hp : PtsAt w w.heap.size A ps) (za : List Int) (hla : za.length = m) (hna : m ≤ 1048576) (hqa : IntsAt w w.heap.size B za) (zb : List Int) (hlb : zb.length = k) (hnb : k ≤ 1048576) (hqb : IntsAt w w.heap.size C zb) :
    Calls Try.prog 29 #[.agg #[.slice A n cap], .slice B m cb, .slice C k cc] w fun e w' => e = .returned (.bool (crossDB ps za zb)) ∧ Below w.heap.size w w' := by
  obtain ⟨r, hr⟩ : ∃ r, crossDB ps za zb = r := ⟨_, rfl⟩
  have HR := Lib.hid hr
  rw [hr]
  clear hr
  go_enter Try.func29, Try.ntmps29
  go_wp2_with fail
  have X0 := Pts.boxR w (.slice A n cap) 29 (k := w.heap.size) (by simp)
  have b0 := PointOk.below1 w (Obj.cells #[.slice A n cap] 29)
  have HO : ∀ W W' : World, (Pts.BoxR W (w.heap.size) (.slice A n cap) ∧ PtsAt W w.heap.size A ps ∧ IntsAt W w.heap.size B za ∧ IntsAt W w.heap.size C zb ∧ Below w.heap.size w W) → Below W.heap.size W W' → (Pts.BoxR W' (w.heap.size) (.slice A n cap) ∧ PtsAt W' w.heap.size A ps ∧ IntsAt W' w.heap.size B za ∧ IntsAt W' w.heap.size C zb ∧ Below w.heap.size w W') := fun W W' ⟨h0, x0, x1, x2, hb⟩ h => ⟨h0.later h, x0.later (h.mono hb.size), x1.later (h.mono hb.size), x2.later (h.mono hb.size), hb.trans (h.mono hb.size)⟩
  have hz0_ : Hid (((w.alloc (Obj.cells #[.slice A n cap] 29))).heap.size = w.heap.size + 1) := Lib.hid (by simp)
  have Y0 : PtsAt ((w.alloc (Obj.cells #[.slice A n cap] 29))) w.heap.size A ps := hp.later b0
  have Y1 : IntsAt ((w.alloc (Obj.cells #[.slice A n cap] 29))) w.heap.size B za := hqa.later b0
  have Y2 : IntsAt ((w.alloc (Obj.cells #[.slice A n cap] 29))) w.heap.size C zb := hqb.later b0
  generalize (w.alloc (Obj.cells #[.slice A n cap] 29)) = w0 at X0 Y0 Y1 Y2 b0 hz0_ ⊢
  have S0 := (⟨X0, Y0, Y1, Y2, b0⟩ : Pts.BoxR w0 (w.heap.size) (.slice A n cap) ∧ PtsAt w0 w.heap.size A ps ∧ IntsAt w0 w.heap.size B za ∧ IntsAt w0 w.heap.size C zb ∧ Below w.heap.size w w0)
  clear X0 Y0 Y1 Y2 b0
  obtain ⟨⟨_, _⟩, _, _, _, _⟩ := id S0
  refine (names A n cap B m cb _ ps hl hn (S0.2.1.wide S0.2.2.2.2.size) za hla hna (S0.2.2.1.wide S0.2.2.2.2.size)).mono ?_
  rintro e w1 ⟨rfl, hb_⟩
  replace S0 := HO _ _ S0 hb_
  clear hb_
  obtain ⟨⟨_, _⟩, _, _, _, _⟩ := id S0
  cases d1 : namesB ps za
  · have E : Hid (r = false) := Lib.hid (by rw [← HR.out]; unfold crossDB; rw [d1]; rfl)
    clear hl hla hlb HR d1
    go_wp2_with fail
    go_ret
    exact ⟨ret_bool E.out.symm, S0.2.2.2.2⟩
  go_wp2_with fail
  refine (names A n cap C k cc _ ps hl hn (S0.2.1.wide S0.2.2.2.2.size) zb hlb hnb (S0.2.2.2.1.wide S0.2.2.2.2.size)).mono ?_
  rintro e w2 ⟨rfl, hb_⟩
  replace S0 := HO _ _ S0 hb_
  clear hb_
  obtain ⟨⟨_, _⟩, _, _, _, _⟩ := id S0
  cases d2 : namesB ps zb
  · have E : Hid (r = false) := Lib.hid (by rw [← HR.out]; unfold crossDB; rw [d1, d2]; rfl)
    clear hl hla hlb HR d1 d2
    go_wp2_with fail
    go_ret
    exact ⟨ret_bool E.out.symm, S0.2.2.2.2⟩
  have HE : Hid (r = cutP (pt ps (za.getD 0 0).toNat) (pt ps (za.getD 1 0).toNat) (pt ps (zb.getD 0 0).toNat) (pt ps (zb.getD 1 0).toNat)) := Lib.hid (by rw [← HR.out]; unfold crossDB; rw [d1, d2]; rfl)
  have f1 := d1
  have f2 := d2
  unfold namesB at f1 f2
  rw [Bool.and_eq_true, decide_eq_true_eq] at f1 f2
  clear HR d1 d2
  have t2za := two_at (show za.length = 2 by omega)
  obtain ⟨ad, ead, bad, q0za⟩ := S0.2.2.1.get t2za.1
  obtain ⟨ad2, ead2, _, q1za⟩ := S0.2.2.1.get t2za.2
  rw [ead] at ead2
  injection ead2 with ead2
  subst ead2
  subst ead
  replace q0za := here q0za
  replace q1za := next q1za
  generalize za.getD 0 0 = a0 at *
  generalize za.getD 1 0 = a1 at *
  have t2zb := two_at (show zb.length = 2 by omega)
  obtain ⟨bd, ebd, bbd, q0zb⟩ := S0.2.2.2.1.get t2zb.1
  obtain ⟨bd2, ebd2, _, q1zb⟩ := S0.2.2.2.1.get t2zb.2
  rw [ebd] at ebd2
  injection ebd2 with ebd2
  subst ebd2
  subst ebd
  replace q0zb := here q0zb
  replace q1zb := next q1zb
  generalize zb.getD 0 0 = b0_ at *
  generalize zb.getD 1 0 = b1_ at *
  have g0 : (0 : Int) < (m : Int) := by omega
  have g0n : 0 < m := by omega
  have g1n : 1 < m := by omega
  have g2n : 0 < k := by omega
  have g3n : 1 < k := by omega
  have g1 : (1 : Int) < (m : Int) := by omega
  have g2 : (0 : Int) < (k : Int) := by omega
  have g3 : (1 : Int) < (k : Int) := by omega
  obtain ⟨hr, i, j, rfl, rfl, hi, hj, hij⟩ := isDiagB_yes f1.2
  obtain ⟨_, s, t, rfl, rfl, hs, ht, hst⟩ := isDiagB_yes f2.2
  replace HE : Hid (r = cutP (pt ps i) (pt ps j) (pt ps s) (pt ps t)) := HE
  have once := room_once hr
  have hok := (roomB_yes hr).2.1
  have wd : ∀ a b, a < ps.length → b < ps.length → a ≠ b → okW (pt ps a).1 (pt ps a).2 (pt ps b).1 (pt ps b).2 = true := by
    intro a b ha hb hab
    unfold okW
    rw [okAll_at hok ha, okAll_at hok hb]
    have : ¬((pt ps a).1 = (pt ps b).1 ∧ (pt ps a).2 = (pt ps b).2) := fun ⟨e1, e2⟩ => hab (once a ha b hb (Prod.ext e1 e2))
    simp only [Bool.true_and, Bool.not_eq_true', Bool.and_eq_false_iff, decide_eq_false_iff_not]
    by_cases h : (pt ps a).1 = (pt ps b).1
    · exact .inr fun e => this ⟨h, e⟩
    · exact .inl h
  have HW : Hid (crossB (pt ps i).1 (pt ps i).2 (pt ps j).1 (pt ps j).2 (pt ps s).1 (pt ps s).2 (pt ps t).1 (pt ps t).2 = r) := Lib.hid (by rw [HE.out, crossB_cut (wd i j hi hj hij) (wd s t hs ht hst)]; rfl)
  have Q1 : Hid (∀ w hp, _) := Lib.hid fun w hp => DiagImpl.wayOf A n cap i j w ps hl (by omega) (by omega) hp
  have Q2 : Hid (∀ w hp, _) := Lib.hid fun w hp => DiagImpl.wayOf A n cap s t w ps hl (by omega) (by omega) hp
  have Q3 : Hid (∀ w, _) := Lib.hid fun w => WallImpl.doCross (pt ps i).1 (pt ps i).2 (pt ps j).1 (pt ps j).2 (pt ps s).1 (pt ps s).2 (pt ps t).1 (pt ps t).2 w
  rw [HW.out] at Q3
  generalize pt ps i = pa at *
  generalize pt ps j = pb at *
  generalize pt ps s = pc at *
  generalize pt ps t = pd at *
  have HO : ∀ W W' : World, (BoxR W w.heap.size (.slice A n cap) ∧ PtsAt W w.heap.size A ps ∧ IntHere W ad (i : Int) ∧ IntNext W ad (j : Int) ∧ IntHere W bd (s : Int) ∧ IntNext W bd (t : Int) ∧ Below w.heap.size w W) → Below W.heap.size W W' → (BoxR W' w.heap.size (.slice A n cap) ∧ PtsAt W' w.heap.size A ps ∧ IntHere W' ad (i : Int) ∧ IntNext W' ad (j : Int) ∧ IntHere W' bd (s : Int) ∧ IntNext W' bd (t : Int) ∧ Below w.heap.size w W') := fun W W' ⟨x0, x1, x2, x3, x4, x5, hb⟩ h => ⟨x0.later h, x1.later (h.mono hb.size), x2.later bad (h.mono hb.size), x3.later bad (h.mono hb.size), x4.later bbd (h.mono hb.size), x5.later bbd (h.mono hb.size), hb.trans (h.mono hb.size)⟩
  replace S0 : BoxR w2 w.heap.size (.slice A n cap) ∧ PtsAt w2 w.heap.size A ps ∧ IntHere w2 ad (i : Int) ∧ IntNext w2 ad (j : Int) ∧ IntHere w2 bd (s : Int) ∧ IntNext w2 bd (t : Int) ∧ Below w.heap.size w w2 := ⟨S0.1, S0.2.1, q0za, q1za, q0zb, q1zb, S0.2.2.2.2⟩
  clear q0za q1za q0zb q1zb t2za t2zb hqa hqb wd once hok HE HW hl hla hlb hr f1 f2 hi hj hs ht hij hst
  obtain ⟨⟨_, _⟩, _, ⟨_, _⟩, ⟨_, _⟩, ⟨_, _⟩, ⟨_, _⟩, _⟩ := id S0
  go_wp2_with fail
  refine Settle.region (fun W => BoxR W w.heap.size (.slice A n cap) ∧ PtsAt W w.heap.size A ps ∧ IntHere W ad (i : Int) ∧ IntNext W ad (j : Int) ∧ IntHere W bd (s : Int) ∧ IntNext W bd (t : Int) ∧ Below w.heap.size w W) (by kernel_rfl) (by kernel_rfl) (by kernel_rfl) (by kernel_rfl) (HO _ _ S0 ((Below.refl _ _).drew)) ?_
  clear S0
  repeat (first
    | (refine Settle.Settles.off (by rfl) ?_; simp only [Act.put, List.setIfInBounds_toArray, List.set_cons_zero, List.set_cons_succ])
    | (refine Settle.Settles.quiet (v := ?_) (by rfl) ?_ ?_
       rotate_left
       · (intro W hS; obtain ⟨⟨_, _⟩, _, ⟨_, _⟩, ⟨_, _⟩, ⟨_, _⟩, ⟨_, _⟩, _⟩ := hS; go_simp; with_reducible rfl)
       simp only [Act.put, List.setIfInBounds_toArray, List.set_cons_zero, List.set_cons_succ])
    | (refine Settle.Settles.call (v := ?_) (f := ?_) (args := ?_) (by rfl) ?_ ?_ ?_
       rotate_left 3
       · (intro W; go_simp; refine ⟨?_, ?_⟩ <;> with_reducible rfl)
       · (intro W hS; first | (go_at_call 63; (with_reducible refine (Q1.out _ (hS.2.1.wide hS.2.2.2.2.2.2.size)).mono ?_); rintro e W1 ⟨rfl, hb⟩; refine ⟨?_, HO _ _ hS hb⟩; with_reducible rfl) | (go_at_call 63; (with_reducible refine (Q2.out _ (hS.2.1.wide hS.2.2.2.2.2.2.size)).mono ?_); rintro e W1 ⟨rfl, hb⟩; refine ⟨?_, HO _ _ hS hb⟩; with_reducible rfl) | (go_at_call 62; (with_reducible refine (Q3.out _).mono ?_); rintro e W1 ⟨rfl, hb⟩; refine ⟨?_, HO _ _ hS hb⟩; with_reducible rfl))
       simp only [Act.put, List.setIfInBounds_toArray, List.set_cons_zero, List.set_cons_succ]))
  refine Settle.Settles.nil ?_
  intro wr S0
  obtain ⟨⟨_, _⟩, _, ⟨_, _⟩, ⟨_, _⟩, ⟨_, _⟩, ⟨_, _⟩, _⟩ := id S0
  go_wp2_with fail
  go_ret
  exact ⟨rfl, S0.2.2.2.2.2.2⟩

end Go.Proofs.Ytkoogklakacphaa.CrossImpl

