/-
  For every slice of bytes, the landed functions on houses keep the promise at the house and the two halls that are drawn from them: the law's call returns true and writes nothing that was there. No condition.
-/
import Derived.Test.YtcfoleiooohbhaaRows
import Derived.WalkKit
import Derived.ProofKit
import Derived.OpenShut
import Derived.ShutString
import Derived.Test.YtcfoleiooohbhaaHouImpl
import Derived.Test.YtcfoleiooohbhaaHouWimpl
import Derived.Test.YtcfoleiooohbhaaHouOimpl
import Derived.Test.YtcfoleiooohbhaaHouXimpl
import Derived.Test.YtcfoleiooohbhaaHouLimpl
import Derived.Test.YtcfoleiooohbhaaHasMath
import Derived.Test.YtcfoleiooohbhaaDrawHouses
import Derived.Test.YtcfoleiooohbhaaAtMath
import Derived.Test.YtcfoleiooohbhaaGround
import Derived.Test.YtcfoleiooohbhaaHouBox
namespace Go.Proofs.Ytcfoleiooohbhaa.fnHouses
open Go.ChangeShapes Go.WideShapes Go.ChangeAt Go.RowKit
open Go.ChangeMaps (open_string shut_string)
open PointOk HouReach Draw DrawNum HouMath HouMathB HouMathD HouLink HouLevel HouSeq HasMath Ints Pts DrawHouses AtMath Go.Proofs.Ytcfoleiooohbhaa.Own
set_option linter.unusedVariables false

theorem own : ownKnob Try.prog.godebug = none := by kernel_rfl
theorem laidOut : laidOutB Try.prog = true := by kernel_rfl

/-- What is known of a slice of integers that came in: nil, or a row of 'cap' cells. -/
def IsRow (k : IntKind) (w : World) (a : Option Addr) (len cap : Nat) (zs : List Int) : Prop :=
  (a = none ∧ len = 0 ∧ cap = 0 ∧ zs = []) ∨
  ∃ x, a = some x ∧ len ≤ cap ∧ cap ≤ maxLen ∧ zs.length = cap ∧ (∀ i, i < zs.length → w.cell? (x.add i) = some (.int k (zs.getD i 0))) ∧ ∀ n ∈ zs, (Lit.int k n).wf = true

theorem ptsH {w : World} {b T n c : Nat} {A : Option Addr} {ps : List (Int × Int)} (h : w.ownsRow b T 2 (.slice A n c) n (cellsP ps)) (hl : ps.length = n) : PtsAt w w.heap.size A ps := by
  intro j hj
  obtain ⟨g, c', hv, hb, hlt⟩ := h.form (by omega)
  obtain ⟨rfl, rfl⟩ : A = some ⟨g, 0, none⟩ ∧ c = c' := by injection hv with h1 _ h3; exact ⟨h1, h3⟩
  obtain ⟨e0, e1⟩ := cellsP_at ps j hj
  exact ⟨_, rfl, hlt, by rw [add_head]; exact (h.cellAt (j * 2) (by omega)).trans e0, by rw [add_head]; exact (h.cellAt (j * 2 + 1) (by omega)).trans e1⟩
/-- What stands while the halls are counted. -/
structure LH (w : World) (B gh N : Nat) (A1 : Option Addr) (n c1 : Nat) (ds : List (Int × Int)) (A2 : Option Addr) (x : List Int) (W : World) : Prop where
  lt : gh < B
  wb : w.heap.size ≤ B
  box : HouBox.BoxH W gh N A1 n c1
  pts : PtsAt W B A1 ds
  ins : IntsAt W B A2 x
  bl : Below w.heap.size w W
  sz : B ≤ W.heap.size
theorem LH.later {w W W' : World} {B gh N n c1 : Nat} {A1 A2 : Option Addr} {ds : List (Int × Int)} {x : List Int} (h : LH w B gh N A1 n c1 ds A2 x W) (hb : Below B W W') : LH w B gh N A1 n c1 ds A2 x W' :=
  ⟨h.lt, h.wb, ⟨(hb.cell (p := ⟨gh, 0, none⟩) h.lt).trans h.box.1, (hb.cell (p := ⟨gh, 1, none⟩) h.lt).trans h.box.2⟩, h.pts.later hb, h.ins.later hb, h.bl.trans (hb.mono h.wb), Nat.le_trans h.sz hb.size⟩
theorem infoI : (Try.prog.info? 3).map (fun i => (i.zero, i.size, i.bytes)) = some (some (.int .i64 0), 1, 8) := by kernel_rfl
set_option maxRecDepth 100000 in
set_option maxHeartbeats 16000000 in
theorem walk (w : World) (a0 : Option Addr) (len0 cap0 : Nat) (z0 : List Int) (w0 : IsRow .u8 w a0 len0 cap0 z0) :
    Calls Try.prog 4 #[.slice a0 len0 cap0] w fun e w' => e = .returned (.bool true) ∧ Below w.heap.size w w' := by
  have hcode : Draw.Code w w.heap.size a0 len0 := code_of_row w0
  by_cases hbig : (1048576 : Int) < (len0 : Int)
  · go_enter Try.func4, Try.ntmps4
    go_wp2_with fail
    refine (big _ a0 len0 cap0).mono ?_
    rintro e w' ⟨rfl, rfl⟩
    go_wp2_with fail
    go_ret
    exact ⟨rfl, Below.refl _ _⟩
  have hlen : len0 ≤ 1048576 := by omega
  go_enter Try.func4, Try.ntmps4
  go_wp2_with fail
  refine (big _ a0 len0 cap0).mono ?_
  rintro e w' ⟨rfl, rfl⟩
  go_wp2_with fail
  refine (drawHouse _ a0 len0 cap0 hlen hcode).mono ?_
  rintro e v0 ⟨N, a, b, ds, A1, c1, ⟨hN1, hN7, hv, hd⟩, ha, hb, rfl, O1, HB⟩
  obtain ⟨n, hn⟩ : ∃ m, ds.length = m := ⟨_, rfl⟩
  rw [hn] at O1 hd ⊢
  clear w0 hbig
  go_wp2_with fail
  have X3 := HouBox.boxH v0 N A1 n c1 41 (k := v0.heap.size) rfl
  have B1 := PointOk.below1 v0 (Obj.cells #[.int .i64 (N : Int), .slice A1 n c1] 41)
  replace O1 := Lib.hid (own_below O1 B1)
  replace HB := HB.trans (B1.mono HB.size)
  obtain ⟨gh, hgh⟩ : ∃ g, v0.heap.size = g := ⟨_, rfl⟩
  rw [hgh] at X3 ⊢
  clear B1 hgh
  generalize (v0.alloc (Obj.cells #[.int .i64 (N : Int), .slice A1 n c1] 41)) = v1 at *
  have hN0 : ¬ ((N : Int) = 0) := by omega
  have hN1' : ¬ (N = 0) := by omega
  have hN2 : ((N : Int) == 0) = false := beq_eq_false_iff_ne.2 hN0
  have HCd := code_later (w' := v1.drew) hcode (HB.trans (Below.refl w.heap.size v1).drew)
  have HS : v1.drew.cell? ⟨gh, 0, none⟩ = some (.int .i64 (N : Int)) ∧ v1.drew.cell? ⟨gh, 1, none⟩ = some (.slice A1 n c1) := X3
  have O1d := Lib.hid (own_below O1.out (Below.refl v1.heap.size v1).drew)
  have HBd := HB.trans (Below.refl w.heap.size v1).drew
  clear O1 HB X3
  go_region_held3 (fun W => W.cell? ⟨gh, 0, none⟩ = some (.int .i64 (N : Int)) ∧ W.cell? ⟨gh, 1, none⟩ = some (.slice A1 n c1)) (first | (with_reducible assumption) | (with_reducible exact HS)) (first | (go_at_call 15; (with_reducible refine (at0 a0 len0 cap0 _ _ HCd hlen).mono ?_); rintro e w' ⟨y, ⟨hy0, hy1⟩, rfl, rfl⟩; obtain ⟨c, hky⟩ : ∃ c : Nat, y % (N : Int) = (c : Int) := ⟨(y % (N : Int)).toNat, by have := Int.emod_nonneg y (show (N : Int) ≠ 0 by omega); omega⟩; have hc : c < N := (by have := Int.emod_lt_of_pos y (show (0 : Int) < (N : Int) by omega); omega); have hkt : y.tmod (N : Int) = (c : Int) := (by rw [Int.tmod_eq_emod_of_nonneg hy0]; exact hky); have uk : IntKind.i64.wrap (c : Int) = (c : Int) := IntWalk.i64_in _ (by omega)))
  clear HCd hN0 hN1' hN2 hkt uk hky hy0 hy1 hcode
  obtain ⟨i0, hi, hz0, hz1, hz2⟩ := info_parts infoI
  have e01 := way_at hv ha hb
  have e02 := way_at hv hb ha
  have e03 := way_at hv ha hc
  have e04 := way_at hv hc hb
  have l1 := dist_comm hv ha hb
  have l2 := dist_tri hv ha hb hc
  have l3 := dist_zero hv ha hb
  have l4 := dist_one hv ha hb
  have l5 := house_dist hv ha hb
  have l6 := dist_hi (ds := ds) ha hb
  have l7 := dist_hi (ds := ds) ha hc
  have l8 := dist_hi (ds := ds) hc hb
  have l9 := house_dist hv ha hc
  have l10 := house_dist hv hc hb
  rw [← l1] at e02
  clear l1
  generalize (dist N ds a).getD b 0 = D at *
  generalize (dist N ds a).getD c 0 = p at *
  generalize (dist N ds c).getD b 0 = q at *
  have HL := Lib.hid (fun k (hk : k < N) => doors_at hv ha hk)
  have HA := Lib.hid (all_linked hv hN1)
  have Q1 := Lib.hid fun W h => HouWimpl.hallDistance N A1 n c1 a b W ds hn (by omega) h
  rw [e01] at Q1
  have Q2 := Lib.hid fun W h => HouOimpl.doorsFrom N A1 n c1 a W ds hn (by omega) h
  have Q3 := Lib.hid fun W h => HouWimpl.hallDistance N A1 n c1 b a W ds hn (by omega) h
  rw [e02] at Q3
  have Q4 := Lib.hid fun W h => HouWimpl.hallDistance N A1 n c1 a c W ds hn (by omega) h
  rw [e03] at Q4
  have Q5 := Lib.hid fun W h => HouWimpl.hallDistance N A1 n c1 c b W ds hn (by omega) h
  rw [e04] at Q5
  have Q6 := Lib.hid fun W h => HouXimpl.hasDoor N A1 n c1 a b W ds hn (by omega) h
  have Q7 := Lib.hid fun (k : Nat) W h => HouXimpl.hasDoor N A1 n c1 a k W ds hn (by omega) h
  have Q8 := Lib.hid fun W h => HouImpl.houseOk N A1 n c1 W ds hn (by omega) h
  rw [hv] at Q8
  have Q9 := Lib.hid fun A c W h1 h2 => HouLimpl.areLinked N A1 n c1 A N c W ds hn (by omega) h1 (ci (List.range N)) (all_len N) (by omega) h2
  rw [HA.out] at Q9
  have E6 : hasDoorB N ds a b = decide (D = 1) := by
    unfold hasDoorB
    rw [hv, Bool.true_and, Bool.eq_iff_iff, decide_eq_true_eq]
    exact l4.symm
  rw [E6] at Q6
  have hxm := doors_len N ds a
  generalize doorsL N ds a = x at *
  clear e01 e02 e03 e04 l4 HA E6 hv
  generalize v1.drew = w1 at *
  have TH : ∀ W : World, Hid (W.ownsRow w.heap.size 83 2 (.slice A1 n c1) n (cellsP ds)) → PtsAt W W.heap.size A1 ds := fun W h => ptsH h.out hn
  have HO : ∀ W W' : World, (HouBox.BoxH W gh N A1 n c1 ∧ Hid (W.ownsRow w.heap.size 83 2 (.slice A1 n c1) n (cellsP ds)) ∧ Below w.heap.size w W) → Below W.heap.size W W' → (HouBox.BoxH W' gh N A1 n c1 ∧ Hid (W'.ownsRow w.heap.size 83 2 (.slice A1 n c1) n (cellsP ds)) ∧ Below w.heap.size w W') := fun W W' ⟨x0, x1, hb⟩ h => ⟨x0.later h, Lib.hid (own_below (x1).out h), hb.trans (h.mono hb.size)⟩
  have S0 : HouBox.BoxH w1 gh N A1 n c1 ∧ Hid (w1.ownsRow w.heap.size 83 2 (.slice A1 n c1) n (cellsP ds)) ∧ Below w.heap.size w w1 := ⟨HS, O1d, HBd⟩
  clear O1d HBd HS
  obtain ⟨⟨_, _⟩, _, _⟩ := id S0
  go_wp2_with fail
  refine (Q1.out _ (TH _ S0.2.1)).mono ?_
  rintro e w2 ⟨rfl, hb_⟩
  replace S0 := HO _ _ S0 hb_
  clear hb_
  obtain ⟨⟨_, _⟩, _, _⟩ := id S0
  go_wp2_with fail
  unfold GivesI at Q2
  obtain ⟨m, hm⟩ : ∃ m, x.length = m := ⟨_, rfl⟩
  rw [hm] at Q2 hxm
  refine (Q2.out _ (TH _ S0.2.1)).mono ?_
  rintro e w3 ⟨A2, c2, rfl, O2, hb_⟩
  replace O2 := Lib.hid (own_base O2 (b' := w.heap.size) S0.2.2.size)
  replace S0 := HO _ _ S0 hb_
  clear hb_ Q1 Q2
  obtain ⟨⟨_, _⟩, _, _⟩ := id S0
  go_wp2_with fail
  have HB1 := PointOk.below1 w3 (Obj.cells #[] 3)
  have HOWN := own_empty w3 3 1
  have L0 : LH w w3.heap.size gh N A1 n c1 ds A2 x (w3.alloc (Obj.cells #[] 3)) := LH.later ⟨World.block_lt_of_cell? _ _ S0.1.1, S0.2.2.size, S0.1, TH _ S0.2.1, ints_own O2.out hm, S0.2.2, Nat.le_refl _⟩ HB1
  obtain ⟨B, hB⟩ : ∃ B, w3.heap.size = B := ⟨_, rfl⟩
  rw [hB] at HOWN L0 ⊢
  generalize (w3.alloc (Obj.cells #[] 3)) = w4 at *
  have H0 : Hid (w4.ownsRow B 3 1 (.slice (some ⟨B, 0, none⟩) 0 0) 0 (icells (ci (List.range 0)))) := Lib.hid HOWN
  clear S0 HO O2 TH HOWN HB1 hB
  replace L0 := Lib.hid L0
  go_loopw [9, 10] (fun v i wr => ∃ k : Nat, k ≤ N ∧ i = .int .i64 k ∧ Hid (wr.ownsRow B 3 1 v k (icells (ci (List.range k)))) ∧ Hid (LH w B gh N A1 n c1 ds A2 x wr)) (fun _ i _ => N - (intOf i).toNat)
  case atStart => exact ⟨0, Nat.zero_le _, rfl, H0, L0⟩
  case round =>
    clear H0 L0
    obtain ⟨k, hkN, rfl, hO, hL⟩ := hrel
    obtain ⟨A5, c5, rfl⟩ := own_shape hO.out
    obtain ⟨_, _⟩ := hL.out.box
    by_cases hlt : k < N
    · have hkI : (k : Int) < (N : Int) := by omega
      have hown := hO.out
      have hsz := hL.out.sz
      have hwb := hL.out.wb
      have hlk : (icells (ci (List.range k))).length = k := by rw [icells_length]; exact all_len k
      have hsn : icells (ci (List.range (k + 1))) = icells (ci (List.range k)) ++ [.int .i64 (k : Int)] := by rw [all_snoc, icells_snoc]
      have q7 := Lib.hid (fun W h => Q7.out k W h)
      rw [HL.out k hlt] at q7
      have q0 := Lib.hid (fun W h => has A2 m c2 W x (k : Int) hm hxm h)
      generalize decide ((k : Int) ∈ x) = o at *
      clear hO Q3 Q4 Q5 Q6 Q7 Q8 Q9 HL
      go_wp2_with (at_builtin; refine wpList_append_own _ rfl _ _ 31 rfl B 3 i0 (.int .i64 0) 1 8 Try.underlying31 hi hz0 hz1 hz2 rfl (by decide) _ _ _ rfl (hown.alloc _) ⟨wr.heap.size, 0, none⟩ 1 1 [.int .i64 (k : Int)] rfl rfl ?c1 ?c2 ?c3 ?c4 ?c5 ?_)
      case c1 => (intro j u hj; match j, hj with | 0, hj => (simp at hj; subst hj; simp [Addr.add]))
      case c2 => (intro u hu; simp at hu; subst hu; rfl)
      case c3 => (unfold maxLen; omega)
      case c4 => omega
      case c5 => (simp; omega)
      intro v1_ wa_ ho_ hg_ _
      have hb0 : Below B wr (wr.alloc (Obj.cells #[.int .i64 (k : Int)] 3)) := (below1 _ _).mono hsz
      have hb1 := hb0.grown hg_ (by simp; omega) (fun g hg => (hown.lt g hg).1)
      have hL1 := Lib.hid (hL.out.later hb1)
      have hO1 : Hid (wa_.ownsRow B 3 1 v1_ (k + 1) (icells (ci (List.range (k + 1))))) := Lib.hid (by rw [hsn]; exact ho_)
      clear ho_ hg_ hown hb0 hb1 hL hlk hsn
      obtain ⟨_, _⟩ := hL1.out.box
      go_wp2_with fail
      refine (q7.out _ (hL1.out.pts.wide hL1.out.sz)).mono ?_
      rintro e w5 ⟨rfl, hb_⟩
      have hL2 := Lib.hid (hL1.out.later (hb_.mono hL1.out.sz))
      have hO2 := Lib.hid (own_below hO1.out hb_)
      clear hL1 hO1 hb_ q7
      obtain ⟨_, _⟩ := hL2.out.box
      go_wp2_with fail
      refine (q0.out _ (hL2.out.ins.wide hL2.out.sz)).mono ?_
      rintro e w6 ⟨rfl, rfl⟩
      clear q0
      cases o
      · skip
        go_wp2_with fail
        first
          | exact ⟨⟨k + 1, by omega, by go_num, hO2, hL2⟩, by simp [intOf]; omega⟩
          | (go_roundw <;> first | exact ⟨k + 1, by omega, by go_num, hO2, hL2⟩ | (simp [intOf]; omega))
      · skip
        go_wp2_with fail
        first
          | exact ⟨⟨k + 1, by omega, by go_num, hO2, hL2⟩, by simp [intOf]; omega⟩
          | (go_roundw <;> first | exact ⟨k + 1, by omega, by go_num, hO2, hL2⟩ | (simp [intOf]; omega))
    obtain rfl : k = N := by omega
    have uw : IntKind.i64.wrap (p + q) = p + q := IntWalk.i64_in _ (by omega)
    have HO : ∀ W W' : World, (HouBox.BoxH W gh k A1 n c1 ∧ Hid (PtsAt W W.heap.size A1 ds) ∧ Hid (IntsAt W W.heap.size A5 (ci (List.range k))) ∧ Below w.heap.size w W) → Below W.heap.size W W' → (HouBox.BoxH W' gh k A1 n c1 ∧ Hid (PtsAt W' W'.heap.size A1 ds) ∧ Hid (IntsAt W' W'.heap.size A5 (ci (List.range k))) ∧ Below w.heap.size w W') := fun W W' ⟨x0, x1, x2, hb⟩ h => ⟨x0.later h, Lib.hid (((x1).out.later h).wide h.size), Lib.hid (((x2).out.later h).wide h.size), hb.trans (h.mono hb.size)⟩
    have S0 : HouBox.BoxH wr gh k A1 n c1 ∧ Hid (PtsAt wr wr.heap.size A1 ds) ∧ Hid (IntsAt wr wr.heap.size A5 (ci (List.range k))) ∧ Below w.heap.size w wr := ⟨hL.out.box, Lib.hid (hL.out.pts.wide hL.out.sz), Lib.hid (ints_own hO.out (all_len k)), hL.out.bl⟩
    clear hL hO Q7 HL l6 l7 l8 l9 l10
    obtain ⟨⟨_, _⟩, _, _, _⟩ := id S0
    go_wp2_with fail
    rcases (by omega : (a = b ∧ D = 0) ∨ ((¬ a = b ∧ D = 1) ∨ (¬ a = b ∧ ¬ D = 0 ∧ ¬ D = 1))) with ⟨h1, h2⟩ | ⟨h1, h2⟩ | ⟨h1, h2, h3⟩
    · skip
      subst h1 h2
      have d0 : decide ((0 : Int) = 1) = false := rfl
      rw [d0] at Q6
      refine Settle.region (fun W => HouBox.BoxH W gh k A1 n c1 ∧ Hid (PtsAt W W.heap.size A1 ds) ∧ Hid (IntsAt W W.heap.size A5 (ci (List.range k))) ∧ Below w.heap.size w W) (by kernel_rfl) (by kernel_rfl) (by kernel_rfl) (by kernel_rfl) (HO _ _ S0 ((Below.refl _ _).drew)) ?_
      clear S0
      repeat (first
        | (refine Settle.Settles.off (by rfl) ?_; simp only [Act.put, List.setIfInBounds_toArray, List.set_cons_zero, List.set_cons_succ])
        | (refine Settle.Settles.quiet (v := ?_) (by rfl) ?_ ?_
           rotate_left
           · (intro W hS; obtain ⟨⟨_, _⟩, _, _, _⟩ := hS; go_simp; with_reducible rfl)
           simp only [Act.put, List.setIfInBounds_toArray, List.set_cons_zero, List.set_cons_succ])
        | (refine Settle.Settles.call (v := ?_) (f := ?_) (args := ?_) (by rfl) ?_ ?_ ?_
           rotate_left 3
           · (intro W; go_simp; refine ⟨?_, ?_⟩ <;> with_reducible rfl)
           · (intro W hS; first | (go_at_call 16; (with_reducible refine (Q3.out _ hS.2.1.out).mono ?_); rintro e W1 ⟨rfl, hb⟩; refine ⟨?_, HO _ _ hS hb⟩; with_reducible rfl) | (go_at_call 16; (with_reducible refine (Q4.out _ hS.2.1.out).mono ?_); rintro e W1 ⟨rfl, hb⟩; refine ⟨?_, HO _ _ hS hb⟩; with_reducible rfl) | (go_at_call 16; (with_reducible refine (Q5.out _ hS.2.1.out).mono ?_); rintro e W1 ⟨rfl, hb⟩; refine ⟨?_, HO _ _ hS hb⟩; with_reducible rfl) | (go_at_call 18; (with_reducible refine (Q6.out _ hS.2.1.out).mono ?_); rintro e W1 ⟨rfl, hb⟩; refine ⟨?_, HO _ _ hS hb⟩; with_reducible rfl) | (go_at_call 19; (with_reducible refine (Q9.out A5 c5 _ hS.2.1.out hS.2.2.1.out).mono ?_); rintro e W1 ⟨rfl, hb⟩; refine ⟨?_, HO _ _ hS hb⟩; with_reducible rfl) | (go_at_call 20; (with_reducible refine (Q8.out _ hS.2.1.out).mono ?_); rintro e W1 ⟨rfl, hb⟩; refine ⟨?_, HO _ _ hS hb⟩; with_reducible rfl))
           simp only [Act.put, List.setIfInBounds_toArray, List.set_cons_zero, List.set_cons_succ]))
      refine Settle.Settles.nil ?_
      intro wr S0
      obtain ⟨⟨_, _⟩, _, _, _⟩ := id S0
      go_wp2_with fail
      go_wp2_with fail
      go_ret
      exact ⟨rfl, S0.2.2.2⟩
    · skip
      subst h2
      have hab : ¬ ((a : Int) = (b : Int)) := by omega
      have hab2 : ((a : Int) == (b : Int)) = false := beq_eq_false_iff_ne.2 hab
      have d0 : decide ((1 : Int) = 1) = true := rfl
      rw [d0] at Q6
      refine Settle.region (fun W => HouBox.BoxH W gh k A1 n c1 ∧ Hid (PtsAt W W.heap.size A1 ds) ∧ Hid (IntsAt W W.heap.size A5 (ci (List.range k))) ∧ Below w.heap.size w W) (by kernel_rfl) (by kernel_rfl) (by kernel_rfl) (by kernel_rfl) (HO _ _ S0 ((Below.refl _ _).drew)) ?_
      clear S0
      repeat (first
        | (refine Settle.Settles.off (by rfl) ?_; simp only [Act.put, List.setIfInBounds_toArray, List.set_cons_zero, List.set_cons_succ])
        | (refine Settle.Settles.quiet (v := ?_) (by rfl) ?_ ?_
           rotate_left
           · (intro W hS; obtain ⟨⟨_, _⟩, _, _, _⟩ := hS; go_simp; with_reducible rfl)
           simp only [Act.put, List.setIfInBounds_toArray, List.set_cons_zero, List.set_cons_succ])
        | (refine Settle.Settles.call (v := ?_) (f := ?_) (args := ?_) (by rfl) ?_ ?_ ?_
           rotate_left 3
           · (intro W; go_simp; refine ⟨?_, ?_⟩ <;> with_reducible rfl)
           · (intro W hS; first | (go_at_call 16; (with_reducible refine (Q3.out _ hS.2.1.out).mono ?_); rintro e W1 ⟨rfl, hb⟩; refine ⟨?_, HO _ _ hS hb⟩; with_reducible rfl) | (go_at_call 16; (with_reducible refine (Q4.out _ hS.2.1.out).mono ?_); rintro e W1 ⟨rfl, hb⟩; refine ⟨?_, HO _ _ hS hb⟩; with_reducible rfl) | (go_at_call 16; (with_reducible refine (Q5.out _ hS.2.1.out).mono ?_); rintro e W1 ⟨rfl, hb⟩; refine ⟨?_, HO _ _ hS hb⟩; with_reducible rfl) | (go_at_call 18; (with_reducible refine (Q6.out _ hS.2.1.out).mono ?_); rintro e W1 ⟨rfl, hb⟩; refine ⟨?_, HO _ _ hS hb⟩; with_reducible rfl) | (go_at_call 19; (with_reducible refine (Q9.out A5 c5 _ hS.2.1.out hS.2.2.1.out).mono ?_); rintro e W1 ⟨rfl, hb⟩; refine ⟨?_, HO _ _ hS hb⟩; with_reducible rfl) | (go_at_call 20; (with_reducible refine (Q8.out _ hS.2.1.out).mono ?_); rintro e W1 ⟨rfl, hb⟩; refine ⟨?_, HO _ _ hS hb⟩; with_reducible rfl))
           simp only [Act.put, List.setIfInBounds_toArray, List.set_cons_zero, List.set_cons_succ]))
      refine Settle.Settles.nil ?_
      intro wr S0
      obtain ⟨⟨_, _⟩, _, _, _⟩ := id S0
      go_wp2_with fail
      go_wp2_with fail
      go_ret
      exact ⟨rfl, S0.2.2.2⟩
    · skip
      have hab : ¬ ((a : Int) = (b : Int)) := by omega
      have hab2 : ((a : Int) == (b : Int)) = false := beq_eq_false_iff_ne.2 hab
      have hd0 : (D == 0) = false := beq_eq_false_iff_ne.2 h2
      have hd1 : (D == 1) = false := beq_eq_false_iff_ne.2 h3
      rw [decide_eq_false h3] at Q6
      refine Settle.region (fun W => HouBox.BoxH W gh k A1 n c1 ∧ Hid (PtsAt W W.heap.size A1 ds) ∧ Hid (IntsAt W W.heap.size A5 (ci (List.range k))) ∧ Below w.heap.size w W) (by kernel_rfl) (by kernel_rfl) (by kernel_rfl) (by kernel_rfl) (HO _ _ S0 ((Below.refl _ _).drew)) ?_
      clear S0
      repeat (first
        | (refine Settle.Settles.off (by rfl) ?_; simp only [Act.put, List.setIfInBounds_toArray, List.set_cons_zero, List.set_cons_succ])
        | (refine Settle.Settles.quiet (v := ?_) (by rfl) ?_ ?_
           rotate_left
           · (intro W hS; obtain ⟨⟨_, _⟩, _, _, _⟩ := hS; go_simp; with_reducible rfl)
           simp only [Act.put, List.setIfInBounds_toArray, List.set_cons_zero, List.set_cons_succ])
        | (refine Settle.Settles.call (v := ?_) (f := ?_) (args := ?_) (by rfl) ?_ ?_ ?_
           rotate_left 3
           · (intro W; go_simp; refine ⟨?_, ?_⟩ <;> with_reducible rfl)
           · (intro W hS; first | (go_at_call 16; (with_reducible refine (Q3.out _ hS.2.1.out).mono ?_); rintro e W1 ⟨rfl, hb⟩; refine ⟨?_, HO _ _ hS hb⟩; with_reducible rfl) | (go_at_call 16; (with_reducible refine (Q4.out _ hS.2.1.out).mono ?_); rintro e W1 ⟨rfl, hb⟩; refine ⟨?_, HO _ _ hS hb⟩; with_reducible rfl) | (go_at_call 16; (with_reducible refine (Q5.out _ hS.2.1.out).mono ?_); rintro e W1 ⟨rfl, hb⟩; refine ⟨?_, HO _ _ hS hb⟩; with_reducible rfl) | (go_at_call 18; (with_reducible refine (Q6.out _ hS.2.1.out).mono ?_); rintro e W1 ⟨rfl, hb⟩; refine ⟨?_, HO _ _ hS hb⟩; with_reducible rfl) | (go_at_call 19; (with_reducible refine (Q9.out A5 c5 _ hS.2.1.out hS.2.2.1.out).mono ?_); rintro e W1 ⟨rfl, hb⟩; refine ⟨?_, HO _ _ hS hb⟩; with_reducible rfl) | (go_at_call 20; (with_reducible refine (Q8.out _ hS.2.1.out).mono ?_); rintro e W1 ⟨rfl, hb⟩; refine ⟨?_, HO _ _ hS hb⟩; with_reducible rfl))
           simp only [Act.put, List.setIfInBounds_toArray, List.set_cons_zero, List.set_cons_succ]))
      refine Settle.Settles.nil ?_
      intro wr S0
      obtain ⟨⟨_, _⟩, _, _, _⟩ := id S0
      go_wp2_with fail
      go_wp2_with fail
      go_ret
      exact ⟨rfl, S0.2.2.2⟩

set_option maxRecDepth 100000 in
theorem contract (H : Type) (enc : TypeId × Value → H) (W : World) (base : Nat) (args : Array Value) (ds gs : List (DataW H)) (before : List MemPlace)
    (hval : ∀ (j : Nat) t v, Try.f4.params[j]? = some t → args[j]? = some v → Value.okWide Try.prog W .any base t v)
    (hW : DataW.Whole enc Try.prog Try.f4.params.toList Rows.fnHousesSpec.vars false W args.toList ds gs before) :
    Calls Try.prog 4 args W fun e W' => ∃ v, e = .returned v ∧ Rows.fnHousesSpec.post enc Try.prog Try.f4 false true false false W args v W' := by
  have hW' := hW
  obtain ⟨p, q, hA0, hV, rfl, hfz, hnd⟩ := hW
  have hA : DataW.TrodAll enc Try.prog W 0 (fun _ => true) true Try.f4.params.toList args.toList ds p := hA0
  rw [Try.params4] at hA hval
  obtain ⟨v0, vs0, d0, ds0, p0, q0, hargs, rfl, rfl, h0, r0⟩ := trodAll_cons hA
  obtain ⟨rfl, rfl, rfl⟩ := trodAll_nil r0
  obtain rfl : args = #[v0] := by cases args; simp_all
  obtain ⟨rfl, rfl⟩ := trodVars_none hV
  obtain ⟨a0, len0, cap0, rfl⟩ := okWide_slice Try.underlying22 (hval 0 22 v0 rfl rfl)
  have k0 := h0
  have lt0 : ∀ x ∈ p0, x.block < W.heap.size := by obtain ⟨m, hm⟩ := k0; exact DataW.trod_lt m _ _ _ hm
  obtain ⟨z0, w0⟩ : ∃ zs, IsRow .u8 W a0 len0 cap0 zs := by
    obtain ⟨fuel, hf⟩ := h0
    rcases open_ints Try.underlying22 Try.underlying5 (by kernel_rfl) hf with ⟨hcs, _⟩ | ⟨x, l, c, zs, hcs, _, hl, hm, hz, _, hcell, hwz⟩
    · simp [Value.cells] at hcs
      obtain ⟨rfl, rfl, rfl⟩ := hcs
      exact ⟨[], .inl ⟨rfl, rfl, rfl, rfl⟩⟩
    · simp [Value.cells] at hcs
      obtain ⟨rfl, rfl, rfl⟩ := hcs
      exact ⟨zs, .inr ⟨_, rfl, hl, hm, by simpa using hz, hcell, hwz⟩⟩
  clear hA0
  refine (walk W a0 len0 cap0 z0 w0).mono fun e W' ⟨he, hg⟩ => ?_
  subst he
  exact ⟨_, rfl, _, _, _, [], _, [], hW', (trodAll_cons_mk (shut_bool Try.underlying4 _) trodAll_mk0), (trodAll_cons_mk (Below.trod laidOut (by kernel_rfl) (of_decide_eq_true (by kernel_rfl)) k0 hg lt0) trodAll_mk0), rfl, hg.frame _, fun h => by cases h⟩

set_option maxRecDepth 100000 in
theorem lifted (os : Os) (started : os.Started) (H : Type) (enc : TypeId × Value → H) :
    ReturnsInHanded {} Try.checked os 4 .any (Rows.fnHousesSpec.pre6 enc Try.prog Try.f4 Rows.fnHousesRow.domain false) (Rows.fnHousesSpec.post enc Try.prog Try.f4 false true false false) := by
  refine returnsInHanded_of_change (C := Try.checked) own started (by kernel_rfl) Try.func4
    (ChangeSpec.witness6 (enc := enc) (C := Try.checked) false ⟨#[], #[Value.slice none 0 0], []⟩ 8 (by kernel_rfl) (by kernel_rfl) (by kernel_rfl) (by kernel_rfl)) ?_
  intro W base args ds gs before hval hW hcnd _
  exact contract H enc W base args ds gs before hval hW

theorem proved : Rows.FnHousesSaid :=
  OpenClaim.holds_of_wide 4 Try.f4 rfl rfl rfl rfl rfl rfl rfl ⟨rfl, rfl, rfl, rfl, rfl⟩ rfl rfl rfl rfl rfl (by kernel_rfl) Try.func4 (by kernel_rfl)
    (of_decide_eq_true (by kernel_rfl)) (by unfold Func.isWrapper; first | (rw [if_pos (by decide +kernel)]; kernel_rfl) | (rw [if_neg (by decide +kernel)]; exact ⟨rfl, rfl⟩))
    (fun os started H enc _ => lifted os started H enc)
#print axioms proved
end Go.Proofs.Ytcfoleiooohbhaa.fnHouses
