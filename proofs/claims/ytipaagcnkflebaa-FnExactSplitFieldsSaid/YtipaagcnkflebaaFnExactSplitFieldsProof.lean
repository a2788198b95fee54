/-
  For every string, the landed SplitFields answers just as its model does, in memory that no other result shares: the law's call returns true, and the string reads as it did. No condition.
-/
import Derived.Test.YtipaagcnkflebaaRows
import Derived.WalkKit
import Derived.ProofKit
import Derived.OpenShut
import Derived.ShutString
import Derived.Test.YtipaagcnkflebaaSplitImpl
import Derived.Test.YtipaagcnkflebaaSplitSpec
import Derived.Test.YtipaagcnkflebaaLawStr
namespace Go.Proofs.Ytipaagcnkflebaa.fnExactSplitFields
open Go.ChangeShapes Go.WideShapes Go.ChangeAt Go.RowKit
open Go.ChangeMaps (open_string shut_string)
open SplitMath
set_option linter.unusedVariables false

theorem own : ownKnob Try.prog.godebug = none := by kernel_rfl

theorem drewN_below {w : World} (k : Nat) : Below w.heap.size w (w.drewN k) := ⟨rfl, rfl, rfl, Nat.le_refl _, fun _ _ => rfl⟩

set_option maxRecDepth 100000 in
set_option maxHeartbeats 1600000 in
theorem walk (w : World) (a0 : ByteArray) (w0 : a0.size ≤ maxLen) :
    Calls Try.prog 6 #[.string a0] w fun e w' => e = .returned (.bool true) ∧ Below w.heap.size w w' := by
  by_cases h1 : 1048576 < a0.size
  · clear w0
    go_enter Try.func6, Try.ntmps6
    go_wp2_with fail
    go_ret
    exact ⟨rfl, Below.refl _ _⟩
  have hspec := Lib.hid (fun W => SplitSpec.split a0 W (by omega))
  have himpl := Lib.hid (fun W => SplitImpl.split a0 W (by omega))
  have HN : Hid ((ansF a0.data.toList).length ≤ 24) := Lib.hid (by
    cases e : ansB a0.data.toList with
    | false => rw [ansF_no e]; simp
    | true => rw [ansF_yes e]; simp only [ansB, Bool.and_eq_true, decide_eq_true_eq] at e; exact e.2)
  clear w0
  generalize a0.data.toList = l at hspec himpl HN
  generalize hb : ansB l = bb at *
  obtain ⟨n, hn⟩ : ∃ n, n = (ansF l).length := ⟨_, rfl⟩
  have HNN := Lib.hid hn
  have hn24 : n ≤ 24 := by rw [hn]; exact HN.out
  have HBB := Lib.hid hb
  clear hn hb
  go_enter Try.func6, Try.ntmps6
  go_wp2_with fail
  refine (hspec.out _).mono ?_
  rintro e w1 ⟨v1, rfl, ho1, hb1⟩
  rw [HBB.out]
  rw [← HNN.out] at ho1
  have HO1 := Lib.hid ho1
  have HB1 := Lib.hid hb1
  clear ho1 hb1
  go_wp2_with fail
  refine (himpl.out _).mono ?_
  rintro e w2 ⟨v2, rfl, ho2, hb2⟩
  rw [HBB.out]
  rw [← HNN.out] at ho2
  have HO2 := Lib.hid ho2
  have HB2 := Lib.hid (HB1.out.trans (hb2.mono HB1.out.size))
  have HO12 := Lib.hid (LawStr.own_below HO1.out hb2)
  clear ho2 hb2
  go_wp2_with fail
  refine (LawStr.eqS _ _ _ n (by omega) v2 v1 (ansF l) HO2.out HO12.out).mono ?_
  rintro e w3 ⟨rfl, k3, rfl⟩
  go_wp2_with fail
  have HO3 : Hid ((w2.drewN k3).ownsRow w1.heap.size 9 1 v2 n (strCells (ansF l))) := Lib.hid HO2.out
  have HO13 : Hid ((w2.drewN k3).ownsRow w.heap.size 9 1 v1 n (strCells (ansF l))) := Lib.hid HO12.out
  have HB3 : Hid (Below w.heap.size w (w2.drewN k3)) := Lib.hid (HB2.out.trans ((drewN_below k3).mono HB2.out.size))
  generalize w2.drewN k3 = w3 at HO3 HO13 HB3 ⊢
  refine (LawStr.markS1 _ _ n (by omega) v2 _ HO3.out).mono ?_
  rintro e w4 ⟨rfl, ho4, hg4⟩
  have HO4 := Lib.hid ho4
  have HO14 := Lib.hid (HO13.out.kept hg4 (LawStr.own_elder HO1.out HO3.out))
  have HB4 := Lib.hid (HB3.out.grown hg4 HB3.out.size (fun g hg => Nat.le_trans HB1.out.size (HO3.out.lt g hg).1))
  clear ho4 hg4
  go_wp2_with fail
  refine (LawStr.heldS1 _ _ n (by omega) v2 HO4.out).mono ?_
  rintro e w5 ⟨rfl, hb5⟩
  have HO5 := Lib.hid (LawStr.own_below HO4.out hb5)
  have HO15 := Lib.hid (LawStr.own_below HO14.out hb5)
  have HB5 := Lib.hid (HB4.out.trans (hb5.mono HB4.out.size))
  clear hb5
  go_wp2_with fail
  refine (himpl.out _).mono ?_
  rintro e w6 ⟨v6, rfl, ho6, hb6⟩
  rw [HBB.out]
  rw [← HNN.out] at ho6
  have HO6 := Lib.hid ho6
  have HO16 := Lib.hid (LawStr.own_below HO15.out hb6)
  have HO26 := Lib.hid (LawStr.own_below HO5.out hb6)
  have HB6 := Lib.hid (HB5.out.trans (hb6.mono HB5.out.size))
  clear ho6 hb6
  go_wp2_with fail
  refine (LawStr.eqS _ _ _ n (by omega) v6 v1 (ansF l) HO6.out HO16.out).mono ?_
  rintro e w7 ⟨rfl, k7, rfl⟩
  have HO7 : Hid ((w6.drewN k7).ownsRow w1.heap.size 9 1 v2 n (LawStr.marks 1 n)) := Lib.hid HO26.out
  have HB7 : Hid (Below w.heap.size w (w6.drewN k7)) := Lib.hid (HB6.out.trans ((drewN_below k7).mono HB6.out.size))
  generalize w6.drewN k7 = w8 at HO7 HB7 ⊢
  go_wp2_with fail
  refine (LawStr.heldS1 _ _ n (by omega) v2 HO7.out).mono ?_
  rintro e w9 ⟨rfl, hb9⟩
  have HB9 := Lib.hid (HB7.out.trans (hb9.mono HB7.out.size))
  clear hb9
  go_wp2_with fail
  go_ret
  exact ⟨rfl, HB9.out⟩

theorem contract (H : Type) (enc : TypeId × Value → H) (W : World) (base : Nat) (args : Array Value) (ds gs : List (DataW H)) (before : List MemPlace)
    (hval : ∀ (j : Nat) t v, Try.f6.params[j]? = some t → args[j]? = some v → Value.okWide Try.prog W .any base t v)
    (hW : DataW.Whole enc Try.prog Try.f6.params.toList Rows.fnExactSplitFieldsSpec.vars false W args.toList ds gs before) :
    Calls Try.prog 6 args W fun e W' => ∃ v, e = .returned v ∧ Rows.fnExactSplitFieldsSpec.post enc Try.prog Try.f6 false true false false W args v W' := by
  have hW' := hW
  obtain ⟨p, q, hA0, hV, rfl, hfz, hnd⟩ := hW
  have hA : DataW.TrodAll enc Try.prog W 0 (fun _ => true) true Try.f6.params.toList args.toList ds p := hA0
  rw [Try.params6] at hA hval
  obtain ⟨v0, vs0, d0, ds0, p0, q0, hargs, rfl, rfl, h0, r0⟩ := trodAll_cons hA
  obtain ⟨rfl, rfl, rfl⟩ := trodAll_nil r0
  obtain rfl : args = #[v0] := by cases args; simp_all
  obtain ⟨rfl, rfl⟩ := trodVars_none hV
  obtain ⟨a0, rfl, rfl, rfl, w0⟩ := open_string Try.underlying9 (hval 0 9 v0 rfl rfl) h0
  clear hA0
  simp only [List.append_nil] at hW'
  refine (walk W a0 w0).mono fun e W' ⟨he, hg⟩ => ?_
  subst he
  exact ⟨_, rfl, _, _, _, [], [], [], hW', (trodAll_cons_mk (shut_bool Try.underlying4 _) trodAll_mk0), (trodAll_cons_mk (shut_string Try.underlying9 w0) trodAll_mk0), rfl, hg.frame _, fun h => by cases h⟩

set_option maxRecDepth 100000 in
theorem lifted (os : Os) (started : os.Started) (H : Type) (enc : TypeId × Value → H) :
    ReturnsInHanded {} Try.checked os 6 .any (Rows.fnExactSplitFieldsSpec.pre6 enc Try.prog Try.f6 Rows.fnExactSplitFieldsRow.domain false) (Rows.fnExactSplitFieldsSpec.post enc Try.prog Try.f6 false true false false) := by
  refine returnsInHanded_of_change (C := Try.checked) own started (by kernel_rfl) Try.func6
    (ChangeSpec.witness6 (enc := enc) (C := Try.checked) false ⟨#[], #[Value.string ByteArray.empty], []⟩ 8 (by kernel_rfl) (by kernel_rfl) (by kernel_rfl) (by kernel_rfl)) ?_
  intro W base args ds gs before hval hW hcnd _
  exact contract H enc W base args ds gs before hval hW

theorem proved : Rows.FnExactSplitFieldsSaid :=
  OpenClaim.holds_of_wide 6 Try.f6 rfl rfl rfl rfl rfl rfl rfl ⟨rfl, rfl, rfl, rfl, rfl⟩ rfl rfl rfl rfl rfl (by kernel_rfl) Try.func6 (by kernel_rfl)
    (of_decide_eq_true (by kernel_rfl)) (by unfold Func.isWrapper; first | (rw [if_pos (by decide +kernel)]; kernel_rfl) | (rw [if_neg (by decide +kernel)]; exact ⟨rfl, rfl⟩))
    (fun os started H enc _ => lifted os started H enc)
#print axioms proved
end Go.Proofs.Ytipaagcnkflebaa.fnExactSplitFields
