/-
  For every slice of bytes, SplitFields keeps the promise at the line that is drawn from them: the law's call returns true and writes nothing that was there. The row lists the library's tables as the program's text lays them, and the card ties them.
-/
import Derived.Test.YtipaagcnkflebaaDoorRowDoor
import Derived.Lib.SmallJoins
import Derived.ShutString
import Derived.Test.YtipaagcnkflebaaDoorDrawNum
import Derived.Test.YtipaagcnkflebaaDoorDrawLine
import Derived.Test.YtipaagcnkflebaaDoorSplitImpl
import Derived.Test.YtipaagcnkflebaaDoorSplitSpec
import Derived.Test.YtipaagcnkflebaaDoorFieldsBack
import Derived.Test.YtipaagcnkflebaaDoorOwn
import Derived.Test.YtipaagcnkflebaaDoorSameTexts
import Derived.Test.YtipaagcnkflebaaDoorFmtImpl
namespace Go.Proofs.YtipaagcnkflebaaDoor.fnFieldsAgain
open Go.ChangeShapes Go.WideShapes Go.ChangeAt Go.RowKit RowDoor
open Go.ChangeMaps (open_string shut_string)
open Draw DrawNum DrawLine SplitMath FieldsBack
set_option linter.unusedVariables false


/-- What is known of a slice of integers that came in: nil, or a row of 'cap' cells. -/
def IsRow (k : IntKind) (w : World) (a : Option Addr) (len cap : Nat) (zs : List Int) : Prop :=
  (a = none ∧ len = 0 ∧ cap = 0 ∧ zs = []) ∨
  ∃ x, a = some x ∧ len ≤ cap ∧ cap ≤ maxLen ∧ zs.length = cap ∧ (∀ i, i < zs.length → w.cell? (x.add i) = some (.int k (zs.getD i 0))) ∧ ∀ n ∈ zs, (Lit.int k n).wf = true

theorem minus3 : (⟨(Lib.itoa (-3)).toArray⟩ : ByteArray) = ⟨#[45, 51]⟩ := by
  have : Lib.itoa (-3) = [45, 51] := by
    rw [FmtMath.itoa_neg (n := -3) (m := 3) (by omega) rfl, Lib.decDigits_one (by omega)]; rfl
  rw [this]

set_option maxRecDepth 100000 in
set_option maxHeartbeats 1600000 in
theorem walk (w : World) (a0 : Option Addr) (len0 cap0 : Nat) (z0 : List Int) (w0 : IsRow .u8 w a0 len0 cap0 z0) (htab : Lib.TabIs Tryd.prog w "internal/strconv.uint64pow10" .u64 Lib.pow10Tab) :
    Calls Tryd.prog 5 #[.slice a0 len0 cap0] w fun e w' => e = .returned (.bool true) ∧ Below w.heap.size w w' := by
  have hcode := Lib.hid (code_of_row w0)
  have HT := Lib.hid htab
  clear htab w0
  by_cases hbig : (1048576 : Int) < (len0 : Int)
  · go_enter Tryd.func5, Tryd.ntmps5
    go_wp2_with fail
    refine (big _ a0 len0 cap0).mono ?_
    rintro e w' ⟨rfl, rfl⟩
    go_wp2_with fail
    go_ret
    exact ⟨rfl, Below.refl _ _⟩
  go_enter Tryd.func5, Tryd.ntmps5
  go_wp2_with fail
  refine (big _ a0 len0 cap0).mono ?_
  rintro e w' ⟨rfl, rfl⟩
  go_wp2_with fail
  refine (drawLine _ a0 len0 cap0 (by omega) hcode.out).mono ?_
  rintro e w1 ⟨s, hs, rfl, hb1⟩
  have hspec := Lib.hid (fun W => SplitSpec.split s W hs)
  have himpl := Lib.hid (fun W => SplitImpl.split s W hs)
  generalize s.data.toList = l at hspec himpl
  obtain ⟨n, hn⟩ : ∃ n, n = (ansF l).length := ⟨_, rfl⟩
  have HN := Lib.hid hn
  have HB1 := Lib.hid hb1
  clear hn hb1 hs
  go_wp2_with fail
  refine (himpl.out _).mono ?_
  rintro e w2 ⟨v2, rfl, ho2, hb2⟩
  rw [← HN.out] at ho2
  have HO2 := Lib.hid ho2
  have HB2 := Lib.hid (HB1.out.trans (hb2.mono HB1.out.size))
  clear ho2 hb2
  cases hB : ansB l with
  | false =>
    have HBB := Lib.hid hB
    have hn0 : n = 0 := by rw [HN.out, ansF_no hB]; rfl
    subst hn0
    clear hB
    go_wp2_with fail
    refine (hspec.out _).mono ?_
    rintro e w3 ⟨v3, rfl, _, hb3⟩
    rw [HBB.out]
    have HB3 := Lib.hid (HB2.out.trans (hb3.mono HB2.out.size))
    clear hb3
    obtain ⟨A2, c2, rfl⟩ := Own.own_shape HO2.out
    have HF := FmtImpl.format (-3) (by omega) (by omega) w3 (Joins.tab_stays gPow HT.out HB3.out (Nat.le_refl _))
    rw [minus3] at HF
    have HF := Lib.hid HF
    go_wp2_with fail
    refine HF.out.mono ?_
    rintro e w4 ⟨rfl, hb4⟩
    go_wp2_with fail
    go_ret
    exact ⟨rfl, HB3.out.trans (hb4.mono HB3.out.size)⟩
  | true =>
    have HBB := Lib.hid hB
    have hn24 : n ≤ 24 := by
      rw [HN.out, ansF_yes hB]
      simp only [ansB, Bool.and_eq_true, decide_eq_true_eq] at hB
      exact hB.2
    clear hB
    go_wp2_with fail
    refine (hspec.out _).mono ?_
    rintro e w3 ⟨v3, rfl, _, hb3⟩
    rw [HBB.out]
    have HB3 := Lib.hid (HB2.out.trans (hb3.mono HB2.out.size))
    have HO3 := Lib.hid (Own.own_below HO2.out hb3)
    clear hb3
    obtain ⟨A2, c2, rfl⟩ := Own.own_shape HO2.out
    clear HO2
    go_wp2_with fail
    go_loop [8, 9] (fun t i => ∃ (k : Nat) (S : ByteArray), k ≤ n ∧ i = .int .i64 k ∧ t = .string S ∧ S.size ≤ 601 * k ∧ Hid (S.data.toList = joined ((ansF l).take k))) (fun _ i => n - (intOf i).toNat)
    case atStart => exact ⟨0, _, Nat.zero_le _, rfl, rfl, Nat.le_refl _, Lib.hid rfl⟩
    case round =>
      obtain ⟨k, S, hk, rfl, rfl, hS, HS⟩ := hrel
      by_cases hlt : k < n
      · have hkl : k < (ansF l).length := by rw [← HN.out]; exact hlt
        obtain ⟨g2, hA, _, _, hc1, _⟩ := Own.own_cell HO3.out hlt (SameTexts.strCells_at hkl)
        subst hA
        have hT1 : ((⟨(ansF l)[k].toArray⟩ : ByteArray)).size ≤ 600 := by
          show (ansF l)[k].toArray.size ≤ 600
          rw [List.size_toArray]
          exact field_len HBB.out _ (List.getElem_mem _)
        have hT2 := take_joined hkl
        have hT3 : ((⟨(ansF l)[k].toArray⟩ : ByteArray)).data.toList = (ansF l)[k] := rfl
        generalize (⟨(ansF l)[k].toArray⟩ : ByteArray) = T at hc1 hT1 hT3
        rw [← hT3] at hT2
        have HT2 := Lib.hid hT2
        clear hkl hT2 hT3
        have hk0 : (0 : Int) ≤ (k : Int) := by omega
        have hk1 : (k : Int) < (n : Int) := by omega
        have hsum : (S ++ T).size ≤ 601 * k + 600 := by rw [ByteArray.size_append]; omega
        have hsum2 : (S ++ T).size + (⟨#[32]⟩ : ByteArray).size ≤ 9223372036854775807 := by
          have : (⟨#[32]⟩ : ByteArray).size = 1 := rfl
          omega
        have hadd := run_string_add_sum (P := Tryd.prog) w3 (S ++ T) ⟨#[32]⟩ hsum2
        have HR : Hid (((S ++ T) ++ (⟨#[32]⟩ : ByteArray)).size ≤ 601 * (k + 1) ∧ ((S ++ T) ++ (⟨#[32]⟩ : ByteArray)).data.toList = joined ((ansF l).take (k + 1))) := Lib.hid ⟨by
          rw [ByteArray.size_append]
          have : (⟨#[32]⟩ : ByteArray).size = 1 := rfl
          omega, by
          rw [ByteArray.data_append, ByteArray.data_append, Array.toList_append, Array.toList_append, HS.out, HT2.out]⟩
        clear hsum hsum2
        go_wp2_with fail
        go_round
        case rel => exact ⟨k + 1, _, by omega, by go_num, rfl, HR.out.1, Lib.hid HR.out.2⟩
        case measure => simp [intOf]; omega
      · have hkn : k = n := by omega
        have HJ : Hid (S.data.toList = joined (ansF l)) := Lib.hid (by rw [HS.out, hkn, HN.out, List.take_length])
        have hsz : S.size ≤ 1048576 := by omega
        clear hkn HS
        have hsp2 := Lib.hid (fun W => SplitImpl.split S W hsz)
        have HSZ : Hid (S.size = (joined (ansF l)).length) := Lib.hid (by rw [← HJ.out]; simp)
        rw [HJ.out] at hsp2
        by_cases h600 : 600 < S.size
        · go_wp2_with fail
          refine (hsp2.out _).mono ?_
          rintro e w4 ⟨v4, rfl, _, hb4⟩
          go_wp2_with fail
          go_ret
          exact ⟨rfl, HB3.out.trans (hb4.mono HB3.out.size)⟩
        · have HA := Lib.hid (again HBB.out (by rw [← HSZ.out]; omega))
          go_wp2_with fail
          refine (hsp2.out _).mono ?_
          rintro e w4 ⟨v4, rfl, ho4, hb4⟩
          rw [HA.out.1]
          rw [HA.out.2, ← HN.out] at ho4
          have HO4 := Lib.hid ho4
          have HO34 := Lib.hid (Own.own_below HO3.out hb4)
          have HB4 := Lib.hid (HB3.out.trans (hb4.mono HB3.out.size))
          clear ho4 hb4
          go_wp2_with fail
          refine (SameTexts.same _ _ _ n (by omega) _ v4 (ansF l) HO34.out HO4.out).mono ?_
          rintro e w5 ⟨rfl, k5, rfl⟩
          go_wp2_with fail
          go_ret
          exact ⟨rfl, HB4.out.trans ((Own.drewN_below k5).mono HB4.out.size)⟩

theorem contract (H : Type) (enc : TypeId × Value → H) (W : World) (base : Nat) (args : Array Value) (ds gs : List (DataW H)) (before : List MemPlace)
    (hval : ∀ (j : Nat) t v, Tryd.f5.params[j]? = some t → args[j]? = some v → Value.okWide Tryd.prog W .any base t v)
    (hW : DataW.Whole enc Tryd.prog Tryd.f5.params.toList Rows.fnFieldsAgainSpec.vars false W args.toList ds gs before) (hL : laidMet Tryd.prog list3 W) :
    Calls Tryd.prog 5 args W fun e W' => ∃ v, e = .returned v ∧ Rows.fnFieldsAgainSpec.post enc Tryd.prog Tryd.f5 false true false false W args v W' := by
  have hW' := hW
  obtain ⟨p, q, hA0, hV, rfl, hfz, hnd⟩ := hW
  have hA : DataW.TrodAll enc Tryd.prog W 0 (fun _ => true) true Tryd.f5.params.toList args.toList ds p := hA0
  rw [Tryd.params5] at hA hval
  obtain ⟨v0, vs0, d0, ds0, p0, q0, hargs, rfl, rfl, h0, r0⟩ := trodAll_cons hA
  obtain ⟨rfl, rfl, rfl⟩ := trodAll_nil r0
  obtain rfl : args = #[v0] := by cases args; simp_all
  obtain ⟨rfl, rfl⟩ := trodVars_none hV
  obtain ⟨a0, len0, cap0, rfl⟩ := okWide_slice Tryd.underlying22 (hval 0 22 v0 rfl rfl)
  have k0 := h0
  have lt0 : ∀ x ∈ p0, x.block < W.heap.size := by obtain ⟨m, hm⟩ := k0; exact DataW.trod_lt m _ _ _ hm
  obtain ⟨z0, w0⟩ : ∃ zs, IsRow .u8 W a0 len0 cap0 zs := by
    obtain ⟨fuel, hf⟩ := h0
    rcases open_ints Tryd.underlying22 Tryd.underlying5 (by kernel_rfl) hf with ⟨hcs, _⟩ | ⟨x, l, c, zs, hcs, _, hl, hm, hz, _, hcell, hwz⟩
    · simp [Value.cells] at hcs
      obtain ⟨rfl, rfl, rfl⟩ := hcs
      exact ⟨[], .inl ⟨rfl, rfl, rfl, rfl⟩⟩
    · simp [Value.cells] at hcs
      obtain ⟨rfl, rfl, rfl⟩ := hcs
      exact ⟨zs, .inr ⟨_, rfl, hl, hm, by simpa using hz, hcell, hwz⟩⟩
  clear hA0
  refine (walk W a0 len0 cap0 z0 w0 (pow_of_met hL)).mono fun e W' ⟨he, hg⟩ => ?_
  subst he
  exact ⟨_, rfl, _, _, _, [], _, [], hW', (trodAll_cons_mk (shut_bool Tryd.underlying4 _) trodAll_mk0), (trodAll_cons_mk (Below.trod laidOut (by kernel_rfl) (of_decide_eq_true (by kernel_rfl)) k0 hg lt0) trodAll_mk0), rfl, hg.frame _, fun h => by cases h⟩

theorem reads (os : Os) {H : Type} (enc : TypeId × Value → H) : ∃ places, DataW.whole enc Tryd.prog ((doorStart os).forCall (fun _ _ => 0) ⟨#[], #[Value.slice none 0 0], []⟩).memory Tryd.f5.params.toList Rows.fnFieldsAgainSpec.vars false (#[Value.slice none 0 0]).toList 8 = some ([.nil], [], places) :=
  ⟨[], by kernel_rfl⟩

set_option maxRecDepth 100000 in
theorem lifted (os : Os) (started : os.Started) (H : Type) (enc : TypeId × Value → H) (F : Stop.Interp) :
    ReturnsInHanded {} Tryd.checked os 5 .any ((OpenSpec.ofChange Rows.fnFieldsAgainSpec).preRow enc Tryd.prog Tryd.f5 Rows.fnFieldsAgainRow.domain false Rows.fnFieldsAgainRow.laid) (((OpenSpec.ofChange Rows.fnFieldsAgainSpec).at F).post enc Tryd.prog Tryd.f5 false true false false) := by
  obtain ⟨places, hx⟩ := reads os enc
  refine returnsInHanded_of_row (C := Tryd.checked) (s := OpenSpec.ofChange Rows.fnFieldsAgainSpec) own started (by kernel_rfl) Tryd.func5
    (witness_row_atRef (enc := enc) (C := Tryd.checked) false (doorStart os) #[Value.slice none 0 0] rfl (by kernel_rfl) (by kernel_rfl) (by kernel_rfl)
      (OpenSpec.preRow_of_cond 8 hx (by kernel_rfl) (fun k hk => by cases hk) (by kernel_rfl) (met3 os _))) ?_
  intro W base args ds gs before hval hW _ _ _ hL _ _
  exact contract H enc W base args ds gs before hval hW (by rw [MakeChecks.laidMetH_plain _ _ _ (by kernel_rfl)] at hL; exact hL)

theorem said : Rows.FnFieldsAgainSaid :=
  OpenClaim.holds_of_cond 5 Tryd.f5 rfl rfl rfl rfl rfl rfl rfl ⟨rfl, rfl, rfl, rfl, rfl⟩ rfl rfl rfl rfl rfl (by kernel_rfl) Tryd.func5 (by kernel_rfl)
    (of_decide_eq_true (by kernel_rfl)) (by unfold Func.isWrapper; first | (rw [if_pos (by decide +kernel)]; kernel_rfl) | (rw [if_neg (by decide +kernel)]; exact ⟨rfl, rfl⟩))
    (fun os started H enc _ F => by rw [OpenClaim.pre_eq_preRow]; exact lifted os started H enc F)

theorem plain (f : FuncId) (fn : Func) (hf : Tryd.pinned.checked.prog.funcNamed "loop.example/g00991/laws.FnFieldsAgain" = some f) (hfn : Tryd.pinned.checked.prog.funcs[f]? = some fn) :
    true = Tryd.pinned.checked.prog.looks [] ∧ ∀ (j : Nat) t, fn.params[j]? = some t → Tryd.pinned.checked.prog.wantsStandIn t = false := by
  obtain rfl : f = 5 := Option.some.inj ((show Tryd.prog.funcNamed "loop.example/g00991/laws.FnFieldsAgain" = some 5 by kernel_rfl).symm.trans hf) |>.symm
  obtain rfl : fn = Tryd.f5 := (Option.some.inj (Tryd.func5.symm.trans hfn)).symm
  refine ⟨by kernel_rfl, fun j t ht => ?_⟩
  rw [Tryd.params5] at ht
  have hm : t ∈ [22] := by simpa using Array.mem_of_getElem? ht
  have hall : ([22].all fun u => !Tryd.prog.wantsStandIn u) = true := by kernel_rfl
  exact (show Tryd.prog.wantsStandIn t = false by simpa using List.all_eq_true.1 hall t hm)

/-- THE CARD -/
theorem card : Rows.FnFieldsAgainCardSaid :=
  Claim7.holds_tied_plain_at .later [] _ _ _ _ said (fun _ h => by cases h) (by kernel_rfl) (fun _ h => by cases h) fnFieldsAgain_row_tie rfl ⟨rfl, rfl⟩ (by kernel_rfl) rfl plain (by kernel_rfl)
#print axioms card
end Go.Proofs.YtipaagcnkflebaaDoor.fnFieldsAgain
