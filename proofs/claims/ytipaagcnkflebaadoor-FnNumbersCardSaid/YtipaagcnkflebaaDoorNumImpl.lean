/-
  What the landed ParseUint does, as a contract: the number and true where the text is the numeral of a number up to the limit, else 0 and false; no old cell is written. It leans on the library's table of powers of ten and on the two errors that strconv keeps, which the row lists.
-/
import Derived.Test.YtipaagcnkflebaaDoorNumMath
import Derived.Test.YtipaagcnkflebaaDoorNumSpec
import Derived.Test.YtipaagcnkflebaaDoorFmtImpl
import Derived.Test.YtipaagcnkflebaaDoorShelfAtoi
import Derived.Lib.SmallJoins
namespace Go.Proofs.YtipaagcnkflebaaDoor.NumImpl
open Go.RowKit Go.Lib FmtMath NumMath

/-- strconv's two errors are there. -/
def Errs (w : World) : Prop := ∃ tp p tp' p', w.var? Tryd.prog "strconv.ErrSyntax" = some #[.iface tp p] ∧ w.var? Tryd.prog "strconv.ErrRange" = some #[.iface tp' p']

theorem var_below {P : Program} {w w' : World} {n : String} {cs : Array Value} (h : w.var? P n = some cs) (hb : Below w.heap.size w w') : w'.var? P n = some cs := by
  unfold World.var? at h ⊢
  cases hg : P.globalNamed n with
  | none => simp [hg] at h
  | some g =>
    simp only [hg, Option.bind_some] at h ⊢
    have hlt : g < w.heap.size := by
      rcases Nat.lt_or_ge g w.heap.size with h' | h'
      · exact h'
      · simp [Array.getElem?_eq_none h'] at h
    rw [hb.block g hlt]
    exact h
theorem Errs.below {w w' : World} (h : Errs w) (hb : Below w.heap.size w w') : Errs w' := by
  obtain ⟨tp, p, tp', p', h1, h2⟩ := h
  exact ⟨tp, p, tp', p', var_below h1 hb, var_below h2 hb⟩

/-- strconv.Atoi at a text that spells no int: some error comes back. -/
theorem atoi_fails (s : ByteArray) (hlim : s.size ≤ 1048576) (hno : ∀ v, Lib.atoiAll s.data.toList ≠ .ok v) (w : World) (he : Errs w) :
    Calls Tryd.prog 29 #[.string s] w fun e w' => ∃ (n : Int) (N : Nat), e = .returned (.tuple #[.int .i64 n, .iface 61 (.pointer (some ⟨N, 0, none⟩))]) ∧ Below w.heap.size w w' := by
  obtain ⟨tp, p, tp', p', h1, h2⟩ := he
  rcases h : Lib.atoiAll s.data.toList with v | _ | _
  · exact (hno v h).elim
  · exact (Any.strconv_Atoi_syntax_var Tryd.laysC172 s (by omega) h tp p w h1).mono fun e w' ⟨N, he, _, _, hb⟩ => ⟨_, N, he, hb⟩
  · exact (Any.strconv_Atoi_range_var Tryd.laysC172 s (by omega) h tp' p' w h2).mono fun e w' ⟨N, he, _, _, hb⟩ => ⟨_, N, he, hb⟩

theorem atoi_ok (s : ByteArray) (hlim : s.size ≤ 1048576) (v : Int) (h : Lib.atoiAll s.data.toList = .ok v) (w : World) :
    Calls Tryd.prog 29 #[.string s] w fun e w' => e = .returned (.tuple #[.int .i64 v, .nilIface]) ∧ Below w.heap.size w w' :=
  (Tryd.strconv_Atoi_ok s (by omega) v h w).mono fun e w' ⟨he, hw⟩ => ⟨he, by
    rcases hw with rfl | ⟨t, rfl⟩
    · exact Below.refl _ _
    · exact Joins.below_bytesWorld _ _ _ _ (Nat.le_refl _)⟩

/-- Some error came back. -/
def Failed (w : World) (e : Ending) (w' : World) : Prop := ∃ (n : Int) (N : Nat), e = .returned (.tuple #[.int .i64 n, .iface 61 (.pointer (some ⟨N, 0, none⟩))]) ∧ Below w.heap.size w w'

set_option maxRecDepth 100000 in
set_option maxHeartbeats 400000 in
theorem parse (s : ByteArray) (w : World) (hs : s.size ≤ 1048576) (he : Errs w) (htab : Lib.TabIs Tryd.prog w "internal/strconv.uint64pow10" .u64 Lib.pow10Tab) (g : Nat) (hg : Tryd.prog.globalNamed "internal/strconv.uint64pow10" = some g) :
    Calls Tryd.prog 14 #[.string s] w fun e w' => e = .returned (.tuple #[.int .i64 (ansN s.data.toList : Int), .bool (ansB s.data.toList)]) ∧ Below w.heap.size w w' := by
  have HG := Lib.hid hg
  have HT := Lib.hid htab
  clear hg htab
  by_cases hno : ∀ v, Lib.atoiAll s.data.toList ≠ .ok v
  · have HA : Hid (Calls Tryd.prog 29 #[.string s] w (Failed w)) := Lib.hid (atoi_fails s hs hno w he)
    have H := Lib.hid (ansB_atoi_no hno)
    clear hno he
    go_enter Tryd.func14, Tryd.ntmps14
    go_wp2_with fail
    refine HA.out.mono ?_
    rintro e w1 ⟨n, N, rfl, hb1⟩
    go_wp2_with fail
    go_ret2
    exact ⟨NumSpec.ret_ans (by rw [ansN_no H.out]; rfl) H.out, hb1⟩
  · obtain ⟨v, hv⟩ : ∃ v, Lib.atoiAll s.data.toList = .ok v := by
      rcases h : Lib.atoiAll s.data.toList with v | _ | _
      · exact ⟨v, rfl⟩
      · exact (hno (fun v => by rw [h]; intro e; cases e)).elim
      · exact (hno (fun v => by rw [h]; intro e; cases e)).elim
    have HA := Lib.hid (atoi_ok s hs v hv w)
    have HV := Lib.hid hv
    clear hno he hv
    by_cases hneg : v < 0
    · have H := Lib.hid (ansB_atoi_out HV.out (.inl hneg))
      go_enter Tryd.func14, Tryd.ntmps14
      go_wp2_with fail
      refine HA.out.mono ?_
      rintro e w1 ⟨rfl, hb1⟩
      go_wp2_with fail
      go_ret2
      exact ⟨NumSpec.ret_ans (by rw [ansN_no H.out]; rfl) H.out, hb1⟩
    · by_cases hbig : 1000000000 < v
      · have H := Lib.hid (ansB_atoi_out HV.out (.inr hbig))
        go_enter Tryd.func14, Tryd.ntmps14
        go_wp2_with fail
        refine HA.out.mono ?_
        rintro e w1 ⟨rfl, hb1⟩
        go_wp2_with fail
        go_ret2
        exact ⟨NumSpec.ret_ans (by rw [ansN_no H.out]; rfl) H.out, hb1⟩
      · obtain ⟨m, rfl⟩ := Int.eq_ofNat_of_zero_le (show 0 ≤ v by omega)
        have HF := Lib.hid (FmtImpl.format (m : Int) (by omega) (by omega))
        obtain ⟨T, hT⟩ : ∃ T : ByteArray, T = ⟨(itoa (m : Int)).toArray⟩ := ⟨_, rfl⟩
        rw [← hT] at HF
        have hT2 : T.data.toList = decDigits m := by rw [hT, itoa_pos rfl]
        have HT2 := Lib.hid hT2
        clear hT hT2
        go_enter Tryd.func14, Tryd.ntmps14
        go_wp2_with fail
        refine HA.out.mono ?_
        rintro e w1 ⟨rfl, hb1⟩
        go_wp2_with fail
        refine (HF.out _ (Joins.tab_stays HG.out HT.out hb1 (Nat.le_refl _))).mono ?_
        rintro e w2 ⟨rfl, hb2⟩
        by_cases heq : T = s
        · have H := ansN_yes (l := s.data.toList) (n := m) (by omega) (by rw [← HT2.out, heq])
          have H1 := Lib.hid H.1
          have H2 := Lib.hid H.2
          clear H HF HA HV HT2
          subst heq
          go_wp2_with fail
          go_ret2
          exact ⟨NumSpec.ret_ans (by rw [H2.out]) H1.out, hb1.trans (hb2.mono hb1.size)⟩
        · have H : Hid (ansB s.data.toList = false) := Lib.hid (ansB_no fun n h1 h2 => by
            have h3 := atoi_dec n h1
            rw [h2, HV.out] at h3
            injection h3 with h3
            have h4 : n = m := by omega
            subst h4
            exact heq (string_of (by rw [HT2.out, h2]) |>.trans (string_of rfl).symm))
          have hne := str_ne heq
          go_wp2_with fail
          go_ret2
          exact ⟨NumSpec.ret_ans (by rw [ansN_no H.out]; rfl) H.out, hb1.trans (hb2.mono hb1.size)⟩
end Go.Proofs.YtipaagcnkflebaaDoor.NumImpl
