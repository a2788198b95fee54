/-
  What the landed SplitFields does, as a contract: the fields of the line in new memory and true, or nothing and false; no old cell is written.
-/
import Derived.Test.YtipaagcnkflebaaDoorSplitMath
import Derived.Test.YtipaagcnkflebaaDoorHexMath
import Derived.Test.YtipaagcnkflebaaDoorHexBase
import Derived.WalkSpells
import Derived.Deep.AppendLies
import Derived.Laws.IdiomStrings
import Derived.Laws.OwnMore
import Derived.Lib.Hide
import Derived.Outline
import Derived.WalkMore
namespace Go.Proofs.YtipaagcnkflebaaDoor.SplitImpl
open Go.RowKit HexMath SplitMath

theorem infoS : (Tryd.prog.info? 9).map (fun i => (i.zero, i.size, i.bytes)) = some (some (.string ⟨#[]⟩), 1, 16) := by kernel_rfl

/-- The fields came back in new memory. -/
def SplitP (w : World) (l : List UInt8) (e : Ending) (w' : World) : Prop :=
  ∃ v, e = .returned (.tuple #[v, .bool (ansB l)]) ∧ w'.ownsRow w.heap.size 9 1 v (ansF l).length (strCells (ansF l)) ∧ Below w.heap.size w w'
theorem split_no {w w' : World} {l : List UInt8} (h : ansB l = false) (hb : Below w.heap.size w w') : SplitP w l (.returned (.tuple #[.slice none 0 0, .bool false])) w' :=
  ⟨.slice none 0 0, by rw [h], by rw [ansF_no h]; exact World.ownsRow_nil _ _ _ _, hb⟩

/-- Two rows of the call's own whose element types differ lie in different blocks. -/
theorem own_apart {w : World} {b e1 e2 s1 s2 n1 n2 : Nat} {v f : Value} {xs ys : List Value} (h1 : w.ownsRow b e1 s1 v n1 xs) (h2 : w.ownsRow b e2 s2 f n2 ys) (hne : e1 ≠ e2) : v.ownBlock = none ∨ v.ownBlock ≠ f.ownBlock := by
  rcases h1.2 with ⟨rfl, _⟩ | ⟨g, cap, cu, rfl, _, hg, _⟩
  · exact .inl rfl
  · refine .inr fun e => ?_
    rcases h2.2 with ⟨rfl, _⟩ | ⟨g', cap', cu', rfl, _, hg', _⟩
    · cases e
    · injection e with e
      subst e
      have e3 := hg.symm.trans hg'
      injection e3 with e3
      injection e3 with _ e4
      exact hne e4
/-- 'x[:0]' of such a row owns nothing and has its room. -/
theorem own_cut0 {w : World} {b e g n cap : Nat} {xs : List Value} (h : w.ownsRow b e 1 (.slice (some ⟨g, 0, none⟩) n cap) n xs) : w.ownsRow b e 1 (.slice (some ⟨g, 0, none⟩) 0 cap) 0 [] := by
  rcases h.2 with ⟨h', _⟩ | ⟨g', cap', cu, h', hb, hg, _, hc, hs, _⟩
  · cases h'
  · injection h' with h1 h2 h3
    injection h1 with h1
    injection h1 with h1
    subst h1; subst h3
    exact ⟨rfl, .inr ⟨g, cap, cu, rfl, hb, hg, Nat.zero_le _, hc, hs, by simp⟩⟩
/-- What a row of the call's own holds is one list. -/
theorem own_unique {w : World} {b e n : Nat} {v : Value} {xs ys : List Value} (h : w.ownsRow b e 1 v n xs) (k : w.ownsRow b e 1 v n ys) : xs = ys := by
  rcases h.2 with ⟨rfl, rfl⟩ | ⟨g, cap, cu, rfl, _, hg, _, _, _, ht⟩
  · have h1 := List.eq_nil_of_length_eq_zero (by simpa using h.1)
    have h2 := List.eq_nil_of_length_eq_zero (by simpa using k.1)
    rw [h1, h2]
  · rcases k.2 with ⟨h', _⟩ | ⟨g', cap', cu', h', _, hg', _, _, _, ht'⟩
    · cases h'
    · injection h' with h1 _ h3
      injection h1 with h1
      injection h1 with h1
      subst h1
      have e3 := hg.symm.trans hg'
      injection e3 with e3
      injection e3 with e3 _
      subst e3
      rw [← ht, ← ht']
theorem own_shape {w : World} {b e sz n : Nat} {v : Value} {xs : List Value} (h : w.ownsRow b e sz v n xs) : ∃ A cap, v = .slice A n cap := by
  rcases h.2 with ⟨rfl, rfl⟩ | ⟨g, cap, cu, rfl, _⟩
  · exact ⟨_, _, rfl⟩
  · exact ⟨_, _, rfl⟩

/-- What holds behind the first k bytes. -/
def Inv (w wr : World) (l : List UInt8) (v f : Value) (nd nf : Nat) : Prop :=
  wr.ownsRow w.heap.size 9 1 v nd (strCells (done l)) ∧ wr.ownsRow w.heap.size 5 1 f nf (cellsOf (cur l)) ∧ l.all okByte = true ∧ Below w.heap.size w wr

theorem Inv.nd_eq {w wr : World} {l : List UInt8} {v f : Value} {nd nf : Nat} (h : Inv w wr l v f nd nf) : (done l).length = nd := by
  have := h.1.1
  rw [strCells_length] at this; omega
theorem Inv.nf_eq {w wr : World} {l : List UInt8} {v f : Value} {nd nf : Nat} (h : Inv w wr l v f nd nf) : (cur l).length = nf := by
  have := h.2.1.1
  rw [cellsOf_length] at this; omega
theorem Inv.cur_ne {w wr : World} {l : List UInt8} {v f : Value} {nd nf : Nat} (h : Inv w wr l v f nd nf) (hn : 0 < nf) : cur l ≠ [] := by
  intro e
  have := h.nf_eq
  rw [e] at this; simp at this; omega
theorem Inv.cur_nil {w wr : World} {l : List UInt8} {v f : Value} {nd nf : Nat} (h : Inv w wr l v f nd nf) (hn : nf = 0) : cur l = [] :=
  List.eq_nil_of_length_eq_zero (by rw [h.nf_eq]; exact hn)
theorem ok_snoc {l : List UInt8} {c : UInt8} (h : l.all okByte = true) (h1 : 32 ≤ c.toNat) (h2 : c.toNat ≤ 126) : (l ++ [c]).all okByte = true := by
  rw [List.all_append, h]; simp [okByte, h1, h2]
theorem ne_space {c : UInt8} (h : c.toNat ≠ 32) : c ≠ 32 := fun e => h (by rw [e]; rfl)
theorem eq_space {c : UInt8} (h : c.toNat = 32) : c = 32 := UInt8.toNat_inj.1 (by rw [h]; rfl)

/-- A byte of a field. -/
theorem inv_other {w wr w1 : World} {l : List UInt8} {v f : Value} {nd nf g cap : Nat} {c : UInt8} {o : Obj} (h : Inv w wr l v f nd nf) (hc : c.toNat ≠ 32) (h1 : 32 ≤ c.toNat) (h2 : c.toNat ≤ 126)
    (ho : w1.ownsRow w.heap.size 5 1 (.slice (some ⟨g, 0, none⟩) (nf + 1) cap) (nf + 1) (cellsOf (cur l) ++ [.int .u8 (c.toNat : Int)])) (hg : (wr.alloc o).grownBy w1 f.ownBlock) :
    Inv w w1 (l ++ [c]) v (.slice (some ⟨g, 0, none⟩) (nf + 1) cap) nd (nf + 1) := by
  have hz := h.2.2.2.size
  refine ⟨?_, ?_, ok_snoc h.2.2.1 h1 h2, Below.grown (h.2.2.2.alloc hz _) hg (by simp; omega) (fun g' hg' => (h.2.1.lt g' hg').1)⟩
  · rw [(step_other (ne_space hc)).1]
    exact (h.1.alloc o).kept hg (own_apart (h.1.alloc o) (h.2.1.alloc o) (by decide))
  · rw [(step_other (ne_space hc)).2, cellsOf_append]
    exact ho
/-- A space behind a field. -/
theorem inv_full {w wr w1 : World} {l : List UInt8} {v : Value} {nd nf g gf cap fc : Nat} {o : Obj} (h : Inv w wr l v (.slice (some ⟨gf, 0, none⟩) nf fc) nd nf) (hn : 0 < nf) (c : UInt8) (hc : c.toNat = 32)
    (ho : w1.ownsRow w.heap.size 9 1 (.slice (some ⟨g, 0, none⟩) (nd + 1) cap) (nd + 1) (strCells (done l) ++ [.string ⟨(cur l).toArray⟩])) (hg : (wr.alloc o).grownBy w1 v.ownBlock) :
    Inv w w1 (l ++ [c]) (.slice (some ⟨g, 0, none⟩) (nd + 1) cap) (.slice (some ⟨gf, 0, none⟩) 0 fc) (nd + 1) 0 := by
  have hz := h.2.2.2.size
  rw [eq_space hc]
  refine ⟨?_, ?_, ok_snoc h.2.2.1 (by decide) (by decide), Below.grown (h.2.2.2.alloc hz _) hg (by simp; omega) (fun g' hg' => (h.1.lt g' hg').1)⟩
  · rw [(step_space_full (h.cur_ne hn)).1, ← strCells_snoc]
    exact ho
  · rw [(step_space_full (h.cur_ne hn)).2]
    exact own_cut0 ((h.2.1.alloc o).kept hg (own_apart (h.2.1.alloc o) (h.1.alloc o) (by decide)))
/-- A space behind none. -/
theorem inv_empty {w wr : World} {l : List UInt8} {v f : Value} {nd : Nat} (h : Inv w wr l v f nd 0) (c : UInt8) (hc : c.toNat = 32) : Inv w wr (l ++ [c]) v f nd 0 := by
  rw [eq_space hc]
  refine ⟨?_, ?_, ok_snoc h.2.2.1 (by decide) (by decide), h.2.2.2⟩
  · rw [(step_space_empty (h.cur_nil rfl)).1]; exact h.1
  · rw [(step_space_empty (h.cur_nil rfl)).2]
    have := h.2.1
    rw [h.cur_nil rfl] at this
    exact this

/-- The end: the fields are handed back. -/
theorem fin_yes {w w1 : World} {fs : List (List UInt8)} {k : List UInt8} {v : Value} {n : Nat} (hk : ansB k = true) (hf : fields k = fs) (hn : n = fs.length) (ho : w1.ownsRow w.heap.size 9 1 v n (strCells fs)) (hb : Below w.heap.size w w1) :
    SplitP w k (.returned (.tuple #[v, .bool true])) w1 :=
  ⟨v, by rw [hk], by rw [ansF_yes hk, hf, ← hn]; exact ho, hb⟩

set_option maxRecDepth 100000 in
set_option maxHeartbeats 1600000 in
theorem split (s : ByteArray) (w : World) (hs : s.size ≤ 1048576) :
    Calls Tryd.prog 16 #[.string s] w (SplitP w s.data.toList) := by
  by_cases h1 : 600 < s.size
  · have H := Lib.hid (ansB_long (l := s.data.toList) (by simpa using h1))
    go_enter Tryd.func16, Tryd.ntmps16
    go_wp2_with fail
    go_step3
    go_wp2_with fail
    rw [Exit.noGoto_ret]
    go_ret2
    exact split_no H.out (Below.refl _ _)
  obtain ⟨i0, hi, hz0, hz1, hz2⟩ := info_parts HexBase.infoB
  obtain ⟨j0, ji, jz0, jz1, jz2⟩ := info_parts infoS
  have h600 : s.size ≤ 600 := by omega
  clear h1 hs
  go_enter Tryd.func16, Tryd.ntmps16
  go_wp2_with fail
  go_step3
  go_wp2_with fail
  go_step3
  go_wp2_with fail
  go_loopw [4, 5, 6] (fun v f i wr => ∃ (k nd nf vc fc : Nat) (va fa : Option Addr), k ≤ s.size ∧ nd + nf ≤ k ∧ i = .int .i64 k ∧ v = .slice va nd vc ∧ f = .slice fa nf fc ∧ Inv w wr (s.data.toList.take k) (.slice va nd vc) (.slice fa nf fc) nd nf) (fun _ _ i _ => s.size - (intOf i).toNat)
  case atStart => exact ⟨0, 0, 0, 0, 0, none, none, Nat.zero_le _, Nat.le_refl _, rfl, rfl, rfl, World.ownsRow_nil _ _ _ _, World.ownsRow_nil _ _ _ _, rfl, Below.refl _ _⟩
  case round =>
    obtain ⟨k, nd, nf, vc, fc, va, fa, hk, hnn, rfl, rfl, rfl, hinv⟩ := hrel
    have HI := Lib.hid hinv
    clear hinv
    by_cases hlt : k < s.size
    · have hb : (s[k].toNat : Int) < 256 := by have := s[k].toNat_lt; omega
      have hz := HI.out.2.2.2.size
      by_cases hok : 32 ≤ s[k].toNat ∧ s[k].toNat ≤ 126
      · obtain ⟨d1, d2⟩ := hok
        by_cases hsp : s[k].toNat = 32
        · have hsp2 : ((s[k].toNat : Int) != 32) = false := by rw [bne_eq_false_iff_eq]; omega
          have HSP := Lib.hid hsp
          clear hsp
          by_cases hn0 : 0 < nf
          · obtain ⟨gf, fcap, hfv, _, _⟩ := HI.out.2.1.form hn0
            obtain ⟨rfl, rfl⟩ : fa = some ⟨gf, 0, none⟩ ∧ fc = fcap := by injection hfv with h1 _ h3; exact ⟨h1, h3⟩
            clear hfv
            have hconv := run_convert_bytes_back (P := Tryd.prog) wr 22 9 5 ⟨gf, 0, none⟩ fc (cur (s.data.toList.take k)) Tryd.underlying22 Tryd.underlying5 Tryd.underlying9 (fun j hj => HI.out.2.1.cells (g := gf) rfl j _ (by simp [cellsOf, List.getElem?_map, List.getElem?_eq_getElem hj]))
            rw [HI.out.nf_eq] at hconv
            obtain ⟨S, hS⟩ : ∃ S : ByteArray, S = ⟨(cur (s.data.toList.take k)).toArray⟩ := ⟨_, rfl⟩
            rw [← hS] at hconv
            have HS := Lib.hid hS
            clear hS
            go_wp2_with (at_builtin; go_must (refine wpList_append_lies _ rfl _ _ _ rfl w.heap.size 9 j0 _ 1 16 Tryd.underlying31 ji jz0 jz1 jz2 rfl (by omega) _ _ _ (by rfl) (HI.out.1.alloc _) ⟨wr.heap.size, 0, none⟩ 1 1 [.string S] (by rfl) (by rfl) (World.news_of_block (cs := #[.string S]) (t := 9) (fr := (0, 0)) (heap_alloc_new wr _)) (by simp [Value.oneCell']) (by omega) (by unfold maxLen; omega) (by omega) (by simp; omega) (wr.heap.size + 1) (by simp) ?_); intro gg cap1 w1 hown1 hgrow hat hlt2)
            have hI2 := inv_full HI.out hn0 s[k] HSP.out (by rw [HS.out] at hown1; exact hown1) hgrow
            rw [← SplitMath.take_snoc s k hlt] at hI2
            have HI2 := Lib.hid hI2
            clear hI2 hown1 hgrow hat hconv
            go_wp2_with fail
            go_roundw
            case rel => exact ⟨k + 1, nd + 1, 0, cap1, fc, some ⟨gg, 0, none⟩, some ⟨gf, 0, none⟩, by omega, by omega, by go_num, rfl, rfl, HI2.out⟩
            case measure => simp [intOf]; omega
          · obtain rfl : nf = 0 := by omega
            have HI2 : Hid (Inv w wr (s.data.toList.take (k + 1)) (.slice va nd vc) (.slice fa 0 fc) nd 0) := Lib.hid (by rw [SplitMath.take_snoc s k hlt]; exact inv_empty HI.out s[k] HSP.out)
            go_wp2_with fail
            go_roundw
            case rel => exact ⟨k + 1, nd, 0, vc, fc, va, fa, by omega, by omega, by go_num, rfl, rfl, HI2.out⟩
            case measure => simp [intOf]; omega
        · have hsp2 : ((s[k].toNat : Int) != 32) = true := by rw [bne_iff_ne]; omega
          have HSP := Lib.hid hsp
          clear hsp
          go_wp2_with (at_builtin; go_must (refine wpList_append_lies _ rfl _ _ _ rfl w.heap.size 5 i0 _ 1 1 Tryd.underlying22 hi hz0 hz1 hz2 rfl (by omega) _ _ _ (by rfl) (HI.out.2.1.alloc _) ⟨wr.heap.size, 0, none⟩ 1 1 [.int .u8 (s[k].toNat : Int)] (by rfl) (by rfl) (World.news_of_block (cs := #[.int .u8 (s[k].toNat : Int)]) (t := 5) (fr := (0, 0)) (heap_alloc_new wr _)) (by simp [Value.oneCell']) (by omega) (by unfold maxLen; omega) (by omega) (by simp; omega) (wr.heap.size + 1) (by simp) ?_); intro gg cap1 w1 hown1 hgrow hat hlt2)
          have hI2 := inv_other HI.out HSP.out d1 d2 hown1 hgrow
          rw [← SplitMath.take_snoc s k hlt] at hI2
          have HI2 := Lib.hid hI2
          clear hI2 hown1 hgrow hat
          go_wp2_with fail
          go_roundw
          case rel => exact ⟨k + 1, nd, nf + 1, vc, cap1, va, some ⟨gg, 0, none⟩, by omega, by omega, by go_num, rfl, rfl, HI2.out⟩
          case measure => simp [intOf]; omega
      · have H := Lib.hid (ansB_bad (mem_at s k hlt) (by simp only [okByte, decide_eq_false_iff_not]; exact hok))
        by_cases d1 : s[k].toNat < 32
        · go_wp2_with fail
          go_ret2
          exact split_no H.out HI.out.2.2.2
        · have d2 : 126 < s[k].toNat := by omega
          go_wp2_with fail
          go_ret2
          exact split_no H.out HI.out.2.2.2
    · obtain rfl : k = s.size := by omega
      have ht : s.data.toList.take s.size = s.data.toList := List.take_of_length_le (by simp)
      have hz := HI.out.2.2.2.size
      have HL : Hid (s.data.toList.length ≤ 600) := Lib.hid (by simpa using h600)
      have HI0 := HI
      rw [ht] at HI0
      by_cases hn0 : 0 < nf
      · have HFF := Lib.hid (fields_full (HI0.out.cur_ne hn0))
        have HFL : Hid ((fields s.data.toList).length = nd + 1) := Lib.hid (by rw [HFF.out, List.length_append, HI0.out.nd_eq]; rfl)
        obtain ⟨gf, fcap, hfv, _, _⟩ := HI0.out.2.1.form hn0
        obtain ⟨rfl, rfl⟩ : fa = some ⟨gf, 0, none⟩ ∧ fc = fcap := by injection hfv with h1 _ h3; exact ⟨h1, h3⟩
        clear hfv
        have hconv := run_convert_bytes_back (P := Tryd.prog) wr 22 9 5 ⟨gf, 0, none⟩ fc (cur s.data.toList) Tryd.underlying22 Tryd.underlying5 Tryd.underlying9 (fun j hj => HI0.out.2.1.cells (g := gf) rfl j _ (by simp [cellsOf, List.getElem?_map, List.getElem?_eq_getElem hj]))
        rw [HI0.out.nf_eq] at hconv
        obtain ⟨S, hS⟩ : ∃ S : ByteArray, S = ⟨(cur s.data.toList).toArray⟩ := ⟨_, rfl⟩
        rw [← hS] at hconv
        have HS := Lib.hid hS
        clear hS
        clear ht
        by_cases h24 : 24 < nd + 1
        · have H := Lib.hid (ansB_many (l := s.data.toList) (by rw [HFL.out]; exact h24))
          go_wp2_with (at_builtin; go_must (refine wpList_append_lies _ rfl _ _ _ rfl w.heap.size 9 j0 _ 1 16 Tryd.underlying31 ji jz0 jz1 jz2 rfl (by omega) _ _ _ (by rfl) (HI0.out.1.alloc _) ⟨wr.heap.size, 0, none⟩ 1 1 [.string S] (by rfl) (by rfl) (World.news_of_block (cs := #[.string S]) (t := 9) (fr := (0, 0)) (heap_alloc_new wr _)) (by simp [Value.oneCell']) (by omega) (by unfold maxLen; omega) (by omega) (by simp; omega) (wr.heap.size + 1) (by simp) ?_); intro gg cap1 w1 hown1 hgrow hat hlt2)
          have hb2 : Below w.heap.size w w1 := Below.grown (HI0.out.2.2.2.alloc hz _) hgrow (by simp; omega) (fun g' hg' => (HI0.out.1.lt g' hg').1)
          clear hown1 hgrow hat hconv
          go_wp2_with fail
          go_ret2
          exact split_no H.out hb2
        · have H := Lib.hid (ansB_good HL.out HI0.out.2.2.1 (by rw [HFL.out]; omega))
          go_wp2_with (at_builtin; go_must (refine wpList_append_lies _ rfl _ _ _ rfl w.heap.size 9 j0 _ 1 16 Tryd.underlying31 ji jz0 jz1 jz2 rfl (by omega) _ _ _ (by rfl) (HI0.out.1.alloc _) ⟨wr.heap.size, 0, none⟩ 1 1 [.string S] (by rfl) (by rfl) (World.news_of_block (cs := #[.string S]) (t := 9) (fr := (0, 0)) (heap_alloc_new wr _)) (by simp [Value.oneCell']) (by omega) (by unfold maxLen; omega) (by omega) (by simp; omega) (wr.heap.size + 1) (by simp) ?_); intro gg cap1 w1 hown1 hgrow hat hlt2)
          have hb2 : Below w.heap.size w w1 := Below.grown (HI0.out.2.2.2.alloc hz _) hgrow (by simp; omega) (fun g' hg' => (HI0.out.1.lt g' hg').1)
          rw [HS.out, strCells_snoc] at hown1
          clear hgrow hat hconv
          go_wp2_with fail
          go_ret2
          exact fin_yes H.out HFF.out (by rw [List.length_append, HI0.out.nd_eq]; rfl) hown1 hb2
      · obtain rfl : nf = 0 := by omega
        have HFF := Lib.hid (fields_empty (HI0.out.cur_nil rfl))
        have HFL : Hid ((fields s.data.toList).length = nd) := Lib.hid (by rw [HFF.out, HI0.out.nd_eq])
        clear ht
        by_cases h24 : 24 < nd
        · have H := Lib.hid (ansB_many (l := s.data.toList) (by rw [HFL.out]; exact h24))
          go_wp2_with fail
          go_ret2
          exact split_no H.out HI0.out.2.2.2
        · have H := Lib.hid (ansB_good HL.out HI0.out.2.2.1 (by rw [HFL.out]; omega))
          go_wp2_with fail
          go_ret2
          exact fin_yes H.out HFF.out HI0.out.nd_eq.symm HI0.out.1 HI0.out.2.2.2
end Go.Proofs.YtipaagcnkflebaaDoor.SplitImpl
