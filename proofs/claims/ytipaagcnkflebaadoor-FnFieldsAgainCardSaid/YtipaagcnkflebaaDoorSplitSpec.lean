/-
  What the model's SplitFields does, as a contract: the fields of the line in new memory and true, or nothing and false; no old cell is written.
-/
import Derived.Test.YtipaagcnkflebaaDoorSplitMath
import Derived.Test.YtipaagcnkflebaaDoorSplitImpl
namespace Go.Proofs.YtipaagcnkflebaaDoor.SplitSpec
open Go.RowKit SplitMath SplitImpl

theorem split_nothing {w wr : World} {l : List UInt8} (h : ansB l = false) (hb : Below w.heap.size w wr) : SplitP w l (.returned (.tuple #[.slice (some ⟨wr.heap.size, 0, none⟩) 0 0, .bool false])) (wr.alloc (.cells #[] 9)) :=
  ⟨_, by rw [h], by rw [ansF_no h]; exact World.ownsRow_lit (base := w.heap.size) (e := 9) (size := 1) wr #[] 0 hb.size (by decide) rfl, hb.alloc hb.size _⟩

/-- What holds at the head of round k; b: where the open field begins. -/
def SInv (w wr : World) (l : List UInt8) (k b : Nat) (v : Value) (nd : Nat) : Prop :=
  ∃ F, wr.ownsRow w.heap.size 9 1 v nd (strCells F) ∧ Below w.heap.size w wr ∧
    (k ≤ l.length → b ≤ k ∧ (l.take k).drop b = cur (l.take k) ∧ (l.take k).all okByte = true ∧ F = done (l.take k)) ∧ (k = l.length + 1 → l.all okByte = true ∧ F = fields l)
theorem SInv.below {w wr : World} {l : List UInt8} {k b nd : Nat} {v : Value} (h : SInv w wr l k b v nd) : Below w.heap.size w wr := by
  obtain ⟨_, _, hb, _⟩ := h; exact hb
theorem SInv.own {w wr : World} {l : List UInt8} {k b nd : Nat} {v : Value} (h : SInv w wr l k b v nd) : ∃ xs, wr.ownsRow w.heap.size 9 1 v nd xs := by
  obtain ⟨_, ho, _⟩ := h; exact ⟨_, ho⟩
theorem take_one {l : List UInt8} {k : Nat} (h : k < l.length) : l.take (k + 1) = l.take k ++ [l[k]] := List.take_succ_eq_append_getElem h

theorem sinv_start (w : World) (l : List UInt8) : SInv w (w.alloc (.cells #[] 9)) l 0 0 (.slice (some ⟨w.heap.size, 0, none⟩) 0 0) 0 :=
  ⟨[], World.ownsRow_lit (base := w.heap.size) (e := 9) (size := 1) w #[] 0 (Nat.le_refl _) (by decide) rfl, (Below.refl _ _).alloc (Nat.le_refl _) _, fun _ => ⟨Nat.le_refl _, rfl, rfl, rfl⟩, fun e => by omega⟩
/-- A byte of a field. -/
theorem sinv_other {w wr : World} {l : List UInt8} {k b nd : Nat} {v : Value} (h : SInv w wr l k b v nd) (hk : k < l.length) (hc : l[k].toNat ≠ 32) (h1 : 32 ≤ l[k].toNat) (h2 : l[k].toNat ≤ 126) : SInv w wr l (k + 1) b v nd := by
  obtain ⟨F, ho, hb, hA, _⟩ := h
  obtain ⟨hbk, hd, hok, hF⟩ := hA (by omega)
  have hs := step_other (l := l.take k) (ne_space hc)
  refine ⟨F, ho, hb, fun _ => ⟨by omega, ?_, ?_, ?_⟩, fun e => by omega⟩
  · rw [take_one hk, hs.2, ← hd, List.drop_append_of_le_length (by rw [List.length_take]; omega)]
  · rw [take_one hk]; exact ok_snoc hok h1 h2
  · rw [take_one hk, hs.1]; exact hF
/-- A space behind none. -/
theorem sinv_empty {w wr : World} {l : List UInt8} {k nd : Nat} {v : Value} (h : SInv w wr l k k v nd) (hk : k < l.length) (hc : l[k].toNat = 32) : SInv w wr l (k + 1) (k + 1) v nd := by
  obtain ⟨F, ho, hb, hA, _⟩ := h
  obtain ⟨hbk, hd, hok, hF⟩ := hA (by omega)
  have he : cur (l.take k) = [] := by rw [← hd]; apply List.eq_nil_of_length_eq_zero; rw [List.length_drop, List.length_take]; omega
  have hs := step_space_empty he
  have e32 := eq_space hc
  refine ⟨F, ho, hb, fun _ => ⟨Nat.le_refl _, ?_, ?_, ?_⟩, fun e => by omega⟩
  · rw [take_one hk, e32, hs.2]; apply List.eq_nil_of_length_eq_zero; simp; omega
  · rw [take_one hk]; exact ok_snoc hok (by omega) (by omega)
  · rw [take_one hk, e32, hs.1]; exact hF
theorem cur_of {l : List UInt8} {k b : Nat} (hk : k ≤ l.length) (hbk : b < k) (hd : (l.take k).drop b = cur (l.take k)) : cur (l.take k) ≠ [] := by
  intro e
  rw [e] at hd
  have := congrArg List.length hd
  simp at this
  omega
/-- A space behind a field. -/
theorem sinv_full {w wr w1 : World} {l : List UInt8} {k b nd g cap : Nat} {v : Value} {xs : List Value} {o : Obj} {S : ByteArray} (h : SInv w wr l k b v nd) (hx : wr.ownsRow w.heap.size 9 1 v nd xs) (hk : k < l.length) (hbk : b < k) (hc : l[k].toNat = 32) (hS : S.data.toList = (l.take k).drop b)
    (ho1 : w1.ownsRow w.heap.size 9 1 (.slice (some ⟨g, 0, none⟩) (nd + 1) cap) (nd + 1) (xs ++ [.string S])) (hg : (wr.alloc o).grownBy w1 v.ownBlock) :
    SInv w w1 l (k + 1) (k + 1) (.slice (some ⟨g, 0, none⟩) (nd + 1) cap) (nd + 1) := by
  obtain ⟨F, ho, hb, hA, _⟩ := h
  obtain ⟨_, hd, hok, hF⟩ := hA (by omega)
  have hxs := own_unique ho hx
  subst hxs
  have hs := step_space_full (cur_of (by omega) hbk hd)
  have e32 := eq_space hc
  have hz := hb.size
  have hS2 : S = ⟨(cur (l.take k)).toArray⟩ := by rw [← hd, ← hS]
  refine ⟨done (l.take (k + 1)), ?_, Below.grown (hb.alloc hz _) hg (by simp; omega) (fun g' hg' => (ho.lt g' hg').1), fun _ => ⟨Nat.le_refl _, ?_, ?_, rfl⟩, fun e => by omega⟩
  · rw [take_one hk, e32, hs.1, ← strCells_snoc, ← hF, ← hS2]; exact ho1
  · rw [take_one hk, e32, hs.2]; apply List.eq_nil_of_length_eq_zero; simp; omega
  · rw [take_one hk]; exact ok_snoc hok (by omega) (by omega)
/-- The line's end, behind a field and behind none. -/
theorem sinv_end_full {w wr w1 : World} {l : List UInt8} {b nd g cap : Nat} {v : Value} {xs : List Value} {o : Obj} {S : ByteArray} (h : SInv w wr l l.length b v nd) (hx : wr.ownsRow w.heap.size 9 1 v nd xs) (hbk : b < l.length) (hS : S.data.toList = l.drop b)
    (ho1 : w1.ownsRow w.heap.size 9 1 (.slice (some ⟨g, 0, none⟩) (nd + 1) cap) (nd + 1) (xs ++ [.string S])) (hg : (wr.alloc o).grownBy w1 v.ownBlock) (b' : Nat) :
    SInv w w1 l (l.length + 1) b' (.slice (some ⟨g, 0, none⟩) (nd + 1) cap) (nd + 1) := by
  obtain ⟨F, ho, hb, hA, _⟩ := h
  obtain ⟨_, hd, hok, hF⟩ := hA (Nat.le_refl _)
  have hxs := own_unique ho hx
  subst hxs
  have hne := cur_of (Nat.le_refl _) hbk hd
  rw [List.take_length] at hd hok hF hne
  have hz := hb.size
  have hS2 : S = ⟨(cur l).toArray⟩ := by rw [← hd, ← hS]
  refine ⟨fields l, ?_, Below.grown (hb.alloc hz _) hg (by simp; omega) (fun g' hg' => (ho.lt g' hg').1), fun e => by omega, fun _ => ⟨hok, rfl⟩⟩
  rw [fields_full hne, ← strCells_snoc, ← hF, ← hS2]; exact ho1
theorem sinv_end_empty {w wr : World} {l : List UInt8} {nd : Nat} {v : Value} (h : SInv w wr l l.length l.length v nd) (b' : Nat) : SInv w wr l (l.length + 1) b' v nd := by
  obtain ⟨F, ho, hb, hA, _⟩ := h
  obtain ⟨_, hd, hok, hF⟩ := hA (Nat.le_refl _)
  rw [List.take_length] at hd hok hF
  have he : cur l = [] := by rw [← hd]; simp
  exact ⟨F, ho, hb, fun e => by omega, fun _ => ⟨hok, by rw [fields_empty he]; exact hF⟩⟩
theorem SInv.count {w wr : World} {l : List UInt8} {k b nd : Nat} {v : Value} (h : SInv w wr l k b v nd) (hk : k ≤ l.length + 1) : nd ≤ l.length + 1 := by
  obtain ⟨F, ho, _, hA, hB⟩ := h
  have hn : F.length = nd := by have := ho.1; rw [strCells_length] at this; omega
  rcases Nat.lt_or_ge l.length k with h1 | h1
  · have := (hB (by omega)).2
    have hs := sizes l
    have hf : (fields l).length ≤ (done l).length + 1 := by unfold fields; split <;> simp
    rw [this] at hn; omega
  · have := (hA h1).2.2.2
    have hs := sizes (l.take k)
    rw [this] at hn
    rw [List.length_take] at hs; omega
theorem extract_list (s : ByteArray) (b k : Nat) : (s.extract b k).data.toList = (s.data.toList.take k).drop b := by
  rw [ByteArray.data_extract, Array.toList_extract, List.drop_take]

set_option maxRecDepth 100000 in
set_option maxHeartbeats 1600000 in
theorem split (s : ByteArray) (w : World) (hs : s.size ≤ 1048576) :
    Calls Tryd.prog 17 #[.string s] w (SplitP w s.data.toList) := by
  have hlen : s.data.toList.length = s.size := by simp
  by_cases h1 : 600 < s.size
  · have H := Lib.hid (ansB_long (l := s.data.toList) (by omega))
    clear hlen
    go_enter Tryd.func17, Tryd.ntmps17
    go_wp2_with fail
    go_ret2
    exact split_nothing H.out (Below.refl _ _)
  obtain ⟨j0, ji, jz0, jz1, jz2⟩ := info_parts infoS
  have h600 : s.size ≤ 600 := by omega
  have HLen := Lib.hid hlen
  clear h1 hs hlen
  go_enter Tryd.func17, Tryd.ntmps17
  go_wp2_with fail
  go_loopw [4, 5, 6] (fun v b i wr => ∃ (k b0 nd vc : Nat) (va : Option Addr), k ≤ s.size + 1 ∧ i = .int .i64 k ∧ b = .int .i64 b0 ∧ v = .slice va nd vc ∧ (k ≤ s.size → b0 ≤ k) ∧ nd ≤ 601 ∧ Hid (SInv w wr s.data.toList k b0 (.slice va nd vc) nd)) (fun _ _ i _ => s.size + 1 - (intOf i).toNat)
  case atStart => exact ⟨0, 0, 0, 0, _, Nat.zero_le _, rfl, rfl, rfl, fun _ => Nat.zero_le _, by omega, Lib.hid (sinv_start w _)⟩
  case round =>
    obtain ⟨k, b, nd, vc, va, hk, rfl, rfl, rfl, hbk, hnd, HI⟩ := hrel
    have hz := HI.out.below.size
    obtain ⟨xs, hx⟩ := HI.out.own
    have HX := Lib.hid hx
    clear hx
    by_cases hlt : k < s.size
    · have hbk1 : b ≤ k := hbk (by omega)
      clear hbk
      have hkl : k < s.data.toList.length := by rw [HLen.out]; exact hlt
      have HKL := Lib.hid hkl
      have hb : (s[k].toNat : Int) < 256 := by have := s[k].toNat_lt; omega
      by_cases hok : 32 ≤ s[k].toNat ∧ s[k].toNat ≤ 126
      · obtain ⟨d1, d2⟩ := hok
        by_cases hsp : s[k].toNat = 32
        · have hsp2 : ((s[k].toNat : Int) != 32) = false := by rw [bne_eq_false_iff_eq]; omega
          have HSP := Lib.hid hsp
          clear hsp hkl
          by_cases hlb : b < k
          · go_wp2_with (at_builtin; go_must (refine wpList_append_lies _ rfl _ _ _ rfl w.heap.size 9 j0 _ 1 16 Tryd.underlying31 ji jz0 jz1 jz2 rfl (by omega) _ _ _ (by rfl) (HX.out.alloc _) ⟨wr.heap.size, 0, none⟩ 1 1 [.string (s.extract b k)] (by rfl) (by rfl) (World.news_of_block (cs := #[.string (s.extract b k)]) (t := 9) (fr := (0, 0)) (heap_alloc_new wr _)) (by simp [Value.oneCell']) (by omega) (by unfold maxLen; omega) (by omega) (by simp; omega) (wr.heap.size + 1) (by simp) ?_); intro gg cap1 w1 hown1 hgrow hat hlt2)
            have hI2 := sinv_full HI.out HX.out HKL.out hlb HSP.out (extract_list s b k) hown1 hgrow
            have HC : Hid (nd + 1 ≤ 601) := Lib.hid (by have := hI2.count (by rw [HLen.out]; omega); rw [HLen.out] at this; omega)
            have HI2 := Lib.hid hI2
            clear hI2 hown1 hgrow hat
            go_wp2_with fail
            go_roundw
            case rel => exact ⟨k + 1, k + 1, nd + 1, cap1, some ⟨gg, 0, none⟩, by omega, by go_num, by go_num, rfl, fun _ => by omega, HC.out, HI2⟩
            case measure => simp [intOf]; omega
          · obtain rfl : b = k := by omega
            have HI2 := Lib.hid (sinv_empty HI.out HKL.out HSP.out)
            go_wp2_with fail
            go_roundw
            case rel => exact ⟨b + 1, b + 1, nd, vc, va, by omega, by go_num, by go_num, rfl, fun _ => by omega, hnd, HI2⟩
            case measure => simp [intOf]; omega
        · have hsp2 : ((s[k].toNat : Int) != 32) = true := by rw [bne_iff_ne]; omega
          have HI2 := Lib.hid (sinv_other HI.out hkl hsp d1 d2)
          clear hsp hkl
          go_wp2_with fail
          go_roundw
          case rel => exact ⟨k + 1, b, nd, vc, va, by omega, by go_num, by go_num, rfl, fun _ => by omega, hnd, HI2⟩
          case measure => simp [intOf]; omega
      · have H := Lib.hid (ansB_bad (SplitMath.mem_at s k hlt) (by simp only [okByte, decide_eq_false_iff_not]; exact hok))
        clear hkl
        by_cases d1 : s[k].toNat < 32
        · go_wp2_with fail
          go_ret2
          exact split_nothing H.out HI.out.below
        · have d2 : 126 < s[k].toNat := by omega
          go_wp2_with fail
          go_ret2
          exact split_nothing H.out HI.out.below
    · by_cases hend : k = s.size
      · have hbk1 : b ≤ k := hbk (by omega)
        clear hbk
        have hI := HI.out
        rw [hend, ← HLen.out] at hI
        have HI1 := Lib.hid hI
        clear hI HI
        subst hend
        by_cases hlb : b < s.size
        · go_wp2_with (at_builtin; go_must (refine wpList_append_lies _ rfl _ _ _ rfl w.heap.size 9 j0 _ 1 16 Tryd.underlying31 ji jz0 jz1 jz2 rfl (by omega) _ _ _ (by rfl) (HX.out.alloc _) ⟨wr.heap.size, 0, none⟩ 1 1 [.string (s.extract b s.size)] (by rfl) (by rfl) (World.news_of_block (cs := #[.string (s.extract b s.size)]) (t := 9) (fr := (0, 0)) (heap_alloc_new wr _)) (by simp [Value.oneCell']) (by omega) (by unfold maxLen; omega) (by omega) (by simp; omega) (wr.heap.size + 1) (by simp) ?_); intro gg cap1 w1 hown1 hgrow hat hlt2)
          have hI2 := sinv_end_full HI1.out HX.out (by rw [HLen.out]; exact hlb) (by rw [extract_list, List.take_of_length_le (by rw [HLen.out]; exact Nat.le_refl _)]) hown1 hgrow (s.size + 1)
          rw [HLen.out] at hI2
          have HC : Hid (nd + 1 ≤ 601) := Lib.hid (by have := hI2.count (by rw [HLen.out]; omega); rw [HLen.out] at this; omega)
          have HI2 := Lib.hid hI2
          clear hI2 hown1 hgrow hat
          go_wp2_with fail
          go_roundw
          case rel => exact ⟨s.size + 1, s.size + 1, nd + 1, cap1, some ⟨gg, 0, none⟩, by omega, by go_num, by go_num, rfl, fun _ => by omega, HC.out, HI2⟩
          case measure => simp [intOf]
        · have hbe : b = s.data.toList.length := by rw [HLen.out]; omega
          have hI2 := HI1.out
          rw [hbe] at hI2
          have hI3 := sinv_end_empty hI2 (s.size + 1)
          rw [HLen.out] at hI3
          have HI3 := Lib.hid hI3
          clear hI2 hI3 hbe
          go_wp2_with fail
          go_roundw
          case rel => exact ⟨s.size + 1, s.size + 1, nd, vc, va, by omega, by go_num, by go_num, rfl, fun _ => by omega, hnd, HI3⟩
          case measure => simp [intOf]
      · have hk1 : k = s.size + 1 := by omega
        have hI := HI.out
        have HF : Hid (s.data.toList.all okByte = true ∧ wr.ownsRow w.heap.size 9 1 (.slice va nd vc) nd (strCells (fields s.data.toList)) ∧ Below w.heap.size w wr) := Lib.hid (by
          obtain ⟨F, ho, hb, _, hB⟩ := hI
          obtain ⟨h1, h2⟩ := hB (by rw [HLen.out]; exact hk1)
          subst h2
          exact ⟨h1, ho, hb⟩)
        have HN : Hid ((fields s.data.toList).length = nd) := Lib.hid (by have := HF.out.2.1.1; rw [strCells_length] at this; omega)
        have hk2 : s.size < k := by omega
        clear hI hk1 hend hbk
        by_cases h24 : 24 < nd
        · have H := Lib.hid (ansB_many (l := s.data.toList) (by rw [HN.out]; exact h24))
          go_wp2_with fail
          go_ret2
          exact split_nothing H.out HF.out.2.2
        · have H := Lib.hid (ansB_good (l := s.data.toList) (by rw [HLen.out]; exact h600) HF.out.1 (by rw [HN.out]; omega))
          go_wp2_with fail
          go_ret2
          exact fin_yes H.out rfl HN.out.symm HF.out.2.1 HF.out.2.2
end Go.Proofs.YtipaagcnkflebaaDoor.SplitSpec
