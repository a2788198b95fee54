/-
  What slices.AppendSeq and slices.Collect do over the halls behind a hall's doors.
-/
import Derived.Test.YtcfoleiooohbhaaHouDist
import Derived.RangeFuncBox
namespace Go.Proofs.Ytcfoleiooohbhaa.HouSeq
open Go.RowKit Go.Shelf PointOk Blk Pts HouMath HouIter HouMem HouDist
open Go.Proofs.Ytcfoleiooohbhaa.Own (icells icells_length icells_at icells_snoc own_base)
attribute [local go_sem] Oper.semAt_some

/-- Halls as numbers. -/
def ci (l : List Nat) : List Int := l.map fun (y : Nat) => (y : Int)
theorem ci_len (l : List Nat) : (ci l).length = l.length := by simp [ci]
theorem ci_snoc (l : List Nat) (x : Nat) : icells (ci (l ++ [x])) = icells (ci l) ++ [.int .i64 (x : Int)] := by simp [ci, icells]
/-- What an append to a slice in a box of one's own leaves. -/
theorem app_keep {base B b : Nat} {t e : TypeId} {W w1 : World} {v v' : Value} {k m : Nat} {xs ys : List Value} {cs : Array Value}
    (hB : Boxed W B t v) (hte : t ≠ e) (hbB : base ≤ B) (hb : base ≤ W.heap.size) (hrow : W.ownsRow base e 1 v k xs) (hb2 : b < base) (hT : t ≠ 83) (hE : e ≠ 83)
    (hown : w1.ownsRow base e 1 v' m ys) (hg : (W.alloc (.cells cs e)).grownBy w1 v.ownBlock) :
    KeepsOthers W (w1.setCell ⟨B, 0, none⟩ v') ∧ Kp base b W (w1.setCell ⟨B, 0, none⟩ v') := by
  have hA := Boxed.appended (tmp := .cells cs e) hB hte hrow hb hbB hown hg
  have k1 : Keep base b W (W.alloc (.cells cs e)) := (Keep.refl base b W).alloc hb _
  have k2 : Keep base b W w1 := by
    rcases (hrow.alloc (.cells cs e)).2 with ⟨hv, _⟩ | ⟨g, cap, cur, hv, hbg, hgb, _⟩
    · have hn : v.ownBlock = none := by rw [hv]; rfl
      rw [hn] at hg
      have hg2 : (W.alloc (.cells cs e)).grownBy w1 (some W.heap.size) := ⟨hg.os, hg.tape, hg.output, hg.size, fun i hi _ => hg.block i hi (by simp)⟩
      exact k1.grown hg2 (Holds.new W cs e) hE (by simp; omega) hb (by omega)
    · have hn : v.ownBlock = some g := by rw [hv]; rfl
      rw [hn] at hg
      exact k1.grown hg hgb hE (by simp; omega) hbg (by omega)
  have k3 : Keep base b W (w1.setCell ⟨B, 0, none⟩ v') := k2.set (k := 0) (cs := #[v]) hA.1 hT hbB (by omega) v'
  exact ⟨k3.others, k3.kp⟩
theorem infoS : (Try.prog.info? 3).map (fun i => (i.zero, i.size, i.bytes)) = some (some (.int .i64 0), 1, 8) := by kernel_rfl
theorem tyS : (31 : Nat) ≠ 3 ∧ (31 : Nat) ≠ 83 ∧ (3 : Nat) ≠ 83 := by decide

set_option maxRecDepth 100000 in
set_option maxHeartbeats 4000000 in
theorem appendSeq (H n cap x Bh Bx : Nat) (A : Option Addr) (ds : List (Int × Int)) (hf : HForm H ds) (hl : ds.length = n) (w : World)
    (hBh : Holds w Bh #[.int .i64 H, .slice A n cap] 41) (hBx : Holds w Bx #[.int .i64 x] 3) (hp : PtsAt w w.heap.size A ds) :
    CallsIn Fence.wide 5 Try.prog 58 #[.slice none 0 0, .func (.func 59) #[] #[.pointer (some ⟨Bh, 0, none⟩), .pointer (some ⟨Bx, 0, none⟩)]] w fun e w' =>
      ∃ v, e = .returned v ∧ w'.ownsRow w.heap.size 3 1 v (nb H ds x).length (icells (ci (nb H ds x))) ∧ Below w.heap.size w w' := by
  have HF := Lib.hid hf
  have h7 : H ≤ 7 := by have := hf.h7; omega
  clear hf
  refine callsIn_of_wp_marks Try.func58 rfl trivial ?_ rfl
  simp only [Try.ntmps58, List.size_toArray, List.length_cons, List.length_nil, Nat.reduceAdd, Nat.reduceSub, Array.replicate_succ, Array.replicate_zero, List.push_toArray, List.append_toArray, List.nil_append, List.cons_append]
  have hbx := hBx.lt
  have K8 := hBh.alloc (.cells #[.slice none 0 0] 31)
  have K9 := hBx.alloc (.cells #[.slice none 0 0] 31)
  have KP := hp.later (below1 w (.cells #[.slice none 0 0] 31))
  have KB := Boxed.new w 31 (.slice none 0 0)
  have hsz : w.heap.size ≤ (w.alloc (.cells #[.slice none 0 0] 31)).heap.size := by simp
  obtain ⟨i0, hi, hz0, hz1, hz2⟩ := info_parts infoS
  gi_wp2
  rename_i Q' K hK
  have HK := Lib.hid hK
  clear hK hBh hBx
  have hb0 : Below w.heap.size w (w.alloc (.cells #[.slice none 0 0] 31)) := below1 _ _
  obtain ⟨W3, hW3⟩ : ∃ W3, w.alloc (.cells #[.slice none 0 0] 31) = W3 := ⟨_, rfl⟩
  rw [hW3] at K8 K9 KP KB hsz hb0 ⊢
  obtain ⟨b0, hbb⟩ : ∃ b, w.heap.size = b := ⟨_, rfl⟩
  rw [hbb] at KP KB hsz hbx hb0 ⊢
  refine wpIn_rangeFunc_ownG rfl (by omega) (gf := 59) (lb := #[.pointer (some ⟨Bh, 0, none⟩), .pointer (some ⟨Bx, 0, none⟩)]) rfl trivial (enters_of Try.func59 (by kernel_rfl) rfl)
    (behind_stops 4 (by omega) Bh Bx b0 H n cap x A ds HF.out hl W3 hsz K8 K9 KP) (fun h k => Kp.t h k) (Kp.b hsz) (Below.refl _ _) (fun _ => rfl)
    (fun pre W' => ∃ v, Boxed W' b0 31 v ∧ W'.ownsRow b0 3 1 v (vals pre).length (icells (ci (vals pre))) ∧ b0 ≤ W'.heap.size ∧ Below b0 w W')
    (fun _ _ _ => False)
    (fun pre X Y row hs hg hr => by
      obtain ⟨v, h1, h2, h3, h4⟩ := hs
      refine ⟨v, h1.kept hg (fun e' => ?_), h2.kept hg ?_, Nat.le_trans h3 hg.size, h4.grown hg h3 (fun r e => Nat.le_trans hsz (hr r e).1)⟩
      · have := (hr b0 e'.symm).1
        have := KB.lt
        omega
      · rcases h2.2 with ⟨rfl, _⟩ | ⟨g, cap, cur, rfl, _, hgb, _⟩
        · exact .inl rfl
        · refine .inr fun e' => ?_
          obtain ⟨o, ho, hc⟩ := (hr g (by simpa [Value.ownBlock] using e'.symm)).2
          rw [hgb] at ho; cases ho; cases hc)
    (fun _ _ _ _ _ hs _ _ => hs)
    ⟨_, KB, World.ownsRow_nil _ _ _ _, hsz, hb0⟩
    (fun y => { tmps := #[.slice none 0 0, .func (.func 59) #[] #[.pointer (some ⟨Bh, 0, none⟩), .pointer (some ⟨Bx, 0, none⟩)], .pointer (some ⟨b0, 0, none⟩), undef, .slice none 0 0, .int .i64 (y.val : Int), .func (.func 59) #[] #[.pointer (some ⟨Bh, 0, none⟩), .pointer (some ⟨Bx, 0, none⟩)], .int .i64 (y.val : Int), undef, undef, undef, undef, undef], defers := [] }) ?assign ?body ?done ?stop
  case assign =>
    intro l' y W' K' hK'
    gi_wp2
    exact hK'
  case stop =>
    rintro D c pre W' _ _ h _
    exact h.elim
  case done =>
    rintro D xs W' hD hS ⟨v, h1, h2, h3, h4⟩ hKD
    rw [hS] at h2
    obtain ⟨c5, _⟩ := And.intro h1.cell h1.frozen
    refine HK.out _ _ ?_
    have S0 := Lib.hid (And.intro h2 h4)
    have hm : Marked [D] b0 W' := ⟨by simp, fun E hE => by simp at hE; subst hE; exact ⟨Nat.le_trans hsz hD, hKD⟩⟩
    clear h1 h2 h4 HK K8 K9 KP KB
    gi_wp2
    subst hbb
    refine leaves_marks (base := w.heap.size) (fun W' => W'.ownsRow w.heap.size 3 1 v (nb H ds x).length (icells (ci (nb H ds x))) ∧ Below w.heap.size w W') ?_ ?_ [D] W' hm S0.out
    · rintro W' D hb hK ⟨h1, h2⟩
      exact ⟨ownsRow_putObj h1 _ hK rfl, h2.trans (belowK_b (w := w) (Nat.le_refl _) W' D _ _ hb hK rfl rfl)⟩
    · rintro W' ⟨h1, h2⟩
      exact ⟨_, results_tmp rfl _ _ _, v, rfl, h1, h2⟩
  case body =>
    rintro l' pre y W' ⟨v, h1, h2, h3, h4⟩ hlt
    obtain ⟨z, hz⟩ := y
    have hv : Hid (vals (pre ++ [⟨z, hz⟩]) = vals pre ++ [z]) := Lib.hid (vals_snoc _ _)
    have hln : (vals pre).length = pre.length := by simp [vals]
    obtain ⟨q, hq⟩ : ∃ q, pre.length = q := ⟨_, rfl⟩
    rw [hq] at hlt hln
    generalize vals pre = pv at *
    rw [hln] at h2
    obtain ⟨c5, f5⟩ := And.intro h1.cell h1.frozen
    clear HK K8 K9 KP
    have hcell : (W'.alloc (.cells #[.int .i64 (z : Int)] 3)).cell? ⟨W'.heap.size, 0, none⟩ = some (.int .i64 (z : Int)) := Blk.boxI _ _ _ rfl
    gi_wp2_with (gi_at_builtin; refine wpListIn_append_own _ rfl _ _ 31 rfl b0 3 i0 (.int .i64 0) 1 8 Try.underlying31 hi hz0 hz1 hz2 rfl (by decide) _ _ _ rfl (h2.alloc _) ⟨W'.heap.size, 0, none⟩ 1 1 [.int .i64 (z : Int)] rfl rfl (by intro j u hj; match j, hj with | 0, hj => (simp at hj; subst hj; exact hcell)) (by intro u hu; simp at hu; subst hu; rfl) (by unfold maxLen; omega) (by omega) (by simp; omega) ?_; intro v1 w1 ho hg _; have hA := Boxed.appended h1 tyS.1 h2 h3 (Nat.le_refl _) ho hg; have hk := app_keep h1 tyS.1 (Nat.le_refl _) h3 h2 hbx tyS.2.1 tyS.2.2 ho hg; obtain ⟨g1, cp1, rfl⟩ := ownsRow_succ ho; obtain ⟨c6, f6⟩ := And.intro hA.1.cell hA.1.frozen)
    refine ⟨hk.1.from _, hk.2, _, hA.2.1, ?_, Nat.le_trans h3 hk.1.size, h4.trans hA.2.2.2.2⟩
    rw [hv.out, ci_snoc, List.length_append, hln]
    exact hA.2.2.1

set_option maxHeartbeats 1000000 in
theorem collect (H n cap x Bh Bx : Nat) (A : Option Addr) (ds : List (Int × Int)) (hf : HForm H ds) (hl : ds.length = n) (w : World)
    (hBh : Holds w Bh #[.int .i64 H, .slice A n cap] 41) (hBx : Holds w Bx #[.int .i64 x] 3) (hp : PtsAt w w.heap.size A ds) :
    Calls Try.prog 40 #[.func (.func 59) #[] #[.pointer (some ⟨Bh, 0, none⟩), .pointer (some ⟨Bx, 0, none⟩)]] w fun e w' =>
      ∃ v, e = .returned v ∧ w'.ownsRow w.heap.size 3 1 v (nb H ds x).length (icells (ci (nb H ds x))) ∧ Below w.heap.size w w' := by
  have Q := Lib.hid (appendSeq H n cap x Bh Bx A ds hf hl w hBh hBx hp)
  refine (callsIn_wide (n := 6)).1 ?_
  refine callsIn_of_wp Try.func40 rfl trivial ?_ rfl
  simp only [Try.ntmps40, List.size_toArray, List.length_cons, List.length_nil, Nat.reduceAdd, Nat.reduceSub, Array.replicate_succ, Array.replicate_zero, List.push_toArray, List.append_toArray, List.nil_append, List.cons_append]
  clear hf hl hBh hBx hp
  gi_wp2_with (refine ⟨trivial, ?_⟩; gi_at_call 58; refine Q.out.mono ?_; rintro e w' ⟨v, rfl, hrow, hb⟩)
  go_ret
  exact ⟨v, rfl, hrow, hb⟩
end Go.Proofs.Ytcfoleiooohbhaa.HouSeq
