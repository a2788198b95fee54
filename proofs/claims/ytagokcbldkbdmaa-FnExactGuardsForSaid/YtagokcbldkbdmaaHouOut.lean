/-
  What the landed leadsOutOf does, as a contract: is there a door to a hall that was not searched?
-/
import Derived.Test.YtagokcbldkbdmaaHouSeq
import Derived.Test.YtagokcbldkbdmaaHouWimpl
import Derived.Test.YtagokcbldkbdmaaHouGmath
namespace Go.Proofs.Ytagokcbldkbdmaa.HouOut
open Go.RowKit Go.Shelf PointOk Blk Pts HouMath HouMathB HouIter HouMem HouDist HouGmath
open Go.Proofs.Ytagokcbldkbdmaa.Own (icells icells_length icells_at own_base)
attribute [local go_sem] Oper.semAt_some

/-- A row of truth values. -/
def bs (M : List Bool) : Array Value := (M.map .bool).toArray
theorem bs_at {M : List Bool} {j : Nat} (h : j < M.length) : (bs M)[j]? = some (.bool (M.getD j false)) := by
  unfold bs
  rw [List.getElem?_toArray, List.getElem?_map, List.getElem?_eq_getElem h, List.getD_eq_getElem?_getD, List.getElem?_eq_getElem h]
  rfl
/-- All these halls were searched. -/
def Shut (M : List Bool) (l : List Nat) : Prop := ∀ y ∈ l, M.getD y false = true
/-- This hall was not. -/
def Open (M : List Bool) (z : Nat) : Prop := M.getD z false = false
def outB (H : Nat) (ds : List (Int × Int)) (M : List Bool) (a : Nat) : Bool := (nb H ds a).any fun y => !M.getD y false
theorem out_yes {H a z : Nat} {ds : List (Int × Int)} {M : List Bool} {pv : List Nat} (h : pv ++ [z] <+: nb H ds a) (h2 : Open M z) : outB H ds M a = true := by
  unfold outB
  rw [List.any_eq_true]
  exact ⟨z, h.subset (by simp), by unfold Open at h2; rw [h2]; rfl⟩
theorem out_no {H a : Nat} {ds : List (Int × Int)} {M : List Bool} (h : Shut M (nb H ds a)) : outB H ds M a = false := by
  unfold outB
  rw [List.any_eq_false]
  intro y hy
  rw [h y hy]; simp
/-- The boxes of the call: the house, the row, what it answers. -/
def SS (w : World) (H g : Nat) (A : Option Addr) (n cap : Nat) (ds : List (Int × Int)) (M : List Bool) (W : World) : Prop :=
  Holds W w.heap.size #[.int .i64 H, .slice A n cap] 30 ∧ Holds W (w.heap.size + 1) #[.slice (some ⟨g, 0, none⟩) H H] 144 ∧ Holds W (w.heap.size + 1 + 1) #[.bool false] 4 ∧ PtsAt W w.heap.size A ds ∧ Holds W g (bs M) 4 ∧ Below w.heap.size w W
theorem SS.later {w : World} {H g : Nat} {A : Option Addr} {n cap : Nat} {ds : List (Int × Int)} {M : List Bool} {W W' : World} (h : SS w H g A n cap ds M W) (hb : Below W.heap.size W W') : SS w H g A n cap ds M W' :=
  ⟨h.1.later hb, h.2.1.later hb, h.2.2.1.later hb, h.2.2.2.1.later (hb.mono h.2.2.2.2.2.size), h.2.2.2.2.1.later hb, h.2.2.2.2.2.trans (hb.mono h.2.2.2.2.2.size)⟩
theorem SS.start (w : World) (H g : Nat) (A : Option Addr) (n cap : Nat) (ds : List (Int × Int)) (M : List Bool) (hp : PtsAt w w.heap.size A ds) (hg : Holds w g (bs M) 4) :
    SS w H g A n cap ds M (((w.alloc (.cells #[.int .i64 H, .slice A n cap] 30)).alloc (.cells #[.slice (some ⟨g, 0, none⟩) H H] 144)).alloc (.cells #[.bool false] 4)) := by
  have hb := below3 w (.cells #[.int .i64 H, .slice A n cap] 30) (.cells #[.slice (some ⟨g, 0, none⟩) H H] 144) (.cells #[.bool false] 4)
  exact ⟨((Holds.new _ _ _).alloc _).alloc _, (Holds.box _ _ _ (by simp)).alloc _, Holds.box _ _ _ (by simp), hp.later hb, hg.later hb, hb⟩
theorem SS.cells {w : World} {H g : Nat} {A : Option Addr} {n cap : Nat} {ds : List (Int × Int)} {M : List Bool} {W : World} (h : SS w H g A n cap ds M W) :
    W.cell? ⟨w.heap.size, 0, none⟩ = some (.int .i64 H) ∧ W.cell? ⟨w.heap.size, 1, none⟩ = some (.slice A n cap) ∧ W.cell? ⟨w.heap.size + 1, 0, none⟩ = some (.slice (some ⟨g, 0, none⟩) H H) ∧ W.cell? ⟨w.heap.size + 1 + 1, 0, none⟩ = some (.bool false) ∧ W.frozen? ⟨w.heap.size + 1 + 1, 0, none⟩ = false :=
  ⟨h.1.two.1.1, h.1.two.1.2, h.2.1.one.1, h.2.2.1.one.1, h.2.2.1.one.2⟩
theorem SS.calm {w : World} {H g : Nat} {A : Option Addr} {n cap : Nat} {ds : List (Int × Int)} {M : List Bool} {X Y : World} {row : Option Nat} (h : SS w H g A n cap ds M X) (hg : X.grownBy Y row) (hr : ∀ r, row = some r → w.heap.size ≤ r ∧ ∃ o : Obj, X.heap[r]? = some o ∧ o.isCells = false) : SS w H g A n cap ds M Y := by
  have hb : Below w.heap.size X Y := (Below.refl _ X).grown hg h.2.2.2.2.2.size (fun r e => (hr r e).1)
  exact ⟨hold_calm h.1 hg (fun r e => (hr r e).2), hold_calm h.2.1 hg (fun r e => (hr r e).2), hold_calm h.2.2.1 hg (fun r e => (hr r e).2), h.2.2.2.1.later hb, hold_calm h.2.2.2.2.1 hg (fun r e => (hr r e).2), h.2.2.2.2.2.trans hb⟩
theorem res_cell {fn : Func} {p : Tmp} (h : fn.results = #[.cell p 4]) (tmps : Array Value) (W : World) (g : Nat) (x : Bool)
    (hp : tmps.getD p undef = .pointer (some ⟨g, 0, none⟩)) (hc : W.cell? ⟨g, 0, none⟩ = some (.bool x)) : (results fn tmps).run Try.prog W = .ok (.bool x) W := by
  have hp' : tmps[p]?.getD undef = .pointer (some ⟨g, 0, none⟩) := by simpa using hp
  simp [results, h, hp', asAddr, go_sem, loadVar, hc]

set_option maxRecDepth 100000 in
set_option maxHeartbeats 4000000 in
theorem leadsIn (H n cap a g : Nat) (A : Option Addr) (ds : List (Int × Int)) (M : List Bool) (hf : HForm H ds) (hl : ds.length = n) (hM : M.length = H) (w : World) (hp : PtsAt w w.heap.size A ds) (hG0 : Holds w g (bs M) 4) :
    CallsIn Fence.wide 8 Try.prog 116 #[.agg #[.int .i64 H, .slice A n cap], .int .i64 a, .slice (some ⟨g, 0, none⟩) H H] w fun e w' =>
      e = .returned (.bool (outB H ds M a)) ∧ Below w.heap.size w w' := by
  have h7 : H ≤ 7 := by have := hf.h7; omega
  have hn : n ≤ 1048576 := by have := hf.len; omega
  have QB := Lib.hid fun m w => hallsBehind m H n cap a A w
  have HF := Lib.hid hf
  clear hf
  refine callsIn_of_wp_marks Try.func116 rfl trivial ?_ rfl
  simp only [Try.ntmps116, List.size_toArray, List.length_cons, List.length_nil, Nat.reduceAdd, Nat.reduceSub, Array.replicate_succ, Array.replicate_zero, List.push_toArray, List.append_toArray, List.nil_append, List.cons_append]
  have S0 := SS.start w H g A n cap ds M hp hG0
  obtain ⟨w0, hw0⟩ : ∃ w0, ((w.alloc (.cells #[.int .i64 H, .slice A n cap] 30)).alloc (.cells #[.slice (some ⟨g, 0, none⟩) H H] 144)).alloc (.cells #[.bool false] 4) = w0 := ⟨_, rfl⟩
  rw [hw0] at S0
  obtain ⟨c0, c1, c2, c3, c4⟩ := S0.cells
  gi_wp2_with (first
    | (refine ⟨trivial, ?_⟩; gi_at_call 138; refine (QB.out _ _).mono ?_; rintro e w4 ⟨rfl, rfl⟩))
  rename_i Q' K hK
  have HK := Lib.hid hK
  have K8 := (Holds.box w0 #[.int .i64 H, .slice A n cap] 30 (k := w0.heap.size) rfl).alloc (.cells #[.int .i64 a] 3)
  have K9 := Holds.box (w0.alloc (.cells #[.int .i64 H, .slice A n cap] 30)) #[.int .i64 a] 3 (k := w0.heap.size + 1) (by simp)
  have S3 := (S0.later (below1 _ (.cells #[.int .i64 H, .slice A n cap] 30))).later (below1 _ (.cells #[.int .i64 a] 3))
  clear hK S0 c0 c1 c2 c3 c4 QB hw0
  generalize (w0.alloc (.cells #[.int .i64 H, .slice A n cap] 30)).alloc (.cells #[.int .i64 a] 3) = W3 at *
  obtain ⟨b8, hb8⟩ : ∃ b, w0.heap.size = b := ⟨_, rfl⟩
  rw [hb8] at K8 K9 ⊢
  clear hb8
  have hbig : w.heap.size ≤ W3.heap.size := S3.2.2.2.2.2.size
  refine wpIn_rangeFunc_ownG rfl (by omega) (gf := 148) (lb := #[.pointer (some ⟨b8, 0, none⟩), .pointer (some ⟨b8 + 1, 0, none⟩)]) rfl trivial (enters_of Try.func148 (by kernel_rfl) rfl)
    (behind_stops 7 (by omega) b8 (b8 + 1) w.heap.size H n cap a A ds HF.out hl W3 hbig K8 K9 S3.2.2.2.1) (fun h k => Kp.t h k) (Kp.b hbig) (Below.refl _ _) (fun _ => rfl)
    (fun pre W' => SS w H g A n cap ds M W' ∧ Shut M (vals pre))
    (fun c pre W' => c = .ret ∧ ∃ (pv : List Nat) (z : Nat), vals pre = pv ++ [z] ∧ Open M z ∧ Holds W' (w.heap.size + 1 + 1) #[.bool true] 4 ∧ Below w.heap.size w W')
    (fun pre X Y row hs hg hr => ⟨hs.1.calm hg (fun r e => ⟨Nat.le_trans hbig (hr r e).1, (hr r e).2⟩), hs.2⟩)
    (fun c pre X Y row hs hg hr => by
      obtain ⟨h0, pv, z, h1, h3, h4, h5⟩ := hs
      exact ⟨h0, pv, z, h1, h3, hold_calm h4 hg (fun r e => (hr r e).2), h5.grown hg h5.size (fun r e => Nat.le_trans hbig (hr r e).1)⟩)
    ⟨S3, fun y hy => by cases hy⟩
    (fun y => { tmps := #[.agg #[.int .i64 H, .slice A n cap], .int .i64 a, .slice (some ⟨g, 0, none⟩) H H, .pointer (some ⟨w.heap.size, 0, none⟩), undef, .pointer (some ⟨w.heap.size + 1, 0, none⟩), .pointer (some ⟨w.heap.size + 1 + 1, 0, none⟩), .int .i64 (y.val : Int), .agg #[.int .i64 H, .slice A n cap], .int .i64 a, .func (.func 148) #[] #[.pointer (some ⟨b8, 0, none⟩), .pointer (some ⟨b8 + 1, 0, none⟩)], .int .i64 (y.val : Int), undef, undef, undef, undef, undef], defers := [] }) ?assign ?body ?done ?stop
  case assign =>
    intro l' y W' K' hK'
    gi_wp2
    exact hK'
  case stop =>
    rintro D0 c pre W' hD hSp ⟨rfl, pv, z, h1, h3, h4, h5⟩ hKD
    rw [h1] at hSp
    have hE := Lib.hid (out_yes hSp h3)
    have hm : Marked [D0] w.heap.size W' := ⟨by simp, fun E hE => by simp at hE; subst hE; exact ⟨Nat.le_trans hbig hD, hKD⟩⟩
    clear HK K8 K9 S3
    gi_wp2
    refine leaves_marks (base := w.heap.size) (fun W' => Holds W' (w.heap.size + 1 + 1) #[.bool true] 4 ∧ Below w.heap.size w W') ?_ ?_ [D0] _ hm ⟨h4, h5⟩
    · rintro W' D hb hK ⟨h1, h2⟩
      exact ⟨hold_calm h1 (grownBy_putObj' W' D _) (fun r e => by cases e; exact ⟨_, hK, rfl⟩), h2.trans (belowK_b (w := w) (Nat.le_refl _) W' D _ _ hb hK rfl rfl)⟩
    · rintro W' ⟨h1, h2⟩
      exact ⟨_, res_cell rfl _ _ (w.heap.size + 1 + 1) _ rfl h1.one.1, by rw [hE.out], h2⟩
  case done =>
    rintro D0 xs W' hD hS ⟨S4, h3⟩ hKD
    rw [hS] at h3
    have hE := Lib.hid (out_no h3)
    refine HK.out _ _ ?_
    obtain ⟨c0, c1, c2, c3, c4⟩ := S4.cells
    clear HK K8 K9 S3 h3
    gi_wp2
    have hm : Marked [D0] w.heap.size (W'.setCell ⟨w.heap.size + 1 + 1, 0, none⟩ (.bool false)) := Marked.others ⟨by simp, fun E hE => by simp at hE; subst hE; exact ⟨Nat.le_trans hbig hD, hKD⟩⟩ (KeepsOthers.setCell _ _ _)
    have h5 : Below w.heap.size w (W'.setCell ⟨w.heap.size + 1 + 1, 0, none⟩ (.bool false)) := S4.2.2.2.2.2.setCell (p := ⟨w.heap.size + 1 + 1, 0, none⟩) (by show w.heap.size ≤ w.heap.size + 1 + 1; omega) _
    have h4 : Holds (W'.setCell ⟨w.heap.size + 1 + 1, 0, none⟩ (.bool false)) (w.heap.size + 1 + 1) #[.bool false] 4 := set_own S4.2.2.1 0 _
    refine leaves_marks (base := w.heap.size) (fun W' => Holds W' (w.heap.size + 1 + 1) #[.bool false] 4 ∧ Below w.heap.size w W') ?_ ?_ [D0] _ hm ⟨h4, h5⟩
    · rintro W' D hb hK ⟨h1, h2⟩
      exact ⟨hold_calm h1 (grownBy_putObj' W' D _) (fun r e => by cases e; exact ⟨_, hK, rfl⟩), h2.trans (belowK_b (w := w) (Nat.le_refl _) W' D _ _ hb hK rfl rfl)⟩
    · rintro W' ⟨h1, h2⟩
      exact ⟨_, res_cell rfl _ _ (w.heap.size + 1 + 1) _ rfl h1.one.1, by rw [hE.out], h2⟩
  case body =>
    rintro l' pre y W' ⟨S4, h3⟩ hlt
    obtain ⟨z, hz⟩ := y
    have hv := vals_snoc pre ⟨z, hz⟩
    obtain ⟨c0, c1, c2, c3, c4⟩ := S4.cells
    obtain ⟨cz, _⟩ := cellF S4.2.2.2.2.1 (bs_at (M := M) (j := z) (by omega))
    have hz0 : (0 : Int) ≤ (z : Int) := by omega
    have hzH : (z : Int) < (H : Int) := by omega
    clear HK K8 K9 S3
    obtain ⟨dz, hdz⟩ : ∃ x, M.getD z false = x := ⟨_, rfl⟩
    rw [hdz] at cz
    cases dz
    · have hOp : Open M z := hdz
      have h9 := Lib.hid (S4.2.2.2.2.2.setCell (p := ⟨w.heap.size + 1 + 1, 0, none⟩) (by show w.heap.size ≤ w.heap.size + 1 + 1; omega) (.bool true))
      have h8 := Lib.hid (set_own S4.2.2.1 0 (.bool true))
      have hk := Lib.hid (KeepsOthers.setCell W' ⟨w.heap.size + 1 + 1, 0, none⟩ (.bool true))
      gi_wp2
      exact ⟨hk.out.from _, rfl, vals pre, z, hv, hOp, h8.out, h9.out⟩
    · have hSh : Shut M (vals (pre ++ [⟨z, hz⟩])) := by
        intro y hy
        rw [hv] at hy
        rcases List.mem_append.1 hy with h5 | h5
        · exact h3 y h5
        · simp at h5
          subst h5
          exact hdz
      have kp : Kp w.heap.size (b8 + 1) W' W' := (Keep.refl w.heap.size (b8 + 1) W').kp
      have kd : KeepsOthers W' W' := KeepsOthers.refl W'
      gi_wp2
      exact ⟨kd.from _, kp, S4, hSh⟩
theorem leadsOut (H n cap a g : Nat) (A : Option Addr) (ds : List (Int × Int)) (M : List Bool) (hf : HForm H ds) (hl : ds.length = n) (hM : M.length = H) (w : World) (hp : PtsAt w w.heap.size A ds) (hG0 : Holds w g (bs M) 4) :
    Calls Try.prog 116 #[.agg #[.int .i64 H, .slice A n cap], .int .i64 a, .slice (some ⟨g, 0, none⟩) H H] w fun e w' => e = .returned (.bool (outB H ds M a)) ∧ Below w.heap.size w w' :=
  callsIn_wide.1 (leadsIn H n cap a g A ds M hf hl hM w hp hG0)
end Go.Proofs.Ytagokcbldkbdmaa.HouOut
