/-
  What the landed StepTowards does, as a contract.
-/
import Derived.Test.YtknnekidfhooeaaHouSeq
import Derived.Test.YtknnekidfhooeaaHouReach
import Derived.Test.YtknnekidfhooeaaHouWimpl
import Derived.Test.YtknnekidfhooeaaFirstMath
namespace Go.Proofs.Ytknnekidfhooeaa.HouStep
open Go.RowKit Go.Shelf PointOk Blk Pts HouMath HouMathB HouIter HouMem HouDist HouReach FirstMath
open Go.Proofs.Ytknnekidfhooeaa.Own (icells icells_length icells_at icells_snoc own_base)
attribute [local go_sem] Oper.semAt_some

/-- None of these halls is nearer. -/
def Far (D : List Int) (a : Nat) (l : List Nat) : Prop := ∀ y ∈ l, ¬ D.getD y 0 < D.getD a 0
/-- This hall is nearer. -/
def Near (D : List Int) (a z : Nat) : Prop := D.getD z 0 < D.getD a 0
/-- The boxes of the call: the house, where it stands, what it answers. -/
def SS (w : World) (H a : Nat) (A : Option Addr) (n cap : Nat) (ds : List (Int × Int)) (W : World) : Prop :=
  Holds W w.heap.size #[.int .i64 H, .slice A n cap] 29 ∧ Holds W (w.heap.size + 1) #[.int .i64 a] 3 ∧ Holds W (w.heap.size + 1 + 1) #[.int .i64 0] 3 ∧ PtsAt W w.heap.size A ds ∧ Below w.heap.size w W
theorem SS.later {w : World} {H a : Nat} {A : Option Addr} {n cap : Nat} {ds : List (Int × Int)} {W W' : World} (h : SS w H a A n cap ds W) (hb : Below W.heap.size W W') : SS w H a A n cap ds W' :=
  ⟨h.1.later hb, h.2.1.later hb, h.2.2.1.later hb, h.2.2.2.1.later (hb.mono h.2.2.2.2.size), h.2.2.2.2.trans (hb.mono h.2.2.2.2.size)⟩
theorem SS.start (w : World) (H a : Nat) (A : Option Addr) (n cap : Nat) (ds : List (Int × Int)) (hp : PtsAt w w.heap.size A ds) :
    SS w H a A n cap ds (((w.alloc (.cells #[.int .i64 H, .slice A n cap] 29)).alloc (.cells #[.int .i64 a] 3)).alloc (.cells #[.int .i64 0] 3)) := by
  have hb := below3 w (.cells #[.int .i64 H, .slice A n cap] 29) (.cells #[.int .i64 a] 3) (.cells #[.int .i64 0] 3)
  exact ⟨((Holds.new _ _ _).alloc _).alloc _, (Holds.box _ _ _ (by simp)).alloc _, Holds.box _ _ _ (by simp), hp.later hb, hb⟩
theorem SS.cells {w : World} {H a : Nat} {A : Option Addr} {n cap : Nat} {ds : List (Int × Int)} {W : World} (h : SS w H a A n cap ds W) :
    W.cell? ⟨w.heap.size, 0, none⟩ = some (.int .i64 H) ∧ W.cell? ⟨w.heap.size, 1, none⟩ = some (.slice A n cap) ∧ W.cell? ⟨w.heap.size + 1, 0, none⟩ = some (.int .i64 a) ∧ W.cell? ⟨w.heap.size + 1 + 1, 0, none⟩ = some (.int .i64 0) ∧ W.frozen? ⟨w.heap.size + 1 + 1, 0, none⟩ = false :=
  ⟨h.1.two.1.1, h.1.two.1.2, h.2.1.one.1, h.2.2.1.one.1, h.2.2.1.one.2⟩

theorem SS.calm {w : World} {H a : Nat} {A : Option Addr} {n cap : Nat} {ds : List (Int × Int)} {X Y : World} {row : Option Nat} (h : SS w H a A n cap ds X) (hg : X.grownBy Y row) (hr : ∀ r, row = some r → w.heap.size ≤ r ∧ ∃ o : Obj, X.heap[r]? = some o ∧ o.isCells = false) : SS w H a A n cap ds Y := by
  have hb : Below w.heap.size X Y := (Below.refl _ X).grown hg h.2.2.2.2.size (fun r e => (hr r e).1)
  exact ⟨hold_calm h.1 hg (fun r e => (hr r e).2), hold_calm h.2.1 hg (fun r e => (hr r e).2), hold_calm h.2.2.1 hg (fun r e => (hr r e).2), h.2.2.2.1.later hb, h.2.2.2.2.trans hb⟩
theorem res_cell {fn : Func} {p : Tmp} (h : fn.results = #[.cell p 3]) (tmps : Array Value) (W : World) (g : Nat) (x : Int)
    (hp : tmps.getD p undef = .pointer (some ⟨g, 0, none⟩)) (hc : W.cell? ⟨g, 0, none⟩ = some (.int .i64 x)) : (results fn tmps).run Try.prog W = .ok (.int .i64 x) W := by
  have hp' : tmps[p]?.getD undef = .pointer (some ⟨g, 0, none⟩) := by simpa using hp
  simp [results, h, hp', asAddr, go_sem, loadVar, hc]

set_option maxRecDepth 100000 in
set_option maxHeartbeats 4000000 in
theorem stepHall (H n cap a b : Nat) (A : Option Addr) (ds : List (Int × Int)) (hh : houseB H ds = true) (hl : ds.length = n) (ha : a < H) (hb : b < H) (w : World) (hp : PtsAt w w.heap.size A ds) :
    CallsIn Fence.wide 8 Try.prog 38 #[.agg #[.int .i64 H, .slice A n cap], .int .i64 a, .int .i64 b] w fun e w' =>
      e = .returned (.int .i64 (stepN H ds (dist H ds b) a)) ∧ Below w.heap.size w w' := by
  have hf := house_form hh
  have h7 : H ≤ 7 := by have := hf.h7; omega
  have hn : n ≤ 1048576 := by have := hf.len; omega
  have hd0 := house_dist hh ha hb
  have hall : ∀ x : Nat, x < H → hallOf H ds x = true := fun x hx => by unfold hallOf; rw [hh, inH_iff.2 ⟨by omega, by omega⟩]; rfl
  have hE : hallDistI H ds a b = (dist H ds a).getD b 0 := hallDist_yes (by rw [hall a ha, hall b hb]; rfl)
  have Q1 := Lib.hid fun (m : Nat) w hp => (callsIn_wide (n := m)).2 (HouWimpl.hallDistance H A n cap a b w ds hl hn hp)
  have Q2 := Lib.hid fun (m : Nat) w hp => (callsIn_wide (n := m)).2 (HouDist.distancesIn A n cap H b ds hf hl hb w hp)
  have QB := Lib.hid fun m w => hallsBehind m H n cap a A w
  rw [hE] at Q1
  obtain ⟨d, hd⟩ : ∃ d, (dist H ds a).getD b 0 = d := ⟨_, rfl⟩
  rw [hd] at Q1 hd0
  have hDl := dist_len (ds := ds) hb
  have HF := Lib.hid hf
  clear hall hE hd hh hf
  generalize dist H ds b = D at *
  refine callsIn_of_wp_marks Try.func38 rfl trivial ?_ rfl
  simp only [Try.ntmps38, List.size_toArray, List.length_cons, List.length_nil, Nat.reduceAdd, Nat.reduceSub, Array.replicate_succ, Array.replicate_zero, List.push_toArray, List.append_toArray, List.nil_append, List.cons_append]
  have S0 := SS.start w H a A n cap ds hp
  obtain ⟨w0, hw0⟩ : ∃ w0, ((w.alloc (.cells #[.int .i64 H, .slice A n cap] 29)).alloc (.cells #[.int .i64 a] 3)).alloc (.cells #[.int .i64 0] 3) = w0 := ⟨_, rfl⟩
  rw [hw0] at S0
  obtain ⟨c0, c1, c2, c3, c4⟩ := S0.cells
  have hd1 : decide (d < 0) = false := decide_eq_false (by omega)
  gi_wp2_with (first
    | (refine ⟨trivial, ?_⟩; gi_at_call 29; refine (Q1.out _ _ (S0.2.2.2.1.wide S0.2.2.2.2.size)).mono ?_; rintro e w1 ⟨rfl, hb_⟩; have S1 := S0.later hb_; obtain ⟨c0, c1, c2, c3, c4⟩ := S1.cells)
    | (refine ⟨trivial, ?_⟩; gi_at_call 53; refine (Q2.out _ _ (S1.2.2.2.1.wide S1.2.2.2.2.size)).mono ?_; rintro e w2 ⟨g, rfl, hG, hg, hb2_⟩; have S2 := (S1.later hb2_).later (below1 _ (.cells #[.slice (some ⟨g, 0, none⟩) H H] 35)); obtain ⟨c0, c1, c2, c3, c4⟩ := S2.cells)
    | (refine ⟨trivial, ?_⟩; gi_at_call 60; refine (QB.out _ _).mono ?_; rintro e w4 ⟨rfl, rfl⟩))
  rename_i Q' K hK
  have HK := Lib.hid hK
  have hg2 := hG.lt
  have K7 := ((Holds.new w2 #[.slice (some ⟨g, 0, none⟩) H H] 35).alloc (.cells #[.int .i64 H, .slice A n cap] 29)).alloc (.cells #[.int .i64 a] 3)
  have K8 := (Holds.box (w2.alloc (.cells #[.slice (some ⟨g, 0, none⟩) H H] 35)) #[.int .i64 H, .slice A n cap] 29 (k := w2.heap.size + 1) (by simp)).alloc (.cells #[.int .i64 a] 3)
  have K9 := Holds.box ((w2.alloc (.cells #[.slice (some ⟨g, 0, none⟩) H H] 35)).alloc (.cells #[.int .i64 H, .slice A n cap] 29)) #[.int .i64 a] 3 (k := w2.heap.size + 1 + 1) (by simp)
  have G3 := ((hG.alloc (.cells #[.slice (some ⟨g, 0, none⟩) H H] 35)).alloc (.cells #[.int .i64 H, .slice A n cap] 29)).alloc (.cells #[.int .i64 a] 3)
  have S3 := (S2.later (below1 _ (.cells #[.int .i64 H, .slice A n cap] 29))).later (below1 _ (.cells #[.int .i64 a] 3))
  clear hK S0 S1 S2 hb_ hb2_ hG c0 c1 c2 c3 c4 Q1 Q2 QB hw0 hd1 hg
  generalize ((w2.alloc (.cells #[.slice (some ⟨g, 0, none⟩) H H] 35)).alloc (.cells #[.int .i64 H, .slice A n cap] 29)).alloc (.cells #[.int .i64 a] 3) = W3 at *
  obtain ⟨b7, hb7⟩ : ∃ b, w2.heap.size = b := ⟨_, rfl⟩
  rw [hb7] at K7 K8 K9 ⊢
  clear hb7 hg2
  have hbig : w.heap.size ≤ W3.heap.size := S3.2.2.2.2.size
  refine wpIn_rangeFunc_ownG rfl (by omega) (gf := 81) (lb := #[.pointer (some ⟨b7 + 1, 0, none⟩), .pointer (some ⟨b7 + 1 + 1, 0, none⟩)]) rfl trivial (enters_of Try.func81 (by kernel_rfl) rfl)
    (behind_stops 7 (by omega) (b7 + 1) (b7 + 1 + 1) w.heap.size H n cap a A ds HF.out hl W3 hbig K8 K9 S3.2.2.2.1) (fun h k => Kp.t h k) (Kp.b hbig) (Below.refl _ _) (fun _ => rfl)
    (fun pre W' => SS w H a A n cap ds W' ∧ Holds W' b7 #[.slice (some ⟨g, 0, none⟩) H H] 35 ∧ Holds W' g (icells D).toArray 3 ∧ Far D a (vals pre))
    (fun c pre W' => c = .ret ∧ ∃ (pv : List Nat) (z : Nat), vals pre = pv ++ [z] ∧ Far D a pv ∧ Near D a z ∧ Holds W' (w.heap.size + 1 + 1) #[.int .i64 z] 3 ∧ Below w.heap.size w W')
    (fun pre X Y row hs hg hr => ⟨hs.1.calm hg (fun r e => ⟨Nat.le_trans hbig (hr r e).1, (hr r e).2⟩), hold_calm hs.2.1 hg (fun r e => (hr r e).2), hold_calm hs.2.2.1 hg (fun r e => (hr r e).2), hs.2.2.2⟩)
    (fun c pre X Y row hs hg hr => by
      obtain ⟨h0, pv, z, h1, h2, h3, h4, h5⟩ := hs
      exact ⟨h0, pv, z, h1, h2, h3, hold_calm h4 hg (fun r e => (hr r e).2), h5.grown hg h5.size (fun r e => Nat.le_trans hbig (hr r e).1)⟩)
    ⟨S3, K7, G3, fun y hy => by cases hy⟩
    (fun y => { tmps := #[.agg #[.int .i64 H, .slice A n cap], .int .i64 a, .int .i64 b, .pointer (some ⟨w.heap.size, 0, none⟩), .pointer (some ⟨w.heap.size + 1, 0, none⟩), undef, .pointer (some ⟨w.heap.size + 1 + 1, 0, none⟩), .pointer (some ⟨b7, 0, none⟩), .int .i64 (y.val : Int), .agg #[.int .i64 H, .slice A n cap], .int .i64 a, .int .i64 b, .int .i64 d, .bool false, .agg #[.int .i64 H, .slice A n cap], .int .i64 b, .slice (some ⟨g, 0, none⟩) H H, .agg #[.int .i64 H, .slice A n cap], .int .i64 a, .func (.func 81) #[] #[.pointer (some ⟨b7 + 1, 0, none⟩), .pointer (some ⟨b7 + 1 + 1, 0, none⟩)], .int .i64 (y.val : Int), undef, undef, undef, undef, undef, undef, undef, undef, undef, undef, undef], defers := [] }) ?assign ?body ?done ?stop
  case assign =>
    intro l' y W' K' hK'
    gi_wp2
    exact hK'
  case stop =>
    rintro D0 c pre W' hD hSp ⟨rfl, pv, z, h1, h2, h3, h4, h5⟩ hKD
    rw [h1] at hSp
    have hE := Lib.hid (step_pre (D := D) hSp h2 h3)
    have hm : Marked [D0] w.heap.size W' := ⟨by simp, fun E hE => by simp at hE; subst hE; exact ⟨Nat.le_trans hbig hD, hKD⟩⟩
    clear HK K7 K8 K9 S3 G3
    gi_wp2
    refine leaves_marks (base := w.heap.size) (fun W' => Holds W' (w.heap.size + 1 + 1) #[.int .i64 z] 3 ∧ Below w.heap.size w W') ?_ ?_ [D0] _ hm ⟨h4, h5⟩
    · rintro W' D hb hK ⟨h1, h2⟩
      exact ⟨hold_calm h1 (grownBy_putObj' W' D _) (fun r e => by cases e; exact ⟨_, hK, rfl⟩), h2.trans (belowK_b (w := w) (Nat.le_refl _) W' D _ _ hb hK rfl rfl)⟩
    · rintro W' ⟨h1, h2⟩
      exact ⟨_, res_cell rfl _ _ (w.heap.size + 1 + 1) _ rfl h1.one.1, by rw [hE.out], h2⟩
  case done =>
    rintro D0 xs W' hD hS ⟨S4, h1, h2, h3⟩ hKD
    rw [hS] at h3
    have hE := Lib.hid (HouReach.step_end (D := D) h3)
    refine HK.out _ _ ?_
    obtain ⟨c0, c1, c2, c3, c4⟩ := S4.cells
    clear HK K7 K8 K9 S3 G3 h3
    gi_wp2
    have hm : Marked [D0] w.heap.size (W'.setCell ⟨w.heap.size + 1 + 1, 0, none⟩ (.int .i64 (a : Int))) := Marked.others ⟨by simp, fun E hE => by simp at hE; subst hE; exact ⟨Nat.le_trans hbig hD, hKD⟩⟩ (KeepsOthers.setCell _ _ _)
    have h5 : Below w.heap.size w (W'.setCell ⟨w.heap.size + 1 + 1, 0, none⟩ (.int .i64 (a : Int))) := S4.2.2.2.2.setCell (p := ⟨w.heap.size + 1 + 1, 0, none⟩) (by show w.heap.size ≤ w.heap.size + 1 + 1; omega) _
    have h4 : Holds (W'.setCell ⟨w.heap.size + 1 + 1, 0, none⟩ (.int .i64 (a : Int))) (w.heap.size + 1 + 1) #[.int .i64 a] 3 := set_own S4.2.2.1 0 _
    refine leaves_marks (base := w.heap.size) (fun W' => Holds W' (w.heap.size + 1 + 1) #[.int .i64 a] 3 ∧ Below w.heap.size w W') ?_ ?_ [D0] _ hm ⟨h4, h5⟩
    · rintro W' D hb hK ⟨h1, h2⟩
      exact ⟨hold_calm h1 (grownBy_putObj' W' D _) (fun r e => by cases e; exact ⟨_, hK, rfl⟩), h2.trans (belowK_b (w := w) (Nat.le_refl _) W' D _ _ hb hK rfl rfl)⟩
    · rintro W' ⟨h1, h2⟩
      exact ⟨_, res_cell rfl _ _ (w.heap.size + 1 + 1) _ rfl h1.one.1, by rw [hE.out], h2⟩
  case body =>
    rintro l' pre y W' ⟨S4, h1, h2, h3⟩ hlt
    obtain ⟨z, hz⟩ := y
    have hv := vals_snoc pre ⟨z, hz⟩
    have hlt' : ∀ i, i < H → (icells D).toArray[i]? = some (.int .i64 (D.getD i 0)) := fun i hi => by
      rw [List.getElem?_toArray, icells_at (by omega)]
      simp [List.getD, show i < D.length by omega]
    obtain ⟨c0, c1, c2, c3, c4⟩ := S4.cells
    obtain ⟨c7, _⟩ := cellF h1 (k := 0) rfl
    obtain ⟨cz, _⟩ := cellF h2 (hlt' z hz)
    obtain ⟨ca, _⟩ := cellF h2 (hlt' a ha)
    have hz0 : (0 : Int) ≤ (z : Int) := by omega
    have hzH : (z : Int) < (H : Int) := by omega
    have ha0 : (0 : Int) ≤ (a : Int) := by omega
    have haH : (a : Int) < (H : Int) := by omega
    clear HK K7 K8 K9 S3 G3
    obtain ⟨dz, hdz⟩ : ∃ x, D.getD z 0 = x := ⟨_, rfl⟩
    obtain ⟨da, hda⟩ : ∃ x, D.getD a 0 = x := ⟨_, rfl⟩
    rw [hdz] at cz
    rw [hda] at ca
    have HNr : dz < da → Near D a z := fun h => by unfold Near; rw [hdz, hda]; exact h
    have HFr : ¬ dz < da → Far D a (vals (pre ++ [⟨z, hz⟩])) := fun h y hy => by
      rw [hv] at hy
      rcases List.mem_append.1 hy with h5 | h5
      · exact h3 y h5
      · simp at h5
        subst h5
        rw [hdz, hda]
        exact h
    gi_wp2
    refine wpIn_mono (Q := fun e a' w' => e = .normal ∧ a' = ⟨#[.agg #[.int .i64 H, .slice A n cap], .int .i64 a, .int .i64 b, .pointer (some ⟨w.heap.size, 0, none⟩), .pointer (some ⟨w.heap.size + 1, 0, none⟩), undef, .pointer (some ⟨w.heap.size + 1 + 1, 0, none⟩), .pointer (some ⟨b7, 0, none⟩), .int .i64 (z : Int), .agg #[.int .i64 H, .slice A n cap], .int .i64 a, .int .i64 b, .int .i64 d, .bool false, .agg #[.int .i64 H, .slice A n cap], .int .i64 b, .slice (some ⟨g, 0, none⟩) H H, .agg #[.int .i64 H, .slice A n cap], .int .i64 a, .func (.func 81) #[] #[.pointer (some ⟨b7 + 1, 0, none⟩), .pointer (some ⟨b7 + 1 + 1, 0, none⟩)], .int .i64 (z : Int), .slice (some ⟨g, 0, none⟩) H H, .int .i64 z, .pointer (some ⟨g, z, none⟩), .int .i64 dz, .slice (some ⟨g, 0, none⟩) H H, .int .i64 a, .pointer (some ⟨g, a, none⟩), .int .i64 da, .bool (decide (dz < da)), undef, undef], []⟩ ∧ w' = W'.drew) ?_ ?_
    · gi_region
      all_goals exact ⟨rfl, rfl, rfl⟩
    rintro e a' w' ⟨he, ha', hw⟩
    rw [he, ha', hw]
    clear he ha' hw e a' w'
    have S5 : SS w H a A n cap ds W'.drew := S4.later (Below.refl _ _).drew
    have f1 : Holds W'.drew b7 #[.slice (some ⟨g, 0, none⟩) H H] 35 := h1
    have f2 : Holds W'.drew g (icells D).toArray 3 := h2
    have kd : KeepsOthers W' W'.drew := KeepsOthers.drew W'
    have kp : Kp w.heap.size (b7 + 1 + 1) W' W'.drew := ((Keep.refl w.heap.size (b7 + 1 + 1) W').drew).kp
    generalize W'.drew = W5 at *
    obtain ⟨c0, c1, c2, c3, c4⟩ := S5.cells
    by_cases hlt2 : dz < da
    · have h9 := Lib.hid (S5.2.2.2.2.setCell (p := ⟨w.heap.size + 1 + 1, 0, none⟩) (by show w.heap.size ≤ w.heap.size + 1 + 1; omega) (.int .i64 (z : Int)))
      have h8 := Lib.hid (set_own S5.2.2.1 0 (.int .i64 (z : Int)))
      have hk := Lib.hid (kd.trans (KeepsOthers.setCell W5 ⟨w.heap.size + 1 + 1, 0, none⟩ (.int .i64 (z : Int))))
      rw [decide_eq_true hlt2]
      gi_wp2
      exact ⟨hk.out.from _, rfl, vals pre, z, hv, h3, HNr hlt2, h8.out, h9.out⟩
    · rw [decide_eq_false hlt2]
      gi_wp2
      exact ⟨kd.from _, kp, S5, f1, f2, HFr hlt2⟩
end Go.Proofs.Ytknnekidfhooeaa.HouStep
