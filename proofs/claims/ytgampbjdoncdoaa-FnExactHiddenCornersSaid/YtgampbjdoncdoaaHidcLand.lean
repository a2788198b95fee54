/-
  What the landed HiddenCorners does, as a contract: the corners that hide from each other, in new memory.
-/
import Derived.Test.YtgampbjdoncdoaaHidcMathB
import Derived.Test.YtgampbjdoncdoaaInImpl
import Derived.Test.YtgampbjdoncdoaaThatImpl
import Derived.Test.YtgampbjdoncdoaaLawInt
import Derived.Test.YtgampbjdoncdoaaRoomRes
import Derived.Deep.RegionHeld3
import Derived.Deep.RegionLawGrows
import Derived.Laws.OwnMore
namespace Go.Proofs.Ytgampbjdoncdoaa.HidcLand
open Go.RowKit Own PointMath WallMath RoomMath Pts Blk AreaMath PlaceMath FloorMath LineMath CutsMath SightMath KernMath DiagMath NearMath HidcMath HidcMathB
open PointOk (ret_bool ret_i64 below1 below2 below3)

/-- The corners taken among the first k; whether corner k is taken. -/
def hG (ps : List (Int × Int)) (k : Nat) : List Int := if roomB ps then hcTo ps k else []
def hF (ps : List (Int × Int)) (k : Nat) : Bool := hiddenB ps (ptsZ ps (hG ps k) ++ [pt ps k])
theorem hF_no {ps : List (Int × Int)} (h : roomB ps = false) (k : Nat) : hF ps k = false := by
  unfold hF hiddenB allIn
  rw [h]; rfl
theorem hG_hid {ps : List (Int × Int)} (hr : roomB ps = true) : ∀ k, k ≤ ps.length → hidM ps (ptsZ ps (hcTo ps k)) = true
  | 0, _ => rfl
  | k + 1, hk => by
    have ih := hG_hid hr k (by omega)
    have hn := (roomB_yes hr).1.2
    have hs := hid_step hr (show k < ps.length by omega) hn (fun x hx => hcTo_at hx) (hcTo_len ps k) ih
    unfold hcTo
    split
    · rename_i hf
      rw [hf] at hs
      unfold hiddenB at hs
      rw [Bool.and_eq_true] at hs
      rw [ptsZ_snoc]
      exact hs.2
    · exact ih
theorem hF_yes {ps : List (Int × Int)} (hr : roomB ps = true) {k : Nat} (hk : k < ps.length) : hF ps k = hfreeTo ps (hcTo ps k) k (hcTo ps k).length := by
  unfold hF hG
  rw [if_pos hr]
  exact hid_step hr hk (roomB_yes hr).1.2 (fun x hx => hcTo_at hx) (hcTo_len ps k) (hG_hid hr k (by omega))
theorem hG_step {ps : List (Int × Int)} {k : Nat} (hk : k < ps.length) : hG ps (k + 1) = if hF ps k then hG ps k ++ [(k : Int)] else hG ps k := by
  cases hr : roomB ps
  · rw [hF_no hr]
    unfold hG
    rw [hr]; rfl
  · rw [hF_yes hr hk]
    unfold hG
    rw [hr]
    rfl
theorem that_hG {ps : List (Int × Int)} : ∀ k, k ≤ ps.length → thatTo (hF ps) k = hG ps k
  | 0, _ => by unfold hG; split <;> rfl
  | k + 1, hk => by
    rw [hG_step (by omega), ← that_hG k (by omega)]
    rfl
theorem hG_all (ps : List (Int × Int)) : hG ps ps.length = hcL ps := rfl
theorem hG_len (ps : List (Int × Int)) (k : Nat) : (hG ps k).length ≤ k := by
  unfold hG
  split
  · exact hcTo_len ps k
  · simp

theorem own_prefix {W : World} {b e sz g k m cap : Nat} {xs ys : List Value} (h : W.ownsRow b e sz (.slice (some ⟨g, 0, none⟩) (k + m) cap) (k + m) (xs ++ ys)) (hx : xs.length = k * sz) : W.ownsRow b e sz (.slice (some ⟨g, 0, none⟩) k cap) k xs := by
  rcases h.2 with ⟨h1, _⟩ | ⟨g', cap', cur, h1, h2, h3, h4, h5, h6, h7⟩
  · cases h1
  · injection h1 with e1 _ e3
    injection e1 with e1
    injection e1 with e1
    subst e1
    subst e3
    refine ⟨hx, .inr ⟨g, cap, cur, rfl, h2, h3, by omega, h5, h6, ?_⟩⟩
    have := congrArg (List.take (k * sz)) h7
    have e2 : List.take (k * sz) (xs ++ ys) = xs := by rw [List.take_append_of_le_length (Nat.le_of_eq hx.symm), List.take_of_length_le (Nat.le_of_eq hx)]
    rw [e2, List.take_take, Nat.min_eq_left (Nat.mul_le_mul_right _ (by omega))] at this
    exact this
theorem infoP : (Try.prog.info? 65).map (fun i => (i.zero, i.size, i.bytes)) = some (some (.agg #[.int .i64 0, .int .i64 0]), 2, 16) := by kernel_rfl
set_option maxRecDepth 100000 in
set_option maxHeartbeats 3200000 in
/-- A point is appended, and the elder slice stays as it was. -/
theorem step_append_two (w : World) {ops : Array Oper} {o : Oper} {a : Act} {K : Act → World → Prop} {Q : Exit → Act → World → Prop} {E : Prop} (hgd : o.guard = none) (s x : Operand)
    (ho : o.op = .call { callee := .builtin .append, args := #[s, x], argTypes := #[60, 60] })
    (B : Nat) (v : Value) (n : Nat) (L : List (Int × Int)) (hs : a.eval s = v) (hown : w.ownsRow B 65 2 v n (cellsP L))
    (z0 z1 : Int) (hx : a.eval x = .slice (some ⟨w.heap.size, 0, none⟩) 1 1) (hN : n ≤ 1048575) (hB : B ≤ w.heap.size)
    (h : ∀ v' w', w'.ownsRow B 65 2 v' (n + 1) (cellsP (L ++ [(z0, z1)])) → w'.ownsRow B 65 2 v n (cellsP L) → w.grownBy w' v.ownBlock → K (a.put o.dst v') w') :
    if Region.wanted o (yielded ops a.tmps) = true then Oper.wp Try.prog o a (w.alloc (Obj.cells #[.int .i64 z0, .int .i64 z1] 65)) K Q else E := by
  obtain ⟨i0, hi, hz0, hz1, hz2⟩ := info_parts infoP
  have hb1 := below1 w (Obj.cells #[.int .i64 z0, .int .i64 z1] 65)
  have h1 := own_below hown hb1
  have e1 : cellsP (L ++ [(z0, z1)]) = cellsP L ++ [.int .i64 z0, .int .i64 z1] := by rw [FloorImpl.cellsP_app]; rfl
  have hnews : ∀ j u, [Value.int .i64 z0, Value.int .i64 z1][j]? = some u → (w.alloc (Obj.cells #[.int .i64 z0, .int .i64 z1] 65)).cell? ((⟨w.heap.size, 0, none⟩ : Addr).add j) = some u := by
    intro j u hj
    match j, hj with
    | 0, hj => (simp at hj; subst hj; simp [Addr.add])
    | 1, hj => (simp at hj; subst hj; simp [Addr.add])
  have hone : ∀ u ∈ [Value.int .i64 z0, Value.int .i64 z1], u.oneCell' = true := by
    intro u hu
    simp at hu
    rcases hu with rfl | rfl <;> rfl
  rw [e1] at h
  obtain ⟨A, cap, rfl⟩ := own_shape hown
  by_cases hroom : n + 1 ≤ cap
  · have hA : ∃ g, A = some ⟨g, 0, none⟩ := by
      rcases hown.2 with ⟨h5, _⟩ | ⟨g', cap', cur, h5, _⟩
      · injection h5 with _ _ h6; omega
      · injection h5 with h6; exact ⟨g', h6⟩
    obtain ⟨g, rfl⟩ := hA
    have hw : Region.wanted o (yielded ops a.tmps) = true := by simp [Region.wanted, hgd]
    rw [if_pos hw]
    obtain ⟨w', hrun, r1, r2⟩ := run_append_fits (P := Try.prog) (w := w.alloc (Obj.cells #[.int .i64 z0, .int .i64 z1] 65)) B 60 o.type 65 i0 2 Try.underlying60 hi hz1 g n cap (cellsP L) h1 ⟨w.heap.size, 0, none⟩ 1 1 [.int .i64 z0, .int .i64 z1] rfl hnews hone hroom
    unfold Oper.wp
    simp [execOp, ho, resolve, invoke, builtin, hs, hx, hrun, Result.andThen]
    exact h _ _ r1 (own_prefix r1 hown.1) (grown_trans (grown_of_below hb1 _) r2)
  · refine step_append_grows hgd s x 60 ho 65 i0 _ 2 16 Try.underlying60 hi hz0 hz1 hz2 rfl (by decide) A n cap (cellsP L) hs ?hn hown.1 ?hc ⟨w.heap.size, 0, none⟩ 1 1 [.int .i64 z0, .int .i64 z1] hx rfl hnews hone (by omega) (by unfold maxLen; omega) (by omega) ?_
    case hn =>
      intro e
      subst e
      rcases hown.2 with ⟨h5, h6⟩ | ⟨g', cap', cur, h5, _⟩
      · injection h5 with _ _ h7; exact ⟨h6, h7⟩
      · injection h5 with h6; cases h6
    case hc =>
      intro b hb j u hu
      subst hb
      have hj : j < n * 2 := by rw [← hown.1]; exact (List.getElem?_eq_some_iff.1 hu).1
      rcases h1.2 with ⟨h5, _⟩ | ⟨g', cap', cur, h5, _⟩
      · cases h5
      · injection h5 with h6 _ h8
        injection h6 with h6
        subst h6
        have hc := h1.cellAt j hj
        rw [hu] at hc
        by_cases hj0 : j = 0
        · subst hj0; exact hc
        · simpa [Addr.add, hj0] using hc
    intro v' w' r1 r2
    have hsz : B ≤ (w.alloc (Obj.cells #[.int .i64 z0, .int .i64 z1] 65)).heap.size := Nat.le_trans hB hb1.size
    refine h v' w' (own_base r1 hsz) (h1.kept r2 ?_) (grown_trans (grown_of_below hb1 _) ⟨r2.os, r2.tape, r2.output, r2.size, fun k hk _ => r2.block k hk (by simp)⟩)
    cases hv : (Value.slice A n cap).ownBlock with
    | none => exact .inl rfl
    | some g => exact .inr (by simp)

/-- What holds neither points nor a slice of points holds it still. -/
def KeepO (W W' : World) : Prop := W.heap.size ≤ W'.heap.size ∧ ∀ (x : Nat) (cs : Array Value) (T : TypeId) (fr : Nat × Nat), T ≠ 65 → T ≠ 60 → W.heap[x]? = some (.cells cs T fr) → W'.heap[x]? = some (.cells cs T fr)
theorem KeepO.trans {A B C : World} (h : KeepO A B) (k : KeepO B C) : KeepO A C := ⟨Nat.le_trans h.1 k.1, fun x cs T fr h1 h2 hx => k.2 x cs T fr h1 h2 (h.2 x cs T fr h1 h2 hx)⟩
theorem KeepO.of_below {W W' : World} (h : Below W.heap.size W W') : KeepO W W' := ⟨h.size, fun x _ _ _ _ _ hx => (h.block x (Array.getElem?_eq_some_iff.1 hx).1).trans hx⟩
theorem KeepO.of_grown {W W' : World} {row : Option Nat} (h : W.grownBy W' row) (hr : ∀ g, row = some g → ∃ cs T fr, W.heap[g]? = some (.cells cs T fr) ∧ (T = 65 ∨ T = 60)) : KeepO W W' :=
  ⟨h.size, fun x cs T fr h1 h2 hx => (h.block x (Array.getElem?_eq_some_iff.1 hx).1 (fun e => by
    obtain ⟨cs', T', fr', hg, ht⟩ := hr x e.symm
    rw [hx] at hg
    injection hg with hg
    injection hg with _ hg
    subst hg
    rcases ht with rfl | rfl
    · exact h1 rfl
    · exact h2 rfl)).trans hx⟩
theorem own_type {W : World} {b e sz n : Nat} {v : Value} {xs : List Value} (h : W.ownsRow b e sz v n xs) {g : Nat} (hg : v.ownBlock = some g) : ∃ cs fr, W.heap[g]? = some (.cells cs e fr) := by
  rcases h.2 with ⟨rfl, _⟩ | ⟨g', cap', cur, rfl, _, hb, _⟩
  · cases hg
  · have e1 : g' = g := Option.some.inj hg
    subst e1
    exact ⟨_, _, hb⟩
theorem own_ne {W : World} {b e sz n kb : Nat} {v : Value} {xs : List Value} {cs : Array Value} {T : TypeId} (h : W.ownsRow b e sz v n xs) (hH : Holds W kb cs T) (hT : e ≠ T) : ∀ g, v.ownBlock = some g → g ≠ kb := by
  intro g hg hk
  subst hk
  obtain ⟨cs', fr, hb⟩ := own_type h hg
  have h2 := hb.symm.trans hH
  injection h2 with h2
  injection h2 with _ h3
  exact hT h3

theorem own_pts2 {w : World} {b e n c : Nat} {A : Option Addr} {ps : List (Int × Int)} (h : w.ownsRow b e 2 (.slice A n c) n (cellsP ps)) : PtsAt w w.heap.size A ps := by
  obtain ⟨A2, c2, e2, _, hp⟩ := LawInt.own_pts h
  injection e2 with e2 e3 e4
  subst e2
  exact hp
/-- The points in a cell that a closure has caught. -/
def Kept (W : World) (C3 : Nat) (Z : List (Int × Int)) : Prop := ∃ v, Holds W C3 #[v] 60 ∧ W.ownsRow C3 65 2 v Z.length (cellsP Z)

set_option maxRecDepth 100000 in
set_option maxHeartbeats 6400000 in
theorem asks (A : Option Addr) (n cap C1 C3 k : Nat) (b : Bool) (v : Value) (q : Nat) (w : World) (ps Z : List (Int × Int)) (hl : ps.length = n) (hn : n ≤ 1048576) (hk : k < n) (hC : C1 < C3) (hq : Z.length = q) (hqk : q ≤ 1048575) (nx : List (Int × Int)) (hnx : nx = if b then Z ++ [pt ps k] else Z)
    (hb : hiddenB ps (Z ++ [pt ps k]) = b) (h1 : BoxR w C1 (.slice A n cap)) (h3 : Holds w C3 #[v] 60) (hown : w.ownsRow C3 65 2 v q (cellsP Z)) (hp : PtsAt w C3 A ps) :
    Calls Try.prog 97 (#[.int .i64 (k : Int)] ++ #[.pointer (some ⟨C3, 0, none⟩), .pointer (some ⟨C1, 0, none⟩)]) w fun e w' => e = .returned (.bool b) ∧
      Kept w' C3 nx ∧ Below C3 w w' ∧ KeepO w w' := by
  show Calls Try.prog 97 #[.int .i64 (k : Int), .pointer (some ⟨C3, 0, none⟩), .pointer (some ⟨C1, 0, none⟩)] w _
  have p0 := pt_at (ps := ps) (k := k) (by omega)
  have k0 : (0 : Int) ≤ (k : Int) := by omega
  have k1 : (k : Int) < (n : Int) := by omega
  have hHB := Lib.hid hb
  obtain ⟨px, py, hpk⟩ : ∃ x y, pt ps k = (x, y) := ⟨_, _, rfl⟩
  rw [hpk] at p0 hHB hnx
  have hnx := Lib.hid hnx
  obtain ⟨ad, rfl, bA, pA⟩ := hp.get p0
  obtain ⟨c1, _⟩ := id h1
  obtain ⟨c3, _⟩ := h3.one
  have hlt3 := h3.lt
  have QA : Hid (∀ (B : Option Addr) (m cb : Nat) (W : World) (qs : List (Int × Int)) (hp : PtsAt W W.heap.size (some ad) ps) (hl2 : qs.length = m) (hn2 : m ≤ 1048576) (hq : PtsAt W W.heap.size B qs) (hc : m ≤ cb), _) := Lib.hid fun (B : Option Addr) (m cb : Nat) (W : World) (qs : List (Int × Int)) (hp : PtsAt W W.heap.size (some ad) ps) (hl2 : qs.length = m) (hn2 : m ≤ 1048576) (hq : PtsAt W W.heap.size B qs) (hc : m ≤ cb) => InImpl.areHidden (some ad) n cap B m cb W ps hl hn hp qs hl2 hn2 hq hc
  have HS : Hid (∀ W, Below C3 w W → Holds W C3 #[v] 60 → (W.cell? ⟨C3, 0, none⟩ = some v ∧ W.cell? ⟨C1, 0, none⟩ = some (.slice (some ad) n cap) ∧ PtAt W ad k px py)) := Lib.hid (fun W hb h => ⟨h.one.1, (hb.cell (p := ⟨C1, 0, none⟩) hC).trans c1, pA.later bA hb⟩)
  clear hb p0 hpk c1 c3
  go_enter Try.func97, Try.ntmps97
  go_wp2_with fail
  have HB : Below C3 w w.drew := (Below.refl _ _).drew
  have H3 : Holds w.drew C3 #[v] 60 := h3
  have hownD := own_below hown (show Below w.heap.size w w.drew from (Below.refl _ _).drew)
  have HK : KeepO w w.drew := KeepO.of_below (Below.refl _ _).drew
  have hltD : C3 ≤ w.drew.heap.size := Nat.le_of_lt hlt3
  have HS1_ := HS.out _ HB H3
  clear h1 h3 hown
  refine wp_region_held_drew (S := fun W => W.cell? ⟨C3, 0, none⟩ = some v ∧ W.cell? ⟨C1, 0, none⟩ = some (.slice (some ad) n cap) ∧ PtAt W ad k px py) (by kernel_rfl) HS1_ (fun hHeld => ?_)
  clear HS1_
  generalize w.drew = v0 at *
  refine wpAnyH_take (i := 0) (oi := ⟨some 6, _, _, _, _, _⟩) (v := ?_) rfl (by kernel_rfl) (by kernel_rfl) (by kernel_rfl) (fun _ _ _ h => h) (Or.inl ⟨by rfl, ?_⟩) (by assumption) ?_
  rotate_left 1
  · (intro w hSw; obtain ⟨_, _, ⟨_, _⟩⟩ := hSw; go_simp; try with_reducible rfl)
  try simp only [Act.put, List.setIfInBounds_toArray, List.set_cons_zero, List.set_cons_succ]
  refine wpAnyH_take (i := 1) (oi := ⟨some 7, _, _, _, _, _⟩) (v := ?_) rfl (by kernel_rfl) (by kernel_rfl) (by kernel_rfl) (fun _ _ _ h => h) (Or.inl ⟨by rfl, ?_⟩) (by assumption) ?_
  rotate_left 1
  · (intro w hSw; obtain ⟨_, _, ⟨_, _⟩⟩ := hSw; go_simp; try with_reducible rfl)
  try simp only [Act.put, List.setIfInBounds_toArray, List.set_cons_zero, List.set_cons_succ]
  refine wpAnyH_take (i := 2) (oi := ⟨some 8, _, _, _, _, _⟩) (v := ?_) rfl (by kernel_rfl) (by kernel_rfl) (by kernel_rfl) (fun _ _ _ h => h) (Or.inl ⟨by rfl, ?_⟩) (by assumption) ?_
  rotate_left 1
  · (intro w hSw; obtain ⟨_, _, ⟨_, _⟩⟩ := hSw; go_simp; try with_reducible rfl)
  try simp only [Act.put, List.setIfInBounds_toArray, List.set_cons_zero, List.set_cons_succ]
  refine wpAnyH_take (i := 3) (oi := ⟨some 9, _, _, _, _, _⟩) (v := ?_) rfl (by kernel_rfl) (by kernel_rfl) (by kernel_rfl) (fun _ _ _ h => h) (Or.inl ⟨by rfl, ?_⟩) (by assumption) ?_
  rotate_left 1
  · (intro w hSw; obtain ⟨_, _, ⟨_, _⟩⟩ := hSw; go_simp; try with_reducible rfl)
  try simp only [Act.put, List.setIfInBounds_toArray, List.set_cons_zero, List.set_cons_succ]
  refine wpAnyH_take (i := 4) (oi := ⟨some 10, _, _, _, _, _⟩) (v := ?_) rfl (by kernel_rfl) (by kernel_rfl) (by kernel_rfl) (fun _ _ _ h => h) (Or.inl ⟨by rfl, ?_⟩) (by assumption) ?_
  rotate_left 1
  · (intro w hSw; obtain ⟨_, _, ⟨_, _⟩⟩ := hSw; go_simp; try with_reducible rfl)
  try simp only [Act.put, List.setIfInBounds_toArray, List.set_cons_zero, List.set_cons_succ]
  refine wpAnyH_take (i := 5) (oi := ⟨some 11, _, _, _, _, _⟩) (v := ?_) rfl (by kernel_rfl) (by kernel_rfl) (by kernel_rfl) (fun _ _ _ h => h) (Or.inl ⟨by rfl, ?_⟩) (by assumption) ?_
  rotate_left 1
  · (intro w hSw; obtain ⟨_, _, ⟨_, _⟩⟩ := hSw; go_simp; try with_reducible rfl)
  try simp only [Act.put, List.setIfInBounds_toArray, List.set_cons_zero, List.set_cons_succ]
  refine wpAnyH_ready (rs := [6]) (by kernel_rfl) (by simp) ?_
  refine AllReadyH.cons (o := ⟨some 12, _, _, _, _, _⟩) rfl (fun K hK => ?_) ?_
  rotate_left 1
  · exact AllReadyH.nil
  have hba := below1 v0 (Obj.cells #[.int .i64 px, .int .i64 py] 65)
  go_simp
  refine hK.out _ _ (HS.out _ (HB.trans (hba.mono hltD)) (H3.later hba)) (fun hHeld => ?_)
  clear hK K
  try simp only [Act.put, List.setIfInBounds_toArray, List.set_cons_zero, List.set_cons_succ]
  refine wpAnyH_ready (rs := [7]) (by kernel_rfl) (by simp) ?_
  refine AllReadyH.cons (o := ⟨some 13, _, _, _, _, _⟩) rfl (fun K hK => ?_) ?_
  rotate_left 1
  · exact AllReadyH.nil
  refine step_append_two v0 rfl _ _ rfl C3 v q Z rfl hownD px py rfl hqk hltD ?_
  intro v5 w5 h5 h5o hg5
  have hn5 := own_ne hownD H3 (by decide)
  have HB5 : Below C3 w w5 := HB.trans ((Below.refl C3 v0).grown hg5 hltD (fun g hg => (hownD.lt g hg).1))
  have H35 : Holds w5 C3 #[v] 60 := (hg5.block C3 H3.lt (fun e => hn5 C3 e.symm rfl)).trans H3
  have HK5 : KeepO w w5 := HK.trans (KeepO.of_grown hg5 (fun g hg => by obtain ⟨cs, fr, h⟩ := own_type hownD hg; exact ⟨cs, _, fr, h, .inl rfl⟩))
  refine hK.out _ _ (HS.out _ HB5 H35) (fun hHeld => ?_)
  clear hK K
  try simp only [Act.put, List.setIfInBounds_toArray, List.set_cons_zero, List.set_cons_succ]
  refine wpAnyH_ready (rs := [8]) (by kernel_rfl) (by simp) ?_
  refine AllReadyH.cons (o := ⟨some 5, _, _, _, _, _⟩) rfl (fun K hK => ?_) ?_
  rotate_left 1
  · exact AllReadyH.nil
  go_simp
  refine hK.out _ _ (HS.out _ HB5 H35) (fun hHeld => ?_)
  clear hK K
  try simp only [Act.put, List.setIfInBounds_toArray, List.set_cons_zero, List.set_cons_succ]
  refine wpAnyH_done (by kernel_rfl) ?_ _
  obtain ⟨c3, c1, _⟩ := HS.out _ HB5 H35
  have hzl : (Z ++ [(px, py)]).length = q + 1 := by simp [hq]
  obtain ⟨A5, c5, rfl⟩ := own_shape h5
  have hcap5 : q + 1 ≤ c5 := by
    rcases h5.2 with ⟨h6, _⟩ | ⟨g', cap', cur, h6, _, _, h7, _⟩
    · injection h6 with _ h7 h8; omega
    · injection h6 with _ _ h8; omega
  have P5 := own_pts2 h5
  have hpw : PtsAt w5 w5.heap.size (some ad) ps := (hp.later HB5).wide (Nat.le_trans (Nat.le_of_lt H35.lt) (Nat.le_refl _))
  clear hownD HB H3 HK hg5 hn5 hltD hba
  go_wp2_with fail
  refine (QA.out A5 (q + 1) c5 w5 (Z ++ [(px, py)]) hpw hzl (by omega) P5 hcap5).mono ?_
  rintro e w6 ⟨rfl, hb_⟩
  rw [hHB.out]
  have HB6 := HB5.trans (hb_.mono (Nat.le_of_lt H35.lt))
  have H36 := H35.later hb_
  have HK6 := HK5.trans (KeepO.of_below hb_)
  have h6 := own_below h5 hb_
  have h6o := own_below h5o hb_
  obtain ⟨_, _⟩ := H36.one
  have hlt6 := H36.lt
  clear hb_ QA P5 hpw hHB HB5 H35 HK5 h5 h5o c3 c1
  cases b
  · have kk_ : Hid (Kept w6 C3 nx) := Lib.hid (by rw [hnx.out]; exact ⟨v, H36, by show w6.ownsRow _ _ _ _ Z.length (cellsP Z); rw [hq]; exact h6o⟩)
    clear hnx h6 h6o H36
    go_wp2_with fail
    go_ret
    exact ⟨rfl, kk_.out, HB6, HK6⟩
  · have hst : Holds (w6.setCell ⟨C3, 0, none⟩ (.slice A5 (q + 1) c5)) C3 #[.slice A5 (q + 1) c5] 60 := Blk.set_own H36 0 _
    have hg7 := RoomRes.grown_set w6 C3 0 (.slice A5 (q + 1) c5)
    have h7 := kept_ne h6 hg7 (own_ne h6 H36 (by decide))
    have HB7 : Below C3 w (w6.setCell ⟨C3, 0, none⟩ (.slice A5 (q + 1) c5)) := HB6.grown hg7 (Nat.le_of_lt hlt6) (fun g hg => by injection hg with hg; omega)
    have HK7 : KeepO w (w6.setCell ⟨C3, 0, none⟩ (.slice A5 (q + 1) c5)) := HK6.trans (KeepO.of_grown hg7 (fun g hg => by injection hg with hg; subst hg; exact ⟨_, _, _, H36, .inr rfl⟩))
    have kk_ : Hid (Kept (w6.setCell ⟨C3, 0, none⟩ (.slice A5 (q + 1) c5)) C3 nx) := Lib.hid (by rw [hnx.out]; exact ⟨_, hst, by show World.ownsRow _ _ _ _ _ (Z ++ [(px, py)]).length (cellsP (Z ++ [(px, py)])); rw [hzl]; exact h7⟩)
    clear hg7 h6 h6o HB6 HK6 h7 hst hnx
    go_wp2_with fail
    go_ret
    exact ⟨rfl, kk_.out, HB7, HK7⟩

theorem own_keep {W W' : World} {b e sz n : Nat} {v : Value} {xs : List Value} (h : W.ownsRow b e sz v n xs) (h1 : e ≠ 65) (h2 : e ≠ 60) (hk : KeepO W W') : W'.ownsRow b e sz v n xs := by
  refine ⟨h.1, ?_⟩
  rcases h.2 with h' | ⟨g, cap, cur, rfl, hb, hg, hr⟩
  · exact .inl h'
  · exact .inr ⟨g, cap, cur, rfl, hb, hk.2 _ _ _ _ h1 h2 hg, hr⟩
theorem infoI : (Try.prog.info? 3).map (fun i => (i.zero, i.size, i.bytes)) = some (some (.int .i64 0), 1, 8) := by kernel_rfl

set_option maxRecDepth 100000 in
set_option maxHeartbeats 3200000 in
/-- cornersThat with a test that keeps a state of its own. -/
theorem cornersThatS (F : FuncId) (cs : Array Value) (f : Nat → Bool) (St : Nat → World → Prop) (C3 : Nat) (A : Option Addr) (n cap : Nat) (w : World) (hn : n ≤ 1048576) (hC : C3 ≤ w.heap.size) (eF : ∀ (args : Array Value) (w : World), (callFunc F args).run Try.prog w = .ok (.enter F args) w)
    (h0 : St 0 w) (hSt : ∀ k W, St k W → Below C3 w W)
    (hK : ∀ k W W' row, St k W → W.grownBy W' row → (∀ g, row = some g → C3 ≤ g ∧ ∃ cs fr, W.heap[g]? = some (.cells cs 3 fr)) → St k W')
    (Q : ∀ (W : World) (k : Nat), k < n → St k W → Calls Try.prog F (#[.int .i64 (k : Int)] ++ cs) W fun e w' => e = .returned (.bool (f k)) ∧ St (k + 1) w' ∧ KeepO W w') :
    Calls Try.prog 96 #[.agg #[.slice A n cap], .func (.func F) #[] cs] w fun e w' => ∃ A' c, e = .returned (.slice A' (thatTo f n).length c) ∧ w'.ownsRow w.heap.size 3 1 (.slice A' (thatTo f n).length c) (thatTo f n).length (icells (thatTo f n)) ∧ Below C3 w w' := by
  obtain ⟨i0, hi, hz0, hz1, hz2⟩ := info_parts infoI
  have Q := Lib.hid Q
  have hK := Lib.hid hK
  have hSt := Lib.hid hSt
  go_enter Try.func96, Try.ntmps96
  go_wp2_with fail
  have X0 : Holds (w.alloc (Obj.cells #[.slice A n cap] 63)) w.heap.size #[.slice A n cap] 63 := Holds.new w _ _
  have s0 := Lib.hid (hK.out 0 w _ none h0 (World.grownBy_alloc w (Obj.cells #[.slice A n cap] 63) none) (fun g e => by cases e))
  have hzz : w.heap.size + 1 ≤ (w.alloc (Obj.cells #[.slice A n cap] 63)).heap.size := by simp
  obtain ⟨_, _⟩ := X0.one
  generalize w.alloc (Obj.cells #[.slice A n cap] 63) = w0 at *
  go_loopw [5, 10] (fun v i wr => ∃ k : Nat, k ≤ n ∧ i = .int .i64 k ∧ Hid (wr.ownsRow (w.heap.size + 1) 3 1 v (thatTo f k).length (icells (thatTo f k))) ∧ w.heap.size + 1 ≤ wr.heap.size ∧ Hid (St k wr) ∧ Holds wr w.heap.size #[.slice A n cap] 63)
    (fun _ i _ => n - (intOf i).toNat)
  case atStart => exact ⟨0, Nat.zero_le _, rfl, Lib.hid (World.ownsRow_nil _ _ _ _), hzz, s0, X0⟩
  case round =>
    clear s0 X0 hzz
    obtain ⟨k, hkn, rfl, hown, hsz, hs, hX⟩ := hrel
    obtain ⟨_, _⟩ := hX.one
    by_cases hlt : k < n
    rotate_left
    · obtain rfl : n = k := by omega
      obtain ⟨A1, c1, rfl⟩ := own_shape hown.out
      have hB := Lib.hid (hSt.out _ _ hs.out)
      have h2 := Lib.hid (own_base hown.out (Nat.le_succ w.heap.size))
      obtain ⟨q, hq⟩ : ∃ q, (thatTo f n).length = q := ⟨_, rfl⟩
      rw [hq] at h2 ⊢
      clear hown hs Q hK hSt
      go_wp2_with fail
      go_ret
      subst hq
      exact ⟨A1, c1, rfl, h2.out, hB.out⟩
    have hk1 : (k : Int) < (n : Int) := by omega
    have QK := Lib.hid (Q.out wr k hlt hs.out)
    have hlen := thatTo_len f k
    have HL : Hid (thatTo f (k + 1) = if f k then thatTo f k ++ [(k : Int)] else thatTo f k) := Lib.hid rfl
    generalize thatTo f k = l at *
    obtain ⟨m, hm⟩ : ∃ m, l.length = m := ⟨_, rfl⟩
    rw [hm] at hown hlen
    obtain ⟨b, hb⟩ : ∃ b, f k = b := ⟨_, rfl⟩
    rw [hb] at QK HL
    clear hb Q
    go_wp2_with fail
    refine QK.out.mono ?_
    rintro e w2 ⟨rfl, hs2, hk2⟩
    replace hown := Lib.hid (own_keep hown.out (by decide) (by decide) hk2)
    replace hX : Holds w2 w.heap.size #[.slice A n cap] 63 := hk2.2 _ _ _ _ (by decide) (by decide) hX
    replace hsz := Nat.le_trans hsz hk2.1
    have hs2 := Lib.hid hs2
    obtain ⟨_, _⟩ := hX.one
    clear QK hk2 hs
    cases b
    · have HL2 : Hid (thatTo f (k + 1) = l) := Lib.hid (by rw [HL.out]; rfl)
      have h6 : Hid (w2.ownsRow (w.heap.size + 1) 3 1 u5 (thatTo f (k + 1)).length (icells (thatTo f (k + 1)))) := Lib.hid (by rw [HL2.out, hm]; exact hown.out)
      clear HL HL2 hown
      go_wp2_with fail
      first
        | exact ⟨⟨k + 1, by omega, by go_num, h6, hsz, hs2, hX⟩, by simp [intOf]; omega⟩
        | (go_roundw <;> first | exact ⟨k + 1, by omega, by go_num, h6, hsz, hs2, hX⟩ | (simp [intOf]; omega))
    · have HL2 : Hid (thatTo f (k + 1) = l ++ [(k : Int)]) := Lib.hid (by rw [HL.out]; rfl)
      clear HL
      go_wp2_with (at_builtin; refine wpList_append_own _ rfl _ _ 24 rfl (w.heap.size + 1) 3 i0 (.int .i64 0) 1 8 Try.underlying24 hi hz0 hz1 hz2 rfl (by decide) _ _ _ rfl (hown.out.alloc _) ⟨w2.heap.size, 0, none⟩ 1 1 [.int .i64 (k : Int)] rfl rfl ?c1 ?c2 ?c3 ?c4 ?c5 ?_)
      case c1 => (intro j u hj; match j, hj with | 0, hj => (simp at hj; subst hj; simp [Addr.add]))
      case c2 => (intro u hu; simp at hu; subst hu; rfl)
      case c3 => (unfold maxLen; omega)
      case c4 => omega
      case c5 => (simp; omega)
      intro v1_ wa_ ho_ hg_ _
      have hgr := grown_trans (grown_of_below (below1 w2 (Obj.cells #[.int .i64 (k : Int)] 3)) _) hg_
      have hs3 := Lib.hid (hK.out (k + 1) w2 wa_ _ hs2.out hgr (fun g hg => ⟨by have := (hown.out.lt g hg).1; omega, own_type hown.out hg⟩))
      have hX3 : Holds wa_ w.heap.size #[.slice A n cap] 63 := (hgr.block _ hX.lt (fun e => own_ne hown.out hX (by decide) _ e.symm rfl)).trans hX
      have h6 : Hid (wa_.ownsRow (w.heap.size + 1) 3 1 v1_ (thatTo f (k + 1)).length (icells (thatTo f (k + 1)))) := Lib.hid (by rw [HL2.out, List.length_append, hm, icells_snoc]; exact ho_)
      have hsz3 := Nat.le_trans hsz hgr.size
      clear ho_ hg_ hgr hown hs2 hX HL2
      go_wp2_with fail
      first
        | exact ⟨⟨k + 1, by omega, by go_num, h6, hsz3, hs3, hX3⟩, by simp [intOf]; omega⟩
        | (go_roundw <;> first | exact ⟨k + 1, by omega, by go_num, h6, hsz3, hs3, hX3⟩ | (simp [intOf]; omega))

set_option maxRecDepth 100000 in
set_option maxHeartbeats 3200000 in
theorem hiddenCorners (A : Option Addr) (n cap : Nat) (w : World) (ps : List (Int × Int)) (hl : ps.length = n) (hn : n ≤ 1048576) (hp : PtsAt w w.heap.size A ps) :
    Calls Try.prog 47 #[.agg #[.slice A n cap]] w (GivesI 3 w (hcL ps)) := by
  have hr : thatTo (hF ps) n = hcL ps := by rw [← hl, that_hG _ (Nat.le_refl _)]; exact hG_all ps
  obtain ⟨l, hll⟩ : ∃ l, hcL ps = l := ⟨_, rfl⟩
  rw [hll] at hr ⊢
  clear hll
  go_enter Try.func47, Try.ntmps47
  go_wp2_with fail
  have X0 : Holds (w.alloc (Obj.cells #[.slice A n cap] 63)) w.heap.size #[.slice A n cap] 63 := Holds.new w _ _
  have b0 := below1 w (Obj.cells #[.slice A n cap] 63)
  have z0 : (w.alloc (Obj.cells #[.slice A n cap] 63)).heap.size = w.heap.size + 1 := by simp
  have X3 := Blk.Holds.box (w.alloc (Obj.cells #[.slice A n cap] 63)) #[.slice none 0 0] 60 z0.symm
  have b1 := below1 (w.alloc (Obj.cells #[.slice A n cap] 63)) (Obj.cells #[.slice none 0 0] 60)
  replace X0 := X0.later b1
  have hb := b0.trans (b1.mono (by omega))
  have z1 : ((w.alloc (Obj.cells #[.slice A n cap] 63)).alloc (Obj.cells #[.slice none 0 0] 60)).heap.size = w.heap.size + 2 := by simp
  obtain ⟨_, _⟩ := X0.one
  clear z0 b0 b1
  generalize (w.alloc (Obj.cells #[.slice A n cap] 63)).alloc (Obj.cells #[.slice none 0 0] 60) = w1 at *
  have QT := fun eF => cornersThatS 97 #[.pointer (some ⟨w.heap.size + 1, 0, none⟩), .pointer (some ⟨w.heap.size, 0, none⟩)] (hF ps)
    (fun k W => Kept W (w.heap.size + 1) (ptsZ ps (hG ps k)) ∧ Holds W w.heap.size #[.slice A n cap] 63 ∧ Below (w.heap.size + 1) w1 W) (w.heap.size + 1) A n cap w1 (by omega) (by omega) eF
    ⟨⟨_, X3, by
      have e : hG ps 0 = [] := by unfold hG; split <;> rfl
      rw [e]
      exact World.ownsRow_nil _ _ _ _⟩, X0, Below.refl _ _⟩
    (fun k W h => h.2.2)
    (fun k W W' row h hg hr => by
      obtain ⟨⟨v, k1, k2⟩, k3, k4⟩ := h
      have hne : ∀ (b : Nat) (cs : Array Value) (T : TypeId), T ≠ 3 → Holds W b cs T → Holds W' b cs T := fun b cs T hT hH => (hg.block b hH.lt (fun e => by
        obtain ⟨_, cs', fr, h5⟩ := hr b e.symm
        have h6 := h5.symm.trans hH
        injection h6 with h6
        injection h6 with _ h7
        exact hT h7.symm)).trans hH
      refine ⟨⟨v, hne _ _ _ (by decide) k1, k2.kept hg ?_⟩, hne _ _ _ (by decide) k3, k4.grown hg (Nat.le_trans (by omega) k4.size) (fun g e => (hr g e).1)⟩
      cases hv : v.ownBlock with
      | none => exact .inl rfl
      | some g =>
        refine .inr (fun e => ?_)
        obtain ⟨_, cs', fr, h5⟩ := hr g e.symm
        obtain ⟨cs2, fr2, h6⟩ := own_type k2 hv
        have h7 := h5.symm.trans h6
        injection h7 with h7
        injection h7 with _ h8
        exact absurd h8 (by decide))
    (fun W k hk h => by
      obtain ⟨⟨v, k1, k2⟩, k3, k4⟩ := h
      have hlen := hG_len ps k
      have hz := ptsZ_len ps (hG ps k)
      refine (asks A n cap w.heap.size (w.heap.size + 1) k (hF ps k) v (ptsZ ps (hG ps k)).length W ps (ptsZ ps (hG ps k)) hl (by omega) hk (by omega) rfl (by omega) (ptsZ ps (hG ps (k + 1)))
        (by rw [hG_step (by omega)]; split; · exact ptsZ_snoc ps _ k
            · rfl) rfl ⟨k3.one.1, trivial⟩ k1 k2 ((hp.later (hb.trans (k4.mono (by omega)))).wide (by omega))).mono ?_
      rintro e w' ⟨rfl, h1, h2, h3⟩
      exact ⟨rfl, ⟨h1, h3.2 _ _ _ _ (by decide) (by decide) k3, k4.trans h2⟩, h3⟩)
  rw [hr] at QT
  have QT := Lib.hid QT
  have hb := Lib.hid hb
  clear X0 X3 hr hp
  go_wp2_with fail
  refine (QT.out ?eF).mono ?_
  case eF => (intro args w; first | exact Try.call97 args w | rfl)
  rintro e w3 ⟨A', c, rfl, h1, h2⟩
  have h3 := Lib.hid (own_base h1 (show w.heap.size ≤ w1.heap.size by omega))
  have h4 := Lib.hid (hb.out.trans (h2.mono (Nat.le_succ _)))
  obtain ⟨q, hq⟩ : ∃ q, l.length = q := ⟨_, rfl⟩
  rw [hq] at h3 ⊢
  clear QT h1 h2
  go_wp2_with fail
  go_ret
  subst hq
  exact ⟨A', c, rfl, h3.out, h4.out⟩
end Go.Proofs.Ytgampbjdoncdoaa.HidcLand

