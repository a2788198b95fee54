/-
  What the landed sightFrom does, as a contract: a closure, whose room is the doubled one; and what that closure answers.
-/
import Derived.Test.YthokeedmccfalaaSeenImpl
namespace Go.Proofs.Ythokeedmccfalaa.FromImpl
open Go.RowKit Own PointMath WallMath RoomMath Pts Blk AreaMath PlaceMath FloorMath LineMath CutsMath SightMath Arr SeenImpl
open PointOk (ret_bool ret_i64 below1 below2 below3)
open FloorImpl (infoP cellsP_app)

set_option maxRecDepth 100000 in
set_option maxHeartbeats 1600000 in
/-- The closure asks whether the point is seen. -/
theorem asks (ax ay x y : Int) (C1 C2 : Nat) (Ad : Option Addr) (n cd : Nat) (w : World) (ps : List (Int × Int)) (hl : ps.length = n) (ha : inB ps ax ay = true) (hb : inB ps x y = true)
    (h1 : Pts.BoxR w C1 (.slice Ad n cd)) (h2 : PointOk.Box w C2 ax ay) (hq : PtsAt w w.heap.size Ad (dblL ps)) :
    Calls Try.prog 171 #[.agg #[.int .i64 x, .int .i64 y], .pointer (some ⟨C1, 0, none⟩), .pointer (some ⟨C2, 0, none⟩)] w fun e w' => e = .returned (.bool (seesM ps (ax, ay) (x, y))) ∧ Below w.heap.size w w' := by
  have hr := roomB_yes (inB_parts ha).1
  have qa := okP_yes (inB_parts ha).2
  have qb := okP_yes (inB_parts hb).2
  have h8 : ∀ k, k < (dblL ps).length → Sm (pt (dblL ps) k) := fun k hk => by
    rw [dblL_len] at hk
    have := okP_yes (okAll_at hr.2.1 hk)
    rw [dblL_pt]
    unfold Sm dblP
    simp only
    omega
  have QC : Hid (∀ w hp, _) := Lib.hid fun w hp => isClear Ad n cd (2 * ax) (2 * ay) (2 * x) (2 * y) w (dblL ps) (by rw [dblL_len]; exact hl) (by omega) h8 (by unfold Sm; simp only; omega) (by unfold Sm; simp only; omega) hp
  rw [clear_in ha hb] at QC
  have QA : Hid (∀ w, _) := Lib.hid fun w => PieceImpl.doubled ax ay (okP_dbl (inB_parts ha).2) w
  have QB : Hid (∀ w, _) := Lib.hid fun w => PieceImpl.doubled x y (okP_dbl (inB_parts hb).2) w
  generalize seesM ps (ax, ay) (x, y) = r at *
  clear hr qa qb h8 ha hb
  go_enter Try.func171, Try.ntmps171
  go_wp2_with fail
  have X0 := PointOk.box1 w x y 49 (k := w.heap.size) (by simp)
  have b0 := PointOk.below1 w (Obj.cells #[.int .i64 x, .int .i64 y] 49)
  have HO : ∀ W W' : World, (PointOk.Box W (w.heap.size) x y ∧ Pts.BoxR W C1 (.slice Ad n cd) ∧ PointOk.Box W C2 ax ay ∧ PtsAt W w.heap.size Ad (dblL ps) ∧ Below w.heap.size w W) → Below W.heap.size W W' → (PointOk.Box W' (w.heap.size) x y ∧ Pts.BoxR W' C1 (.slice Ad n cd) ∧ PointOk.Box W' C2 ax ay ∧ PtsAt W' w.heap.size Ad (dblL ps) ∧ Below w.heap.size w W') := fun W W' ⟨h0, x0, x1, x2, hb⟩ h => ⟨h0.later h, x0.later h, x1.later h, x2.later (h.mono hb.size), hb.trans (h.mono hb.size)⟩
  have hz0_ : Hid (((w.alloc (Obj.cells #[.int .i64 x, .int .i64 y] 49))).heap.size = w.heap.size + 1) := Lib.hid (by simp)
  have Y0 : Pts.BoxR ((w.alloc (Obj.cells #[.int .i64 x, .int .i64 y] 49))) C1 (.slice Ad n cd) := h1.later b0
  have Y1 : PointOk.Box ((w.alloc (Obj.cells #[.int .i64 x, .int .i64 y] 49))) C2 ax ay := h2.later b0
  have Y2 : PtsAt ((w.alloc (Obj.cells #[.int .i64 x, .int .i64 y] 49))) w.heap.size Ad (dblL ps) := hq.later b0
  generalize (w.alloc (Obj.cells #[.int .i64 x, .int .i64 y] 49)) = w0 at X0 Y0 Y1 Y2 b0 hz0_ ⊢
  have S0 := (⟨X0, Y0, Y1, Y2, b0⟩ : PointOk.Box w0 (w.heap.size) x y ∧ Pts.BoxR w0 C1 (.slice Ad n cd) ∧ PointOk.Box w0 C2 ax ay ∧ PtsAt w0 w.heap.size Ad (dblL ps) ∧ Below w.heap.size w w0)
  clear X0 Y0 Y1 Y2 b0
  obtain ⟨⟨_, _⟩, ⟨_, _⟩, ⟨_, _⟩, _, _⟩ := id S0
  clear h1 h2 hq
  refine Settle.region (fun W => PointOk.Box W (w.heap.size) x y ∧ Pts.BoxR W C1 (.slice Ad n cd) ∧ PointOk.Box W C2 ax ay ∧ PtsAt W w.heap.size Ad (dblL ps) ∧ Below w.heap.size w W) (by kernel_rfl) (by kernel_rfl) (by kernel_rfl) (by kernel_rfl) (HO _ _ S0 ((Below.refl _ _).drew)) ?_
  clear S0
  repeat (first
    | (refine Settle.Settles.off (by rfl) ?_; simp only [Act.put, List.setIfInBounds_toArray, List.set_cons_zero, List.set_cons_succ])
    | (refine Settle.Settles.quiet (v := ?_) (by rfl) ?_ ?_
       rotate_left
       · (intro W hS; obtain ⟨⟨_, _⟩, ⟨_, _⟩, ⟨_, _⟩, _, _⟩ := hS; go_simp; with_reducible rfl)
       simp only [Act.put, List.setIfInBounds_toArray, List.set_cons_zero, List.set_cons_succ])
    | (refine Settle.Settles.call (v := ?_) (f := ?_) (args := ?_) (by rfl) ?_ ?_ ?_
       rotate_left 3
       · (intro W; go_simp; refine ⟨?_, ?_⟩ <;> with_reducible rfl)
       · (intro W hS; first | (go_at_call 170; (with_reducible refine (QA.out _).mono ?_); rintro e W1 ⟨rfl, hb⟩; refine ⟨?_, HO _ _ hS hb⟩; with_reducible rfl) | (go_at_call 170; (with_reducible refine (QB.out _).mono ?_); rintro e W1 ⟨rfl, hb⟩; refine ⟨?_, HO _ _ hS hb⟩; with_reducible rfl) | (go_at_call 172; (with_reducible refine (QC.out _ (hS.2.2.2.1.wide hS.2.2.2.2.size)).mono ?_); rintro e W1 ⟨rfl, hb⟩; refine ⟨?_, HO _ _ hS hb⟩; with_reducible rfl))
       simp only [Act.put, List.setIfInBounds_toArray, List.set_cons_zero, List.set_cons_succ]))
  refine Settle.Settles.nil ?_
  intro wr S0
  obtain ⟨⟨_, _⟩, ⟨_, _⟩, ⟨_, _⟩, _, _⟩ := id S0
  go_wp2_with fail
  go_ret
  exact ⟨rfl, S0.2.2.2.2⟩

/-- A closure came back that asks from the point. -/
def Asks (F : FuncId) (w : World) (n : Nat) (ps : List (Int × Int)) (ax ay : Int) (en : Ending) (w' : World) : Prop :=
  ∃ C1 C2 Ad cd, en = .returned (.func (.func F) #[] #[.pointer (some ⟨C1, 0, none⟩), .pointer (some ⟨C2, 0, none⟩)]) ∧ Pts.BoxR w' C1 (.slice Ad n cd) ∧ PointOk.Box w' C2 ax ay ∧ PtsAt w' w'.heap.size Ad (dblL ps) ∧ Below w.heap.size w w'

set_option maxRecDepth 100000 in
set_option maxHeartbeats 4000000 in
theorem sightFrom (A : Option Addr) (n cap : Nat) (ax ay : Int) (w : World) (ps : List (Int × Int)) (hl : ps.length = n) (hn : n ≤ 10) (hok : okAll ps = true) (hp : PtsAt w w.heap.size A ps) :
    Calls Try.prog 136 #[.agg #[.slice A n cap], .agg #[.int .i64 ax, .int .i64 ay]] w (Asks 171 w n ps ax ay) := by
  obtain ⟨i0, hi, hz0, hz1, hz2⟩ := info_parts infoP
  have hmf : ∀ (fn : Fn) (first cap : Array Value) (w : World), (Instr.makeFunc fn first cap).run Try.prog w = .ok (.func fn first cap) w := fun _ _ _ _ => rfl
  have hok := Lib.hid hok
  go_enter Try.func136, Try.ntmps136
  go_wp2_with fail
  have X0 := (Pts.boxR w (.slice A n cap) 37 (k := w.heap.size) (by simp)).alloc (Obj.cells #[.int .i64 ax, .int .i64 ay] 49)
  have X1 := PointOk.box1 (w.alloc (Obj.cells #[.slice A n cap] 37)) ax ay 49 (k := w.heap.size + 1) (by simp)
  have b0 := PointOk.below2 w (Obj.cells #[.slice A n cap] 37) (Obj.cells #[.int .i64 ax, .int .i64 ay] 49)
  have HO : ∀ W W' : World, (Pts.BoxR W (w.heap.size) (.slice A n cap) ∧ PointOk.Box W (w.heap.size + 1) ax ay ∧ PtsAt W w.heap.size A ps ∧ Below w.heap.size w W) → Below W.heap.size W W' → (Pts.BoxR W' (w.heap.size) (.slice A n cap) ∧ PointOk.Box W' (w.heap.size + 1) ax ay ∧ PtsAt W' w.heap.size A ps ∧ Below w.heap.size w W') := fun W W' ⟨h0, h1, x0, hb⟩ h => ⟨h0.later h, h1.later h, x0.later (h.mono hb.size), hb.trans (h.mono hb.size)⟩
  have hz0_ : Hid ((((w.alloc (Obj.cells #[.slice A n cap] 37)).alloc (Obj.cells #[.int .i64 ax, .int .i64 ay] 49))).heap.size = w.heap.size + 1 + 1) := Lib.hid (by simp)
  have Y0 : PtsAt (((w.alloc (Obj.cells #[.slice A n cap] 37)).alloc (Obj.cells #[.int .i64 ax, .int .i64 ay] 49))) w.heap.size A ps := hp.later b0
  generalize ((w.alloc (Obj.cells #[.slice A n cap] 37)).alloc (Obj.cells #[.int .i64 ax, .int .i64 ay] 49)) = w0 at X0 X1 Y0 b0 hz0_ ⊢
  have S0 := (⟨X0, X1, Y0, b0⟩ : Pts.BoxR w0 (w.heap.size) (.slice A n cap) ∧ PointOk.Box w0 (w.heap.size + 1) ax ay ∧ PtsAt w0 w.heap.size A ps ∧ Below w.heap.size w w0)
  clear X0 X1 Y0 b0
  obtain ⟨⟨_, _⟩, ⟨_, _⟩, _, _⟩ := id S0
  have HO2 : ∀ W W' : World, (Pts.BoxR W (w.heap.size) (.slice A n cap) ∧ PointOk.Box W (w.heap.size + 1) ax ay ∧ PtsAt W w.heap.size A ps ∧ Below w.heap.size w W) → Below (w.heap.size + 2) W W' → (Pts.BoxR W' (w.heap.size) (.slice A n cap) ∧ PointOk.Box W' (w.heap.size + 1) ax ay ∧ PtsAt W' w.heap.size A ps ∧ Below w.heap.size w W') := fun W W' ⟨h0, h1, h2, hb⟩ h => ⟨⟨(h.cell (by simp)).trans h0.1, trivial⟩, ⟨(h.cell (by simp)).trans h1.1, (h.cell (by simp)).trans h1.2⟩, h2.later (h.mono (by omega)), hb.trans (h.mono (by omega))⟩
  have hz1_ := hz0_.out
  have HC := Blk.Holds.box w0 #[.slice none 0 0] 35 (k := w.heap.size + 2) (by omega)
  have S1 := HO _ _ S0 (below1 w0 (Obj.cells #[.slice none 0 0] 35))
  have cr := S1.1.1
  have hsz : w.heap.size + 3 ≤ (w0.alloc (Obj.cells #[.slice none 0 0] 35)).heap.size := by simp; omega
  clear S0
  go_loopw [11] (fun q wr => ∃ (k : Nat) (v : Value), k ≤ n ∧ q = .int .i64 k ∧ Blk.Holds wr (w.heap.size + 2) #[v] 35 ∧ wr.ownsRow (w.heap.size + 3) 49 2 v k (cellsP (bigTo ps k)) ∧ w.heap.size + 3 ≤ wr.heap.size ∧ (Pts.BoxR wr (w.heap.size) (.slice A n cap) ∧ PointOk.Box wr (w.heap.size + 1) ax ay ∧ PtsAt wr w.heap.size A ps ∧ Below w.heap.size w wr))
    (fun q _ => n - (intOf q).toNat)
  case atStart => exact ⟨0, _, Nat.zero_le _, rfl, HC, World.ownsRow_nil _ _ _ _, hsz, S1⟩
  case round =>
    clear S1 HC hsz cr
    obtain ⟨k, v, hkn, rfl, HC, hown, hsz, S0⟩ := hrel
    obtain ⟨⟨_, _⟩, ⟨_, _⟩, _, _⟩ := id S0
    obtain ⟨_, _⟩ := HC.one
    by_cases hlt : k < n
    · have hk1 : (k : Int) < (n : Int) := by omega
      have hk0 : (0 : Int) ≤ (k : Int) := by omega
      have uk1 : IntKind.i64.wrap ((k : Int) + 1) = (k : Int) + 1 := IntWalk.i64_in _ (by omega)
      have HG : Hid (bigTo ps (k + 1) = bigTo ps k ++ [dblP (pt ps k)]) := Lib.hid rfl
      have p0 := pt_at (ps := ps) (k := k) (by omega)
      have o0 := okAll_at hok.out (k := k) (by omega)
      obtain ⟨cx, cy, hcc⟩ : ∃ x y, pt ps k = (x, y) := ⟨_, _, rfl⟩
      rw [hcc] at p0 o0 HG
      replace HG : Hid (bigTo ps (k + 1) = bigTo ps k ++ [(2 * cx, 2 * cy)]) := HG
      have QD : Hid (∀ w, _) := Lib.hid fun w => PieceImpl.doubled cx cy (okP_dbl o0) w
      obtain ⟨ad, eA, bA, pA⟩ := S0.2.2.1.get p0
      subst eA
      obtain ⟨Ao, co, rfl⟩ := own_shape hown
      obtain ⟨_, _⟩ := id pA
      have b1_ := below1 wr (Obj.cells #[.int .i64 cx, .int .i64 cy] 49)
      have HP := PointOk.box1 wr cx cy 49 (k := wr.heap.size) rfl
      replace HC := HC.later b1_
      have hownw := hown
      replace hown := own_below hown b1_
      replace S0 := HO _ _ S0 b1_
      obtain ⟨kb, hkb⟩ : ∃ K, wr.heap.size = K := ⟨_, rfl⟩
      have hkz : kb < (wr.alloc (Obj.cells #[.int .i64 cx, .int .i64 cy] 49)).heap.size := by simp; omega
      obtain ⟨_, _⟩ := HC.one
      obtain ⟨_, _⟩ := id HP
      have hkb3 : w.heap.size + 3 ≤ kb := by omega
      have hltk : ∀ g, (Value.slice Ao k co).ownBlock = some g → g < kb := fun g hg => by have := (hownw.lt g hg).2; omega
      clear b1_ pA hcc p0 o0 hownw hsz
      go_wp2_with fail
      generalize wr.alloc (Obj.cells #[.int .i64 cx, .int .i64 cy] 49) = v1 at *
      rw [hkb] at HP
      try rw [hkb]
      clear hkb
      have dr_ := (Below.refl v1.heap.size v1).drew
      have SD := HO _ _ S0 dr_
      have HCD := HC.later dr_
      have hownD := own_below hown dr_
      have HPD := HP.later dr_
      have hzD : v1.drew.heap.size = v1.heap.size := rfl
      clear dr_
      have HS0_ := HPD
      obtain ⟨_, _⟩ := HCD.one
      refine wp_region_held_drew (S := fun W => PointOk.Box W kb cx cy) (by kernel_rfl) HS0_ (fun hHeld => ?_)
      refine wpAnyH_take (i := 1) (oi := ⟨some 16, _, _, _, _, _⟩) (v := ?_) rfl (by kernel_rfl) (by kernel_rfl) (by kernel_rfl) (fun _ _ _ h => h) (Or.inl ⟨by rfl, ?_⟩) (by assumption) ?_
      rotate_left 1
      · (intro w hSw; obtain ⟨_, _⟩ := hSw; go_simp; try with_reducible rfl)
      try simp only [Act.put, List.setIfInBounds_toArray, List.set_cons_zero, List.set_cons_succ]
      refine wpAnyH_ready (rs := [0, 2]) (by kernel_rfl) (by simp) ?_
      refine AllReadyH.cons (o := ⟨some 15, _, _, _, _, _⟩) rfl (fun K hK => ?_) ?_
      · skip
        go_simp
        refine hK.out _ _ HS0_ (fun hHeld => ?_)
        clear hK K
        try simp only [Act.put, List.setIfInBounds_toArray, List.set_cons_zero, List.set_cons_succ]
        refine wpAnyH_ready (rs := [2]) (by kernel_rfl) (by simp) ?_
        refine AllReadyH.cons (o := ⟨some 17, _, _, _, _, _⟩) rfl (fun K hK => ?_) ?_
        rotate_left 1
        · exact AllReadyH.nil
        go_simp
        go_at_call 170
        refine (QD.out _).mono ?_
        rintro e wd ⟨rfl, hb0_⟩
        have S1_ := HO _ _ SD hb0_
        have HC1 := HCD.later hb0_
        have hown1 := own_below hownD hb0_
        have HP1 := HPD.later hb0_
        have HS1_ := HP1
        have hz1_ := hb0_.size
        obtain ⟨_, _⟩ := HC1.one
        go_wp2_with fail
        refine hK.out _ _ HS1_ (fun hHeld => ?_)
        clear hK K
        try simp only [Act.put, List.setIfInBounds_toArray, List.set_cons_zero, List.set_cons_succ]
        refine wpAnyH_ready (rs := [3]) (by kernel_rfl) (by simp) ?_
        refine AllReadyH.cons (o := ⟨some 18, _, _, _, _, _⟩) rfl (fun K hK => ?_) ?_
        rotate_left 1
        · exact AllReadyH.nil
        have b2_ := below1 wd (Obj.cells #[.int .i64 (2 * cx), .int .i64 (2 * cy)] 49)
        have S2_ := HO _ _ S1_ b2_
        have HC2 := HC1.later b2_
        have hown2 := own_below hown1 b2_
        have HP2 := HP1.later b2_
        have HS2_ := HP2
        obtain ⟨_, _⟩ := HC2.one
        go_simp
        refine hK.out _ _ HS2_ (fun hHeld => ?_)
        clear hK K
        try simp only [Act.put, List.setIfInBounds_toArray, List.set_cons_zero, List.set_cons_succ]
        refine wpAnyH_ready (rs := [4]) (by kernel_rfl) (by simp) ?_
        refine AllReadyH.cons (o := ⟨some 19, _, _, _, _, _⟩) rfl (fun K hK => ?_) ?_
        rotate_left 1
        · exact AllReadyH.nil
        refine step_append_lies _ (by rfl) _ _ _ (by rfl) (w.heap.size + 3) 49 i0 _ 2 16 Try.underlying35 hi hz0 hz1 hz2 rfl (by omega) _ _ _ (by rfl) hown2 ⟨wd.heap.size, 0, none⟩ 1 1 [.int .i64 (2 * cx), .int .i64 (2 * cy)] (by rfl) (by rfl) ?c1 ?c2 (by omega) ?c3 ?c4 ?c5 _ rfl ?_
        case c1 => (intro a u ha; match a, ha with | 0, ha => (simp at ha; subst ha; simp [Addr.add]) | 1, ha => (simp at ha; subst ha; simp [Addr.add]))
        case c2 => (intro u hu; simp at hu; rcases hu with rfl | rfl <;> rfl)
        case c3 => (unfold maxLen; omega)
        case c4 => omega
        case c5 => (simp; omega)
        intro g2_ cap2_ wa_ ho_ hg_ hgo_ hlt_
        have hbg_ : Below (w.heap.size + 3) (wd.alloc (Obj.cells #[.int .i64 (2 * cx), .int .i64 (2 * cy)] 49)) wa_ := (Below.refl _ _).grown hg_ (by simp; omega) (fun g hg => (hown2.lt g hg).1)
        have HC3 : Blk.Holds wa_ (w.heap.size + 2) #[.slice Ao k co] 35 := (hbg_.block _ (by omega)).trans HC2
        have S3_ := HO2 _ _ S2_ (hbg_.mono (by omega))
        have hkn_ : kb ≠ w.heap.size + 2 := by omega
        have HP3 : PointOk.Box wa_ kb cx cy := (by have hk_ : wa_.heap[kb]? = (wd.alloc (Obj.cells #[.int .i64 (2 * cx), .int .i64 (2 * cy)] 49)).heap[kb]? := hg_.block kb (by simp; omega) (fun e => by have := hltk kb e.symm; omega); exact ⟨(World.cell?_of_block (a := ⟨kb, 0, none⟩) hk_).trans HP2.1, (World.cell?_of_block (a := ⟨kb, 1, none⟩) hk_).trans HP2.2⟩)
        obtain ⟨_, _⟩ := HC3.one
        refine hK.out _ _ HP3 (fun hHeld => ?_)
        clear hK K
        try simp only [Act.put, List.setIfInBounds_toArray, List.set_cons_zero, List.set_cons_succ]
        refine wpAnyH_ready (rs := [5]) (by kernel_rfl) (by simp) ?_
        refine AllReadyH.cons (o := ⟨none, _, _, _, _, _⟩) rfl (fun K hK => ?_) ?_
        rotate_left 1
        · exact AllReadyH.nil
        have HC4 := Blk.set_own HC3 0 (Value.slice (some ⟨g2_, 0, none⟩) (k + 1) cap2_)
        have hgs_ : wa_.grownBy (wa_.setCell ⟨w.heap.size + 2, 0, none⟩ (Value.slice (some ⟨g2_, 0, none⟩) (k + 1) cap2_)) (some (w.heap.size + 2)) := ⟨rfl, rfl, rfl, by simp [World.setCell], fun j hj hne => Below.heap_setCell wa_ ⟨w.heap.size + 2, 0, none⟩ _ j (fun e => hne (by rw [e]))⟩
        have hown4 := kept_ne ho_ hgs_ (fun g hg => by have := (ho_.lt g hg).1; omega)
        have hbs_ : Below (w.heap.size + 2) wa_ (wa_.setCell ⟨w.heap.size + 2, 0, none⟩ (Value.slice (some ⟨g2_, 0, none⟩) (k + 1) cap2_)) := (Below.refl _ _).setCell (p := ⟨w.heap.size + 2, 0, none⟩) (Nat.le_refl _) _
        have S4_ := HO2 _ _ S3_ hbs_
        have HP4 : PointOk.Box (wa_.setCell ⟨w.heap.size + 2, 0, none⟩ (Value.slice (some ⟨g2_, 0, none⟩) (k + 1) cap2_)) kb cx cy := (by have hk_ : (wa_.setCell ⟨w.heap.size + 2, 0, none⟩ (Value.slice (some ⟨g2_, 0, none⟩) (k + 1) cap2_)).heap[kb]? = wa_.heap[kb]? := Below.heap_setCell wa_ ⟨w.heap.size + 2, 0, none⟩ _ kb hkn_; exact ⟨(World.cell?_of_block (a := ⟨kb, 0, none⟩) hk_).trans HP3.1, (World.cell?_of_block (a := ⟨kb, 1, none⟩) hk_).trans HP3.2⟩)
        go_simp
        refine hK.out _ _ HP4 (fun hHeld => ?_)
        clear hK K
        try simp only [Act.put, List.setIfInBounds_toArray, List.set_cons_zero, List.set_cons_succ]
        have HN : Hid (Blk.Holds (wa_.setCell ⟨w.heap.size + 2, 0, none⟩ (Value.slice (some ⟨g2_, 0, none⟩) (k + 1) cap2_)) (w.heap.size + 2) #[(Value.slice (some ⟨g2_, 0, none⟩) (k + 1) cap2_)] 35 ∧ (wa_.setCell ⟨w.heap.size + 2, 0, none⟩ (Value.slice (some ⟨g2_, 0, none⟩) (k + 1) cap2_)).ownsRow (w.heap.size + 3) 49 2 (Value.slice (some ⟨g2_, 0, none⟩) (k + 1) cap2_) (k + 1) (cellsP (bigTo ps (k + 1))) ∧ w.heap.size + 3 ≤ (wa_.setCell ⟨w.heap.size + 2, 0, none⟩ (Value.slice (some ⟨g2_, 0, none⟩) (k + 1) cap2_)).heap.size ∧ ((fun W => Pts.BoxR W (w.heap.size) (.slice (some ad) n cap) ∧ PointOk.Box W (w.heap.size + 1) ax ay ∧ PtsAt W w.heap.size (some ad) ps ∧ Below w.heap.size w W) (wa_.setCell ⟨w.heap.size + 2, 0, none⟩ (Value.slice (some ⟨g2_, 0, none⟩) (k + 1) cap2_)))) := Lib.hid ⟨HC4, by rw [HG.out, cellsP_app]; exact hown4, by have := hbs_.size; have := hbg_.size; simp at this; omega, S4_⟩
        refine wpAnyH_done (by kernel_rfl) ?_ _
        clear HC4 HC3 HC2 HC1 HCD hown4 hown2 hown1 hownD hown ho_ hg_ hgo_ hlt_ hgs_ hbs_ hbg_ S4_ S3_ S2_ S1_ SD S0 HP4 HP3 HP2 HP1 HPD HS2_ HS1_ HS0_ HG QD
        go_wp2_with fail
        first
          | exact ⟨⟨k + 1, _, by omega, by go_num, HN.out.1, HN.out.2.1, HN.out.2.2.1, HN.out.2.2.2⟩, by simp [intOf]; omega⟩
          | (go_roundw <;> first | exact ⟨k + 1, _, by omega, by go_num, HN.out.1, HN.out.2.1, HN.out.2.2.1, HN.out.2.2.2⟩ | (simp [intOf]; omega))
      refine AllReadyH.cons (o := ⟨some 17, _, _, _, _, _⟩) rfl (fun K hK => ?_) ?_
      · skip
        go_simp
        go_at_call 170
        refine (QD.out _).mono ?_
        rintro e wd ⟨rfl, hb0_⟩
        have S1_ := HO _ _ SD hb0_
        have HC1 := HCD.later hb0_
        have hown1 := own_below hownD hb0_
        have HP1 := HPD.later hb0_
        have HS1_ := HP1
        have hz1_ := hb0_.size
        obtain ⟨_, _⟩ := HC1.one
        go_wp2_with fail
        refine hK.out _ _ HS1_ (fun hHeld => ?_)
        clear hK K
        try simp only [Act.put, List.setIfInBounds_toArray, List.set_cons_zero, List.set_cons_succ]
        refine wpAnyH_ready (rs := [0, 3]) (by kernel_rfl) (by simp) ?_
        refine AllReadyH.cons (o := ⟨some 15, _, _, _, _, _⟩) rfl (fun K hK => ?_) ?_
        · skip
          go_simp
          refine hK.out _ _ HS1_ (fun hHeld => ?_)
          clear hK K
          try simp only [Act.put, List.setIfInBounds_toArray, List.set_cons_zero, List.set_cons_succ]
          refine wpAnyH_ready (rs := [3]) (by kernel_rfl) (by simp) ?_
          refine AllReadyH.cons (o := ⟨some 18, _, _, _, _, _⟩) rfl (fun K hK => ?_) ?_
          rotate_left 1
          · exact AllReadyH.nil
          have b2_ := below1 wd (Obj.cells #[.int .i64 (2 * cx), .int .i64 (2 * cy)] 49)
          have S2_ := HO _ _ S1_ b2_
          have HC2 := HC1.later b2_
          have hown2 := own_below hown1 b2_
          have HP2 := HP1.later b2_
          have HS2_ := HP2
          obtain ⟨_, _⟩ := HC2.one
          go_simp
          refine hK.out _ _ HS2_ (fun hHeld => ?_)
          clear hK K
          try simp only [Act.put, List.setIfInBounds_toArray, List.set_cons_zero, List.set_cons_succ]
          refine wpAnyH_ready (rs := [4]) (by kernel_rfl) (by simp) ?_
          refine AllReadyH.cons (o := ⟨some 19, _, _, _, _, _⟩) rfl (fun K hK => ?_) ?_
          rotate_left 1
          · exact AllReadyH.nil
          refine step_append_lies _ (by rfl) _ _ _ (by rfl) (w.heap.size + 3) 49 i0 _ 2 16 Try.underlying35 hi hz0 hz1 hz2 rfl (by omega) _ _ _ (by rfl) hown2 ⟨wd.heap.size, 0, none⟩ 1 1 [.int .i64 (2 * cx), .int .i64 (2 * cy)] (by rfl) (by rfl) ?c1 ?c2 (by omega) ?c3 ?c4 ?c5 _ rfl ?_
          case c1 => (intro a u ha; match a, ha with | 0, ha => (simp at ha; subst ha; simp [Addr.add]) | 1, ha => (simp at ha; subst ha; simp [Addr.add]))
          case c2 => (intro u hu; simp at hu; rcases hu with rfl | rfl <;> rfl)
          case c3 => (unfold maxLen; omega)
          case c4 => omega
          case c5 => (simp; omega)
          intro g2_ cap2_ wa_ ho_ hg_ hgo_ hlt_
          have hbg_ : Below (w.heap.size + 3) (wd.alloc (Obj.cells #[.int .i64 (2 * cx), .int .i64 (2 * cy)] 49)) wa_ := (Below.refl _ _).grown hg_ (by simp; omega) (fun g hg => (hown2.lt g hg).1)
          have HC3 : Blk.Holds wa_ (w.heap.size + 2) #[.slice Ao k co] 35 := (hbg_.block _ (by omega)).trans HC2
          have S3_ := HO2 _ _ S2_ (hbg_.mono (by omega))
          have hkn_ : kb ≠ w.heap.size + 2 := by omega
          have HP3 : PointOk.Box wa_ kb cx cy := (by have hk_ : wa_.heap[kb]? = (wd.alloc (Obj.cells #[.int .i64 (2 * cx), .int .i64 (2 * cy)] 49)).heap[kb]? := hg_.block kb (by simp; omega) (fun e => by have := hltk kb e.symm; omega); exact ⟨(World.cell?_of_block (a := ⟨kb, 0, none⟩) hk_).trans HP2.1, (World.cell?_of_block (a := ⟨kb, 1, none⟩) hk_).trans HP2.2⟩)
          obtain ⟨_, _⟩ := HC3.one
          refine hK.out _ _ HP3 (fun hHeld => ?_)
          clear hK K
          try simp only [Act.put, List.setIfInBounds_toArray, List.set_cons_zero, List.set_cons_succ]
          refine wpAnyH_ready (rs := [5]) (by kernel_rfl) (by simp) ?_
          refine AllReadyH.cons (o := ⟨none, _, _, _, _, _⟩) rfl (fun K hK => ?_) ?_
          rotate_left 1
          · exact AllReadyH.nil
          have HC4 := Blk.set_own HC3 0 (Value.slice (some ⟨g2_, 0, none⟩) (k + 1) cap2_)
          have hgs_ : wa_.grownBy (wa_.setCell ⟨w.heap.size + 2, 0, none⟩ (Value.slice (some ⟨g2_, 0, none⟩) (k + 1) cap2_)) (some (w.heap.size + 2)) := ⟨rfl, rfl, rfl, by simp [World.setCell], fun j hj hne => Below.heap_setCell wa_ ⟨w.heap.size + 2, 0, none⟩ _ j (fun e => hne (by rw [e]))⟩
          have hown4 := kept_ne ho_ hgs_ (fun g hg => by have := (ho_.lt g hg).1; omega)
          have hbs_ : Below (w.heap.size + 2) wa_ (wa_.setCell ⟨w.heap.size + 2, 0, none⟩ (Value.slice (some ⟨g2_, 0, none⟩) (k + 1) cap2_)) := (Below.refl _ _).setCell (p := ⟨w.heap.size + 2, 0, none⟩) (Nat.le_refl _) _
          have S4_ := HO2 _ _ S3_ hbs_
          have HP4 : PointOk.Box (wa_.setCell ⟨w.heap.size + 2, 0, none⟩ (Value.slice (some ⟨g2_, 0, none⟩) (k + 1) cap2_)) kb cx cy := (by have hk_ : (wa_.setCell ⟨w.heap.size + 2, 0, none⟩ (Value.slice (some ⟨g2_, 0, none⟩) (k + 1) cap2_)).heap[kb]? = wa_.heap[kb]? := Below.heap_setCell wa_ ⟨w.heap.size + 2, 0, none⟩ _ kb hkn_; exact ⟨(World.cell?_of_block (a := ⟨kb, 0, none⟩) hk_).trans HP3.1, (World.cell?_of_block (a := ⟨kb, 1, none⟩) hk_).trans HP3.2⟩)
          go_simp
          refine hK.out _ _ HP4 (fun hHeld => ?_)
          clear hK K
          try simp only [Act.put, List.setIfInBounds_toArray, List.set_cons_zero, List.set_cons_succ]
          have HN : Hid (Blk.Holds (wa_.setCell ⟨w.heap.size + 2, 0, none⟩ (Value.slice (some ⟨g2_, 0, none⟩) (k + 1) cap2_)) (w.heap.size + 2) #[(Value.slice (some ⟨g2_, 0, none⟩) (k + 1) cap2_)] 35 ∧ (wa_.setCell ⟨w.heap.size + 2, 0, none⟩ (Value.slice (some ⟨g2_, 0, none⟩) (k + 1) cap2_)).ownsRow (w.heap.size + 3) 49 2 (Value.slice (some ⟨g2_, 0, none⟩) (k + 1) cap2_) (k + 1) (cellsP (bigTo ps (k + 1))) ∧ w.heap.size + 3 ≤ (wa_.setCell ⟨w.heap.size + 2, 0, none⟩ (Value.slice (some ⟨g2_, 0, none⟩) (k + 1) cap2_)).heap.size ∧ ((fun W => Pts.BoxR W (w.heap.size) (.slice (some ad) n cap) ∧ PointOk.Box W (w.heap.size + 1) ax ay ∧ PtsAt W w.heap.size (some ad) ps ∧ Below w.heap.size w W) (wa_.setCell ⟨w.heap.size + 2, 0, none⟩ (Value.slice (some ⟨g2_, 0, none⟩) (k + 1) cap2_)))) := Lib.hid ⟨HC4, by rw [HG.out, cellsP_app]; exact hown4, by have := hbs_.size; have := hbg_.size; simp at this; omega, S4_⟩
          refine wpAnyH_done (by kernel_rfl) ?_ _
          clear HC4 HC3 HC2 HC1 HCD hown4 hown2 hown1 hownD hown ho_ hg_ hgo_ hlt_ hgs_ hbs_ hbg_ S4_ S3_ S2_ S1_ SD S0 HP4 HP3 HP2 HP1 HPD HS2_ HS1_ HS0_ HG QD
          go_wp2_with fail
          first
            | exact ⟨⟨k + 1, _, by omega, by go_num, HN.out.1, HN.out.2.1, HN.out.2.2.1, HN.out.2.2.2⟩, by simp [intOf]; omega⟩
            | (go_roundw <;> first | exact ⟨k + 1, _, by omega, by go_num, HN.out.1, HN.out.2.1, HN.out.2.2.1, HN.out.2.2.2⟩ | (simp [intOf]; omega))
        refine AllReadyH.cons (o := ⟨some 18, _, _, _, _, _⟩) rfl (fun K hK => ?_) ?_
        · skip
          have b2_ := below1 wd (Obj.cells #[.int .i64 (2 * cx), .int .i64 (2 * cy)] 49)
          have S2_ := HO _ _ S1_ b2_
          have HC2 := HC1.later b2_
          have hown2 := own_below hown1 b2_
          have HP2 := HP1.later b2_
          have HS2_ := HP2
          obtain ⟨_, _⟩ := HC2.one
          go_simp
          refine hK.out _ _ HS2_ (fun hHeld => ?_)
          clear hK K
          try simp only [Act.put, List.setIfInBounds_toArray, List.set_cons_zero, List.set_cons_succ]
          refine wpAnyH_ready (rs := [0]) (by kernel_rfl) (by simp) ?_
          refine AllReadyH.cons (o := ⟨some 15, _, _, _, _, _⟩) rfl (fun K hK => ?_) ?_
          rotate_left 1
          · exact AllReadyH.nil
          go_simp
          refine hK.out _ _ HS2_ (fun hHeld => ?_)
          clear hK K
          try simp only [Act.put, List.setIfInBounds_toArray, List.set_cons_zero, List.set_cons_succ]
          refine wpAnyH_ready (rs := [4]) (by kernel_rfl) (by simp) ?_
          refine AllReadyH.cons (o := ⟨some 19, _, _, _, _, _⟩) rfl (fun K hK => ?_) ?_
          rotate_left 1
          · exact AllReadyH.nil
          refine step_append_lies _ (by rfl) _ _ _ (by rfl) (w.heap.size + 3) 49 i0 _ 2 16 Try.underlying35 hi hz0 hz1 hz2 rfl (by omega) _ _ _ (by rfl) hown2 ⟨wd.heap.size, 0, none⟩ 1 1 [.int .i64 (2 * cx), .int .i64 (2 * cy)] (by rfl) (by rfl) ?c1 ?c2 (by omega) ?c3 ?c4 ?c5 _ rfl ?_
          case c1 => (intro a u ha; match a, ha with | 0, ha => (simp at ha; subst ha; simp [Addr.add]) | 1, ha => (simp at ha; subst ha; simp [Addr.add]))
          case c2 => (intro u hu; simp at hu; rcases hu with rfl | rfl <;> rfl)
          case c3 => (unfold maxLen; omega)
          case c4 => omega
          case c5 => (simp; omega)
          intro g2_ cap2_ wa_ ho_ hg_ hgo_ hlt_
          have hbg_ : Below (w.heap.size + 3) (wd.alloc (Obj.cells #[.int .i64 (2 * cx), .int .i64 (2 * cy)] 49)) wa_ := (Below.refl _ _).grown hg_ (by simp; omega) (fun g hg => (hown2.lt g hg).1)
          have HC3 : Blk.Holds wa_ (w.heap.size + 2) #[.slice Ao k co] 35 := (hbg_.block _ (by omega)).trans HC2
          have S3_ := HO2 _ _ S2_ (hbg_.mono (by omega))
          have hkn_ : kb ≠ w.heap.size + 2 := by omega
          have HP3 : PointOk.Box wa_ kb cx cy := (by have hk_ : wa_.heap[kb]? = (wd.alloc (Obj.cells #[.int .i64 (2 * cx), .int .i64 (2 * cy)] 49)).heap[kb]? := hg_.block kb (by simp; omega) (fun e => by have := hltk kb e.symm; omega); exact ⟨(World.cell?_of_block (a := ⟨kb, 0, none⟩) hk_).trans HP2.1, (World.cell?_of_block (a := ⟨kb, 1, none⟩) hk_).trans HP2.2⟩)
          obtain ⟨_, _⟩ := HC3.one
          refine hK.out _ _ HP3 (fun hHeld => ?_)
          clear hK K
          try simp only [Act.put, List.setIfInBounds_toArray, List.set_cons_zero, List.set_cons_succ]
          refine wpAnyH_ready (rs := [5]) (by kernel_rfl) (by simp) ?_
          refine AllReadyH.cons (o := ⟨none, _, _, _, _, _⟩) rfl (fun K hK => ?_) ?_
          rotate_left 1
          · exact AllReadyH.nil
          have HC4 := Blk.set_own HC3 0 (Value.slice (some ⟨g2_, 0, none⟩) (k + 1) cap2_)
          have hgs_ : wa_.grownBy (wa_.setCell ⟨w.heap.size + 2, 0, none⟩ (Value.slice (some ⟨g2_, 0, none⟩) (k + 1) cap2_)) (some (w.heap.size + 2)) := ⟨rfl, rfl, rfl, by simp [World.setCell], fun j hj hne => Below.heap_setCell wa_ ⟨w.heap.size + 2, 0, none⟩ _ j (fun e => hne (by rw [e]))⟩
          have hown4 := kept_ne ho_ hgs_ (fun g hg => by have := (ho_.lt g hg).1; omega)
          have hbs_ : Below (w.heap.size + 2) wa_ (wa_.setCell ⟨w.heap.size + 2, 0, none⟩ (Value.slice (some ⟨g2_, 0, none⟩) (k + 1) cap2_)) := (Below.refl _ _).setCell (p := ⟨w.heap.size + 2, 0, none⟩) (Nat.le_refl _) _
          have S4_ := HO2 _ _ S3_ hbs_
          have HP4 : PointOk.Box (wa_.setCell ⟨w.heap.size + 2, 0, none⟩ (Value.slice (some ⟨g2_, 0, none⟩) (k + 1) cap2_)) kb cx cy := (by have hk_ : (wa_.setCell ⟨w.heap.size + 2, 0, none⟩ (Value.slice (some ⟨g2_, 0, none⟩) (k + 1) cap2_)).heap[kb]? = wa_.heap[kb]? := Below.heap_setCell wa_ ⟨w.heap.size + 2, 0, none⟩ _ kb hkn_; exact ⟨(World.cell?_of_block (a := ⟨kb, 0, none⟩) hk_).trans HP3.1, (World.cell?_of_block (a := ⟨kb, 1, none⟩) hk_).trans HP3.2⟩)
          go_simp
          refine hK.out _ _ HP4 (fun hHeld => ?_)
          clear hK K
          try simp only [Act.put, List.setIfInBounds_toArray, List.set_cons_zero, List.set_cons_succ]
          have HN : Hid (Blk.Holds (wa_.setCell ⟨w.heap.size + 2, 0, none⟩ (Value.slice (some ⟨g2_, 0, none⟩) (k + 1) cap2_)) (w.heap.size + 2) #[(Value.slice (some ⟨g2_, 0, none⟩) (k + 1) cap2_)] 35 ∧ (wa_.setCell ⟨w.heap.size + 2, 0, none⟩ (Value.slice (some ⟨g2_, 0, none⟩) (k + 1) cap2_)).ownsRow (w.heap.size + 3) 49 2 (Value.slice (some ⟨g2_, 0, none⟩) (k + 1) cap2_) (k + 1) (cellsP (bigTo ps (k + 1))) ∧ w.heap.size + 3 ≤ (wa_.setCell ⟨w.heap.size + 2, 0, none⟩ (Value.slice (some ⟨g2_, 0, none⟩) (k + 1) cap2_)).heap.size ∧ ((fun W => Pts.BoxR W (w.heap.size) (.slice (some ad) n cap) ∧ PointOk.Box W (w.heap.size + 1) ax ay ∧ PtsAt W w.heap.size (some ad) ps ∧ Below w.heap.size w W) (wa_.setCell ⟨w.heap.size + 2, 0, none⟩ (Value.slice (some ⟨g2_, 0, none⟩) (k + 1) cap2_)))) := Lib.hid ⟨HC4, by rw [HG.out, cellsP_app]; exact hown4, by have := hbs_.size; have := hbg_.size; simp at this; omega, S4_⟩
          refine wpAnyH_done (by kernel_rfl) ?_ _
          clear HC4 HC3 HC2 HC1 HCD hown4 hown2 hown1 hownD hown ho_ hg_ hgo_ hlt_ hgs_ hbs_ hbg_ S4_ S3_ S2_ S1_ SD S0 HP4 HP3 HP2 HP1 HPD HS2_ HS1_ HS0_ HG QD
          go_wp2_with fail
          first
            | exact ⟨⟨k + 1, _, by omega, by go_num, HN.out.1, HN.out.2.1, HN.out.2.2.1, HN.out.2.2.2⟩, by simp [intOf]; omega⟩
            | (go_roundw <;> first | exact ⟨k + 1, _, by omega, by go_num, HN.out.1, HN.out.2.1, HN.out.2.2.1, HN.out.2.2.2⟩ | (simp [intOf]; omega))
        exact AllReadyH.nil
      exact AllReadyH.nil
    · obtain rfl : n = k := by omega
      obtain ⟨Ao, co, rfl⟩ := own_shape hown
      rw [bigTo_all hl] at hown
      obtain ⟨A2, c2, e2, _, hq⟩ := LawInt.own_pts hown
      injection e2 with e2 e3 e4
      subst e2 e4
      have HF : Hid (Pts.BoxR wr (w.heap.size + 2) (.slice Ao n co) ∧ PointOk.Box wr (w.heap.size + 1) ax ay ∧ PtsAt wr wr.heap.size Ao (dblL ps) ∧ Below w.heap.size w wr) := Lib.hid ⟨⟨HC.one.1, trivial⟩, S0.2.1, hq, S0.2.2.2⟩
      clear hl hown hq HC S0
      go_wp2_with fail
      go_ret
      exact ⟨w.heap.size + 2, w.heap.size + 1, Ao, co, rfl, HF.out.1, HF.out.2.1, HF.out.2.2.1, HF.out.2.2.2⟩

end Go.Proofs.Ythokeedmccfalaa.FromImpl

