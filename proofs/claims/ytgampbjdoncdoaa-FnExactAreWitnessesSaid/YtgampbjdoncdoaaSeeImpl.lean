/-
  What the landed functions on sights of corners do, as contracts: what each answers; no old cell is written.
-/
import Derived.Test.YtgampbjdoncdoaaFromImpl
import Derived.Test.YtgampbjdoncdoaaFiltImpl
import Derived.Test.YtgampbjdoncdoaaFacts
import Derived.Laws.EntriesVeiled
namespace Go.Proofs.Ytgampbjdoncdoaa.SeeImpl
open Go.RowKit Own PointMath WallMath RoomMath Pts Blk AreaMath PlaceMath FloorMath LineMath CutsMath SightMath DiagMath FiltMath KernMath FromImpl
open PointOk (ret_bool ret_i64 below1 below2 below3)

set_option maxRecDepth 100000 in
set_option maxHeartbeats 1600000 in
/-- The closure that asks whether a corner is seen. -/
theorem seesAt (ax ay : Int) (C1 C2 C3 C4 : Nat) (Ad A : Option Addr) (n cd cap k : Nat) (w : World) (ps : List (Int × Int)) (hl : ps.length = n) (ha : inB ps ax ay = true) (hk : k < n)
    (h1 : Pts.BoxR w C1 (.slice Ad n cd)) (h2 : PointOk.Box w C2 ax ay) (hq : PtsAt w w.heap.size Ad (dblL ps)) (h3 : Pts.BoxR w C3 (.func (.func 162) #[] #[.pointer (some ⟨C1, 0, none⟩), .pointer (some ⟨C2, 0, none⟩)])) (h4 : Pts.BoxR w C4 (.slice A n cap)) (hp : PtsAt w w.heap.size A ps) :
    Calls Try.prog 175 #[.int .i64 (k : Int), .pointer (some ⟨C3, 0, none⟩), .pointer (some ⟨C4, 0, none⟩)] w fun e w' => e = .returned (.bool (seesM ps (ax, ay) (pt ps k))) ∧ Below w.heap.size w w' := by
  have hr1 := (inB_parts ha).1
  have hi2 := corner_in hr1 (k := k) (by omega)
  have p0 := pt_at (ps := ps) (k := k) (by omega)
  obtain ⟨x, y, hx⟩ : ∃ x y, pt ps k = (x, y) := ⟨_, _, rfl⟩
  rw [hx] at p0 hi2 ⊢
  obtain ⟨ad, eA, bA, pA⟩ := hp.get p0
  subst eA
  have QC : Hid (∀ w h1 h2 hq, _) := Lib.hid fun w h1 h2 hq => asks ax ay x y C1 C2 Ad n cd w ps hl ha hi2 h1 h2 hq
  generalize seesM ps (ax, ay) (x, y) = r at *
  have hk1 : (k : Int) < (n : Int) := by omega
  have hk0 : (0 : Int) ≤ (k : Int) := by omega
  clear hl ha hr1 hi2 p0 hx hp
  go_enter Try.func175, Try.ntmps175
  go_wp2_with fail
  have HO : ∀ W W' : World, (BoxR W C1 (.slice Ad n cd) ∧ PointOk.Box W C2 ax ay ∧ PtsAt W w.heap.size Ad (dblL ps) ∧ BoxR W C3 (.func (.func 162) #[] #[.pointer (some ⟨C1, 0, none⟩), .pointer (some ⟨C2, 0, none⟩)]) ∧ BoxR W C4 (.slice (some ad) n cap) ∧ PtAt W ad k x y ∧ Below w.heap.size w W) → Below W.heap.size W W' → (BoxR W' C1 (.slice Ad n cd) ∧ PointOk.Box W' C2 ax ay ∧ PtsAt W' w.heap.size Ad (dblL ps) ∧ BoxR W' C3 (.func (.func 162) #[] #[.pointer (some ⟨C1, 0, none⟩), .pointer (some ⟨C2, 0, none⟩)]) ∧ BoxR W' C4 (.slice (some ad) n cap) ∧ PtAt W' ad k x y ∧ Below w.heap.size w W') := fun W W' ⟨x0, x1, x2, x3, x4, x5, hb⟩ h => ⟨x0.later h, x1.later h, x2.later (h.mono hb.size), x3.later h, x4.later h, x5.later bA (h.mono hb.size), hb.trans (h.mono hb.size)⟩
  have S0 : BoxR w C1 (.slice Ad n cd) ∧ PointOk.Box w C2 ax ay ∧ PtsAt w w.heap.size Ad (dblL ps) ∧ BoxR w C3 (.func (.func 162) #[] #[.pointer (some ⟨C1, 0, none⟩), .pointer (some ⟨C2, 0, none⟩)]) ∧ BoxR w C4 (.slice (some ad) n cap) ∧ PtAt w ad k x y ∧ Below w.heap.size w w := ⟨h1, h2, hq, h3, h4, pA, Below.refl _ _⟩
  clear h1 h2 hq h3 h4 pA
  have S0_ := HO _ _ S0 ((Below.refl _ _).drew)
  have HS0_ : w.drew.cell? ⟨C3, 0, none⟩ = some (.func (.func 162) #[] #[.pointer (some ⟨C1, 0, none⟩), .pointer (some ⟨C2, 0, none⟩)]) ∧ w.drew.cell? ⟨C4, 0, none⟩ = some (.slice (some ad) n cap) ∧ w.drew.cell? (ad.add (k * 2)) = some (.int .i64 x) ∧ w.drew.cell? ⟨(ad.add (k * 2)).block, (ad.add (k * 2)).off + 1, none⟩ = some (.int .i64 y) := ⟨S0_.2.2.2.1.1, S0_.2.2.2.2.1.1, S0_.2.2.2.2.2.1.1, S0_.2.2.2.2.2.1.2⟩
  refine wp_region_held_drew (S := fun W => W.cell? ⟨C3, 0, none⟩ = some (.func (.func 162) #[] #[.pointer (some ⟨C1, 0, none⟩), .pointer (some ⟨C2, 0, none⟩)]) ∧ W.cell? ⟨C4, 0, none⟩ = some (.slice (some ad) n cap) ∧ W.cell? (ad.add (k * 2)) = some (.int .i64 x) ∧ W.cell? ⟨(ad.add (k * 2)).block, (ad.add (k * 2)).off + 1, none⟩ = some (.int .i64 y)) (by kernel_rfl) HS0_ (fun hHeld => ?_)
  refine wpAnyH_take (i := 0) (oi := ⟨some 5, _, _, _, _, _⟩) (v := ?_) rfl (by kernel_rfl) (by kernel_rfl) (by kernel_rfl) (fun _ _ _ h => h) (Or.inl ⟨by rfl, ?_⟩) (by assumption) ?_
  rotate_left 1
  · (intro w hSw; (try dsimp only at hSw); go_simp; try with_reducible rfl)
  try simp only [Act.put, List.setIfInBounds_toArray, List.set_cons_zero, List.set_cons_succ]
  refine wpAnyH_take (i := 1) (oi := ⟨some 6, _, _, _, _, _⟩) (v := ?_) rfl (by kernel_rfl) (by kernel_rfl) (by kernel_rfl) (fun _ _ _ h => h) (Or.inl ⟨by rfl, ?_⟩) (by assumption) ?_
  rotate_left 1
  · (intro w hSw; (try dsimp only at hSw); go_simp; try with_reducible rfl)
  try simp only [Act.put, List.setIfInBounds_toArray, List.set_cons_zero, List.set_cons_succ]
  refine wpAnyH_take (i := 2) (oi := ⟨some 7, _, _, _, _, _⟩) (v := ?_) rfl (by kernel_rfl) (by kernel_rfl) (by kernel_rfl) (fun _ _ _ h => h) (Or.inl ⟨by rfl, ?_⟩) (by assumption) ?_
  rotate_left 1
  · (intro w hSw; (try dsimp only at hSw); go_simp; try with_reducible rfl)
  try simp only [Act.put, List.setIfInBounds_toArray, List.set_cons_zero, List.set_cons_succ]
  refine wpAnyH_take (i := 3) (oi := ⟨some 8, _, _, _, _, _⟩) (v := ?_) rfl (by kernel_rfl) (by kernel_rfl) (by kernel_rfl) (fun _ _ _ h => h) (Or.inl ⟨by rfl, ?_⟩) (by assumption) ?_
  rotate_left 1
  · (intro w hSw; (try dsimp only at hSw); go_simp; try with_reducible rfl)
  try simp only [Act.put, List.setIfInBounds_toArray, List.set_cons_zero, List.set_cons_succ]
  refine wpAnyH_take (i := 4) (oi := ⟨some 9, _, _, _, _, _⟩) (v := ?_) rfl (by kernel_rfl) (by kernel_rfl) (by kernel_rfl) (fun _ _ _ h => h) (Or.inl ⟨by rfl, ?_⟩) (by assumption) ?_
  rotate_left 1
  · (intro w hSw; (try dsimp only at hSw); go_simp; try with_reducible rfl)
  try simp only [Act.put, List.setIfInBounds_toArray, List.set_cons_zero, List.set_cons_succ]
  refine wpAnyH_take (i := 5) (oi := ⟨some 10, _, _, _, _, _⟩) (v := ?_) rfl (by kernel_rfl) (by kernel_rfl) (by kernel_rfl) (fun _ _ _ h => h) (Or.inl ⟨by rfl, ?_⟩) (by assumption) ?_
  rotate_left 1
  · (intro w hSw; (try dsimp only at hSw); go_simp; try with_reducible rfl)
  try simp only [Act.put, List.setIfInBounds_toArray, List.set_cons_zero, List.set_cons_succ]
  refine wpAnyH_ready (rs := [6]) (by kernel_rfl) (by simp) ?_
  refine AllReadyH.cons (o := ⟨some 11, _, _, _, _, _⟩) rfl (fun K hK => ?_) ?_
  rotate_left 1
  · exact AllReadyH.nil
  go_simp
  go_at_call 162; refine (QC.out _ S0_.1 S0_.2.1 (S0_.2.2.1.wide S0_.2.2.2.2.2.2.size)).mono ?_; rintro e w4 ⟨rfl, hb3_⟩
  have S4_ := HO _ _ S0_ hb3_
  go_wp2_with fail
  refine hK.out _ _ ⟨S4_.2.2.2.1.1, S4_.2.2.2.2.1.1, S4_.2.2.2.2.2.1.1, S4_.2.2.2.2.2.1.2⟩ (fun hHeld => ?_)
  clear hK K
  refine wpAnyH_take (i := 7) (oi := ⟨some 4, _, _, _, _, _⟩) (v := ?_) rfl (by kernel_rfl) (by kernel_rfl) (by kernel_rfl) (fun _ _ _ h => h) (Or.inl ⟨by rfl, ?_⟩) (by assumption) ?_
  rotate_left 1
  · (intro w hSw; (try dsimp only at hSw); go_simp; try with_reducible rfl)
  try simp only [Act.put, List.setIfInBounds_toArray, List.set_cons_zero, List.set_cons_succ]
  refine wpAnyH_done (by kernel_rfl) ?_ _
  go_wp2_with fail
  go_ret
  exact ⟨rfl, S4_.2.2.2.2.2.2⟩

set_option maxRecDepth 100000 in
set_option maxHeartbeats 1600000 in
theorem corners (A : Option Addr) (n cap : Nat) (ax ay : Int) (w : World) (ps : List (Int × Int)) (hl : ps.length = n) (ha : inB ps ax ay = true) (hp : PtsAt w w.heap.size A ps) :
    Calls Try.prog 146 #[.agg #[.slice A n cap], .agg #[.int .i64 ax, .int .i64 ay]] w (GivesI 3 w (cornTo ps (ax, ay) n)) := by
  rw [corn_that]
  have hr := roomB_yes (inB_parts ha).1
  have hn10 : n ≤ 1048576 := by omega
  have hmf : ∀ (fn : Fn) (first cap : Array Value) (w : World), (Instr.makeFunc fn first cap).run Try.prog w = .ok (.func fn first cap) w := fun _ _ _ _ => rfl
  have QF : Hid (∀ w hp, _) := Lib.hid fun w hp => sightFrom A n cap ax ay w ps hl (by omega) hr.2.1 hp
  have QS : Hid (∀ (j : Nat) (hj : j < n) C1 C2 C3 C4 Ad cd W h1 h2 hq h3 h4 hp, _) := Lib.hid fun j hj C1 C2 C3 C4 Ad cd W h1 h2 hq h3 h4 hp => seesAt ax ay C1 C2 C3 C4 Ad A n cd cap j W ps hl ha hj h1 h2 hq h3 h4 hp
  unfold Asks at QF
  obtain ⟨r, hr⟩ : ∃ r, thatTo (fun j => seesM ps (ax, ay) (pt ps j)) n = r := ⟨_, rfl⟩
  have HR := Lib.hid hr
  rw [hr]
  clear hr
  clear hr ha hl
  go_enter Try.func146, Try.ntmps146
  go_wp2_with fail
  have X0 := (Pts.boxR w (.slice A n cap) 63 (k := w.heap.size) (by simp)).alloc (Obj.cells #[.int .i64 ax, .int .i64 ay] 65)
  have X1 := PointOk.box1 (w.alloc (Obj.cells #[.slice A n cap] 63)) ax ay 65 (k := w.heap.size + 1) (by simp)
  have b0 := PointOk.below2 w (Obj.cells #[.slice A n cap] 63) (Obj.cells #[.int .i64 ax, .int .i64 ay] 65)
  have HO : ∀ W W' : World, (Pts.BoxR W (w.heap.size) (.slice A n cap) ∧ PointOk.Box W (w.heap.size + 1) ax ay ∧ PtsAt W w.heap.size A ps ∧ Below w.heap.size w W) → Below W.heap.size W W' → (Pts.BoxR W' (w.heap.size) (.slice A n cap) ∧ PointOk.Box W' (w.heap.size + 1) ax ay ∧ PtsAt W' w.heap.size A ps ∧ Below w.heap.size w W') := fun W W' ⟨h0, h1, x0, hb⟩ h => ⟨h0.later h, h1.later h, x0.later (h.mono hb.size), hb.trans (h.mono hb.size)⟩
  have hz0_ : Hid ((((w.alloc (Obj.cells #[.slice A n cap] 63)).alloc (Obj.cells #[.int .i64 ax, .int .i64 ay] 65))).heap.size = w.heap.size + 1 + 1) := Lib.hid (by simp)
  have Y0 : PtsAt (((w.alloc (Obj.cells #[.slice A n cap] 63)).alloc (Obj.cells #[.int .i64 ax, .int .i64 ay] 65))) w.heap.size A ps := hp.later b0
  generalize ((w.alloc (Obj.cells #[.slice A n cap] 63)).alloc (Obj.cells #[.int .i64 ax, .int .i64 ay] 65)) = w0 at X0 X1 Y0 b0 hz0_ ⊢
  have S0 := (⟨X0, X1, Y0, b0⟩ : Pts.BoxR w0 (w.heap.size) (.slice A n cap) ∧ PointOk.Box w0 (w.heap.size + 1) ax ay ∧ PtsAt w0 w.heap.size A ps ∧ Below w.heap.size w w0)
  clear X0 X1 Y0 b0
  obtain ⟨⟨_, _⟩, ⟨_, _⟩, _, _⟩ := id S0
  refine (QF.out _ (S0.2.2.1.wide S0.2.2.2.size)).mono ?_
  rintro e w2 ⟨C1, C2, Ad, cd, rfl, h1_, h2_, hq_, hb_⟩
  replace S0 := HO _ _ S0 hb_
  clear hb_ QF
  obtain ⟨B, hB⟩ : ∃ B, w2.heap.size = B := ⟨_, rfl⟩
  have b1_ := below1 w2 (Obj.cells #[(.func (.func 162) #[] #[.pointer (some ⟨C1, 0, none⟩), .pointer (some ⟨C2, 0, none⟩)])] 119)
  have X4 := Pts.boxR w2 (.func (.func 162) #[] #[.pointer (some ⟨C1, 0, none⟩), .pointer (some ⟨C2, 0, none⟩)]) 119 (k := B) hB.symm
  replace S0 := HO _ _ S0 b1_
  have h1_ := h1_.later b1_
  have h2_ := h2_.later b1_
  have hq_ := (hq_.later b1_).wide b1_.size
  clear b1_
  obtain ⟨_, _⟩ := id X4
  obtain ⟨⟨_, _⟩, ⟨_, _⟩, _, _⟩ := id S0
  go_wp2_with fail
  try rw [hB]
  generalize w2.alloc (Obj.cells #[(.func (.func 162) #[] #[.pointer (some ⟨C1, 0, none⟩), .pointer (some ⟨C2, 0, none⟩)])] 119) = w3 at *
  clear hB
  have HO : ∀ W W' : World, (BoxR W w.heap.size (.slice A n cap) ∧ PtsAt W w.heap.size A ps ∧ BoxR W C1 (.slice Ad n cd) ∧ PointOk.Box W C2 ax ay ∧ PtsAt W w3.heap.size Ad (dblL ps) ∧ w3.heap.size ≤ W.heap.size ∧ BoxR W B (.func (.func 162) #[] #[.pointer (some ⟨C1, 0, none⟩), .pointer (some ⟨C2, 0, none⟩)]) ∧ Below w.heap.size w W) → Below W.heap.size W W' → (BoxR W' w.heap.size (.slice A n cap) ∧ PtsAt W' w.heap.size A ps ∧ BoxR W' C1 (.slice Ad n cd) ∧ PointOk.Box W' C2 ax ay ∧ PtsAt W' w3.heap.size Ad (dblL ps) ∧ w3.heap.size ≤ W'.heap.size ∧ BoxR W' B (.func (.func 162) #[] #[.pointer (some ⟨C1, 0, none⟩), .pointer (some ⟨C2, 0, none⟩)]) ∧ Below w.heap.size w W') := fun W W' ⟨x0, x1, x2, x3, x4, x5, x6, hb⟩ h => ⟨x0.later h, x1.later (h.mono hb.size), x2.later h, x3.later h, x4.later (h.mono x5), Nat.le_trans x5 h.size, x6.later h, hb.trans (h.mono hb.size)⟩
  have S1 : BoxR w3 w.heap.size (.slice A n cap) ∧ PtsAt w3 w.heap.size A ps ∧ BoxR w3 C1 (.slice Ad n cd) ∧ PointOk.Box w3 C2 ax ay ∧ PtsAt w3 w3.heap.size Ad (dblL ps) ∧ w3.heap.size ≤ w3.heap.size ∧ BoxR w3 B (.func (.func 162) #[] #[.pointer (some ⟨C1, 0, none⟩), .pointer (some ⟨C2, 0, none⟩)]) ∧ Below w.heap.size w w3 := ⟨S0.1, S0.2.2.1, h1_, h2_, hq_, Nat.le_refl _, X4, S0.2.2.2⟩
  clear S0 X4 h1_ h2_ hq_
  have S0 := S1
  clear S1
  refine (ThatImpl.cornersThat 175 #[.pointer (some ⟨B, 0, none⟩), .pointer (some ⟨w.heap.size, 0, none⟩)] (fun j => seesM ps (ax, ay) (pt ps j)) A n cap w3 hn10 Try.call175 (fun W j hj hb => by
    have S9 := HO _ _ S0 hb
    exact QS.out j hj C1 C2 B w.heap.size Ad cd W S9.2.2.1 S9.2.2.2.1 (S9.2.2.2.2.1.wide S9.2.2.2.2.2.1) S9.2.2.2.2.2.2.1 S9.1 (S9.2.1.wide S9.2.2.2.2.2.2.2.size))).mono ?_
  rintro e w4 ⟨A2, c2, rfl, hown, hb_⟩
  rw [HR.out] at hown ⊢
  have hown := Lib.hid hown
  have hs1 := S0.2.2.2.2.2.2.2.size
  replace S0 := S0.2.2.2.2.2.2.2.trans (hb_.mono S0.2.2.2.2.2.2.2.size)
  clear QS HR
  go_wp2_with fail
  go_ret
  exact ⟨A2, c2, rfl, own_base hown.out hs1, S0⟩

end Go.Proofs.Ytgampbjdoncdoaa.SeeImpl

