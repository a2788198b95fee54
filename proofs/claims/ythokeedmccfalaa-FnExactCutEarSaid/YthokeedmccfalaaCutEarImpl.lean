/-
  What the landed CutEar does, as a contract: the room without the ear, and whether it may be cut off.
-/
import Derived.Test.YthokeedmccfalaaStrMath
import Derived.Test.YthokeedmccfalaaPtsRow
import Derived.Test.YthokeedmccfalaaDelPt
import Derived.Test.YthokeedmccfalaaCutMath
import Derived.Test.YthokeedmccfalaaDiagImpl
import Derived.Test.YthokeedmccfalaaRoomOkImpl
import Derived.Test.YthokeedmccfalaaMovRoom
import Derived.ScopeJumps
import Derived.WalkMore
namespace Go.Proofs.Ythokeedmccfalaa.CutEarImpl
open Go.RowKit Own PointMath WallMath RoomMath Pts Blk AreaMath PlaceMath FloorMath LineMath CutsMath SightMath DiagMath EarMath RoomRes MovRoom StrMath
open CutMath (own_ptsC)
open PointOk (ret_bool ret_i64 below1 below2 below3)
def lenV : Value → Nat
  | .slice _ n _ => n
  | _ => 0
theorem apart {w : World} {b sz n k : Nat} {T T2 : TypeId} {v : Value} {xs : List Value} {cs : Array Value} (h : w.ownsRow b T sz v n xs) (h2 : Holds w k cs T2) (ht : T ≠ T2) : ∀ g, v.ownBlock = some g → g ≠ k := by
  intro g hg e
  subst e
  rcases h.2 with ⟨rfl, _⟩ | ⟨g', cap', cur, rfl, _, hh, _⟩
  · cases hg
  · injection hg with hg
    have hg : g' = g := hg
    subst hg
    unfold Holds at h2
    rw [hh] at h2
    injection h2 with h2
    injection h2 with _ h2
    exact ht h2

set_option maxRecDepth 100000 in
set_option maxHeartbeats 6400000 in
theorem cutEar (A : Option Addr) (n cap : Nat) (k : Int) (w : World) (ps : List (Int × Int)) (hl : ps.length = n) (hn : n ≤ 1048576) (hc0 : n ≤ cap) (hp : PtsAt w w.heap.size A ps) :
    Calls Try.prog 20 #[.agg #[.slice A n cap], .int .i64 k] w (GivesRB 49 w (earL ps k) (earB ps k)) := by
  obtain ⟨o, ho⟩ : ∃ o, earB ps k = o := ⟨_, rfl⟩
  obtain ⟨l0, hl0⟩ : ∃ l, earL ps k = l := ⟨_, rfl⟩
  have HN : Hid (earB ps k = false → l0 = [] ∧ o = false) := Lib.hid (fun h => by rw [← hl0, ← ho, h]; exact ⟨ear_no h, rfl⟩)
  have HY : Hid (earB ps k = true → l0 = modL (cut ps k.toNat) ∧ o = true) := Lib.hid (fun h => by rw [← hl0, ← ho, h]; exact ⟨ear_yes h, rfl⟩)
  rw [hl0, ho]
  unfold GivesRB
  clear hl0 ho
  go_enter Try.func20, Try.ntmps20
  go_wp2_with fail
  have X0 := (Pts.boxR w (.slice A n cap) 37 (k := w.heap.size) (by simp)).alloc (Obj.cells #[.slice none 0 0] 37)
  have X1 := Blk.Holds.box (w.alloc (Obj.cells #[.slice A n cap] 37)) #[.slice none 0 0] 37 (k := w.heap.size + 1) (by simp)
  have b0 := PointOk.below2 w (Obj.cells #[.slice A n cap] 37) (Obj.cells #[.slice none 0 0] 37)
  have HO : ∀ W W' : World, (Pts.BoxR W (w.heap.size) (.slice A n cap) ∧ Blk.Holds W (w.heap.size + 1) #[.slice none 0 0] 37 ∧ PtsAt W w.heap.size A ps ∧ w.heap.size + 2 ≤ W.heap.size ∧ Below w.heap.size w W) → Below W.heap.size W W' → (Pts.BoxR W' (w.heap.size) (.slice A n cap) ∧ Blk.Holds W' (w.heap.size + 1) #[.slice none 0 0] 37 ∧ PtsAt W' w.heap.size A ps ∧ w.heap.size + 2 ≤ W'.heap.size ∧ Below w.heap.size w W') := fun W W' ⟨h0, h1, x0, x1, hb⟩ h => ⟨h0.later h, h1.later h, x0.later (h.mono hb.size), Nat.le_trans x1 h.size, hb.trans (h.mono hb.size)⟩
  have hz0_ : Hid ((((w.alloc (Obj.cells #[.slice A n cap] 37)).alloc (Obj.cells #[.slice none 0 0] 37))).heap.size = w.heap.size + 1 + 1) := Lib.hid (by simp)
  have Y0 : PtsAt (((w.alloc (Obj.cells #[.slice A n cap] 37)).alloc (Obj.cells #[.slice none 0 0] 37))) w.heap.size A ps := hp.later b0
  have Y1 : w.heap.size + 2 ≤ (((w.alloc (Obj.cells #[.slice A n cap] 37)).alloc (Obj.cells #[.slice none 0 0] 37))).heap.size := by simp
  generalize ((w.alloc (Obj.cells #[.slice A n cap] 37)).alloc (Obj.cells #[.slice none 0 0] 37)) = w0 at X0 X1 Y0 Y1 b0 hz0_ ⊢
  have S0 := (⟨X0, X1, Y0, Y1, b0⟩ : Pts.BoxR w0 (w.heap.size) (.slice A n cap) ∧ Blk.Holds w0 (w.heap.size + 1) #[.slice none 0 0] 37 ∧ PtsAt w0 w.heap.size A ps ∧ w.heap.size + 2 ≤ w0.heap.size ∧ Below w.heap.size w w0)
  clear X0 X1 Y0 Y1 b0
  obtain ⟨⟨_, _⟩, _, _, _, _⟩ := id S0

  refine wp_scope_jumps 0 (fun a' w' => ∃ (u0 u1 u2 u3 u5 u7 u8 u9 u10 u11 u12 u13 u14 u15 u16 u17 u18 u19 u20 u21 u22 u23 u24 u25 u26 u27 u28 u29 u30 u31 u32 u33 u34 u35 u36 u37 u38 u39 u40 u41 u42 u43 u44 u45 : Value) (m : Nat) (l : List (Int × Int)) (A1 : Option Addr) (c1 : Nat), a' = { tmps := #[u0, u1, u2, u3, .pointer (some ⟨w.heap.size + 1, 0, none⟩), u5, .slice A1 m c1, u7, u8, u9, u10, u11, u12, u13, u14, u15, u16, u17, u18, u19, u20, u21, u22, u23, u24, u25, u26, u27, u28, u29, u30, u31, u32, u33, u34, u35, u36, u37, u38, u39, u40, u41, u42, u43, u44, u45], defers := [] } ∧ Hid (w'.ownsRow (w.heap.size + 2) 49 2 (.slice A1 m c1) m (cellsP l)) ∧ Hid (l.length = m ∧ m ≤ 9 ∧ okAll l = true ∧ landL l = landL (cut ps k.toNat) ∧ isEarB ps k = true ∧ ps.length ≠ 3) ∧ (Pts.BoxR w' w.heap.size (.slice A n cap) ∧ Blk.Holds w' (w.heap.size + 1) #[.slice none 0 0] 37 ∧ PtsAt w' w.heap.size A ps ∧ w.heap.size + 2 ≤ w'.heap.size ∧ Below w.heap.size w w')) (fun a' _ => lenV (a'.tmps.getD 6 undef)) rfl ?_ ?_
  · skip
    have HO3 : ∀ W W' : World, (Pts.BoxR W w.heap.size (.slice A n cap) ∧ Blk.Holds W (w.heap.size + 1) #[.slice none 0 0] 37 ∧ PtsAt W w.heap.size A ps ∧ w.heap.size + 2 ≤ W.heap.size ∧ Below w.heap.size w W) → Below (w.heap.size + 2) W W' → (Pts.BoxR W' w.heap.size (.slice A n cap) ∧ Blk.Holds W' (w.heap.size + 1) #[.slice none 0 0] 37 ∧ PtsAt W' w.heap.size A ps ∧ w.heap.size + 2 ≤ W'.heap.size ∧ Below w.heap.size w W') := fun W W' ⟨h0, h1, x0, x1, hb⟩ h => ⟨⟨(h.cell (by simp)).trans h0.1, trivial⟩, (h.block _ (by omega)).trans h1, x0.later (h.mono (by omega)), Nat.le_trans x1 h.size, hb.trans (h.mono (by omega))⟩
    by_cases h3 : n = 3
    · obtain ⟨rfl, rfl⟩ := HN.out (no_three (by omega))
      subst h3
      have hR := S0.2.1
      have E_ := Blk.set_own hR 0 (.slice none 0 0)
      obtain ⟨r0_, _⟩ := Blk.Holds.one E_
      have hb4 := Lib.hid (S0.2.2.2.2.trans (below_set w0 w.heap.size (w.heap.size + 1) 0 (.slice none 0 0) (by omega)))
      obtain ⟨_, _⟩ := hR.one
      clear hR HN HY
      go_wp2_with fail
      simp only [Exit.jump]
      refine bodyPost_ret (v := .tuple #[.agg #[.slice none 0 0], .bool false]) (by simp [results, Try.results20, go_sem, r0_]) rfl ⟨none, 0, rfl, World.ownsRow_nil _ _ _ _, hb4.out⟩
    have h3i : ¬ (n : Int) = 3 := by omega
    have QE := Lib.hid (DiagImpl.isEar A n cap k w0 ps hl hn (S0.2.2.1.wide S0.2.2.2.2.size))
    go_wp2_with fail
    refine QE.out.mono ?_
    rintro e w1 ⟨rfl, hb_⟩
    replace S0 := HO _ _ S0 hb_
    clear hb_ QE
    obtain ⟨⟨_, _⟩, _⟩ := id S0
    cases he : isEarB ps k
    · obtain ⟨rfl, rfl⟩ := HN.out (no_ear he)
      have hR := S0.2.1
      have E_ := Blk.set_own hR 0 (.slice none 0 0)
      obtain ⟨r0_, _⟩ := Blk.Holds.one E_
      have hb4 := Lib.hid (S0.2.2.2.2.trans (below_set w1 w.heap.size (w.heap.size + 1) 0 (.slice none 0 0) (by omega)))
      obtain ⟨_, _⟩ := hR.one
      clear hR HN HY
      go_wp2_with fail
      simp only [Exit.jump]
      refine bodyPost_ret (v := .tuple #[.agg #[.slice none 0 0], .bool false]) (by simp [results, Try.results20, go_sem, r0_]) rfl ⟨none, 0, rfl, World.ownsRow_nil _ _ _ _, hb4.out⟩
    obtain ⟨hr0, kk, rfl, hkk, _⟩ := isEarB_yes he
    have hy := roomB_yes hr0
    rw [hl] at hkk
    have hn10 : n ≤ 10 := by have := hy.1.2; omega
    have hn4 : 4 ≤ n := by have := hy.1.1; omega
    have hcl : (cut ps kk).length = n - 1 := by rw [cut_len (by omega), hl]
    have hok := cut_ok kk hy.2.1
    obtain ⟨ad, eA, _, _⟩ := S0.2.2.1.get (pt_at (ps := ps) (k := 0) (by omega))
    subst eA
    have hla : (ps.take kk).length = kk := by rw [List.length_take]; omega
    have hlb : (ps.drop (kk + 1)).length = n - (kk + 1) := by rw [List.length_drop, hl]
    have PTa := PtsRow.pts_take S0.2.2.1 kk
    have PTb := PtsRow.pts_drop (cb := cap) (j := kk + 1) S0.2.2.1 (by omega) (by omega)
    have hkc : (kk : Int) ≤ (cap : Int) := by omega
    have hk2 : (kk : Int) + 1 ≤ (n : Int) := by omega
    have hk4 : (0 : Int) ≤ (kk : Int) + 1 := by omega
    have hk0 : (0 : Int) ≤ (kk : Int) := by omega
    have hk5 : kk ≤ cap := by omega
    have hk6 : kk + 1 ≤ n := by omega
    have hk7 : (n : Int) ≤ (cap : Int) := by omega
    have ux : IntKind.i64.wrap ((kk : Int) + 1) = (kk : Int) + 1 := IntWalk.i64_in _ (by omega)
    have hk8 : (kk : Int) ≤ (n : Int) := by omega
    have hk9 : kk ≤ n := by omega
    obtain ⟨AD, hAD⟩ : ∃ AD, PtsRow.dropA (some ad) cap (kk + 1) = AD := ⟨_, rfl⟩
    rw [hAD] at PTb
    have QC : Hid (∀ V w hp hq hV v0 v1, _) := Lib.hid fun V w hp hq hV v0 v1 => PtsRow.concat V (some ad) AD kk cap (n - (kk + 1)) (cap - (kk + 1)) (n - 1) (ps.take kk) (ps.drop (kk + 1)) hla hlb (by omega) (by omega) (by omega) w hp hq hV v0 v1 2
    clear hr0
    go_wp2_with fail
    by_cases hcase : cap = kk + 1
    · have hd : PtsRow.dropA (some ad) cap (kk + 1) = some ad := by unfold PtsRow.dropA; rw [if_pos hcase]
      have hT : (cap = kk + 1) = True := eq_true hcase
      rw [hd] at hAD
      subst hAD
      clear hd hcase
      have S0_ := HO _ _ S0 ((Below.refl _ _).drew)
      have HS0_ : w1.drew.cell? ⟨w.heap.size, 0, none⟩ = some (.slice (some ad) n cap) := S0_.1.1
      refine wp_region_held_drew (S := fun W => W.cell? ⟨w.heap.size, 0, none⟩ = some (.slice (some ad) n cap)) (by kernel_rfl) HS0_ (fun hHeld => ?_)
      refine wpAnyH_take (i := 0) (oi := ⟨some 20, _, _, _, _, _⟩) (v := ?_) rfl (by kernel_rfl) (by kernel_rfl) (by kernel_rfl) (fun _ _ _ h => h) (Or.inl ⟨by rfl, ?_⟩) (by assumption) ?_
      rotate_left 1
      · (intro w hSw; (try dsimp only at hSw); go_simp; try with_reducible rfl)
      try simp only [Act.put, List.setIfInBounds_toArray, List.set_cons_zero, List.set_cons_succ]
      refine wpAnyH_take (i := 1) (oi := ⟨some 21, _, _, _, _, _⟩) (v := ?_) rfl (by kernel_rfl) (by kernel_rfl) (by kernel_rfl) (fun _ _ _ h => h) (Or.inl ⟨by rfl, ?_⟩) (by assumption) ?_
      rotate_left 1
      · (intro w hSw; (try dsimp only at hSw); go_simp; try with_reducible rfl)
      try simp only [Act.put, List.setIfInBounds_toArray, List.set_cons_zero, List.set_cons_succ]
      refine wpAnyH_take (i := 2) (oi := ⟨some 22, _, _, _, _, _⟩) (v := ?_) rfl (by kernel_rfl) (by kernel_rfl) (by kernel_rfl) (fun _ _ _ h => h) (Or.inl ⟨by rfl, ?_⟩) (by assumption) ?_
      rotate_left 1
      · (intro w hSw; (try dsimp only at hSw); go_simp; try with_reducible rfl)
      try simp only [Act.put, List.setIfInBounds_toArray, List.set_cons_zero, List.set_cons_succ]
      refine wpAnyH_take (i := 3) (oi := ⟨some 23, _, _, _, _, _⟩) (v := ?_) rfl (by kernel_rfl) (by kernel_rfl) (by kernel_rfl) (fun _ _ _ h => h) (Or.inl ⟨by rfl, ?_⟩) (by assumption) ?_
      rotate_left 1
      · (intro w hSw; (try dsimp only at hSw); go_simp; try with_reducible rfl)
      try simp only [Act.put, List.setIfInBounds_toArray, List.set_cons_zero, List.set_cons_succ]
      refine wpAnyH_take (i := 4) (oi := ⟨some 24, _, _, _, _, _⟩) (v := ?_) rfl (by kernel_rfl) (by kernel_rfl) (by kernel_rfl) (fun _ _ _ h => h) (Or.inl ⟨by rfl, ?_⟩) (by assumption) ?_
      rotate_left 1
      · (intro w hSw; (try dsimp only at hSw); go_simp; try with_reducible rfl)
      try simp only [Act.put, List.setIfInBounds_toArray, List.set_cons_zero, List.set_cons_succ]
      refine wpAnyH_take (i := 5) (oi := ⟨some 25, _, _, _, _, _⟩) (v := ?_) rfl (by kernel_rfl) (by kernel_rfl) (by kernel_rfl) (fun _ _ _ h => h) (Or.inl ⟨by rfl, ?_⟩) (by assumption) ?_
      rotate_left 1
      · (intro w hSw; (try dsimp only at hSw); go_simp; try with_reducible rfl)
      try simp only [Act.put, List.setIfInBounds_toArray, List.set_cons_zero, List.set_cons_succ]
      refine wpAnyH_take (i := 6) (oi := ⟨some 26, _, _, _, _, _⟩) (v := ?_) rfl (by kernel_rfl) (by kernel_rfl) (by kernel_rfl) (fun _ _ _ h => h) (Or.inl ⟨by rfl, ?_⟩) (by assumption) ?_
      rotate_left 1
      · (intro w hSw; (try dsimp only at hSw); go_simp; try with_reducible rfl)
      try simp only [Act.put, List.setIfInBounds_toArray, List.set_cons_zero, List.set_cons_succ]
      refine wpAnyH_take (i := 7) (oi := ⟨some 27, _, _, _, _, _⟩) (v := ?_) rfl (by kernel_rfl) (by kernel_rfl) (by kernel_rfl) (fun _ _ _ h => h) (Or.inl ⟨by rfl, ?_⟩) (by assumption) ?_
      rotate_left 1
      · (intro w hSw; (try dsimp only at hSw); go_simp; try with_reducible rfl)
      try simp only [Act.put, List.setIfInBounds_toArray, List.set_cons_zero, List.set_cons_succ]
      refine wpAnyH_take (i := 8) (oi := ⟨some 28, _, _, _, _, _⟩) (v := ?_) rfl (by kernel_rfl) (by kernel_rfl) (by kernel_rfl) (fun _ _ _ h => h) (Or.inl ⟨by rfl, ?_⟩) (by assumption) ?_
      rotate_left 1
      · (intro w hSw; (try dsimp only at hSw); go_simp; try with_reducible rfl)
      try simp only [Act.put, List.setIfInBounds_toArray, List.set_cons_zero, List.set_cons_succ]
      have HV : Blk.Holds (w1.alloc (Obj.cells #[.slice (some ad) kk cap, .slice (some ad) (n - (kk + 1)) (cap - (kk + 1))] 35)).drew w1.heap.size #[.slice (some ad) kk cap, .slice (some ad) (n - (kk + 1)) (cap - (kk + 1))] 35 := Blk.Holds.new w1 _ _
      have b1_ := (below1 w1 (Obj.cells #[.slice (some ad) kk cap, .slice (some ad) (n - (kk + 1)) (cap - (kk + 1))] 35)).trans (Below.refl _ _).drew
      have S1_ := HO _ _ S0 b1_
      have PTa1 := (PTa.later (b1_.mono S0.2.2.2.2.size)).wide S1_.2.2.2.2.size
      have PTb1 := (PTb.later (b1_.mono S0.2.2.2.2.size)).wide S1_.2.2.2.2.size
      refine wpAnyH_ready (rs := [9]) (by kernel_rfl) (by simp) ?_
      refine AllReadyH.cons (o := ⟨some 29, _, _, _, _, _⟩) rfl (fun K hK => ?_) ?_
      rotate_left 1
      · exact AllReadyH.nil
      go_simp
      refine hK.out _ _ S1_.1.1 (fun hHeld => ?_)
      clear hK K
      try simp only [Act.put, List.setIfInBounds_toArray, List.set_cons_zero, List.set_cons_succ]
      refine wpAnyH_ready (rs := [10]) (by kernel_rfl) (by simp) ?_
      refine AllReadyH.cons (o := ⟨some 30, _, _, _, _, _⟩) rfl (fun K hK => ?_) ?_
      rotate_left 1
      · exact AllReadyH.nil
      go_simp
      go_at_call 72; refine (QC.out w1.heap.size _ PTa1 PTb1 HV.lt HV.two.1.1 HV.two.1.2).mono ?_; rintro e w3 ⟨A1, c1, rfl, ho_, hb1_⟩
      have S2_ := HO _ _ S1_ hb1_
      replace ho_ := own_base ho_ (b' := w.heap.size + 2) S1_.2.2.2.1
      go_wp2_with fail
      refine hK.out _ _ S2_.1.1 (fun hHeld => ?_)
      clear hK K
      refine wpAnyH_take (i := 11) (oi := ⟨some 6, _, _, _, _, _⟩) (v := ?_) rfl (by kernel_rfl) (by kernel_rfl) (by kernel_rfl) (fun _ _ _ h => h) (Or.inl ⟨by rfl, ?_⟩) (by assumption) ?_
      rotate_left 1
      · (intro w hSw; (try dsimp only at hSw); go_simp; try with_reducible rfl)
      try simp only [Act.put, List.setIfInBounds_toArray, List.set_cons_zero, List.set_cons_succ]
      refine wpAnyH_done (by kernel_rfl) ?_ _
      have hear := he
      have hn3 : ps.length ≠ 3 := by omega
      obtain ⟨m, hmn⟩ : ∃ m, n - 1 = m := ⟨_, rfl⟩
      rw [hmn] at ho_ hcl ⊢
      have hown := Lib.hid ho_
      have S0 := S2_
      obtain ⟨l, hle⟩ : ∃ l, cut ps kk = l := ⟨_, rfl⟩
      have hlm : l.length = m := by rw [← hle]; exact hcl
      have hol : okAll l = true := by rw [← hle]; exact hok
      have hld : landL l = landL (cut ps ((kk : Int)).toNat) := by rw [Int.toNat_natCast, hle]
      rw [show ps.take kk ++ ps.drop (kk + 1) = l from hle] at hown
      have hm9 : m ≤ 9 := by omega
      clear S0_ S1_ S2_ HS0_ HV b1_ PTa1 PTb1 hb1_ ho_ QC PTa PTb hla hlb hcl hok hy hle hkc hk2 hk4 hk0 hk5 hk6 hk7 ux hk8 hk9 he h3i
      go_wp2_with fail
      go_step3
      have PT_ := own_ptsC hown.out hlm
      go_wp2_with fail
      refine (RoomOkImpl.straight A1 m c1 w3 l hlm (by omega) hol PT_).mono ?_
      rintro e x1 ⟨rfl, hb_⟩
      replace S0 := HO _ _ S0 hb_
      replace hown := Lib.hid (own_below hown.out hb_)
      clear hb_ PT_
      by_cases hx : straightI l < 0
      · have hx2 : ¬ (0 : Int) ≤ straightI l := by omega
        have hlr : l = landL (cut ps ((kk : Int)).toNat) := by rw [← hld, land_end hx]
        have HE : Hid (earB ps (kk : Int) = roomB l) := Lib.hid (by rw [the_ear hear hn3, hlr]; exact land_room.1.symm)
        have HL : Hid (roomB l = true → modL (cut ps ((kk : Int)).toNat) = l) := Lib.hid (fun h => by rw [hlr] at h ⊢; exact (land_room.2 (by rw [← land_room.1]; exact h)).symm)
        clear hlr hld hear hn3 hx
        generalize straightI l = s at *
        have S1 := HO _ _ S0 (below1 x1 (Obj.cells #[.slice A1 m c1] 37))
        obtain ⟨⟨_, _⟩, _⟩ := id S1
        go_wp2_with fail
        have N1 := Blk.Holds.box x1 #[.slice A1 m c1] 37 (k := x1.heap.size) rfl
        have O1 := own_below hown.out (below1 x1 (Obj.cells #[.slice A1 m c1] 37))
        clear S0 hown
        generalize x1.alloc (Obj.cells #[.slice A1 m c1] 37) = x2 at *
        generalize x1.heap.size = k8 at *
        refine (RoomOkImpl.roomOk A1 m c1 x2 l hlm (by omega) (own_ptsC O1 hlm)).mono ?_
        rintro e x3 ⟨rfl, hb_⟩
        replace N1 := N1.later hb_
        replace O1 := own_below O1 hb_
        replace S1 := HO _ _ S1 hb_
        clear hb_
        have hm := Lib.hid hlm
        clear hlm
        obtain ⟨_, _⟩ := N1.one
        cases q : roomB l
        · obtain ⟨rfl, rfl⟩ := HN.out (by rw [HE.out, q])
          have hR := S1.2.1
          have E_ := Blk.set_own hR 0 (.slice none 0 0)
          obtain ⟨r0_, _⟩ := Blk.Holds.one E_
          have hb4 := Lib.hid (S1.2.2.2.2.trans (below_set x3 w.heap.size (w.heap.size + 1) 0 (.slice none 0 0) (by omega)))
          obtain ⟨_, _⟩ := hR.one
          clear hR HN HY
          go_wp2_with fail
          simp only [Exit.jump]
          refine bodyPost_ret (v := .tuple #[.agg #[.slice none 0 0], .bool false]) (by simp [results, Try.results20, go_sem, r0_]) rfl ⟨none, 0, rfl, World.ownsRow_nil _ _ _ _, hb4.out⟩
        have hq := HY.out (by rw [HE.out, q])
        rw [HL.out q] at hq
        obtain ⟨rfl, rfl⟩ := hq
        have hR := S1.2.1
        have E_ := Blk.set_own hR 0 (.slice A1 m c1)
        obtain ⟨r0_, _⟩ := Blk.Holds.one E_
        have hb4 := Lib.hid (S1.2.2.2.2.trans (below_set x3 w.heap.size (w.heap.size + 1) 0 (.slice A1 m c1) (by omega)))
        have OF := Lib.hid (own_set O1 (w.heap.size + 1) 0 (.slice A1 m c1) (by omega))
        obtain ⟨_, _⟩ := hR.one
        clear hR HN HY
        go_wp2_with fail
        simp only [Exit.jump]
        refine bodyPost_ret (v := .tuple #[.agg #[.slice A1 m c1], .bool true]) (by simp [results, Try.results20, go_sem, r0_]) rfl ⟨A1, c1, by rw [hm.out], by rw [hm.out]; exact own_base OF.out (by omega), hb4.out⟩
      obtain ⟨x, hxe⟩ := Int.eq_ofNat_of_zero_le (show 0 ≤ straightI l by omega)
      have hxm := str_lt hxe
      rw [hlm] at hxm
      have hx2 : (0 : Int) ≤ (x : Int) := by omega
      obtain ⟨g, rfl⟩ : ∃ g, A1 = some ⟨g, 0, none⟩ := by
        obtain ⟨g, c', hv, _⟩ := hown.out.form (by omega)
        injection hv with h1 _ _
        exact ⟨g, h1⟩
      have ux : IntKind.i64.wrap ((x : Int) + 1) = (x : Int) + 1 := IntWalk.i64_in _ (by omega)
      have HJ : Hid ((cut l x).length = m - 1 ∧ m - 1 ≤ 9 ∧ okAll (cut l x) = true ∧ landL (cut l x) = landL (cut ps ((kk : Int)).toNat) ∧ isEarB ps (kk : Int) = true ∧ ps.length ≠ 3) := Lib.hid ⟨by rw [cut_len (by omega), hlm], by omega, cut_ok x hol, by rw [← land_step hxe]; exact hld, hear, hn3⟩
      rw [hxe]
      have QD := Lib.hid (DelPt.delete_pt hown.out x hxm)
      have hO := hown.out
      clear hxe hx hld hol hlm hear hn3
      go_wp2_with fail
      refine QD.out.mono ?_
      rintro e x2 ⟨rfl, hown2, hg_⟩
      have hb_ : Below (w.heap.size + 2) x1 x2 := (Below.refl _ _).grown hg_ S0.2.2.2.1 (fun k hk => by injection hk with hk; subst hk; exact (hO.lt _ rfl).1)
      replace S0 := HO3 _ _ S0 hb_
      replace hown2 := Lib.hid hown2
      clear hb_ hg_ hO hown QD
      go_wp2_with fail
      go_step3
      exact ⟨rfl, ⟨_, _, _, _, _, _, _, _, _, _, _, _, _, _, _, _, _, _, _, _, _, _, _, _, _, _, _, _, _, _, _, _, _, _, _, _, _, _, _, _, _, _, _, _, m - 1, cut l x, some ⟨g, 0, none⟩, c1, rfl, Lib.hid hown2.out, HJ, S0⟩⟩
    · have hd : PtsRow.dropA (some ad) cap (kk + 1) = some ⟨ad.block, ad.off + (kk + 1) * 2, none⟩ := by simp [PtsRow.dropA, hcase]
      rw [hd] at hAD
      subst hAD
      clear hd
      have S0_ := HO _ _ S0 ((Below.refl _ _).drew)
      have HS0_ : w1.drew.cell? ⟨w.heap.size, 0, none⟩ = some (.slice (some ad) n cap) := S0_.1.1
      refine wp_region_held_drew (S := fun W => W.cell? ⟨w.heap.size, 0, none⟩ = some (.slice (some ad) n cap)) (by kernel_rfl) HS0_ (fun hHeld => ?_)
      refine wpAnyH_take (i := 0) (oi := ⟨some 20, _, _, _, _, _⟩) (v := ?_) rfl (by kernel_rfl) (by kernel_rfl) (by kernel_rfl) (fun _ _ _ h => h) (Or.inl ⟨by rfl, ?_⟩) (by assumption) ?_
      rotate_left 1
      · (intro w hSw; (try dsimp only at hSw); go_simp; try with_reducible rfl)
      try simp only [Act.put, List.setIfInBounds_toArray, List.set_cons_zero, List.set_cons_succ]
      refine wpAnyH_take (i := 1) (oi := ⟨some 21, _, _, _, _, _⟩) (v := ?_) rfl (by kernel_rfl) (by kernel_rfl) (by kernel_rfl) (fun _ _ _ h => h) (Or.inl ⟨by rfl, ?_⟩) (by assumption) ?_
      rotate_left 1
      · (intro w hSw; (try dsimp only at hSw); go_simp; try with_reducible rfl)
      try simp only [Act.put, List.setIfInBounds_toArray, List.set_cons_zero, List.set_cons_succ]
      refine wpAnyH_take (i := 2) (oi := ⟨some 22, _, _, _, _, _⟩) (v := ?_) rfl (by kernel_rfl) (by kernel_rfl) (by kernel_rfl) (fun _ _ _ h => h) (Or.inl ⟨by rfl, ?_⟩) (by assumption) ?_
      rotate_left 1
      · (intro w hSw; (try dsimp only at hSw); go_simp; try with_reducible rfl)
      try simp only [Act.put, List.setIfInBounds_toArray, List.set_cons_zero, List.set_cons_succ]
      refine wpAnyH_take (i := 3) (oi := ⟨some 23, _, _, _, _, _⟩) (v := ?_) rfl (by kernel_rfl) (by kernel_rfl) (by kernel_rfl) (fun _ _ _ h => h) (Or.inl ⟨by rfl, ?_⟩) (by assumption) ?_
      rotate_left 1
      · (intro w hSw; (try dsimp only at hSw); go_simp; try with_reducible rfl)
      try simp only [Act.put, List.setIfInBounds_toArray, List.set_cons_zero, List.set_cons_succ]
      refine wpAnyH_take (i := 4) (oi := ⟨some 24, _, _, _, _, _⟩) (v := ?_) rfl (by kernel_rfl) (by kernel_rfl) (by kernel_rfl) (fun _ _ _ h => h) (Or.inl ⟨by rfl, ?_⟩) (by assumption) ?_
      rotate_left 1
      · (intro w hSw; (try dsimp only at hSw); go_simp; try with_reducible rfl)
      try simp only [Act.put, List.setIfInBounds_toArray, List.set_cons_zero, List.set_cons_succ]
      refine wpAnyH_take (i := 5) (oi := ⟨some 25, _, _, _, _, _⟩) (v := ?_) rfl (by kernel_rfl) (by kernel_rfl) (by kernel_rfl) (fun _ _ _ h => h) (Or.inl ⟨by rfl, ?_⟩) (by assumption) ?_
      rotate_left 1
      · (intro w hSw; (try dsimp only at hSw); go_simp; try with_reducible rfl)
      try simp only [Act.put, List.setIfInBounds_toArray, List.set_cons_zero, List.set_cons_succ]
      refine wpAnyH_take (i := 6) (oi := ⟨some 26, _, _, _, _, _⟩) (v := ?_) rfl (by kernel_rfl) (by kernel_rfl) (by kernel_rfl) (fun _ _ _ h => h) (Or.inl ⟨by rfl, ?_⟩) (by assumption) ?_
      rotate_left 1
      · (intro w hSw; (try dsimp only at hSw); go_simp; try with_reducible rfl)
      try simp only [Act.put, List.setIfInBounds_toArray, List.set_cons_zero, List.set_cons_succ]
      refine wpAnyH_take (i := 7) (oi := ⟨some 27, _, _, _, _, _⟩) (v := ?_) rfl (by kernel_rfl) (by kernel_rfl) (by kernel_rfl) (fun _ _ _ h => h) (Or.inl ⟨by rfl, ?_⟩) (by assumption) ?_
      rotate_left 1
      · (intro w hSw; (try dsimp only at hSw); go_simp; try with_reducible rfl)
      try simp only [Act.put, List.setIfInBounds_toArray, List.set_cons_zero, List.set_cons_succ]
      refine wpAnyH_take (i := 8) (oi := ⟨some 28, _, _, _, _, _⟩) (v := ?_) rfl (by kernel_rfl) (by kernel_rfl) (by kernel_rfl) (fun _ _ _ h => h) (Or.inl ⟨by rfl, ?_⟩) (by assumption) ?_
      rotate_left 1
      · (intro w hSw; (try dsimp only at hSw); go_simp; try with_reducible rfl)
      try simp only [Act.put, List.setIfInBounds_toArray, List.set_cons_zero, List.set_cons_succ]
      have HV : Blk.Holds (w1.alloc (Obj.cells #[.slice (some ad) kk cap, .slice (some ⟨ad.block, ad.off + (kk + 1) * 2, none⟩) (n - (kk + 1)) (cap - (kk + 1))] 35)).drew w1.heap.size #[.slice (some ad) kk cap, .slice (some ⟨ad.block, ad.off + (kk + 1) * 2, none⟩) (n - (kk + 1)) (cap - (kk + 1))] 35 := Blk.Holds.new w1 _ _
      have b1_ := (below1 w1 (Obj.cells #[.slice (some ad) kk cap, .slice (some ⟨ad.block, ad.off + (kk + 1) * 2, none⟩) (n - (kk + 1)) (cap - (kk + 1))] 35)).trans (Below.refl _ _).drew
      have S1_ := HO _ _ S0 b1_
      have PTa1 := (PTa.later (b1_.mono S0.2.2.2.2.size)).wide S1_.2.2.2.2.size
      have PTb1 := (PTb.later (b1_.mono S0.2.2.2.2.size)).wide S1_.2.2.2.2.size
      refine wpAnyH_ready (rs := [9]) (by kernel_rfl) (by simp) ?_
      refine AllReadyH.cons (o := ⟨some 29, _, _, _, _, _⟩) rfl (fun K hK => ?_) ?_
      rotate_left 1
      · exact AllReadyH.nil
      go_simp
      refine hK.out _ _ S1_.1.1 (fun hHeld => ?_)
      clear hK K
      try simp only [Act.put, List.setIfInBounds_toArray, List.set_cons_zero, List.set_cons_succ]
      refine wpAnyH_ready (rs := [10]) (by kernel_rfl) (by simp) ?_
      refine AllReadyH.cons (o := ⟨some 30, _, _, _, _, _⟩) rfl (fun K hK => ?_) ?_
      rotate_left 1
      · exact AllReadyH.nil
      go_simp
      go_at_call 72; refine (QC.out w1.heap.size _ PTa1 PTb1 HV.lt HV.two.1.1 HV.two.1.2).mono ?_; rintro e w3 ⟨A1, c1, rfl, ho_, hb1_⟩
      have S2_ := HO _ _ S1_ hb1_
      replace ho_ := own_base ho_ (b' := w.heap.size + 2) S1_.2.2.2.1
      go_wp2_with fail
      refine hK.out _ _ S2_.1.1 (fun hHeld => ?_)
      clear hK K
      refine wpAnyH_take (i := 11) (oi := ⟨some 6, _, _, _, _, _⟩) (v := ?_) rfl (by kernel_rfl) (by kernel_rfl) (by kernel_rfl) (fun _ _ _ h => h) (Or.inl ⟨by rfl, ?_⟩) (by assumption) ?_
      rotate_left 1
      · (intro w hSw; (try dsimp only at hSw); go_simp; try with_reducible rfl)
      try simp only [Act.put, List.setIfInBounds_toArray, List.set_cons_zero, List.set_cons_succ]
      refine wpAnyH_done (by kernel_rfl) ?_ _
      have hear := he
      have hn3 : ps.length ≠ 3 := by omega
      obtain ⟨m, hmn⟩ : ∃ m, n - 1 = m := ⟨_, rfl⟩
      rw [hmn] at ho_ hcl ⊢
      have hown := Lib.hid ho_
      have S0 := S2_
      obtain ⟨l, hle⟩ : ∃ l, cut ps kk = l := ⟨_, rfl⟩
      have hlm : l.length = m := by rw [← hle]; exact hcl
      have hol : okAll l = true := by rw [← hle]; exact hok
      have hld : landL l = landL (cut ps ((kk : Int)).toNat) := by rw [Int.toNat_natCast, hle]
      rw [show ps.take kk ++ ps.drop (kk + 1) = l from hle] at hown
      have hm9 : m ≤ 9 := by omega
      clear S0_ S1_ S2_ HS0_ HV b1_ PTa1 PTb1 hb1_ ho_ QC PTa PTb hla hlb hcl hok hy hle hkc hk2 hk4 hk0 hk5 hk6 hk7 ux hk8 hk9 he h3i
      go_wp2_with fail
      go_step3
      have PT_ := own_ptsC hown.out hlm
      go_wp2_with fail
      refine (RoomOkImpl.straight A1 m c1 w3 l hlm (by omega) hol PT_).mono ?_
      rintro e x1 ⟨rfl, hb_⟩
      replace S0 := HO _ _ S0 hb_
      replace hown := Lib.hid (own_below hown.out hb_)
      clear hb_ PT_
      by_cases hx : straightI l < 0
      · have hx2 : ¬ (0 : Int) ≤ straightI l := by omega
        have hlr : l = landL (cut ps ((kk : Int)).toNat) := by rw [← hld, land_end hx]
        have HE : Hid (earB ps (kk : Int) = roomB l) := Lib.hid (by rw [the_ear hear hn3, hlr]; exact land_room.1.symm)
        have HL : Hid (roomB l = true → modL (cut ps ((kk : Int)).toNat) = l) := Lib.hid (fun h => by rw [hlr] at h ⊢; exact (land_room.2 (by rw [← land_room.1]; exact h)).symm)
        clear hlr hld hear hn3 hx
        generalize straightI l = s at *
        have S1 := HO _ _ S0 (below1 x1 (Obj.cells #[.slice A1 m c1] 37))
        obtain ⟨⟨_, _⟩, _⟩ := id S1
        go_wp2_with fail
        have N1 := Blk.Holds.box x1 #[.slice A1 m c1] 37 (k := x1.heap.size) rfl
        have O1 := own_below hown.out (below1 x1 (Obj.cells #[.slice A1 m c1] 37))
        clear S0 hown
        generalize x1.alloc (Obj.cells #[.slice A1 m c1] 37) = x2 at *
        generalize x1.heap.size = k8 at *
        refine (RoomOkImpl.roomOk A1 m c1 x2 l hlm (by omega) (own_ptsC O1 hlm)).mono ?_
        rintro e x3 ⟨rfl, hb_⟩
        replace N1 := N1.later hb_
        replace O1 := own_below O1 hb_
        replace S1 := HO _ _ S1 hb_
        clear hb_
        have hm := Lib.hid hlm
        clear hlm
        obtain ⟨_, _⟩ := N1.one
        cases q : roomB l
        · obtain ⟨rfl, rfl⟩ := HN.out (by rw [HE.out, q])
          have hR := S1.2.1
          have E_ := Blk.set_own hR 0 (.slice none 0 0)
          obtain ⟨r0_, _⟩ := Blk.Holds.one E_
          have hb4 := Lib.hid (S1.2.2.2.2.trans (below_set x3 w.heap.size (w.heap.size + 1) 0 (.slice none 0 0) (by omega)))
          obtain ⟨_, _⟩ := hR.one
          clear hR HN HY
          go_wp2_with fail
          simp only [Exit.jump]
          refine bodyPost_ret (v := .tuple #[.agg #[.slice none 0 0], .bool false]) (by simp [results, Try.results20, go_sem, r0_]) rfl ⟨none, 0, rfl, World.ownsRow_nil _ _ _ _, hb4.out⟩
        have hq := HY.out (by rw [HE.out, q])
        rw [HL.out q] at hq
        obtain ⟨rfl, rfl⟩ := hq
        have hR := S1.2.1
        have E_ := Blk.set_own hR 0 (.slice A1 m c1)
        obtain ⟨r0_, _⟩ := Blk.Holds.one E_
        have hb4 := Lib.hid (S1.2.2.2.2.trans (below_set x3 w.heap.size (w.heap.size + 1) 0 (.slice A1 m c1) (by omega)))
        have OF := Lib.hid (own_set O1 (w.heap.size + 1) 0 (.slice A1 m c1) (by omega))
        obtain ⟨_, _⟩ := hR.one
        clear hR HN HY
        go_wp2_with fail
        simp only [Exit.jump]
        refine bodyPost_ret (v := .tuple #[.agg #[.slice A1 m c1], .bool true]) (by simp [results, Try.results20, go_sem, r0_]) rfl ⟨A1, c1, by rw [hm.out], by rw [hm.out]; exact own_base OF.out (by omega), hb4.out⟩
      obtain ⟨x, hxe⟩ := Int.eq_ofNat_of_zero_le (show 0 ≤ straightI l by omega)
      have hxm := str_lt hxe
      rw [hlm] at hxm
      have hx2 : (0 : Int) ≤ (x : Int) := by omega
      obtain ⟨g, rfl⟩ : ∃ g, A1 = some ⟨g, 0, none⟩ := by
        obtain ⟨g, c', hv, _⟩ := hown.out.form (by omega)
        injection hv with h1 _ _
        exact ⟨g, h1⟩
      have ux : IntKind.i64.wrap ((x : Int) + 1) = (x : Int) + 1 := IntWalk.i64_in _ (by omega)
      have HJ : Hid ((cut l x).length = m - 1 ∧ m - 1 ≤ 9 ∧ okAll (cut l x) = true ∧ landL (cut l x) = landL (cut ps ((kk : Int)).toNat) ∧ isEarB ps (kk : Int) = true ∧ ps.length ≠ 3) := Lib.hid ⟨by rw [cut_len (by omega), hlm], by omega, cut_ok x hol, by rw [← land_step hxe]; exact hld, hear, hn3⟩
      rw [hxe]
      have QD := Lib.hid (DelPt.delete_pt hown.out x hxm)
      have hO := hown.out
      clear hxe hx hld hol hlm hear hn3
      go_wp2_with fail
      refine QD.out.mono ?_
      rintro e x2 ⟨rfl, hown2, hg_⟩
      have hb_ : Below (w.heap.size + 2) x1 x2 := (Below.refl _ _).grown hg_ S0.2.2.2.1 (fun k hk => by injection hk with hk; subst hk; exact (hO.lt _ rfl).1)
      replace S0 := HO3 _ _ S0 hb_
      replace hown2 := Lib.hid hown2
      clear hb_ hg_ hO hown QD
      go_wp2_with fail
      go_step3
      exact ⟨rfl, ⟨_, _, _, _, _, _, _, _, _, _, _, _, _, _, _, _, _, _, _, _, _, _, _, _, _, _, _, _, _, _, _, _, _, _, _, _, _, _, _, _, _, _, _, _, m - 1, cut l x, some ⟨g, 0, none⟩, c1, rfl, Lib.hid hown2.out, HJ, S0⟩⟩
  · clear S0
    have HO3 : ∀ W W' : World, (Pts.BoxR W w.heap.size (.slice A n cap) ∧ Blk.Holds W (w.heap.size + 1) #[.slice none 0 0] 37 ∧ PtsAt W w.heap.size A ps ∧ w.heap.size + 2 ≤ W.heap.size ∧ Below w.heap.size w W) → Below (w.heap.size + 2) W W' → (Pts.BoxR W' w.heap.size (.slice A n cap) ∧ Blk.Holds W' (w.heap.size + 1) #[.slice none 0 0] 37 ∧ PtsAt W' w.heap.size A ps ∧ w.heap.size + 2 ≤ W'.heap.size ∧ Below w.heap.size w W') := fun W W' ⟨h0, h1, x0, x1, hb⟩ h => ⟨⟨(h.cell (by simp)).trans h0.1, trivial⟩, (h.block _ (by omega)).trans h1, x0.later (h.mono (by omega)), Nat.le_trans x1 h.size, hb.trans (h.mono (by omega))⟩
    rintro a' w3 ⟨u0, u1, u2, u3, u5, u7, u8, u9, u10, u11, u12, u13, u14, u15, u16, u17, u18, u19, u20, u21, u22, u23, u24, u25, u26, u27, u28, u29, u30, u31, u32, u33, u34, u35, u36, u37, u38, u39, u40, u41, u42, u43, u44, u45, m, l, A1, c1, rfl, hown, hi, S0⟩
    obtain ⟨hlm, hm9, hol, hld, hear, hn3⟩ := hi.out
    clear hi
    have PT_ := own_ptsC hown.out hlm
    go_wp2_with fail
    refine (RoomOkImpl.straight A1 m c1 w3 l hlm (by omega) hol PT_).mono ?_
    rintro e x1 ⟨rfl, hb_⟩
    replace S0 := HO _ _ S0 hb_
    replace hown := Lib.hid (own_below hown.out hb_)
    clear hb_ PT_
    by_cases hx : straightI l < 0
    · have hx2 : ¬ (0 : Int) ≤ straightI l := by omega
      have hlr : l = landL (cut ps k.toNat) := by rw [← hld, land_end hx]
      have HE : Hid (earB ps k = roomB l) := Lib.hid (by rw [the_ear hear hn3, hlr]; exact land_room.1.symm)
      have HL : Hid (roomB l = true → modL (cut ps k.toNat) = l) := Lib.hid (fun h => by rw [hlr] at h ⊢; exact (land_room.2 (by rw [← land_room.1]; exact h)).symm)
      clear hlr hld hear hn3 hx
      generalize straightI l = s at *
      have S1 := HO _ _ S0 (below1 x1 (Obj.cells #[.slice A1 m c1] 37))
      obtain ⟨⟨_, _⟩, _⟩ := id S1
      go_wp2_with fail
      have N1 := Blk.Holds.box x1 #[.slice A1 m c1] 37 (k := x1.heap.size) rfl
      have O1 := own_below hown.out (below1 x1 (Obj.cells #[.slice A1 m c1] 37))
      clear S0 hown
      generalize x1.alloc (Obj.cells #[.slice A1 m c1] 37) = x2 at *
      generalize x1.heap.size = k8 at *
      refine (RoomOkImpl.roomOk A1 m c1 x2 l hlm (by omega) (own_ptsC O1 hlm)).mono ?_
      rintro e x3 ⟨rfl, hb_⟩
      replace N1 := N1.later hb_
      replace O1 := own_below O1 hb_
      replace S1 := HO _ _ S1 hb_
      clear hb_
      have hm := Lib.hid hlm
      clear hlm
      obtain ⟨_, _⟩ := N1.one
      cases q : roomB l
      · obtain ⟨rfl, rfl⟩ := HN.out (by rw [HE.out, q])
        have hR := S1.2.1
        have E_ := Blk.set_own hR 0 (.slice none 0 0)
        obtain ⟨r0_, _⟩ := Blk.Holds.one E_
        have hb4 := Lib.hid (S1.2.2.2.2.trans (below_set x3 w.heap.size (w.heap.size + 1) 0 (.slice none 0 0) (by omega)))
        obtain ⟨_, _⟩ := hR.one
        clear hR HN HY
        go_wp2_with fail
        simp only [Exit.jump]
        refine bodyPost_ret (v := .tuple #[.agg #[.slice none 0 0], .bool false]) (by simp [results, Try.results20, go_sem, r0_]) rfl ⟨none, 0, rfl, World.ownsRow_nil _ _ _ _, hb4.out⟩
      have hq := HY.out (by rw [HE.out, q])
      rw [HL.out q] at hq
      obtain ⟨rfl, rfl⟩ := hq
      have hR := S1.2.1
      have E_ := Blk.set_own hR 0 (.slice A1 m c1)
      obtain ⟨r0_, _⟩ := Blk.Holds.one E_
      have hb4 := Lib.hid (S1.2.2.2.2.trans (below_set x3 w.heap.size (w.heap.size + 1) 0 (.slice A1 m c1) (by omega)))
      have OF := Lib.hid (own_set O1 (w.heap.size + 1) 0 (.slice A1 m c1) (by omega))
      obtain ⟨_, _⟩ := hR.one
      clear hR HN HY
      go_wp2_with fail
      simp only [Exit.jump]
      refine bodyPost_ret (v := .tuple #[.agg #[.slice A1 m c1], .bool true]) (by simp [results, Try.results20, go_sem, r0_]) rfl ⟨A1, c1, by rw [hm.out], by rw [hm.out]; exact own_base OF.out (by omega), hb4.out⟩
    obtain ⟨x, hxe⟩ := Int.eq_ofNat_of_zero_le (show 0 ≤ straightI l by omega)
    have hxm := str_lt hxe
    rw [hlm] at hxm
    have hx2 : (0 : Int) ≤ (x : Int) := by omega
    obtain ⟨g, rfl⟩ : ∃ g, A1 = some ⟨g, 0, none⟩ := by
      obtain ⟨g, c', hv, _⟩ := hown.out.form (by omega)
      injection hv with h1 _ _
      exact ⟨g, h1⟩
    have ux : IntKind.i64.wrap ((x : Int) + 1) = (x : Int) + 1 := IntWalk.i64_in _ (by omega)
    have HJ : Hid ((cut l x).length = m - 1 ∧ m - 1 ≤ 9 ∧ okAll (cut l x) = true ∧ landL (cut l x) = landL (cut ps k.toNat) ∧ isEarB ps k = true ∧ ps.length ≠ 3) := Lib.hid ⟨by rw [cut_len (by omega), hlm], by omega, cut_ok x hol, by rw [← land_step hxe]; exact hld, hear, hn3⟩
    rw [hxe]
    have QD := Lib.hid (DelPt.delete_pt hown.out x hxm)
    have hO := hown.out
    clear hxe hx hld hol hlm hear hn3
    go_wp2_with fail
    refine QD.out.mono ?_
    rintro e x2 ⟨rfl, hown2, hg_⟩
    have hb_ : Below (w.heap.size + 2) x1 x2 := (Below.refl _ _).grown hg_ S0.2.2.2.1 (fun k hk => by injection hk with hk; subst hk; exact (hO.lt _ rfl).1)
    replace S0 := HO3 _ _ S0 hb_
    replace hown2 := Lib.hid hown2
    clear hb_ hg_ hO hown QD
    go_wp2_with fail
    go_step3
    refine ⟨rfl, ⟨_, _, _, _, _, _, _, _, _, _, _, _, _, _, _, _, _, _, _, _, _, _, _, _, _, _, _, _, _, _, _, _, _, _, _, _, _, _, _, _, _, _, _, _, m - 1, cut l x, some ⟨g, 0, none⟩, c1, rfl, Lib.hid hown2.out, HJ, S0⟩, ?_⟩
    show m - 1 < m
    omega
end Go.Proofs.Ythokeedmccfalaa.CutEarImpl

