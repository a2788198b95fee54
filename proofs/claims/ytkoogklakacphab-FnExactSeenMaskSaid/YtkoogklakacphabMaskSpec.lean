/-
  What the model's SeenMask does, as a contract: which points of the floor a corner sees, in new memory.
-/
import Derived.Test.YtkoogklakacphabSeenSpec
import Derived.Test.YtkoogklakacphabRoomOkSpec
import Derived.Test.YtkoogklakacphabMaskMath
import Derived.Test.YtkoogklakacphabLawBool
namespace Go.Proofs.Ytkoogklakacphab.MaskSpec
open Go.RowKit Own PointMath WallMath RoomMath Pts Blk AreaMath PlaceMath FloorMath LineMath CutsMath SightMath KernMath PtofMath MaskMath LawBool
open PointOk (ret_bool ret_i64 below1 below2 below3)
open SightSpec (pts_own)

theorem infoB : (Try.prog.info? 4).map (fun i => (i.zero, i.size, i.bytes)) = some (some (.bool false), 1, 1) := by kernel_rfl
theorem bcells_snoc (l : List Bool) (x : Bool) : bcells (l ++ [x]) = bcells l ++ [.bool x] := by simp [bcells]

set_option maxRecDepth 100000 in
set_option maxHeartbeats 6400000 in
theorem seenMask (A : Option Addr) (n cap : Nat) (k : Int) (w : World) (ps : List (Int × Int)) (hl : ps.length = n) (hn : n ≤ 1048576) (hp : PtsAt w w.heap.size A ps) :
    Calls Try.prog 29 #[.agg #[.slice A n cap], .int .i64 k] w (GivesC 4 1 w (maskL ps k).length (bcells (maskL ps k))) := by
  obtain ⟨r, hr⟩ : ∃ r, maskL ps k = r := ⟨_, rfl⟩
  have HR := Lib.hid hr
  rw [hr]
  clear hr
  obtain ⟨i0, hi, hz0, hz1, hz2⟩ := info_parts infoB
  have u1 : IntKind.i64.wrap ((n : Int) - 1) = (n : Int) - 1 := IntWalk.i64_in _ (by omega)
  go_enter Try.func29, Try.ntmps29
  go_wp2_with fail
  have X0 := Pts.boxR w (.slice A n cap) 30 (k := w.heap.size) (by simp)
  have b0 := PointOk.below1 w (Obj.cells #[.slice A n cap] 30)
  have HO : ∀ W W' : World, (Pts.BoxR W (w.heap.size) (.slice A n cap) ∧ PtsAt W w.heap.size A ps ∧ Below w.heap.size w W) → Below W.heap.size W W' → (Pts.BoxR W' (w.heap.size) (.slice A n cap) ∧ PtsAt W' w.heap.size A ps ∧ Below w.heap.size w W') := fun W W' ⟨h0, x0, hb⟩ h => ⟨h0.later h, x0.later (h.mono hb.size), hb.trans (h.mono hb.size)⟩
  have hz0_ : Hid (((w.alloc (Obj.cells #[.slice A n cap] 30))).heap.size = w.heap.size + 1) := Lib.hid (by simp)
  have Y0 : PtsAt ((w.alloc (Obj.cells #[.slice A n cap] 30))) w.heap.size A ps := hp.later b0
  generalize (w.alloc (Obj.cells #[.slice A n cap] 30)) = w0 at X0 Y0 b0 hz0_ ⊢
  have S0 := (⟨X0, Y0, b0⟩ : Pts.BoxR w0 (w.heap.size) (.slice A n cap) ∧ PtsAt w0 w.heap.size A ps ∧ Below w.heap.size w w0)
  clear X0 Y0 b0
  obtain ⟨⟨_, _⟩, _, _⟩ := id S0
  have HO2 : ∀ W W' : World, (Pts.BoxR W (w.heap.size) (.slice A n cap) ∧ PtsAt W w.heap.size A ps ∧ Below w.heap.size w W) → Below (w.heap.size + 1) W W' → (Pts.BoxR W' (w.heap.size) (.slice A n cap) ∧ PtsAt W' w.heap.size A ps ∧ Below w.heap.size w W') := fun W W' ⟨h0, h1, hb⟩ h => ⟨⟨(h.cell (by simp)).trans h0.1, trivial⟩, h1.later (h.mono (by omega)), hb.trans (h.mono (by omega))⟩
  have hz1_ := hz0_.out
  have hown := own_empty w0 4 1
  rw [hz1_] at hown
  replace hown : (w0.alloc (Obj.cells #[] 4)).ownsRow (w.heap.size + 1) 4 1 (.slice (some ⟨w.heap.size + 1, 0, none⟩) 0 0) 0 [] := hown
  replace S0 := HO _ _ S0 (below1 w0 (Obj.cells #[] 4))
  have hsz : w.heap.size + 1 ≤ (w0.alloc (Obj.cells #[] 4)).heap.size := by simp; omega
  replace hown := Lib.hid hown
  replace hsz := Lib.hid hsz
  obtain ⟨⟨_, _⟩, _, _⟩ := id S0
  go_wp2_with fail
  generalize w0.alloc (Obj.cells #[] 4) = v0 at *
  refine (RoomOkSpec.roomOk A n cap _ ps hl hn (S0.2.1.wide S0.2.2.size)).mono ?_
  rintro e w1 ⟨rfl, hb_⟩
  replace S0 := HO _ _ S0 hb_
  replace hown := Lib.hid (own_below hown.out hb_)
  replace hsz := Lib.hid (Nat.le_trans hsz.out hb_.size)
  clear hb_
  obtain ⟨⟨_, _⟩, _, _⟩ := id S0
  cases hr : roomB ps
  · have E : Hid (r = []) := Lib.hid (by rw [← HR.out]; unfold maskL; rw [hr]; rfl)
    clear hl HR
    go_wp2_with fail
    go_ret
    exact ⟨some ⟨w.heap.size + 1, 0, none⟩, 0, by rw [E.out]; rfl, by rw [E.out]; exact own_base hown.out (by omega), S0.2.2⟩
  go_wp2_with fail
  refine (PointOk.l01In k 0 ((n : Int) - 1) _).mono ?_
  rintro e w_ ⟨rfl, rfl⟩
  cases hk : decide (0 ≤ k ∧ k ≤ (n : Int) - 1)
  · have E : Hid (r = []) := Lib.hid (by rw [← HR.out]; unfold maskL inN; rw [hr, hl, hk]; rfl)
    clear hl HR hk
    go_wp2_with fail
    go_ret
    exact ⟨some ⟨w.heap.size + 1, 0, none⟩, 0, by rw [E.out]; rfl, by rw [E.out]; exact own_base hown.out (by omega), S0.2.2⟩
  have hki := of_decide_eq_true hk
  obtain ⟨i, rfl⟩ := Int.eq_ofNat_of_zero_le hki.1
  have HE : Hid (maskTo ps (floorL ps) (pt ps i) (floorL ps).length = r) := Lib.hid (by rw [← HR.out]; unfold maskL inN; rw [hr, hl, hk]; rfl)
  have hi1 : (i : Int) < (n : Int) := by omega
  have hi0 : (0 : Int) ≤ (i : Int) := by omega
  have hia : Hid (inB ps (pt ps i).1 (pt ps i).2 = true) := Lib.hid (corner_in hr (by omega))
  have hin : Hid (∀ k, k < (floorL ps).length → inB ps (pt (floorL ps) k).1 (pt (floorL ps) k).2 = true) := Lib.hid (fun k hk => floorL_in (pt_mem hk))
  have QF : Hid (∀ w hp, _) := Lib.hid fun w hp => FloorSpec.floorPoints A n cap w ps hl hn hp
  have hle := floorL_le ps
  have pp := Lib.hid (pt_at (ps := ps) (k := i) (by omega))
  clear HR hr hk hki
  generalize floorL ps = l at *
  obtain ⟨q, hm⟩ : ∃ m, l.length = m := ⟨_, rfl⟩
  unfold GivesC at QF
  rw [hm] at QF hle hin HE
  go_wp2_with fail
  refine (QF.out _ (S0.2.1.wide S0.2.2.size)).mono ?_
  rintro e w2 ⟨Al, cl, rfl, HL, hb_⟩
  have hD : Hid (∀ i j, (Value.slice (some ⟨w.heap.size + 1, 0, none⟩) 0 0).ownBlock = some i → (Value.slice Al q cl).ownBlock = some j → i ≠ j) := Lib.hid (fun i j h1 h2 => by
    have := (hown.out.lt i h1).2
    have := (HL.lt j h2).1
    omega)
  replace HL := Lib.hid (own_base HL (b' := w.heap.size) S0.2.2.size)
  replace S0 := HO _ _ S0 hb_
  replace hown := Lib.hid (own_below hown.out hb_)
  replace hsz := Lib.hid (Nat.le_trans hsz.out hb_.size)
  clear hb_ QF
  obtain ⟨⟨_, _⟩, _, _⟩ := id S0
  go_wp2_with fail
  go_loopw [5, 7] (fun v jq wr => ∃ j : Nat, j ≤ q ∧ jq = .int .i64 j ∧ wr.ownsRow (w.heap.size + 1) 4 1 v j (bcells (maskTo ps l (pt ps i) j)) ∧ wr.ownsRow w.heap.size 48 2 (.slice Al q cl) q (cellsP l) ∧ Hid (∀ i j, v.ownBlock = some i → (Value.slice Al q cl).ownBlock = some j → i ≠ j) ∧ w.heap.size + 1 ≤ wr.heap.size ∧ (Pts.BoxR wr (w.heap.size) (.slice A n cap) ∧ PtsAt wr w.heap.size A ps ∧ Below w.heap.size w wr))
    (fun _ jq _ => q - (intOf jq).toNat)
  case atStart => exact ⟨0, Nat.zero_le _, rfl, hown.out, HL.out, hD, hsz.out, S0⟩
  case round =>
    clear S0 hown HL hsz hD
    obtain ⟨j, hjm, rfl, hown, HL, hD, hsz, S0⟩ := hrel
    obtain ⟨⟨_, _⟩, _, _⟩ := id S0
    by_cases hlt : j < q
    rotate_left
    · obtain rfl : q = j := by omega
      rw [HE.out] at hown
      have hlr : r.length = q := by rw [← HE.out]; exact maskTo_len _ _ _ _
      have hown2 := Lib.hid hown
      obtain ⟨A1, c1, rfl⟩ := own_shape hown
      clear hl hown HL HE
      go_wp2_with fail
      go_ret
      exact ⟨A1, c1, by rw [hlr] <;> rfl, by rw [hlr]; exact own_base hown2.out (by omega), S0.2.2⟩
    · have hk1 : (j : Int) < (q : Int) := by omega
      have hk0 : (0 : Int) ≤ (j : Int) := by omega
      have HS : Hid (maskTo ps l (pt ps i) (j + 1) = maskTo ps l (pt ps i) j ++ [seesM ps (pt ps i) (pt l j)]) := Lib.hid rfl
      generalize maskTo ps l (pt ps i) j = l0 at *
      have p0 := pt_at (ps := l) (k := j) (by omega)
      have hi2 := hin.out j hlt
      have hi3 := hia.out
      have pp2 := pp.out
      obtain ⟨ax, ay, hax⟩ : ∃ x y, pt ps i = (x, y) := ⟨_, _, rfl⟩
      obtain ⟨x, y, hx⟩ : ∃ x y, pt l j = (x, y) := ⟨_, _, rfl⟩
      rw [hx] at p0 hi2 HS
      rw [hax] at HS hi3 pp2
      obtain ⟨ld, eA, bL, pL⟩ := (pts_own HL).get p0
      subst eA
      obtain ⟨ad, eA, bA, pA⟩ := S0.2.1.get pp2
      subst eA
      obtain ⟨Ao, co, rfl⟩ := own_shape hown
      have Q : Hid (∀ w hp, _) := Lib.hid fun w hp => SeenSpec.seesIn (some ad) n cap ax ay x y w ps hl hi3 hi2 hp
      obtain ⟨o, ho⟩ : ∃ o, seesM ps (ax, ay) (x, y) = o := ⟨_, rfl⟩
      rw [ho] at Q HS
      replace p0 := Lib.hid p0
      clear ho hi2 hi3 hx pp2
      obtain ⟨KW, hKW⟩ : ∃ K, wr.heap.size = K := ⟨_, rfl⟩
      rw [hKW] at bL
      have HO : ∀ W W' : World, (BoxR W w.heap.size (.slice (some ad) n cap) ∧ PtsAt W w.heap.size (some ad) ps ∧ PtAt W ad i ax ay ∧ PtAt W ld j x y ∧ W.ownsRow (w.heap.size + 1) 4 1 (.slice Ao j co) j (bcells l0) ∧ W.ownsRow w.heap.size 48 2 (.slice (some ld) q cl) q (cellsP l) ∧ w.heap.size + 1 ≤ W.heap.size ∧ KW ≤ W.heap.size ∧ Below w.heap.size w W) → Below W.heap.size W W' → (BoxR W' w.heap.size (.slice (some ad) n cap) ∧ PtsAt W' w.heap.size (some ad) ps ∧ PtAt W' ad i ax ay ∧ PtAt W' ld j x y ∧ W'.ownsRow (w.heap.size + 1) 4 1 (.slice Ao j co) j (bcells l0) ∧ W'.ownsRow w.heap.size 48 2 (.slice (some ld) q cl) q (cellsP l) ∧ w.heap.size + 1 ≤ W'.heap.size ∧ KW ≤ W'.heap.size ∧ Below w.heap.size w W') := fun W W' ⟨x0, x1, x2, x3, x4, x5, x6, x7, hb⟩ h => ⟨x0.later h, x1.later (h.mono hb.size), x2.later bA (h.mono hb.size), x3.later (Nat.lt_of_lt_of_le bL x7) h, own_below x4 h, own_below x5 h, Nat.le_trans x6 h.size, Nat.le_trans x7 h.size, hb.trans (h.mono hb.size)⟩
      replace S0 : BoxR wr w.heap.size (.slice (some ad) n cap) ∧ PtsAt wr w.heap.size (some ad) ps ∧ PtAt wr ad i ax ay ∧ PtAt wr ld j x y ∧ wr.ownsRow (w.heap.size + 1) 4 1 (.slice Ao j co) j (bcells l0) ∧ wr.ownsRow w.heap.size 48 2 (.slice (some ld) q cl) q (cellsP l) ∧ w.heap.size + 1 ≤ wr.heap.size ∧ KW ≤ wr.heap.size ∧ Below w.heap.size w wr := ⟨S0.1, S0.2.1, pA, pL, hown, HL, hsz, Nat.le_of_eq hKW.symm, S0.2.2⟩
      clear pA pL hown HL hsz
      obtain ⟨⟨_, _⟩, _, ⟨_, _⟩, ⟨_, _⟩, _, _, _, _, _⟩ := id S0
      go_wp2_with fail
      have SD := HO _ _ S0 ((Below.refl wr.heap.size wr).drew)
      have HSOF : ∀ W : World, (BoxR W w.heap.size (.slice (some ad) n cap) ∧ PtsAt W w.heap.size (some ad) ps ∧ PtAt W ad i ax ay ∧ PtAt W ld j x y ∧ W.ownsRow (w.heap.size + 1) 4 1 (.slice Ao j co) j (bcells l0) ∧ W.ownsRow w.heap.size 48 2 (.slice (some ld) q cl) q (cellsP l) ∧ w.heap.size + 1 ≤ W.heap.size ∧ KW ≤ W.heap.size ∧ Below w.heap.size w W) → (W.cell? ⟨w.heap.size, 0, none⟩ = some (.slice (some ad) n cap) ∧ W.cell? (ad.add (i * 2)) = some (.int .i64 ax) ∧ W.cell? ⟨(ad.add (i * 2)).block, (ad.add (i * 2)).off + 1, none⟩ = some (.int .i64 ay) ∧ W.cell? (ld.add (j * 2)) = some (.int .i64 x) ∧ W.cell? ⟨(ld.add (j * 2)).block, (ld.add (j * 2)).off + 1, none⟩ = some (.int .i64 y)) := fun W h => ⟨h.1.1, h.2.2.1.1, h.2.2.1.2, h.2.2.2.1.1, h.2.2.2.1.2⟩
      have HS0_ := HSOF _ SD
      clear S0
      refine wp_region_held_drew (S := fun W => (W.cell? ⟨w.heap.size, 0, none⟩ = some (.slice (some ad) n cap) ∧ W.cell? (ad.add (i * 2)) = some (.int .i64 ax) ∧ W.cell? ⟨(ad.add (i * 2)).block, (ad.add (i * 2)).off + 1, none⟩ = some (.int .i64 ay) ∧ W.cell? (ld.add (j * 2)) = some (.int .i64 x) ∧ W.cell? ⟨(ld.add (j * 2)).block, (ld.add (j * 2)).off + 1, none⟩ = some (.int .i64 y))) (by kernel_rfl) HS0_ (fun hHeld => ?_)
      refine wpAnyH_take (i := 0) (oi := ⟨some 30, _, _, _, _, _⟩) (v := ?_) rfl (by kernel_rfl) (by kernel_rfl) (by kernel_rfl) (fun _ _ _ h => h) (Or.inl ⟨by rfl, ?_⟩) (by assumption) ?_
      rotate_left 1
      · (intro w hSw; obtain ⟨_, _, _, _, _⟩ := hSw; go_simp; try with_reducible rfl)
      try simp only [Act.put, List.setIfInBounds_toArray, List.set_cons_zero, List.set_cons_succ]
      refine wpAnyH_take (i := 1) (oi := ⟨some 31, _, _, _, _, _⟩) (v := ?_) rfl (by kernel_rfl) (by kernel_rfl) (by kernel_rfl) (fun _ _ _ h => h) (Or.inl ⟨by rfl, ?_⟩) (by assumption) ?_
      rotate_left 1
      · (intro w hSw; obtain ⟨_, _, _, _, _⟩ := hSw; go_simp; try with_reducible rfl)
      try simp only [Act.put, List.setIfInBounds_toArray, List.set_cons_zero, List.set_cons_succ]
      refine wpAnyH_take (i := 2) (oi := ⟨some 32, _, _, _, _, _⟩) (v := ?_) rfl (by kernel_rfl) (by kernel_rfl) (by kernel_rfl) (fun _ _ _ h => h) (Or.inl ⟨by rfl, ?_⟩) (by assumption) ?_
      rotate_left 1
      · (intro w hSw; obtain ⟨_, _, _, _, _⟩ := hSw; go_simp; try with_reducible rfl)
      try simp only [Act.put, List.setIfInBounds_toArray, List.set_cons_zero, List.set_cons_succ]
      refine wpAnyH_take (i := 3) (oi := ⟨some 33, _, _, _, _, _⟩) (v := ?_) rfl (by kernel_rfl) (by kernel_rfl) (by kernel_rfl) (fun _ _ _ h => h) (Or.inl ⟨by rfl, ?_⟩) (by assumption) ?_
      rotate_left 1
      · (intro w hSw; obtain ⟨_, _, _, _, _⟩ := hSw; go_simp; try with_reducible rfl)
      try simp only [Act.put, List.setIfInBounds_toArray, List.set_cons_zero, List.set_cons_succ]
      refine wpAnyH_take (i := 4) (oi := ⟨some 34, _, _, _, _, _⟩) (v := ?_) rfl (by kernel_rfl) (by kernel_rfl) (by kernel_rfl) (fun _ _ _ h => h) (Or.inl ⟨by rfl, ?_⟩) (by assumption) ?_
      rotate_left 1
      · (intro w hSw; obtain ⟨_, _, _, _, _⟩ := hSw; go_simp; try with_reducible rfl)
      try simp only [Act.put, List.setIfInBounds_toArray, List.set_cons_zero, List.set_cons_succ]
      refine wpAnyH_take (i := 5) (oi := ⟨some 35, _, _, _, _, _⟩) (v := ?_) rfl (by kernel_rfl) (by kernel_rfl) (by kernel_rfl) (fun _ _ _ h => h) (Or.inl ⟨by rfl, ?_⟩) (by assumption) ?_
      rotate_left 1
      · (intro w hSw; obtain ⟨_, _, _, _, _⟩ := hSw; go_simp; try with_reducible rfl)
      try simp only [Act.put, List.setIfInBounds_toArray, List.set_cons_zero, List.set_cons_succ]
      refine wpAnyH_take (i := 6) (oi := ⟨some 36, _, _, _, _, _⟩) (v := ?_) rfl (by kernel_rfl) (by kernel_rfl) (by kernel_rfl) (fun _ _ _ h => h) (Or.inl ⟨by rfl, ?_⟩) (by assumption) ?_
      rotate_left 1
      · (intro w hSw; obtain ⟨_, _, _, _, _⟩ := hSw; go_simp; try with_reducible rfl)
      try simp only [Act.put, List.setIfInBounds_toArray, List.set_cons_zero, List.set_cons_succ]
      refine wpAnyH_take (i := 7) (oi := ⟨some 37, _, _, _, _, _⟩) (v := ?_) rfl (by kernel_rfl) (by kernel_rfl) (by kernel_rfl) (fun _ _ _ h => h) (Or.inl ⟨by rfl, ?_⟩) (by assumption) ?_
      rotate_left 1
      · (intro w hSw; obtain ⟨_, _, _, _, _⟩ := hSw; go_simp; try with_reducible rfl)
      try simp only [Act.put, List.setIfInBounds_toArray, List.set_cons_zero, List.set_cons_succ]
      refine wpAnyH_take (i := 8) (oi := ⟨some 38, _, _, _, _, _⟩) (v := ?_) rfl (by kernel_rfl) (by kernel_rfl) (by kernel_rfl) (fun _ _ _ h => h) (Or.inl ⟨by rfl, ?_⟩) (by assumption) ?_
      rotate_left 1
      · (intro w hSw; obtain ⟨_, _, _, _, _⟩ := hSw; go_simp; try with_reducible rfl)
      try simp only [Act.put, List.setIfInBounds_toArray, List.set_cons_zero, List.set_cons_succ]
      refine wpAnyH_take (i := 9) (oi := ⟨some 39, _, _, _, _, _⟩) (v := ?_) rfl (by kernel_rfl) (by kernel_rfl) (by kernel_rfl) (fun _ _ _ h => h) (Or.inl ⟨by rfl, ?_⟩) (by assumption) ?_
      rotate_left 1
      · (intro w hSw; obtain ⟨_, _, _, _, _⟩ := hSw; go_simp; try with_reducible rfl)
      try simp only [Act.put, List.setIfInBounds_toArray, List.set_cons_zero, List.set_cons_succ]
      refine wpAnyH_take (i := 10) (oi := ⟨some 40, _, _, _, _, _⟩) (v := ?_) rfl (by kernel_rfl) (by kernel_rfl) (by kernel_rfl) (fun _ _ _ h => h) (Or.inl ⟨by rfl, ?_⟩) (by assumption) ?_
      rotate_left 1
      · (intro w hSw; obtain ⟨_, _, _, _, _⟩ := hSw; go_simp; try with_reducible rfl)
      try simp only [Act.put, List.setIfInBounds_toArray, List.set_cons_zero, List.set_cons_succ]
      refine wpAnyH_take (i := 11) (oi := ⟨some 41, _, _, _, _, _⟩) (v := ?_) rfl (by kernel_rfl) (by kernel_rfl) (by kernel_rfl) (fun _ _ _ h => h) (Or.inl ⟨by rfl, ?_⟩) (by assumption) ?_
      rotate_left 1
      · (intro w hSw; obtain ⟨_, _, _, _, _⟩ := hSw; go_simp; try with_reducible rfl)
      try simp only [Act.put, List.setIfInBounds_toArray, List.set_cons_zero, List.set_cons_succ]
      refine wpAnyH_ready (rs := [12]) (by kernel_rfl) (by simp) ?_
      refine AllReadyH.cons (o := ⟨some 42, _, _, _, _, _⟩) rfl (fun K hK => ?_) ?_
      rotate_left 1
      · exact AllReadyH.nil
      go_simp
      go_at_call 43
      refine (Q.out _ (SD.2.1.wide SD.2.2.2.2.2.2.2.2.size)).mono ?_
      rintro e w5 ⟨rfl, hb_⟩
      have S5_ := HO _ _ SD hb_
      have HS5_ := HSOF _ S5_
      clear hb_
      go_wp2_with fail
      refine hK.out _ _ HS5_ (fun hHeld => ?_)
      clear hK K
      try simp only [Act.put, List.setIfInBounds_toArray, List.set_cons_zero, List.set_cons_succ]
      refine wpAnyH_ready (rs := [13]) (by kernel_rfl) (by simp) ?_
      refine AllReadyH.cons (o := ⟨some 43, _, _, _, _, _⟩) rfl (fun K hK => ?_) ?_
      rotate_left 1
      · exact AllReadyH.nil
      have b2_ := below1 w5 (Obj.cells #[.bool o] 4)
      have S1_ := HO _ _ S5_ b2_
      have hown1 := S1_.2.2.2.2.1
      have HL1 := S1_.2.2.2.2.2.1
      have hsz1 := S1_.2.2.2.2.2.2.1
      have hsz5 := S5_.2.2.2.2.2.2.1
      have HS1_ := HSOF _ S1_
      go_simp
      refine hK.out _ _ HS1_ (fun hHeld => ?_)
      clear hK K
      try simp only [Act.put, List.setIfInBounds_toArray, List.set_cons_zero, List.set_cons_succ]
      refine wpAnyH_ready (rs := [14]) (by kernel_rfl) (by simp) ?_
      refine AllReadyH.cons (o := ⟨some 44, _, _, _, _, _⟩) rfl (fun K hK => ?_) ?_
      rotate_left 1
      · exact AllReadyH.nil
      refine step_append_lies _ (by rfl) _ _ _ (by rfl) (w.heap.size + 1) 4 i0 _ 1 1 Try.underlying51 hi hz0 hz1 hz2 rfl (by omega) _ _ _ (by rfl) hown1 ⟨w5.heap.size, 0, none⟩ 1 1 [.bool o] (by rfl) (by rfl) ?c1 ?c2 (by omega) ?c3 ?c4 ?c5 _ rfl ?_
      try (case c1 => (intro a u ha; match a, ha with | 0, ha => (simp at ha; subst ha; simp [Addr.add])))
      case c2 => (first | rfl | (intro u hu; simp at hu; subst hu; rfl))
      case c3 => (unfold maxLen; omega)
      case c4 => omega
      case c5 => (first | omega | (simp; omega))
      intro g2_ cap2_ wa_ ho_ hg_ hgo_ hlt_
      have hbg_ : Below (w.heap.size + 1) (w5.alloc (Obj.cells #[.bool o] 4)) wa_ := (Below.refl _ _).grown hg_ (by simp; omega) (fun g hg => (hown1.lt g hg).1)
      have hc2 := kept_apart HL1 hg_ (fun i j h1 h2 => (hD.out j i h2 h1).symm)
      have PL : PtAt wa_ ld j x y := by
        obtain ⟨ld2, e2, _, pL2⟩ := (pts_own hc2).get p0.out
        injection e2 with e2
        subst e2
        exact pL2
      have HS3_ : (wa_.cell? ⟨w.heap.size, 0, none⟩ = some (.slice (some ad) n cap) ∧ wa_.cell? (ad.add (i * 2)) = some (.int .i64 ax) ∧ wa_.cell? ⟨(ad.add (i * 2)).block, (ad.add (i * 2)).off + 1, none⟩ = some (.int .i64 ay) ∧ wa_.cell? (ld.add (j * 2)) = some (.int .i64 x) ∧ wa_.cell? ⟨(ld.add (j * 2)).block, (ld.add (j * 2)).off + 1, none⟩ = some (.int .i64 y)) := ⟨(hbg_.cell (by simp)).trans HS1_.1, (hbg_.cell (by rw [Pts.block_add]; omega)).trans HS1_.2.1, (hbg_.cell (by show (ad.add (i * 2)).block < _; rw [Pts.block_add]; omega)).trans HS1_.2.2.1, PL.1, PL.2⟩
      have HN : Hid (wa_.ownsRow (w.heap.size + 1) 4 1 (.slice (some ⟨g2_, 0, none⟩) (j + 1) cap2_) (j + 1) (bcells (maskTo ps l (ax, ay) (j + 1))) ∧ wa_.ownsRow w.heap.size 48 2 (.slice (some ld) q cl) q (cellsP l) ∧ Hid (∀ i j', (Value.slice (some ⟨g2_, 0, none⟩) (j + 1) cap2_).ownBlock = some i → (Value.slice (some ld) q cl).ownBlock = some j' → i ≠ j') ∧ w.heap.size + 1 ≤ wa_.heap.size ∧ (Pts.BoxR wa_ (w.heap.size) (.slice (some ad) n cap) ∧ PtsAt wa_ w.heap.size (some ad) ps ∧ Below w.heap.size w wa_)) := Lib.hid (by
        refine ⟨by rw [HS.out, bcells_snoc]; exact ho_, hc2, Lib.hid (fun i j h1 h2 => ?_), Nat.le_trans hsz1 hbg_.size, HO2 _ _ ⟨S1_.1, S1_.2.1, S1_.2.2.2.2.2.2.2.2⟩ hbg_⟩
        injection h1 with h1
        subst h1
        rcases hgo_ with h | h
        · exact hD.out _ j h h2
        · have := (HL1.lt j h2).2
          have := (S5_.2.2.2.2.2.1.lt j h2).2
          try simp at h
          show g2_ ≠ j
          omega)
      refine hK.out _ _ HS3_ (fun hHeld => ?_)
      clear hK K
      try simp only [Act.put, List.setIfInBounds_toArray, List.set_cons_zero, List.set_cons_succ]
      refine wpAnyH_take (i := 15) (oi := ⟨some 5, _, _, _, _, _⟩) (v := ?_) rfl (by kernel_rfl) (by kernel_rfl) (by kernel_rfl) (fun _ _ _ h => h) (Or.inl ⟨by rfl, ?_⟩) (by assumption) ?_
      rotate_left 1
      · (intro w hSw; obtain ⟨_, _, _, _, _⟩ := hSw; go_simp; try with_reducible rfl)
      try simp only [Act.put, List.setIfInBounds_toArray, List.set_cons_zero, List.set_cons_succ]
      clear hc2 PL ho_ hg_ hgo_ hlt_ hown1 S1_ S5_ SD HS1_ HS0_ HS3_ HS5_ HL1
      rw [← hax] at HN
      refine wpAnyH_done (by kernel_rfl) ?_ _
      go_wp2_with fail
      first
        | exact ⟨⟨j + 1, by omega, by go_num, HN.out.1, HN.out.2.1, HN.out.2.2.1, HN.out.2.2.2.1, HN.out.2.2.2.2⟩, by simp [intOf]; omega⟩
        | (go_roundw <;> first | exact ⟨j + 1, by omega, by go_num, HN.out.1, HN.out.2.1, HN.out.2.2.1, HN.out.2.2.2.1, HN.out.2.2.2.2⟩ | (simp [intOf]; omega))

end Go.Proofs.Ytkoogklakacphab.MaskSpec

