/-
  What the landed maskOf does with a test that is handed over, as a contract: what it says of each point, in new memory.
-/
import Derived.Test.YtkoogklakacphabFiltImpl
import Derived.Test.YtkoogklakacphabLawBool
import Derived.Test.YtkoogklakacphabMaskMath
import Derived.Test.YtkoogklakacphabFromImpl
import Derived.Test.YtkoogklakacphabFloorImpl
import Derived.Test.YtkoogklakacphabWallOfImpl
import Derived.Test.YtkoogklakacphabRoomOkImpl
import Derived.ChangeSlices
namespace Go.Proofs.Ytkoogklakacphab.MaskImpl
open Go.RowKit Own PointMath WallMath RoomMath Pts Blk DiagMath FiltMath LawBool
open PointOk (ret_bool ret_i64 below1 below2 below3)

theorem infoB : (Try.prog.info? 4).map (fun i => (i.zero, i.size, i.bytes)) = some (some (.bool false), 1, 1) := by kernel_rfl
def boolTo (f : Nat → Bool) : Nat → List Bool
  | 0 => []
  | k + 1 => boolTo f k ++ [f k]
theorem boolTo_len (f : Nat → Bool) : ∀ k, (boolTo f k).length = k
  | 0 => rfl
  | k + 1 => by show (boolTo f k ++ _).length = _; rw [List.length_append, boolTo_len f k]; rfl
theorem bool_set {f : Nat → Bool} {i n : Nat} {xs : List Value} (hx : xs.length = n) (hi : i < n) : (bcells (boolTo f i) ++ xs.drop i).set i (.bool (f i)) = bcells (boolTo f (i + 1)) ++ xs.drop (i + 1) := by
  have hb : (bcells (boolTo f i)).length = i := by rw [bcells_length, boolTo_len]
  have e : bcells (boolTo f (i + 1)) = bcells (boolTo f i) ++ [.bool (f i)] := by show bcells (boolTo f i ++ [f i]) = _; simp [bcells]
  rw [List.set_append_right _ _ (by rw [hb]; omega), hb, Nat.sub_self, List.drop_eq_getElem_cons (by omega), List.set_cons_zero, e, List.append_assoc]; rfl
theorem bool_cell {f : Nat → Bool} {i n : Nat} {xs : List Value} (hx : xs.length = n) (hi : i < n) : (bcells (boolTo f i) ++ xs.drop i)[i]? = some xs[i] := by
  have hb : (bcells (boolTo f i)).length = i := by rw [bcells_length, boolTo_len]
  rw [List.getElem?_append_right (by rw [hb]; omega), hb, Nat.sub_self, List.drop_eq_getElem_cons (by omega)]; rfl

set_option maxRecDepth 100000 in
set_option maxHeartbeats 1600000 in
theorem maskOf (F : FuncId) (cs : Array Value) (f : Nat → Bool) (Al : Option Addr) (m cl : Nat) (w : World) (l : List (Int × Int)) (hm : l.length = m) (hle : m ≤ 1048576) (hp : PtsAt w w.heap.size Al l) (eF : ∀ (args : Array Value) (w : World), (callFunc F args).run Try.prog w = .ok (.enter F args) w)
    (Q : ∀ (W : World) (k : Nat), k < m → Below w.heap.size w W → Calls Try.prog F (#[.agg #[.int .i64 (pt l k).1, .int .i64 (pt l k).2]] ++ cs) W fun e w' => e = .returned (.bool (f k)) ∧ Below W.heap.size W w') :
    Calls Try.prog 49 #[.slice Al m cl, .func (.func F) #[] cs] w (GivesC 4 1 w m (bcells (boolTo f m))) := by
  obtain ⟨i0, hi, hz0, hz1, hz2⟩ := info_parts infoB
  have Q := Lib.hid Q
  go_enter Try.func49, Try.ntmps49
  go_wp2_with (at_make; go_must (refine wpList_make_full _ rfl _ _ 51 rfl w.heap.size 4 i0 (.bool false) 1 Try.underlying51 hi hz0 hz1 _ _ _ _ m rfl rfl (by omega) (by omega) ?b2 ?b3 (Nat.le_refl _) ?_))
  case b2 => rw [hz2]; omega
  case b3 => unfold maxLen; omega
  intro w0 hown0 hgr0
  have hb0 : Below w.heap.size w w0 := Below.grown (Below.refl _ _) hgr0 (Nat.le_refl _) (fun g' hg' => by cases hg')
  obtain ⟨xs, hx⟩ : ∃ xs, w0.ownsRow w.heap.size 4 1 (.slice (some ⟨w.heap.size, 0, none⟩) m m) m xs := ⟨_, hown0⟩
  have hxl := Lib.hid (show xs.length = m by have := hx.1; omega)
  have HO : ∀ W W' : World, (PtsAt W w.heap.size Al l ∧ Below w.heap.size w W) → Below W.heap.size W W' → (PtsAt W' w.heap.size Al l ∧ Below w.heap.size w W') := fun W W' ⟨x0, hb⟩ h => ⟨x0.later (h.mono hb.size), hb.trans (h.mono hb.size)⟩
  have S0 : PtsAt w0 w.heap.size Al l ∧ Below w.heap.size w w0 := ⟨hp.later hb0, hb0⟩
  clear hp hown0 hgr0 hb0
  have HO2 : ∀ W W' : World, (PtsAt W w.heap.size Al l ∧ Below w.heap.size w W) → Below w.heap.size W W' → (PtsAt W' w.heap.size Al l ∧ Below w.heap.size w W') := fun W W' ⟨h0, hb⟩ h => ⟨h0.later h, hb.trans h⟩
  replace hx := Lib.hid hx
  go_wp2_with fail
  go_loopw [13] (fun q wr => ∃ k : Nat, k ≤ m ∧ q = .int .i64 k ∧ wr.ownsRow w.heap.size 4 1 (.slice (some ⟨w.heap.size, 0, none⟩) m m) m (bcells (boolTo f k) ++ xs.drop k) ∧ (PtsAt wr w.heap.size Al l ∧ Below w.heap.size w wr))
    (fun q _ => m - (intOf q).toNat)
  case atStart => exact ⟨0, Nat.zero_le _, rfl, hx.out, S0⟩
  case round =>
    clear S0 hx
    obtain ⟨k, hkm, rfl, hown, S0⟩ := hrel
    obtain ⟨_, _⟩ := id S0
    by_cases hlt : k < m
    rotate_left
    · obtain rfl : m = k := by omega
      rw [List.drop_of_length_le (by rw [hxl.out]; exact Nat.le_refl _), List.append_nil] at hown
      have hown2 := Lib.hid hown
      clear hm hown Q
      go_wp2_with fail
      go_ret
      exact ⟨_, _, rfl, hown2.out, S0.2⟩
    have hk1 : (k : Int) < (m : Int) := by omega
    have hk0 : (0 : Int) ≤ (k : Int) := by omega
    have HS := Lib.hid (bool_set (f := f) (i := k) hxl.out hlt)
    have HC := Lib.hid (bool_cell (f := f) (i := k) hxl.out hlt)
    have QK : Hid (∀ W hb, _) := Lib.hid fun W hb => Q.out W k hlt hb
    have p0 := pt_at (ps := l) (k := k) (by omega)
    obtain ⟨x, y, hpx⟩ : ∃ x y, pt l k = (x, y) := ⟨_, _, rfl⟩
    rw [hpx] at p0 QK
    obtain ⟨ad, eA, bA, pA⟩ := S0.1.get p0
    subst eA
    obtain ⟨_, _⟩ := id pA
    obtain ⟨o, ho⟩ : ∃ o, f k = o := ⟨_, rfl⟩
    rw [ho] at QK HS
    generalize (xs[k]'(by rw [hxl.out]; exact hlt)) = xk at HC
    have X3 := PointOk.box1 wr x y 48 (k := wr.heap.size) rfl
    have b1_ := below1 wr (Obj.cells #[.int .i64 x, .int .i64 y] 48)
    replace S0 := HO _ _ S0 b1_
    replace hown := own_below hown b1_
    obtain ⟨_, _⟩ := id X3
    obtain ⟨kb, hkb⟩ : ∃ K, wr.heap.size = K := ⟨_, rfl⟩
    rw [hkb] at X3
    replace hown := Lib.hid hown
    clear b1_ p0 hpx ho pA Q
    go_wp2_with fail
    generalize wr.alloc (Obj.cells #[.int .i64 x, .int .i64 y] 48) = v1 at *
    try rw [hkb]
    clear hkb
    obtain ⟨_, _⟩ := id S0
    refine (QK.out _ S0.2).mono ?_
    rintro e w4 ⟨rfl, hb_⟩
    replace S0 := HO _ _ S0 hb_
    replace hown := own_below hown.out hb_
    clear hb_ QK
    obtain ⟨g, hA, _, _, hc1, hf1⟩ := own_cell hown hlt HC.out
    injection hA with hA
    injection hA with hA
    subst hA
    have hst := (hown.stored k (.bool o)).1
    rw [HS.out] at hst
    have HN : Hid ((w4.setCell ⟨w.heap.size, k, none⟩ (.bool o)).ownsRow w.heap.size 4 1 (.slice (some ⟨w.heap.size, 0, none⟩) m m) m (bcells (boolTo f (k + 1)) ++ xs.drop (k + 1)) ∧ (PtsAt (w4.setCell ⟨w.heap.size, k, none⟩ (.bool o)) w.heap.size (some ad) l ∧ Below w.heap.size w (w4.setCell ⟨w.heap.size, k, none⟩ (.bool o)))) := Lib.hid ⟨hst, HO2 _ _ S0 ((Below.refl _ _).setCell (p := ⟨w.heap.size, k, none⟩) (Nat.le_refl _) _)⟩
    clear hst hown S0 HS HC
    go_wp2_with fail
    first
      | exact ⟨⟨k + 1, by omega, by go_num, HN.out.1, HN.out.2⟩, by simp [intOf]; omega⟩
      | (go_roundw <;> first | exact ⟨k + 1, by omega, by go_num, HN.out.1, HN.out.2⟩ | (simp [intOf]; omega))

theorem mask_bool (ps l : List (Int × Int)) (a : Int × Int) : ∀ k, MaskMath.maskTo ps l a k = boolTo (fun j => SightMath.seesM ps a (pt l j)) k
  | 0 => rfl
  | k + 1 => by show _ ++ _ = _; rw [mask_bool ps l a k]; rfl
open AreaMath PlaceMath FloorMath LineMath CutsMath SightMath KernMath PtofMath MaskMath FromImpl in
set_option maxRecDepth 100000 in
set_option maxHeartbeats 6400000 in
theorem seenMask (A : Option Addr) (n cap : Nat) (k : Int) (w : World) (ps : List (Int × Int)) (hl : ps.length = n) (hn : n ≤ 1048576) (hp : PtsAt w w.heap.size A ps) :
    Calls Try.prog 30 #[.agg #[.slice A n cap], .int .i64 k] w (GivesC 4 1 w (maskL ps k).length (bcells (maskL ps k))) := by
  obtain ⟨r, hr⟩ : ∃ r, maskL ps k = r := ⟨_, rfl⟩
  have HR := Lib.hid hr
  rw [hr]
  clear hr
  go_enter Try.func30, Try.ntmps30
  go_wp2_with fail
  have X0 := Pts.boxR w (.slice A n cap) 30 (k := w.heap.size) (by simp)
  have b0 := PointOk.below1 w (Obj.cells #[.slice A n cap] 30)
  have HO : ∀ W W' : World, (Pts.BoxR W (w.heap.size) (.slice A n cap) ∧ PtsAt W w.heap.size A ps ∧ Below w.heap.size w W) → Below W.heap.size W W' → (Pts.BoxR W' (w.heap.size) (.slice A n cap) ∧ PtsAt W' w.heap.size A ps ∧ Below w.heap.size w W') := fun W W' ⟨h0, x0, hb⟩ h => ⟨h0.later h, x0.later (h.mono hb.size), hb.trans (h.mono hb.size)⟩
  have hz0_ : Hid (((w.alloc (Obj.cells #[.slice A n cap] 30))).heap.size = w.heap.size + 1) := Lib.hid (by simp)
  have Y0 : PtsAt ((w.alloc (Obj.cells #[.slice A n cap] 30))) w.heap.size A ps := hp.later b0
  generalize (w.alloc (Obj.cells #[.slice A n cap] 30)) = w0 at X0 Y0 b0 hz0_ ⊢
  have S0 := (⟨X0, Y0, b0⟩ : Pts.BoxR w0 (w.heap.size) (.slice A n cap) ∧ PtsAt w0 w.heap.size A ps ∧ Below w.heap.size w w0)
  clear X0 Y0 b0
  obtain ⟨⟨_, _⟩, _, _⟩ := id S0
  refine (WallOfImpl.hasCorner A n cap k _).mono ?_
  rintro e w1 ⟨rfl, hb_⟩
  replace S0 := HO _ _ S0 hb_
  clear hb_
  obtain ⟨⟨_, _⟩, _, _⟩ := id S0
  cases hk : decide (0 ≤ k ∧ k < (n : Int))
  · have E : Hid (r = []) := Lib.hid (by rw [← HR.out]; unfold maskL; rw [inN_lt, hl, hk]; simp)
    clear hl HR hk
    go_wp2_with fail
    go_ret
    exact ⟨none, 0, by rw [E.out]; rfl, by rw [E.out]; exact World.ownsRow_nil _ _ _ _, S0.2.2⟩
  go_wp2_with fail
  refine (RoomOkImpl.roomOk A n cap _ ps hl hn (S0.2.1.wide S0.2.2.size)).mono ?_
  rintro e w2 ⟨rfl, hb_⟩
  replace S0 := HO _ _ S0 hb_
  clear hb_
  obtain ⟨⟨_, _⟩, _, _⟩ := id S0
  cases hr : roomB ps
  · have E : Hid (r = []) := Lib.hid (by rw [← HR.out]; unfold maskL; rw [hr]; rfl)
    clear hl HR hk
    go_wp2_with fail
    go_ret
    exact ⟨none, 0, by rw [E.out]; rfl, by rw [E.out]; exact World.ownsRow_nil _ _ _ _, S0.2.2⟩
  have hki := of_decide_eq_true hk
  obtain ⟨i, rfl⟩ := Int.eq_ofNat_of_zero_le hki.1
  have HE : maskTo ps (floorL ps) (pt ps i) (floorL ps).length = r := by rw [← HR.out]; unfold maskL; rw [inN_lt, hr, hl, hk]; rfl
  have hi1 : (i : Int) < (n : Int) := by omega
  have hi0 : (0 : Int) ≤ (i : Int) := by omega
  have hia := corner_in hr (k := i) (by omega)
  have hin : Hid (∀ k, k < (floorL ps).length → inB ps (pt (floorL ps) k).1 (pt (floorL ps) k).2 = true) := Lib.hid (fun k hk => floorL_in (pt_mem hk))
  have QF : Hid (∀ w hp, _) := Lib.hid fun w hp => FloorImpl.floorPoints A n cap w ps hl hn hp
  have hle := floorL_le ps
  have pp := pt_at (ps := ps) (k := i) (by omega)
  obtain ⟨ax, ay, hax⟩ : ∃ x y, pt ps i = (x, y) := ⟨_, _, rfl⟩
  rw [hax] at HE hia pp
  have hy := roomB_yes hr
  have QS : Hid (∀ w hp, _) := Lib.hid fun w hp => sightFrom A n cap ax ay w ps hl (by omega) hy.2.1 hp
  unfold Asks at QS
  rw [mask_bool] at HE
  replace HE := Lib.hid HE
  replace hia := Lib.hid hia
  clear HR hr hk hki hy hax
  generalize floorL ps = l at *
  obtain ⟨q, hm⟩ : ∃ m, l.length = m := ⟨_, rfl⟩
  unfold GivesC at QF
  rw [hm] at QF hle hin HE
  obtain ⟨ad, eA, bA, pA⟩ := S0.2.1.get pp
  subst eA
  have HO : ∀ W W' : World, (BoxR W w.heap.size (.slice (some ad) n cap) ∧ PtsAt W w.heap.size (some ad) ps ∧ PtAt W ad i ax ay ∧ Below w.heap.size w W) → Below W.heap.size W W' → (BoxR W' w.heap.size (.slice (some ad) n cap) ∧ PtsAt W' w.heap.size (some ad) ps ∧ PtAt W' ad i ax ay ∧ Below w.heap.size w W') := fun W W' ⟨x0, x1, x2, hb⟩ h => ⟨x0.later h, x1.later (h.mono hb.size), x2.later bA (h.mono hb.size), hb.trans (h.mono hb.size)⟩
  replace S0 : BoxR w2 w.heap.size (.slice (some ad) n cap) ∧ PtsAt w2 w.heap.size (some ad) ps ∧ PtAt w2 ad i ax ay ∧ Below w.heap.size w w2 := ⟨S0.1, S0.2.1, pA, S0.2.2⟩
  clear pA pp
  obtain ⟨⟨_, _⟩, _, ⟨_, _⟩, _⟩ := id S0
  go_wp2_with fail
  have SD := HO _ _ S0 ((Below.refl w2.heap.size w2).drew)
  have HSOF : ∀ W : World, (BoxR W w.heap.size (.slice (some ad) n cap) ∧ PtsAt W w.heap.size (some ad) ps ∧ PtAt W ad i ax ay ∧ Below w.heap.size w W) → (W.cell? ⟨w.heap.size, 0, none⟩ = some (.slice (some ad) n cap) ∧ W.cell? (ad.add (i * 2)) = some (.int .i64 ax) ∧ W.cell? ⟨(ad.add (i * 2)).block, (ad.add (i * 2)).off + 1, none⟩ = some (.int .i64 ay)) := fun W h => ⟨h.1.1, h.2.2.1.1, h.2.2.1.2⟩
  have HS0_ := HSOF _ SD
  clear S0
  refine wp_region_held_drew (S := fun W => (W.cell? ⟨w.heap.size, 0, none⟩ = some (.slice (some ad) n cap) ∧ W.cell? (ad.add (i * 2)) = some (.int .i64 ax) ∧ W.cell? ⟨(ad.add (i * 2)).block, (ad.add (i * 2)).off + 1, none⟩ = some (.int .i64 ay))) (by kernel_rfl) HS0_ (fun hHeld => ?_)
  refine wpAnyH_take (i := 0) (oi := ⟨some 14, _, _, _, _, _⟩) (v := ?_) rfl (by kernel_rfl) (by kernel_rfl) (by kernel_rfl) (fun _ _ _ h => h) (Or.inl ⟨by rfl, ?_⟩) (by assumption) ?_
  rotate_left 1
  · (intro w hSw; obtain ⟨_, _, _⟩ := hSw; go_simp; try with_reducible rfl)
  try simp only [Act.put, List.setIfInBounds_toArray, List.set_cons_zero, List.set_cons_succ]
  refine wpAnyH_take (i := 2) (oi := ⟨some 16, _, _, _, _, _⟩) (v := ?_) rfl (by kernel_rfl) (by kernel_rfl) (by kernel_rfl) (fun _ _ _ h => h) (Or.inl ⟨by rfl, ?_⟩) (by assumption) ?_
  rotate_left 1
  · (intro w hSw; obtain ⟨_, _, _⟩ := hSw; go_simp; try with_reducible rfl)
  try simp only [Act.put, List.setIfInBounds_toArray, List.set_cons_zero, List.set_cons_succ]
  refine wpAnyH_take (i := 3) (oi := ⟨some 17, _, _, _, _, _⟩) (v := ?_) rfl (by kernel_rfl) (by kernel_rfl) (by kernel_rfl) (fun _ _ _ h => h) (Or.inl ⟨by rfl, ?_⟩) (by assumption) ?_
  rotate_left 1
  · (intro w hSw; obtain ⟨_, _, _⟩ := hSw; go_simp; try with_reducible rfl)
  try simp only [Act.put, List.setIfInBounds_toArray, List.set_cons_zero, List.set_cons_succ]
  refine wpAnyH_take (i := 4) (oi := ⟨some 18, _, _, _, _, _⟩) (v := ?_) rfl (by kernel_rfl) (by kernel_rfl) (by kernel_rfl) (fun _ _ _ h => h) (Or.inl ⟨by rfl, ?_⟩) (by assumption) ?_
  rotate_left 1
  · (intro w hSw; obtain ⟨_, _, _⟩ := hSw; go_simp; try with_reducible rfl)
  try simp only [Act.put, List.setIfInBounds_toArray, List.set_cons_zero, List.set_cons_succ]
  refine wpAnyH_take (i := 5) (oi := ⟨some 19, _, _, _, _, _⟩) (v := ?_) rfl (by kernel_rfl) (by kernel_rfl) (by kernel_rfl) (fun _ _ _ h => h) (Or.inl ⟨by rfl, ?_⟩) (by assumption) ?_
  rotate_left 1
  · (intro w hSw; obtain ⟨_, _, _⟩ := hSw; go_simp; try with_reducible rfl)
  try simp only [Act.put, List.setIfInBounds_toArray, List.set_cons_zero, List.set_cons_succ]
  refine wpAnyH_take (i := 6) (oi := ⟨some 20, _, _, _, _, _⟩) (v := ?_) rfl (by kernel_rfl) (by kernel_rfl) (by kernel_rfl) (fun _ _ _ h => h) (Or.inl ⟨by rfl, ?_⟩) (by assumption) ?_
  rotate_left 1
  · (intro w hSw; obtain ⟨_, _, _⟩ := hSw; go_simp; try with_reducible rfl)
  try simp only [Act.put, List.setIfInBounds_toArray, List.set_cons_zero, List.set_cons_succ]
  refine wpAnyH_take (i := 7) (oi := ⟨some 21, _, _, _, _, _⟩) (v := ?_) rfl (by kernel_rfl) (by kernel_rfl) (by kernel_rfl) (fun _ _ _ h => h) (Or.inl ⟨by rfl, ?_⟩) (by assumption) ?_
  rotate_left 1
  · (intro w hSw; obtain ⟨_, _, _⟩ := hSw; go_simp; try with_reducible rfl)
  try simp only [Act.put, List.setIfInBounds_toArray, List.set_cons_zero, List.set_cons_succ]
  refine wpAnyH_ready (rs := [1]) (by kernel_rfl) (by simp) ?_
  refine AllReadyH.cons (o := ⟨some 15, _, _, _, _, _⟩) rfl (fun K hK => ?_) ?_
  rotate_left 1
  · exact AllReadyH.nil
  go_simp
  go_at_call 50; refine (QF.out _ (SD.2.1.wide SD.2.2.2.size)).mono ?_; rintro e w5 ⟨Al, cl, rfl, HL, hb_⟩
  have S5_ := HO _ _ SD hb_
  have HS5_ := HSOF _ S5_
  replace HL := own_base HL (b' := w.heap.size) SD.2.2.2.size
  clear hb_
  go_wp2_with fail
  refine hK.out _ _ HS5_ (fun hHeld => ?_)
  clear hK K
  refine wpAnyH_ready (rs := [8]) (by kernel_rfl) (by simp) ?_
  refine AllReadyH.cons (o := ⟨some 22, _, _, _, _, _⟩) rfl (fun K hK => ?_) ?_
  rotate_left 1
  · exact AllReadyH.nil
  go_simp
  go_at_call 47; refine (QS.out _ (S5_.2.1.wide S5_.2.2.2.size)).mono ?_; rintro e w6 ⟨C1, C2, Ad, cd, rfl, h1_, h2_, hq_, hb_⟩
  have S6_ := HO _ _ S5_ hb_
  have HS6_ := HSOF _ S6_
  replace HL := own_below HL hb_
  clear hb_
  go_wp2_with fail
  refine hK.out _ _ HS6_ (fun hHeld => ?_)
  clear hK K
  refine wpAnyH_ready (rs := [9]) (by kernel_rfl) (by simp) ?_
  refine AllReadyH.cons (o := ⟨some 23, _, _, _, _, _⟩) rfl (fun K hK => ?_) ?_
  rotate_left 1
  · exact AllReadyH.nil
  go_simp
  go_at_call 49; refine (maskOf 69 #[.pointer (some ⟨C1, 0, none⟩), .pointer (some ⟨C2, 0, none⟩)] (fun j => seesM ps (ax, ay) (pt l j)) Al q cl _ l hm hle (FiltImpl.pts_own HL) Try.call69 (fun W j hj hb => asks ax ay (pt l j).1 (pt l j).2 C1 C2 Ad n cd W ps hl hia.out (hin.out j hj) (h1_.later hb) (h2_.later hb) ((hq_.later hb).wide hb.size))).mono ?_; rintro e w7 ⟨A7, c7, rfl, H7, hb_⟩
  have S7_ := HO _ _ S6_ hb_
  have HS7_ := HSOF _ S7_
  rw [HE.out] at H7
  have hlr : r.length = q := by rw [← HE.out]; exact boolTo_len _ _
  replace H7 := Lib.hid (own_base H7 (b' := w.heap.size) S6_.2.2.2.size)
  clear hb_ HL h1_ h2_ hq_
  go_wp2_with fail
  refine hK.out _ _ HS7_ (fun hHeld => ?_)
  clear hK K
  try simp only [Act.put, List.setIfInBounds_toArray, List.set_cons_zero, List.set_cons_succ]
  refine wpAnyH_take (i := 10) (oi := ⟨some 4, _, _, _, _, _⟩) (v := ?_) rfl (by kernel_rfl) (by kernel_rfl) (by kernel_rfl) (fun _ _ _ h => h) (Or.inl ⟨by rfl, ?_⟩) (by assumption) ?_
  rotate_left 1
  · (intro w hSw; obtain ⟨_, _, _⟩ := hSw; go_simp; try with_reducible rfl)
  try simp only [Act.put, List.setIfInBounds_toArray, List.set_cons_zero, List.set_cons_succ]
  refine wpAnyH_done (by kernel_rfl) ?_ _
  clear HE QF QS hin hia
  go_wp2_with fail
  go_ret
  exact ⟨A7, c7, by rw [hlr] <;> rfl, by rw [hlr]; exact H7.out, S7_.2.2.2⟩

end Go.Proofs.Ytkoogklakacphab.MaskImpl

