/-
  What the model's distances are: the same as the landed text's, breadth first.
-/
import Derived.Test.YtagokcbldkbdmaaHouSpec
import Derived.Test.YtagokcbldkbdmaaHouMem
import Derived.Maps.AppendAt
import Derived.Laws.OwnMore
namespace Go.Proofs.Ytagokcbldkbdmaa.HouDspec
open Go.RowKit Pts Blk HouMath HouBox HouMem
open Go.Proofs.Ytagokcbldkbdmaa.Own (icells icells_length icells_at own_below kept_ne own_cell)
open PointOk (ret_bool ret_i64 below1 below2 below3)

/-- A list of halls as numbers. -/
def nl (l : List Nat) : List Int := l.map fun (x : Nat) => (x : Int)
theorem nl_len (l : List Nat) : (nl l).length = l.length := by simp [nl]
theorem nl_snoc (l : List Nat) (x : Nat) : icells (nl (l ++ [x])) = icells (nl l) ++ [.int .i64 (x : Int)] := by simp [nl, icells]
theorem nl_at {l : List Nat} {k : Nat} (h : k < l.length) : (icells (nl l))[k]? = some (.int .i64 ((l.getD k 0 : Nat) : Int)) := by simp [nl, icells, List.getD, h]

set_option maxRecDepth 100000 in
set_option maxHeartbeats 6400000 in
theorem distances (H : Nat) (A : Option Addr) (n cap a : Nat) (w : World) (ds : List (Int × Int)) (hf : HForm H ds) (hl : ds.length = n) (ha : a < H) (hp : PtsAt w w.heap.size A ds) :
    Calls Try.prog 112 #[.agg #[.int .i64 H, .slice A n cap], .int .i64 a] w fun e w' => ∃ g, e = .returned (.slice (some ⟨g, 0, none⟩) H H) ∧
      Holds w' g (icells (dist H ds a)).toArray 3 ∧ w.heap.size ≤ g ∧ Below w.heap.size w w' := by
  have h7 : H ≤ 7 := by have := hf.h7; omega
  have h1 : 1 ≤ H := by omega
  have hn : n ≤ 1048576 := by have := hf.len; omega
  clear hf
  have a0 : (0 : Int) ≤ (a : Int) := by omega
  have a1 : (a : Int) < (H : Int) := by omega
  obtain ⟨i0, hi, hz0, hz1, hz2⟩ := info_parts HouRep.infoI
  go_enter Try.func112, Try.ntmps112
  go_wp2_with fail
  have X0 := HouBox.boxH w H A n cap 30 (k := w.heap.size) (by simp)
  have b0 := PointOk.below1 w (Obj.cells #[.int .i64 H, .slice A n cap] 30)
  have HO : ∀ W W' : World, (HouBox.BoxH W (w.heap.size) H A n cap ∧ PtsAt W w.heap.size A ds ∧ Below w.heap.size w W) → Below W.heap.size W W' → (HouBox.BoxH W' (w.heap.size) H A n cap ∧ PtsAt W' w.heap.size A ds ∧ Below w.heap.size w W') := fun W W' ⟨h0, x0, hb⟩ h => ⟨h0.later h, x0.later (h.mono hb.size), hb.trans (h.mono hb.size)⟩
  have hz0_ : Hid (((w.alloc (Obj.cells #[.int .i64 H, .slice A n cap] 30))).heap.size = w.heap.size + 1) := Lib.hid (by simp)
  have Y0 : PtsAt ((w.alloc (Obj.cells #[.int .i64 H, .slice A n cap] 30))) w.heap.size A ds := hp.later b0
  generalize (w.alloc (Obj.cells #[.int .i64 H, .slice A n cap] 30)) = w0 at X0 Y0 b0 hz0_ ⊢
  have S0 := (⟨X0, Y0, b0⟩ : HouBox.BoxH w0 (w.heap.size) H A n cap ∧ PtsAt w0 w.heap.size A ds ∧ Below w.heap.size w w0)
  clear X0 Y0 b0
  obtain ⟨⟨_, _⟩, _, _⟩ := id S0
  have HO2 : ∀ W W' : World, (HouBox.BoxH W (w.heap.size) H A n cap ∧ PtsAt W w.heap.size A ds ∧ Below w.heap.size w W) → ∀ g k v, w.heap.size + 1 ≤ g → W' = W.setCell ⟨g, k, none⟩ v → (HouBox.BoxH W' (w.heap.size) H A n cap ∧ PtsAt W' w.heap.size A ds ∧ Below w.heap.size w W') := fun W W' hS g k v hg e => by
    subst e
    have h : Below (w.heap.size + 1) W (W.setCell ⟨g, k, none⟩ v) := (Below.refl _ W).setCell (p := ⟨g, k, none⟩) hg v
    exact ⟨⟨(h.cell (p := ⟨w.heap.size, 0, none⟩) (by show w.heap.size < w.heap.size + 1; omega)).trans hS.1.1, (h.cell (p := ⟨w.heap.size, 1, none⟩) (by show w.heap.size < w.heap.size + 1; omega)).trans hS.1.2⟩, hS.2.1.later (h.mono (by omega)), hS.2.2.trans (h.mono (by omega))⟩
  have hz1_ := hz0_.out
  obtain ⟨w1, hrun, hown, hgr⟩ := run_make_full (P := Try.prog) w0 w0.heap.size 26 3 i0 (.int .i64 0) 1 Try.underlying26 hi hz0 hz1 .i64 .i64 H (by rw [hz2]; omega) (by unfold maxLen; omega) (Nat.le_refl _)
  rw [hrun]
  have hb1 : Below w0.heap.size w0 w1 := Below.grown (Below.refl _ _) hgr (Nat.le_refl _) (fun g' hg' => by cases hg')
  rw [show (madeCells (Value.int IntKind.i64 0).cells (H * 1)).toList = List.replicate H (.int .i64 0) from (by rw [Nat.mul_one]; exact toList_madeCells_one _ _)] at hown
  obtain ⟨hG, hle⟩ := HouRep.holds_of_owns hown
  replace S0 := HO _ _ S0 hb1
  obtain ⟨g, hgg⟩ : ∃ g, w0.heap.size = g := ⟨_, rfl⟩
  rw [hgg] at hG hle
  rw [hgg] at hz1_
  have hzg : w.heap.size + 1 ≤ g := by omega
  clear hz1_
  have hG0 : Hid (Holds w1 g (icells (List.replicate 0 (-1) ++ List.replicate (H - 0) 0)).toArray 3) := Lib.hid (by simpa [icells] using hG)
  clear hown hgr hb1 hG
  obtain ⟨⟨_, _⟩, _, _⟩ := id S0
  simp only [hgg]
  go_wp2_with fail
  go_loopw [6] (fun i wr => ∃ k : Nat, k ≤ H ∧ i = .int .i64 k ∧ Hid (Holds wr g (icells (List.replicate k (-1) ++ List.replicate (H - k) 0)).toArray 3) ∧ (HouBox.BoxH wr (w.heap.size) H A n cap ∧ PtsAt wr w.heap.size A ds ∧ Below w.heap.size w wr))
    (fun i _ => H - (intOf i).toNat)
  case atStart => exact ⟨0, Nat.zero_le _, rfl, hG0, S0⟩
  case round =>
    clear S0 hG0
    obtain ⟨k, hk, rfl, hG, S0⟩ := hrel
    obtain ⟨⟨_, _⟩, _, _⟩ := id S0
    by_cases hlt : k < H
    · have hk1 : (k : Int) < (H : Int) := by omega
      have hk0 : (0 : Int) ≤ (k : Int) := by omega
      obtain ⟨ck, fk⟩ : wr.cell? ⟨g, k, none⟩ = some (.int .i64 0) ∧ wr.frozen? ⟨g, k, none⟩ = false := by
        have h := hG.out
        have c := cell_of_row wr g k _ _ _ h
        refine ⟨c.trans ?_, by unfold Holds at h; simp [World.frozen?, h]⟩
        simp only [icells, List.map_append, List.map_replicate, List.getElem?_toArray]
        rw [List.getElem?_append_right (by simp)]
        simp only [List.length_replicate, Nat.sub_self, List.getElem?_replicate]
        rw [if_pos (by omega)]
      have hG2 : Hid (Holds (wr.setCell ⟨g, k, none⟩ (.int .i64 (-1))) g (icells (List.replicate (k + 1) (-1) ++ List.replicate (H - (k + 1)) 0)).toArray 3) := Lib.hid (by
        have h := set_own hG.out k (.int .i64 (-1))
        unfold Holds
        rw [h]
        congr 2
        simp only [List.setIfInBounds_toArray]
        congr 1
        apply List.ext_getElem
        · simp [icells]; omega
        · intro i h1 h2
          simp only [icells, List.length_map, List.length_append, List.length_replicate, List.length_set] at h1 h2
          simp only [icells, List.getElem_set, List.getElem_map, List.getElem_append, List.length_replicate, List.getElem_replicate]
          split
          · subst i; simp
          · split <;> split <;> first | rfl | omega)
      have HS := Lib.hid (HO2 _ _ S0 g k (.int .i64 (-1)) (by omega) rfl)
      clear hG
      go_wp2_with fail
      exact ⟨⟨k + 1, by omega, by go_num, hG2, HS.out⟩, by simp [intOf]; omega⟩
    obtain rfl : H = k := by omega
    obtain ⟨ca, fa⟩ : wr.cell? ⟨g, a, none⟩ = some (.int .i64 (-1)) ∧ wr.frozen? ⟨g, a, none⟩ = false := by
      have h := hG.out
      have c := cell_of_row wr g a _ _ _ h
      refine ⟨c.trans ?_, by unfold Holds at h; simp [World.frozen?, h]⟩
      simp [icells, ha]
    have hG2 : Hid (Holds (wr.setCell ⟨g, a, none⟩ (.int .i64 0)) g (icells (st H ds a 0).1).toArray 3) := Lib.hid (by
      have h := set_own hG.out a (.int .i64 0)
      unfold Holds
      rw [h]
      simp only [List.setIfInBounds_toArray]
      congr 2
      simp [st, icells, List.map_set])
    have HS := HO2 _ _ S0 g a (.int .i64 0) (by omega) rfl
    clear hG S0
    obtain ⟨w2, hw2⟩ : ∃ w2, wr.setCell ⟨g, a, none⟩ (.int .i64 0) = w2 := ⟨_, rfl⟩
    rw [hw2] at hG2 HS
    have hlit := World.ownsRow_lit (base := w.heap.size + 1) (e := 3) (size := 1) w2 #[.int .i64 (a : Int)] 1 (by have := hG2.out.lt; omega) (by unfold maxLen; omega) (by simp)
    have HS1 := HO _ _ HS (below1 w2 (.cells #[.int .i64 (a : Int)] 3))
    have hG3 := Lib.hid (hG2.out.alloc (.cells #[.int .i64 (a : Int)] 3))
    have hne2 : w2.heap.size ≠ g := by have := hG2.out.lt; omega
    replace hlit := Lib.hid hlit
    clear hG2 HS
    obtain ⟨w3, hw3⟩ : ∃ w3, w2.alloc (.cells #[.int .i64 (a : Int)] 3) = w3 := ⟨_, rfl⟩
    rw [hw3] at hlit HS1 hG3
    obtain ⟨⟨_, _⟩, _, _⟩ := id HS1
    go_wp2_with fail
    have HO : ∀ W W' : World, (BoxH W w.heap.size H A n cap ∧ PtsAt W w.heap.size A ds ∧ Below w.heap.size w W) → Below W.heap.size W W' → (BoxH W' w.heap.size H A n cap ∧ PtsAt W' w.heap.size A ds ∧ Below w.heap.size w W') := fun W W' ⟨x0, x1, hb⟩ h => ⟨x0.later h, x1.later (h.mono hb.size), hb.trans (h.mono hb.size)⟩
    have HO3 : ∀ W W' : World, (BoxH W w.heap.size H A n cap ∧ PtsAt W w.heap.size A ds ∧ Below w.heap.size w W) → Below (w.heap.size + 1) W W' → (BoxH W' w.heap.size H A n cap ∧ PtsAt W' w.heap.size A ds ∧ Below w.heap.size w W') := fun W W' ⟨h0, h1, hb⟩ h => ⟨⟨(h.cell (p := ⟨w.heap.size, 0, none⟩) (by show w.heap.size < w.heap.size + 1; omega)).trans h0.1, (h.cell (p := ⟨w.heap.size, 1, none⟩) (by show w.heap.size < w.heap.size + 1; omega)).trans h0.2⟩, h1.later (h.mono (by omega)), hb.trans (h.mono (by omega))⟩
    have HO2 : ∀ W : World, (BoxH W w.heap.size H A n cap ∧ PtsAt W w.heap.size A ds ∧ Below w.heap.size w W) → ∀ g k v, w.heap.size + 1 ≤ g → BoxH (W.setCell ⟨g, k, none⟩ v) w.heap.size H A n cap ∧ PtsAt (W.setCell ⟨g, k, none⟩ v) w.heap.size A ds ∧ Below w.heap.size w (W.setCell ⟨g, k, none⟩ v) := fun W hS g k v hg => HO2 _ _ hS g k v hg rfl
    go_loopw [7, 8] (fun v i wr => ∃ k : Nat, k ≤ H ∧ i = .int .i64 k ∧ Hid (Holds wr g (icells (st H ds a k).1).toArray 3) ∧ Hid (wr.ownsRow (w.heap.size + 1) 3 1 v (st H ds a k).2.length (icells (nl (st H ds a k).2)) ∧ (∀ b, v.ownBlock = some b → b ≠ g)) ∧ (BoxH wr w.heap.size H A n cap ∧ PtsAt wr w.heap.size A ds ∧ Below w.heap.size w wr))
      (fun _ i _ => H - (intOf i).toNat)
    case atStart => exact ⟨0, Nat.zero_le _, rfl, hG3, Lib.hid ⟨hlit.out, fun b hb => by cases hb; exact hne2⟩, HS1⟩
    case round =>
      clear HS1 hG3 hlit hne2 hw2 hw3 ca fa
      obtain ⟨k, hk, rfl, hG, hO, S0⟩ := hrel
      have hInv := Lib.hid (inv_st (ds := ds) ha k)
      obtain ⟨⟨_, _⟩, _, _⟩ := id S0
      by_cases hkl : (st H ds a k).2.length ≤ k
      · have E : Hid (dist H ds a = (st H ds a k).1) := Lib.hid (dist_end ha hk hkl)
        have hG' : Hid (Holds wr g (icells (dist H ds a)).toArray 3) := Lib.hid (by rw [E.out]; exact hG.out)
        obtain ⟨N, hN⟩ : ∃ N, (st H ds a k).2.length = N := ⟨_, rfl⟩
        obtain ⟨Ao, co, hv⟩ := Go.Proofs.Ytagokcbldkbdmaa.Own.own_shape hO.out.1
        subst hv
        rw [hN] at hkl
        have hx : ¬ (k : Int) < (N : Int) := by omega
        simp only [hN]
        clear hG hO E hInv hN
        go_wp2_with fail
        go_ret
        exact ⟨g, rfl, hG'.out, by omega, S0.2.2⟩
      have hkl' : k < (st H ds a k).2.length := by omega
      have hkH : k < H := Nat.lt_of_lt_of_le hkl' hInv.out.le
      obtain ⟨x, hx⟩ : ∃ x, (st H ds a k).2.getD k 0 = x := ⟨_, rfl⟩
      have hxH : x < H := by rw [← hx]; exact hInv.out.lt _ (getD_mem hkl')
      have hnext : Hid (st H ds a (k + 1) = inn ds x (st H ds a k) H) := Lib.hid (by rw [st_succ hkl', hx]; rfl)
      have hst : Hid (∀ z, z ≤ H → Inv H (inn ds x (st H ds a k) z) ∧ k < (inn ds x (st H ds a k) z).2.length ∧ (inn ds x (st H ds a k) z).2.getD k 0 = x) := Lib.hid (fun z hz => ⟨inn_inv hxH hInv.out hz, Nat.lt_of_lt_of_le hkl' (fold_len _ _ _), by rw [← hx]; exact pre_getD (fold_pre _ _ _) hkl'⟩)
      have hG0 : Hid (Holds wr g (icells (inn ds x (st H ds a k) 0).1).toArray 3) := hG
      have hO0 : Hid (wr.ownsRow (w.heap.size + 1) 3 1 u7 (inn ds x (st H ds a k) 0).2.length (icells (nl (inn ds x (st H ds a k) 0).2)) ∧ (∀ b, u7.ownBlock = some b → b ≠ g)) := hO
      obtain ⟨N, hN⟩ : ∃ N, (st H ds a k).2.length = N := ⟨_, rfl⟩
      obtain ⟨Ao, co, hv⟩ := Go.Proofs.Ytagokcbldkbdmaa.Own.own_shape hO.out.1
      subst hv
      rw [hN] at hkl'
      have hk1 : (k : Int) < (N : Int) := by omega
      simp only [hN]
      simp only [hN] at hO0
      clear hG hO hkl hInv hx
      go_wp2_with fail
      go_loopw [7, 9] (fun v i wr => ∃ z : Nat, z ≤ H ∧ i = .int .i64 z ∧ Hid (Holds wr g (icells (inn ds x (st H ds a k) z).1).toArray 3) ∧ Hid (wr.ownsRow (w.heap.size + 1) 3 1 v (inn ds x (st H ds a k) z).2.length (icells (nl (inn ds x (st H ds a k) z).2)) ∧ (∀ b, v.ownBlock = some b → b ≠ g)) ∧ (BoxH wr w.heap.size H A n cap ∧ PtsAt wr w.heap.size A ds ∧ Below w.heap.size w wr))
        (fun _ i _ => H - (intOf i).toNat)
      case atStart => exact ⟨0, Nat.zero_le _, rfl, hG0, hO0, S0⟩
      case round =>
        clear S0 hG0 hO0
        obtain ⟨z, hz, rfl, hG, hO, S0⟩ := hrel
        obtain ⟨⟨_, _⟩, _, _⟩ := id S0
        by_cases hzH : z < H
        rotate_left
        · obtain rfl : H = z := by omega
          rw [← hnext.out] at hG hO
          clear hst hnext
          go_wp2_with fail
          first
            | exact ⟨⟨k + 1, by omega, by go_num, hG, hO, S0⟩, by simp [intOf]; omega⟩
            | (go_roundw <;> first | exact ⟨k + 1, by omega, by go_num, hG, hO, S0⟩ | (simp [intOf]; omega))
        obtain ⟨hI, hkL, hLx⟩ := hst.out z (by omega)
        have hs1 := Lib.hid (inn_succ ds x (st H ds a k) z)
        obtain ⟨s, hs⟩ : ∃ s, inn ds x (st H ds a k) z = s := ⟨_, rfl⟩
        rw [hs] at hI hkL hLx hG hO hs1
        clear hs
        obtain ⟨D, L⟩ := s
        dsimp only at hI hkL hLx hG hO hs1
        have hDl : D.length = H := hI.len
        have hlt' : ∀ i, i < H → (icells D).toArray[i]? = some (.int .i64 (D.getD i 0)) := fun i hi => by
          rw [List.getElem?_toArray, icells_at (by omega)]
          simp [List.getD, show i < D.length by omega]
        obtain ⟨hO1, hO2⟩ := hO.out
        obtain ⟨gl, cl, hv, hgb, hglt⟩ := hO1.form (by omega)
        subst hv
        have hgl : gl ≠ g := hO2 gl rfl
        have cz := (cell_of_row wr g z _ _ _ hG.out).trans (hlt' z hzH)
        have cx := (cell_of_row wr g x _ _ _ hG.out).trans (hlt' x hxH)
        have ck : wr.cell? ⟨gl, k, none⟩ = some (.int .i64 x) := by
          rw [hO1.cellAt k (by omega), nl_at hkL, hLx]
        have hkLi : (k : Int) < (L.length : Int) := by omega
        have hk0 : (0 : Int) ≤ (k : Int) := by omega
        have hzz0 : (0 : Int) ≤ (z : Int) := by omega
        have hzi : (z : Int) < (H : Int) := by omega
        have hxi : (x : Int) < (H : Int) := by omega
        have hx0 : (0 : Int) ≤ (x : Int) := by omega
        have hlo := hI.lo x hxH
        have hhi := hI.hi x hxH
        have hle := hI.le
        dsimp only at hlo hhi hle
        have HT : Hid (D.getD z 0 < 0 → stp x (D, L) z = (D.set z (D.getD x 0 + 1), L ++ [z])) := Lib.hid (fun h => stp_new (s := (D, L)) h)
        have HF : Hid (¬ D.getD z 0 < 0 → stp x (D, L) z = (D, L)) := Lib.hid (fun h => stp_old (s := (D, L)) h)
        have hcx := hlt' x hxH
        obtain ⟨dz, hdz⟩ : ∃ v, D.getD z 0 = v := ⟨_, rfl⟩
        obtain ⟨dx, hdx⟩ : ∃ v, D.getD x 0 = v := ⟨_, rfl⟩
        rw [hdz] at cz HT HF
        rw [hdx] at cx HT hlo hhi hcx
        have QD := Lib.hid fun w hp => HouSpec.door H A n cap (z : Int) (x : Int) w ds hl hn hp
        obtain ⟨dd, hdd⟩ : ∃ v, isDoor ds (z : Int) (x : Int) = v := ⟨_, rfl⟩
        rw [hdd] at QD hs1
        have hGx := hG.out
        clear hG hO hO2 hst hlt' hDl hdd hdz hdx hLx hI
        have HO : ∀ W W' : World, (BoxH W w.heap.size H A n cap ∧ PtsAt W w.heap.size A ds ∧ W.cell? ⟨g, z, none⟩ = some (.int .i64 dz) ∧ W.cell? ⟨gl, k, none⟩ = some (.int .i64 x) ∧ Holds W g (icells D).toArray 3 ∧ W.ownsRow (w.heap.size + 1) 3 1 (.slice (some ⟨gl, 0, none⟩) L.length cl) L.length (icells (nl L)) ∧ Below w.heap.size w W) → Below W.heap.size W W' → (BoxH W' w.heap.size H A n cap ∧ PtsAt W' w.heap.size A ds ∧ W'.cell? ⟨g, z, none⟩ = some (.int .i64 dz) ∧ W'.cell? ⟨gl, k, none⟩ = some (.int .i64 x) ∧ Holds W' g (icells D).toArray 3 ∧ W'.ownsRow (w.heap.size + 1) 3 1 (.slice (some ⟨gl, 0, none⟩) L.length cl) L.length (icells (nl L)) ∧ Below w.heap.size w W') := fun W W' ⟨x0, x1, x2, x3, x4, x5, hb⟩ h => ⟨x0.later h, x1.later (h.mono hb.size), cell_later h x2, cell_later h x3, x4.later h, own_below x5 h, hb.trans (h.mono hb.size)⟩
        have S0 : BoxH wr w.heap.size H A n cap ∧ PtsAt wr w.heap.size A ds ∧ wr.cell? ⟨g, z, none⟩ = some (.int .i64 dz) ∧ wr.cell? ⟨gl, k, none⟩ = some (.int .i64 x) ∧ Holds wr g (icells D).toArray 3 ∧ wr.ownsRow (w.heap.size + 1) 3 1 (.slice (some ⟨gl, 0, none⟩) L.length cl) L.length (icells (nl L)) ∧ Below w.heap.size w wr := ⟨S0.1, S0.2.1, cz, ck, hGx, hO1, S0.2.2⟩
        clear cz ck hGx hO1
        by_cases hneg : dz < 0
        rotate_left
        · have d0 : decide (dz < 0) = false := decide_eq_false hneg
          have hs1 : Hid (inn ds x (st H ds a k) (z + 1) = (D, L)) := Lib.hid (by rw [hs1.out, HF.out hneg]; simp)
          clear HT HF
          obtain ⟨⟨_, _⟩, _, _, _, _, _, _⟩ := id S0
          go_wp2_with fail
          refine Settle.region (fun W => BoxH W w.heap.size H A n cap ∧ PtsAt W w.heap.size A ds ∧ W.cell? ⟨g, z, none⟩ = some (.int .i64 dz) ∧ W.cell? ⟨gl, k, none⟩ = some (.int .i64 x) ∧ Holds W g (icells D).toArray 3 ∧ W.ownsRow (w.heap.size + 1) 3 1 (.slice (some ⟨gl, 0, none⟩) L.length cl) L.length (icells (nl L)) ∧ Below w.heap.size w W) (by kernel_rfl) (by kernel_rfl) (by kernel_rfl) (by kernel_rfl) (HO _ _ S0 ((Below.refl _ _).drew)) ?_
          clear S0
          repeat (first
            | (refine Settle.Settles.off (by rfl) ?_; simp only [Act.put, List.setIfInBounds_toArray, List.set_cons_zero, List.set_cons_succ])
            | (refine Settle.Settles.quiet (v := ?_) (by rfl) ?_ ?_
               rotate_left
               · (intro W hS; obtain ⟨⟨_, _⟩, _, _, _, _, _, _⟩ := hS; go_simp; with_reducible rfl)
               simp only [Act.put, List.setIfInBounds_toArray, List.set_cons_zero, List.set_cons_succ])
            | (refine Settle.Settles.call (v := ?_) (f := ?_) (args := ?_) (by rfl) ?_ ?_ ?_
               rotate_left 3
               · (intro W; go_simp; refine ⟨?_, ?_⟩ <;> with_reducible rfl)
               · (intro W hS; first | (go_at_call 67; (with_reducible refine (QD.out _ (hS.2.1.wide hS.2.2.2.2.2.2.size)).mono ?_); rintro e W1 ⟨rfl, hb⟩; refine ⟨?_, HO _ _ hS hb⟩; with_reducible rfl))
               simp only [Act.put, List.setIfInBounds_toArray, List.set_cons_zero, List.set_cons_succ]))
          refine Settle.Settles.nil ?_
          intro wr S0
          obtain ⟨⟨_, _⟩, _, _, _, _, _, _⟩ := id S0
          go_wp2_with fail
          exact ⟨⟨z + 1, by omega, by go_num, Lib.hid (by rw [hs1.out]; exact S0.2.2.2.2.1), Lib.hid (by rw [hs1.out]; exact ⟨S0.2.2.2.2.2.1, fun b hb => by cases hb; exact hgl⟩), S0.1, S0.2.1, S0.2.2.2.2.2.2⟩, by simp [intOf]; omega⟩
        have d0 : decide (dz < 0) = true := decide_eq_true hneg
        cases dd
        · have hs1 : Hid (inn ds x (st H ds a k) (z + 1) = (D, L)) := Lib.hid (by rw [hs1.out]; simp)
          clear HT HF
          obtain ⟨⟨_, _⟩, _, _, _, _, _, _⟩ := id S0
          go_wp2_with fail
          refine Settle.region (fun W => BoxH W w.heap.size H A n cap ∧ PtsAt W w.heap.size A ds ∧ W.cell? ⟨g, z, none⟩ = some (.int .i64 dz) ∧ W.cell? ⟨gl, k, none⟩ = some (.int .i64 x) ∧ Holds W g (icells D).toArray 3 ∧ W.ownsRow (w.heap.size + 1) 3 1 (.slice (some ⟨gl, 0, none⟩) L.length cl) L.length (icells (nl L)) ∧ Below w.heap.size w W) (by kernel_rfl) (by kernel_rfl) (by kernel_rfl) (by kernel_rfl) (HO _ _ S0 ((Below.refl _ _).drew)) ?_
          clear S0
          repeat (first
            | (refine Settle.Settles.off (by rfl) ?_; simp only [Act.put, List.setIfInBounds_toArray, List.set_cons_zero, List.set_cons_succ])
            | (refine Settle.Settles.quiet (v := ?_) (by rfl) ?_ ?_
               rotate_left
               · (intro W hS; obtain ⟨⟨_, _⟩, _, _, _, _, _, _⟩ := hS; go_simp; with_reducible rfl)
               simp only [Act.put, List.setIfInBounds_toArray, List.set_cons_zero, List.set_cons_succ])
            | (refine Settle.Settles.call (v := ?_) (f := ?_) (args := ?_) (by rfl) ?_ ?_ ?_
               rotate_left 3
               · (intro W; go_simp; refine ⟨?_, ?_⟩ <;> with_reducible rfl)
               · (intro W hS; first | (go_at_call 67; (with_reducible refine (QD.out _ (hS.2.1.wide hS.2.2.2.2.2.2.size)).mono ?_); rintro e W1 ⟨rfl, hb⟩; refine ⟨?_, HO _ _ hS hb⟩; with_reducible rfl))
               simp only [Act.put, List.setIfInBounds_toArray, List.set_cons_zero, List.set_cons_succ]))
          refine Settle.Settles.nil ?_
          intro wr S0
          obtain ⟨⟨_, _⟩, _, _, _, _, _, _⟩ := id S0
          go_wp2_with fail
          exact ⟨⟨z + 1, by omega, by go_num, Lib.hid (by rw [hs1.out]; exact S0.2.2.2.2.1), Lib.hid (by rw [hs1.out]; exact ⟨S0.2.2.2.2.2.1, fun b hb => by cases hb; exact hgl⟩), S0.1, S0.2.1, S0.2.2.2.2.2.2⟩, by simp [intOf]; omega⟩
        have hs2 : Hid (inn ds x (st H ds a k) (z + 1) = (D.set z (dx + 1), L ++ [z])) := Lib.hid (by rw [hs1.out, HT.out hneg]; simp)
        clear HT HF hs1
        obtain ⟨⟨_, _⟩, _, _, _, _, _, _⟩ := id S0
        go_wp2_with fail
        refine Settle.region (fun W => BoxH W w.heap.size H A n cap ∧ PtsAt W w.heap.size A ds ∧ W.cell? ⟨g, z, none⟩ = some (.int .i64 dz) ∧ W.cell? ⟨gl, k, none⟩ = some (.int .i64 x) ∧ Holds W g (icells D).toArray 3 ∧ W.ownsRow (w.heap.size + 1) 3 1 (.slice (some ⟨gl, 0, none⟩) L.length cl) L.length (icells (nl L)) ∧ Below w.heap.size w W) (by kernel_rfl) (by kernel_rfl) (by kernel_rfl) (by kernel_rfl) (HO _ _ S0 ((Below.refl _ _).drew)) ?_
        clear S0
        repeat (first
          | (refine Settle.Settles.off (by rfl) ?_; simp only [Act.put, List.setIfInBounds_toArray, List.set_cons_zero, List.set_cons_succ])
          | (refine Settle.Settles.quiet (v := ?_) (by rfl) ?_ ?_
             rotate_left
             · (intro W hS; obtain ⟨⟨_, _⟩, _, _, _, _, _, _⟩ := hS; go_simp; with_reducible rfl)
             simp only [Act.put, List.setIfInBounds_toArray, List.set_cons_zero, List.set_cons_succ])
          | (refine Settle.Settles.call (v := ?_) (f := ?_) (args := ?_) (by rfl) ?_ ?_ ?_
             rotate_left 3
             · (intro W; go_simp; refine ⟨?_, ?_⟩ <;> with_reducible rfl)
             · (intro W hS; first | (go_at_call 67; (with_reducible refine (QD.out _ (hS.2.1.wide hS.2.2.2.2.2.2.size)).mono ?_); rintro e W1 ⟨rfl, hb⟩; refine ⟨?_, HO _ _ hS hb⟩; with_reducible rfl))
             simp only [Act.put, List.setIfInBounds_toArray, List.set_cons_zero, List.set_cons_succ]))
        refine Settle.Settles.nil ?_
        intro wr S0
        obtain ⟨⟨_, _⟩, _, _, _, _, _, _⟩ := id S0
        have hGx := S0.2.2.2.2.1
        have hOx := S0.2.2.2.2.2.1
        have cx' := (cell_of_row wr g x _ _ _ hGx).trans hcx
        have fz : wr.frozen? ⟨g, z, none⟩ = false := by have := hGx; unfold Holds at this; simp [World.frozen?, this]
        have hwr : IntKind.i64.wrap (dx + 1) = dx + 1 := IntWalk.i64_in _ (by omega)
        have HS5 := HO2 wr ⟨S0.1, S0.2.1, S0.2.2.2.2.2.2⟩ g z (.int .i64 (dx + 1)) hzg
        have hG5 : Hid (Holds (wr.setCell ⟨g, z, none⟩ (.int .i64 (dx + 1))) g (icells (D.set z (dx + 1))).toArray 3) := Lib.hid (by
          have h := set_own hGx z (.int .i64 (dx + 1))
          unfold Holds
          rw [h]
          simp only [List.setIfInBounds_toArray]
          congr 2
          simp [icells, List.map_set])
        have hO5 := kept_ne hOx (grown_set wr g z (.int .i64 (dx + 1))) (fun k e => by cases e; exact hgl)
        have s5 : wr.heap.size = (wr.setCell ⟨g, z, none⟩ (.int .i64 (dx + 1))).heap.size := by simp [World.setCell]
        clear hGx hOx S0
        obtain ⟨W5, hW5⟩ : ∃ W5, wr.setCell ⟨g, z, none⟩ (.int .i64 (dx + 1)) = W5 := ⟨_, rfl⟩
        rw [hW5] at HS5 hG5 hO5 s5
        have hg5 := hG5.out.lt
        have HS6 := HO3 _ _ HS5 ((below1 W5 (.cells #[.int .i64 (z : Int)] 3)).mono (by omega))
        replace hG5 := Lib.hid (hG5.out.alloc (.cells #[.int .i64 (z : Int)] 3))
        have hO6 := own_below hO5 (below1 W5 (.cells #[.int .i64 (z : Int)] 3))
        clear HS5 hO5
        replace HS6 := Lib.hid HS6
        replace hO6 := Lib.hid hO6
        go_wp2_with (at_builtin; go_must (refine wpList_append_own_at _ rfl _ _ 26 rfl (w.heap.size + 1) 3 i0 (.int .i64 0) 1 8 Try.underlying26 hi hz0 hz1 hz2 rfl (by decide) _ _ _ rfl hO6.out ⟨W5.heap.size, 0, none⟩ 1 1 [.int .i64 (z : Int)] rfl rfl ?c1 ?c2 ?c3 ?c4 ?c5 ?_))
        case c1 => exact cell_one_new W5 _ _
        case c2 => intro u hu; simp at hu; subst hu; rfl
        case c3 => unfold maxLen; omega
        case c4 => omega
        case c5 => simp; omega
        intro v1 w7 hown7 hgrow7 _ hat7
        obtain ⟨g2, c2, rfl⟩ := ownsRow_succ hown7
        have hg2 : g2 ≠ g := by
          rcases hat7 with h | h
          · have h2 : g2 = gl := by simpa [Value.ownBlock] using h
            omega
          · have h2 : g2 = (W5.alloc (.cells #[.int .i64 (z : Int)] 3)).heap.size := by simpa [Value.ownBlock] using h
            simp at h2
            omega
        have hb7 : Below (w.heap.size + 1) (W5.alloc (.cells #[.int .i64 (z : Int)] 3)) w7 := (Below.refl _ _).grown hgrow7 (by simp; omega) (fun k e => by cases e; exact hgb)
        have HS7 := HO3 _ _ HS6.out hb7
        have hG7 : Hid (Holds w7 g (icells (inn ds x (st H ds a k) (z + 1)).1).toArray 3) := Lib.hid (by rw [hs2.out]; exact hold_kept hG5.out hgrow7 (fun r e => by cases e; exact hgl.symm))
        have hO7 : Hid (w7.ownsRow (w.heap.size + 1) 3 1 (.slice (some ⟨g2, 0, none⟩) (L.length + 1) c2) (inn ds x (st H ds a k) (z + 1)).2.length (icells (nl (inn ds x (st H ds a k) (z + 1)).2)) ∧ (∀ b, (Value.slice (some ⟨g2, 0, none⟩) (L.length + 1) c2).ownBlock = some b → b ≠ g)) := Lib.hid (by
          rw [hs2.out]
          dsimp only
          rw [nl_snoc, List.length_append, List.length_singleton]
          exact ⟨hown7, fun b hb => by cases hb; exact hg2⟩)
        clear hown7 hgrow7 hat7 hG5 hO6 hs2 hb7 HS6
        go_wp2_with fail
        exact ⟨⟨z + 1, by omega, by go_num, hG7, hO7, HS7⟩, by simp [intOf]; omega⟩
end Go.Proofs.Ytagokcbldkbdmaa.HouDspec

