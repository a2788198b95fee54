/-
  What the law on houses asks of a valid house; what the model draws for it, as a contract: a valid house and two of its halls.
-/
import Derived.Test.YtcfoleiooohbhaaDrawHouse
import Derived.Test.YtcfoleiooohbhaaDrawPoint
import Derived.Test.YtcfoleiooohbhaaHouLevel
import Derived.Test.YtcfoleiooohbhaaHouMathD
import Derived.Test.YtcfoleiooohbhaaHouLink
namespace Go.Proofs.Ytcfoleiooohbhaa.DrawHouses
open Go.RowKit Draw PointOk Blk Pts HouMath HouDrawM RoomRes DrawHouse
open DrawLoan (hgrown hbelow)
open Go.Proofs.Ytcfoleiooohbhaa.Own (own_shape own_base own_empty own_below kept_ne)
open DrawPoint (far_cell)

structure DH (w : World) (cb : Nat) (A : Option Addr) (n cap N : Nat) (ds : List (Int × Int)) (A1 : Option Addr) (c1 g : Nat) (W : World) : Prop where
  h0 : Holds W w.heap.size #[.int .i64 0, .slice none 0 0] 41
  h1 : Holds W g #[.int .i64 (N : Int), .slice A1 ds.length c1] 41
  dr : W.ownsRow (cb + 1) 83 2 (.slice A1 ds.length c1) ds.length (cellsP ds)
  st : St W cb A n cap
  bl : Below w.heap.size w W
theorem DH.grown {w W W' : World} {cb n cap N c1 g : Nat} {A A1 : Option Addr} {ds : List (Int × Int)} (d : DH w cb A n cap N ds A1 c1 g W) (hs : St W' cb A n cap) (hg : W.grownBy W' (some cb)) (h0 : w.heap.size < cb) (h1 : cb < g) : DH w cb A n cap N ds A1 c1 g W' :=
  ⟨hgrown d.h0 hg (by omega), hgrown d.h1 hg (by omega), kept_ne d.dr hg (fun k e => by have := (d.dr.lt k e).1; omega), hs, d.bl.grown hg d.bl.size (fun k e => by injection e with e; omega)⟩
theorem DH.held {w W : World} {cb n cap N c1 g : Nat} {A A1 : Option Addr} {ds : List (Int × Int)} (d : DH w cb A n cap N ds A1 c1 g W) : W.cell? ⟨g, 0, none⟩ = some (.int .i64 (N : Int)) ∧ W.cell? ⟨g, 1, none⟩ = some (.slice A1 ds.length c1) := (Blk.Holds.two d.h1).1
theorem drewSt {W : World} {cb n cap : Nat} {A : Option Addr} (h : St W cb A n cap) : St W.drew cb A n cap := h.kept (row := none) ⟨rfl, rfl, rfl, Nat.le_refl _, fun _ _ _ => rfl⟩ (fun g e => by cases e)

set_option maxRecDepth 100000 in
set_option maxHeartbeats 3200000 in
theorem drawHouse (w : World) (A : Option Addr) (n cap : Nat) (hn : n ≤ 1048576) (hcode : Draw.Code w w.heap.size A n) :
    Calls Try.prog 14 #[.slice A n cap] w fun e w' => ∃ (N a b : Nat) (ds : List (Int × Int)) (A1 : Option Addr) (c1 : Nat), (1 ≤ N ∧ N ≤ 7 ∧ houseB N ds = true ∧ ds.length ≤ 49) ∧ a < N ∧ b < N ∧
      e = .returned (.tuple #[.agg #[.int .i64 (N : Int), .slice A1 ds.length c1], .int .i64 (a : Int), .int .i64 (b : Int)]) ∧ w'.ownsRow w.heap.size 83 2 (.slice A1 ds.length c1) ds.length (cellsP ds) ∧ Below w.heap.size w w' := by
  have hb0 := below1 w (Obj.cells #[.int .i64 0, .slice none 0 0] 41)
  have HC := Lib.hid (DrawPoint.code_more hcode hb0)
  have U2 : Holds (w.alloc (Obj.cells #[.int .i64 0, .slice none 0 0] 41)) w.heap.size #[.int .i64 0, .slice none 0 0] 41 := heap_alloc_new w _
  have hsz0 : (w.alloc (Obj.cells #[.int .i64 0, .slice none 0 0] 41)).heap.size = w.heap.size + 1 := by simp
  clear hcode
  go_enter Try.func14, Try.ntmps14
  go_wp2_with fail
  generalize (w.alloc (Obj.cells #[.int .i64 0, .slice none 0 0] 41)) = W0 at *
  refine (newCur _ A n cap hn HC.out).mono ?_
  rintro e w1 ⟨rfl, hs1, hb1⟩
  replace U2 := hbelow U2 hb1 (by omega)
  have hb01 := hb0.trans (hb1.mono hb0.size)
  have hz1 := hs1.lt
  rw [hsz0] at hs1 hz1 ⊢
  clear HC hb1 hb0 hsz0
  go_wp2_with fail
  refine (house _ _ A n cap hs1).mono ?_
  rintro e w2 ⟨N, ds, A1, c1, ⟨hN1, hN7, hv, hd⟩, rfl, ho, hs2, hg2⟩
  replace U2 := hgrown U2 hg2 (by omega)
  have hb02 := hb01.grown hg2 (by omega) (fun k e => by injection e with e; omega)
  have hz2 := hs2.lt
  have hz21 := hg2.size
  clear hs1 hg2 hb01
  go_wp2_with fail
  have T6 : Holds (w2.alloc (Obj.cells #[.int .i64 (N : Int), .slice A1 ds.length c1] 41)) w2.heap.size #[.int .i64 (N : Int), .slice A1 ds.length c1] 41 := heap_alloc_new _ _
  have hal := below1 w2 (Obj.cells #[.int .i64 (N : Int), .slice A1 ds.length c1] 41)
  have D0 : DH w (w.heap.size + 1) A n cap N ds A1 c1 w2.heap.size (w2.alloc (Obj.cells #[.int .i64 (N : Int), .slice A1 ds.length c1] 41)) :=
    ⟨hbelow U2 hal (by omega), T6, own_base (own_below ho hal) (by omega), hs2.alloc _, hb02.trans (hal.mono hb02.size)⟩
  generalize (w2.alloc (Obj.cells #[.int .i64 (N : Int), .slice A1 ds.length c1] 41)) = V2 at *
  clear U2 T6 hal ho hs2 hb02
  obtain ⟨g, hg⟩ : ∃ g, w2.heap.size = g := ⟨_, rfl⟩
  rw [hg] at D0 hz2 hz21 ⊢
  clear hg hz21
  have n2 : ¬ g = w.heap.size := by omega
  have D1 : DH w (w.heap.size + 1) A n cap N ds A1 c1 g V2.drew := ⟨D0.h0, D0.h1, D0.dr, drewSt D0.st, D0.bl.drew⟩
  have HS := D1.held
  have HF : ∀ (W : World) (k : Nat), ¬ g = k → (W.cell? ⟨g, 0, none⟩ = some (.int .i64 (N : Int)) ∧ W.cell? ⟨g, 1, none⟩ = some (.slice A1 ds.length c1)) → ∀ x0 x1, ((W.setCell ⟨k, 0, none⟩ x0).setCell ⟨k, 1, none⟩ x1).cell? ⟨g, 0, none⟩ = some (.int .i64 (N : Int)) ∧ ((W.setCell ⟨k, 0, none⟩ x0).setCell ⟨k, 1, none⟩ x1).cell? ⟨g, 1, none⟩ = some (.slice A1 ds.length c1) := by
    rintro W k h2 ⟨s1, s2⟩ x0 x1
    exact ⟨far_cell (far_cell s1 h2) h2, far_cell (far_cell s2 h2) h2⟩
  have hNI : (0 : Int) < (N : Int) := by omega
  clear D0
  go_region_held3 (fun w' => w'.cell? ⟨g, 0, none⟩ = some (.int .i64 (N : Int)) ∧ w'.cell? ⟨g, 1, none⟩ = some (.slice A1 ds.length c1)) (first | (with_reducible exact HF _ _ (by assumption) (by assumption) _ _) | (with_reducible assumption) | (with_reducible exact HS)) (first | (go_at_call 37; (with_reducible refine (below _ _ A n cap D1.st (N : Int) hNI).mono ?_); rintro e w3 ⟨x, ⟨hx0, hx1⟩, rfl, hs3, hg3⟩; have D2 := D1.grown hs3 hg3 (by omega) hz2; have HS2 := D2.held; clear D1) | (go_at_call 37; (with_reducible refine (below _ _ A n cap D2.st (N : Int) hNI).mono ?_); rintro e w4 ⟨y, ⟨hy0, hy1⟩, rfl, hs4, hg4⟩; have D3 := D2.grown hs4 hg4 (by omega) hz2; have HS3 := D3.held; have F2 := Blk.Holds.two D3.h0; clear D2))
  clear F2 HS HS2 HS3 HF hs3 hg3 hs4 hg4
  obtain ⟨a, rfl⟩ := Int.eq_ofNat_of_zero_le hx0
  obtain ⟨b, rfl⟩ := Int.eq_ofNat_of_zero_le hy0
  have e1 := Blk.set_own D3.h0 0 (.int .i64 (N : Int))
  have e2 := Blk.set_own e1 1 (.slice A1 ds.length c1)
  obtain ⟨⟨r0_, r1_⟩, _⟩ := Blk.Holds.two e2
  have XB := (D3.bl.setCell (p := ⟨w.heap.size, 0, none⟩) (show w.heap.size ≤ w.heap.size by omega) (.int .i64 (N : Int))).setCell (p := ⟨w.heap.size, 1, none⟩) (show w.heap.size ≤ w.heap.size by omega) (.slice A1 ds.length c1)
  have XO := Lib.hid (own_base (RoomRes.own_set (RoomRes.own_set D3.dr w.heap.size 0 (.int .i64 (N : Int)) (by omega)) w.heap.size 1 (.slice A1 ds.length c1) (by omega)) (show w.heap.size ≤ w.heap.size + 1 + 1 by omega))
  clear D3 e1 e2
  go_wp2_with fail
  refine bodyPost_ret (v := .tuple #[.agg #[.int .i64 (N : Int), .slice A1 ds.length c1], .int .i64 (a : Int), .int .i64 (b : Int)]) (by simp [results, Try.results14, go_sem, r0_, r1_]) rfl ⟨N, a, b, ds, A1, c1, ⟨hN1, hN7, hv, hd⟩, by omega, by omega, rfl, XO.out, XB⟩
section
open HouMath HouMathB HouMathD HouSeq HouReach HouLink HouLevel
theorem hall_ok {N a : Nat} {ds : List (Int × Int)} (hv : houseB N ds = true) (ha : a < N) : hallOf N ds a = true := by
  unfold hallOf inH
  rw [hv, Bool.true_and]
  apply decide_eq_true
  omega
theorem way_at {N a b : Nat} {ds : List (Int × Int)} (hv : houseB N ds = true) (ha : a < N) (hb : b < N) : hallDistI N ds a b = (dist N ds a).getD b 0 :=
  hallDist_yes (by rw [hall_ok hv ha, hall_ok hv hb]; rfl)
theorem doors_at {N a k : Nat} {ds : List (Int × Int)} (hv : houseB N ds = true) (ha : a < N) (hk : k < N) : hasDoorB N ds a k = decide ((k : Int) ∈ doorsL N ds a) := by
  rw [doors_yes (hall_ok hv ha)]
  unfold hasDoorB nb ci
  rw [hv, Bool.true_and, isDoor_comm, Bool.eq_iff_iff, decide_eq_true_eq, List.mem_map]
  constructor
  · intro h
    exact ⟨k, List.mem_filter.2 ⟨List.mem_range.2 hk, h⟩, rfl⟩
  · rintro ⟨j, hj, e⟩
    have : j = k := by omega
    subst this
    exact (List.mem_filter.1 hj).2
theorem all_len (N : Nat) : (ci (List.range N)).length = N := by simp [ci]
theorem all_mem {N : Nat} {x : Int} : x ∈ ci (List.range N) ↔ 0 ≤ x ∧ x < N := by
  unfold ci
  rw [List.mem_map]
  constructor
  · rintro ⟨j, hj, rfl⟩
    have := List.mem_range.1 hj
    omega
  · rintro ⟨h1, h2⟩
    exact ⟨x.toNat, List.mem_range.2 (by omega), by omega⟩
theorem all_snoc (k : Nat) : ci (List.range (k + 1)) = ci (List.range k) ++ [(k : Int)] := by
  unfold ci; rw [List.range_succ, List.map_append]; rfl
theorem all_linked {N : Nat} {ds : List (Int × Int)} (hv : houseB N ds = true) (h1 : 1 ≤ N) : linkedB N ds (ci (List.range N)) = true := by
  have hf : HForm N ds := house_form hv
  have hh : hallsB N (ci (List.range N)) = true := by
    unfold hallsB inH
    rw [List.all_eq_true]
    intro x hx
    have := all_mem.1 hx
    rw [Bool.and_eq_true, decide_eq_true_eq, decide_eq_true_eq]
    exact this
  have h0 : (ci (List.range N)).getD 0 0 = ((0 : Nat) : Int) := by
    obtain ⟨M, rfl⟩ : ∃ M, N = M + 1 := ⟨N - 1, by omega⟩
    unfold ci
    rw [List.range_succ_eq_map]
    rfl
  have hown : ownD ds (ci (List.range N)) = ds := by
    unfold ownD
    rw [List.filter_eq_self]
    intro d hd
    have := hf.mem d hd
    rw [Bool.and_eq_true, List.contains_iff_mem, List.contains_iff_mem, all_mem, all_mem]
    omega
  rw [linked_own (by rw [hv, hh]; rfl) (by rw [all_len]; omega) h0, hown]
  rw [Bool.not_eq_true', List.any_eq_false]
  intro k hk
  have hk2 := List.mem_range.1 hk
  rw [all_len] at hk2
  have : (ci (List.range N)).getD k 0 = (k : Int) := by
    unfold ci
    rw [List.getD_eq_getElem?_getD, List.getElem?_map, List.getElem?_range hk2]
    rfl
  rw [this]
  have := house_dist hv (show 0 < N by omega) hk2
  simp only [decide_eq_true_eq, Int.toNat_natCast]
  omega
end
end Go.Proofs.Ytcfoleiooohbhaa.DrawHouses
