/-
  Houses that the model draws, as contracts: a valid house; two of its halls.
-/
import Derived.Test.YtcfoleiooohbhaaDrawBig
import Derived.Test.YtcfoleiooohbhaaDrawLoan
import Derived.Test.YtcfoleiooohbhaaHouDrawM
import Derived.Test.YtcfoleiooohbhaaLawInt
import Derived.Test.YtcfoleiooohbhaaRoomRes
namespace Go.Proofs.Ytcfoleiooohbhaa.DrawHouse
open Go.RowKit Draw PointOk Blk Pts HouMath HouDrawM RoomRes
open DrawLoan (hgrown hbelow)
open DrawPoint (grown_own)
open Go.Proofs.Ytcfoleiooohbhaa.Own (own_shape own_base own_empty own_below kept_ne)
open LawInt (own_cellN)

def bcells (l : List Bool) : List Value := l.map Value.bool
theorem bcells_len (l : List Bool) : (bcells l).length = l.length := by simp [bcells]
theorem bcells_at {l : List Bool} {p : Nat} (h : p < l.length) : (bcells l)[p]? = some (.bool (l.getD p false)) := by
  unfold bcells
  rw [List.getElem?_map, List.getElem?_eq_getElem h, List.getD_eq_getElem?_getD, List.getElem?_eq_getElem h]; rfl
theorem bcells_set (l : List Bool) (p : Nat) : (bcells l).set p (.bool true) = bcells (l.set p true) := by unfold bcells; rw [List.map_set]
theorem apart {w : World} {b sz n k : Nat} {T T2 : TypeId} {v : Value} {xs : List Value} {cs : Array Value} (h : w.ownsRow b T sz v n xs) (h2 : Holds w k cs T2) (ht : T ≠ T2) : ∀ g, v.ownBlock = some g → g ≠ k := by
  intro g hg e
  subst e
  rcases h.2 with ⟨rfl, _⟩ | ⟨g', cap', cur, rfl, _, hh, _⟩
  · cases hg
  · injection hg with hg
    have hg : g' = g := hg
    subst hg
    unfold Holds at h2
    rw [hh] at h2
    injection h2 with h2
    injection h2 with _ h2
    exact ht h2
theorem rows_apart {w : World} {b b2 sz sz2 n n2 : Nat} {T T2 : TypeId} {v v2 : Value} {xs ys : List Value} (h : w.ownsRow b T sz v n xs) (h2 : w.ownsRow b2 T2 sz2 v2 n2 ys) (ht : T ≠ T2) : ∀ i j, v.ownBlock = some i → v2.ownBlock = some j → i ≠ j := by
  intro i j hi hj e
  subst e
  rcases h.2 with ⟨rfl, _⟩ | ⟨g', cap', cur, rfl, _, hh, _⟩
  · cases hi
  · rcases h2.2 with ⟨rfl, _⟩ | ⟨g2, cap2, cur2, rfl, _, hh2, _⟩
    · cases hj
    · have hi : g' = i := by injection hi
      have hj : g2 = i := by injection hj
      subst hi hj
      rw [hh] at hh2
      injection hh2 with hh2
      injection hh2 with _ hh2
      exact ht hh2
/-- The table has a door from each hall below k to one before it. -/
def Ways (wi : List Bool) (k : Nat) : Prop := ∀ i, 1 ≤ i → i < k → ∃ j, j < i ∧ wi.getD (j * 7 + i) false = true
theorem Ways.set {wi : List Bool} {k p : Nat} (h : Ways wi k) : Ways (wi.set p true) k := fun i h1 h2 => by
  obtain ⟨j, h3, h4⟩ := h i h1 h2
  exact ⟨j, h3, keep h4⟩
theorem Ways.add {wi : List Bool} {k j : Nat} (h : Ways wi k) (hj : j < k) (hl : j * 7 + k < wi.length) : Ways (wi.set (j * 7 + k) true) (k + 1) := fun i h1 h2 => by
  rcases Nat.lt_or_ge i k with h3 | h3
  · exact h.set i h1 h3
  · obtain rfl : i = k := by omega
    exact ⟨j, hj, new hl⟩
theorem tab0 (N : Nat) : Tab N 0 (List.replicate 49 false) [] := ⟨by simp, Nat.le_refl _, fun p hp h => by
  rw [List.getD_eq_getElem?_getD, List.getElem?_replicate] at h
  rw [if_pos hp] at h
  cases h⟩
theorem made49 : (madeCells #[Value.bool false] 49).toList = bcells (List.replicate 49 false) := by kernel_rfl
theorem infoB : (Try.prog.info? 4).map (fun i => (i.zero, i.size, i.bytes)) = some (some (.bool false), 1, 1) := by kernel_rfl
theorem infoD : (Try.prog.info? 83).map (fun i => (i.zero, i.size, i.bytes)) = some (some (.agg #[.int .i64 0, .int .i64 0]), 2, 16) := by kernel_rfl

/-- What stands while the house is drawn: two houses' blocks, the table, the cursor. -/
structure Dr (w : World) (cb : Nat) (A : Option Addr) (n cap g2 g3 gw N : Nat) (wi : List Bool) (W : World) : Prop where
  h2 : Holds W g2 #[.int .i64 0, .slice none 0 0] 41
  h3 : Holds W g3 #[.int .i64 (N : Int), .slice none 0 0] 41
  tb : W.ownsRow w.heap.size 4 1 (.slice (some ⟨gw, 0, none⟩) 49 49) 49 (bcells wi)
  st : St W cb A n cap
  gr : w.grownBy W (some cb)
theorem Dr.grown {w W W' : World} {cb n cap g2 g3 gw N : Nat} {A : Option Addr} {wi : List Bool} (d : Dr w cb A n cap g2 g3 gw N wi W) (hs : St W' cb A n cap) (hg : W.grownBy W' (some cb)) (h2 : g2 ≠ cb) (h3 : g3 ≠ cb) (hw : gw ≠ cb) : Dr w cb A n cap g2 g3 gw N wi W' :=
  ⟨hgrown d.h2 hg h2, hgrown d.h3 hg h3, kept_ne d.tb hg (fun g e => by have e_ : some gw = some g := e; injection e_ with e_; omega), hs, grown_trans d.gr hg⟩
theorem Dr.put {w W : World} {cb n cap g2 g3 gw N : Nat} {A : Option Addr} {wi : List Bool} (d : Dr w cb A n cap g2 g3 gw N wi W) (p : Nat) (hcb : cb < gw) (hw : w.heap.size ≤ gw) : Dr w cb A n cap g2 g3 gw N (wi.set p true) (W.setCell ⟨gw, p, none⟩ (.bool true)) := by
  have hst := d.tb.stored p (.bool true)
  rw [bcells_set] at hst
  have n2 := apart d.tb d.h2 (by decide) gw rfl
  have n3 := apart d.tb d.h3 (by decide) gw rfl
  exact ⟨d.h2.far ⟨gw, p, none⟩ _ (fun e => n2 e.symm), d.h3.far ⟨gw, p, none⟩ _ (fun e => n3 e.symm), hst.1, d.st.kept hst.2 (fun g e => by injection e with e; omega), grown_own d.gr ⟨gw, p, none⟩ hw _⟩
theorem Dr.cell {w W : World} {cb n cap g2 g3 gw N : Nat} {A : Option Addr} {wi : List Bool} (d : Dr w cb A n cap g2 g3 gw N wi W) (hl : wi.length = 49) {p : Nat} (hp : p < 49) : W.cell? ⟨gw, p, none⟩ = some (.bool (wi.getD p false)) ∧ W.frozen? ⟨gw, p, none⟩ = false := by
  obtain ⟨g, hA, _, _, h1, h2⟩ := own_cellN d.tb (by omega) (j := p) (by rw [bcells_len]; omega) (bcells_at (by omega))
  injection hA with hA
  injection hA with hA
  subst hA
  exact ⟨h1, h2⟩
/-- What stands while the doors are gathered. -/
structure Dd (w : World) (cb : Nat) (A : Option Addr) (n cap g2 g3 gw N : Nat) (wi : List Bool) (A1 : Option Addr) (c1 : Nat) (d : List (Int × Int)) (W : World) : Prop where
  h2 : Holds W g2 #[.int .i64 0, .slice none 0 0] 41
  h3 : Holds W g3 #[.int .i64 (N : Int), .slice A1 d.length c1] 41
  tb : W.ownsRow w.heap.size 4 1 (.slice (some ⟨gw, 0, none⟩) 49 49) 49 (bcells wi)
  dr : W.ownsRow w.heap.size 83 2 (.slice A1 d.length c1) d.length (cellsP d)
  st : St W cb A n cap
  gr : w.grownBy W (some cb)
theorem Dr.doors {w W : World} {cb n cap g2 g3 gw N : Nat} {A : Option Addr} {wi : List Bool} (d : Dr w cb A n cap g2 g3 gw N wi W) : Dd w cb A n cap g2 g3 gw N wi none 0 [] W :=
  ⟨d.h2, d.h3, d.tb, World.ownsRow_nil _ _ _ _, d.st, d.gr⟩
theorem Dd.cell {w W : World} {cb n cap g2 g3 gw N c1 : Nat} {A A1 : Option Addr} {wi : List Bool} {l : List (Int × Int)} (d : Dd w cb A n cap g2 g3 gw N wi A1 c1 l W) (hl : wi.length = 49) {p : Nat} (hp : p < 49) : W.cell? ⟨gw, p, none⟩ = some (.bool (wi.getD p false)) := by
  obtain ⟨g, hA, _, _, h1, h2⟩ := own_cellN d.tb (by omega) (j := p) (by rw [bcells_len]; omega) (bcells_at (by omega))
  injection hA with hA
  injection hA with hA
  subst hA
  exact h1
theorem Dd.alloc {w W : World} {cb n cap g2 g3 gw N c1 : Nat} {A A1 : Option Addr} {wi : List Bool} {l : List (Int × Int)} (d : Dd w cb A n cap g2 g3 gw N wi A1 c1 l W) (o : Obj) : Dd w cb A n cap g2 g3 gw N wi A1 c1 l (W.alloc o) :=
  ⟨d.h2.later (below1 W o), d.h3.later (below1 W o), own_below d.tb (below1 W o), own_below d.dr (below1 W o), d.st.alloc o, grown_alloc d.gr o⟩
theorem Dd.push {w W wa : World} {cb n cap g2 g3 gw N c1 g cp : Nat} {A A1 : Option Addr} {wi : List Bool} {l : List (Int × Int)} {e : Int × Int} (d : Dd w cb A n cap g2 g3 gw N wi A1 c1 l W) (hg : W.grownBy wa (Value.slice A1 l.length c1).ownBlock)
    (ho : wa.ownsRow w.heap.size 83 2 (.slice (some ⟨g, 0, none⟩) (l.length + 1) cp) (l.length + 1) (cellsP l ++ cellsP [e])) (hcb : cb < w.heap.size) (h23 : g2 ≠ g3) (hw3 : w.heap.size ≤ g3) :
    Dd w cb A n cap g2 g3 gw N wi (some ⟨g, 0, none⟩) cp (l ++ [e]) (wa.setCell ⟨g3, 1, none⟩ (.slice (some ⟨g, 0, none⟩) (l.length + 1) cp)) := by
  have n2 := apart d.dr d.h2 (by decide)
  have n3 := apart d.dr d.h3 (by decide)
  have hlen : (l ++ [e]).length = l.length + 1 := by simp
  have h2 : Holds wa g2 #[.int .i64 0, .slice none 0 0] 41 := (hg.block g2 d.h2.lt (fun e => n2 g2 e.symm rfl)).trans d.h2
  have h3 : Holds wa g3 #[.int .i64 (N : Int), .slice A1 l.length c1] 41 := (hg.block g3 d.h3.lt (fun e => n3 g3 e.symm rfl)).trans d.h3
  have htb := Own.kept_apart d.tb hg (rows_apart d.tb d.dr (by decide))
  have hst := d.st.kept hg (fun g hg => by have := (d.dr.lt g hg).1; omega)
  have hgr : w.grownBy wa (some cb) := ⟨hg.os.trans d.gr.os, hg.tape.trans d.gr.tape, hg.output.trans d.gr.output, Nat.le_trans d.gr.size hg.size, fun i hi2 hne => (hg.block i (Nat.lt_of_lt_of_le hi2 d.gr.size) (fun e => by have := (d.dr.lt i e.symm).1; omega)).trans (d.gr.block i hi2 hne)⟩
  have hgs := grown_set wa g3 1 (.slice (some ⟨g, 0, none⟩) (l.length + 1) cp)
  refine ⟨h2.far ⟨g3, 1, none⟩ _ h23, ?_, kept_ne htb hgs (apart htb h3 (by decide)), ?_, hst.kept hgs (fun g e => by injection e with e; omega), grown_own hgr ⟨g3, 1, none⟩ hw3 _⟩
  · rw [hlen]; exact Blk.set_own h3 1 _
  · rw [hlen, cellsP_app]
    exact kept_ne ho hgs (apart ho h3 (by decide))
theorem fT_is {N : Nat} {wi : List Bool} {a b : Nat} (hab : a < b) (hb : b < N) (h7 : N ≤ 7) : fT N wi (a * 7 + b) = wi.getD (a * 7 + b) false := by
  unfold fT
  rw [decide_eq_true (by omega), decide_eq_true (by omega), Bool.and_true, Bool.and_true]
theorem fT_no {N : Nat} {wi : List Bool} {p : Nat} (h : ¬ (p / 7 < p % 7 ∧ p % 7 < N)) : fT N wi p = false := by
  unfold fT
  by_cases h1 : p / 7 < p % 7
  · rw [decide_eq_false (fun h2 => h ⟨h1, h2⟩), Bool.and_false]
  · rw [decide_eq_false h1, Bool.and_false]; rfl

/-- A drawn house came back: valid, its doors in a row of the call's own. -/
def HouP (w : World) (cb : Nat) (A : Option Addr) (n cap : Nat) (e : Ending) (w' : World) : Prop :=
  ∃ (N : Nat) (ds : List (Int × Int)) (A1 : Option Addr) (c1 : Nat), (1 ≤ N ∧ N ≤ 7 ∧ houseB N ds = true ∧ ds.length ≤ 49) ∧ e = .returned (.agg #[.int .i64 (N : Int), .slice A1 ds.length c1]) ∧ w'.ownsRow w.heap.size 83 2 (.slice A1 ds.length c1) ds.length (cellsP ds) ∧ St w' cb A n cap ∧ w.grownBy w' (some cb)

set_option maxRecDepth 100000 in
set_option maxHeartbeats 6400000 in
theorem house (w : World) (cb : Nat) (A : Option Addr) (n cap : Nat) (hs : St w cb A n cap) :
    Calls Try.prog 36 #[.pointer (some ⟨cb, 0, none⟩)] w (HouP w cb A n cap) := by
  obtain ⟨i0, hi, iz0, iz1, iz2⟩ := info_parts infoB
  obtain ⟨j0, hj, jz0, jz1, jz2⟩ := info_parts infoD
  have hcb := hs.lt
  go_enter Try.func36, Try.ntmps36
  go_wp2_with fail
  have H2 : Holds (w.alloc (Obj.cells #[.int .i64 0, .slice none 0 0] 41)) w.heap.size #[.int .i64 0, .slice none 0 0] 41 := heap_alloc_new w _
  refine (below _ cb A n cap (hs.alloc _) 7 (by omega)).mono ?_
  rintro e w1 ⟨x, ⟨hx0, hx1⟩, rfl, hs1, hg1⟩
  obtain ⟨N, hN⟩ : ∃ N : Nat, 1 + x = (N : Int) := ⟨(1 + x).toNat, by omega⟩
  have uN : IntKind.i64.wrap (1 + x) = (N : Int) := by rw [hN]; exact IntWalk.i64_in _ (by omega)
  have hN1 : 1 ≤ N := by omega
  have hN7 : N ≤ 7 := by omega
  replace H2 := hgrown H2 hg1 (by omega)
  have hz1 : w.heap.size < w1.heap.size := H2.lt
  have G1 : w.grownBy w1 (some cb) := grown_trans (grown_alloc (World.grownBy.refl w _) _) hg1
  have H3 : Holds (w1.alloc (Obj.cells #[.int .i64 (N : Int), .slice none 0 0] 41)) w1.heap.size #[.int .i64 (N : Int), .slice none 0 0] 41 := heap_alloc_new w1 _
  have b1 := below1 w1 (Obj.cells #[.int .i64 (N : Int), .slice none 0 0] 41)
  have H2b := hbelow H2 b1 hz1
  have hs2 := hs1.alloc (Obj.cells #[.int .i64 (N : Int), .slice none 0 0] 41)
  have G2 := grown_alloc G1 (Obj.cells #[.int .i64 (N : Int), .slice none 0 0] 41)
  have hz2 := H3.lt
  clear hg1 H2 hs1 G1 b1 hs hN
  obtain ⟨g3, hg3⟩ : ∃ g, w1.heap.size = g := ⟨_, rfl⟩
  rw [hg3] at H3 hz1 hz2
  have hcb3 : cb < g3 := by rw [← hg3]; omega
  have hzV : (w1.alloc (Obj.cells #[.int .i64 (N : Int), .slice none 0 0] 41)).heap.size = g3 + 1 := by rw [← hg3]; simp
  have hbase : w.heap.size ≤ (w1.alloc (Obj.cells #[.int .i64 (N : Int), .slice none 0 0] 41)).heap.size := G2.size
  have hg3b := hg3
  clear hg3
  go_wp2_with (at_make; go_must (refine wpList_make_full _ rfl _ _ 95 rfl w.heap.size 4 i0 (.bool false) 1 Try.underlying95 hi iz0 iz1 _ _ _ _ 49 rfl rfl (by omega) (by omega) ?b2 ?b3 hbase ?_))
  case b2 => rw [iz2]; omega
  case b3 => unfold maxLen; omega
  intro wt OT hgrT
  generalize (w1.alloc (Obj.cells #[.int .i64 (N : Int), .slice none 0 0] 41)) = V1 at *
  try rw [hg3b]
  have bT : Below V1.heap.size V1 wt := Below.grown (Below.refl _ _) hgrT (Nat.le_refl _) (fun g' hg' => by cases hg')
  rw [made49] at OT
  have hcbw : cb < g3 + 1 := by omega
  have hww : w.heap.size ≤ g3 + 1 := by omega
  have bG : ∀ row, V1.grownBy wt row := fun row => ⟨bT.os, bT.tape, bT.output, bT.size, fun k hk _ => bT.block k hk⟩
  have D0 : Dr w cb A n cap w.heap.size g3 (g3 + 1) N (List.replicate 49 false) wt := ⟨H2b.later bT, H3.later bT, OT, hs2.kept (bG none) (fun g e => by cases e), grown_trans G2 (bG _)⟩
  have T0 := Lib.hid (tab0 N)
  have W0 : Hid (Ways (List.replicate 49 false) 1) := Lib.hid (fun i h1 h2 => absurd h1 (by omega))
  replace D0 := Lib.hid D0
  have hg3w : g3 ≠ g3 + 1 := by omega
  generalize List.replicate 49 false = wi0 at *
  generalize g3 + 1 = gw at *
  clear H2b H3 OT hgrT bT hs2 G2 hzV hbase hz2 bG hg3b
  go_wp2_with fail
  go_loopw [5] (fun q wr => ∃ (k : Nat) (wi : List Bool) (P : List Nat), 1 ≤ k ∧ k ≤ N ∧ q = .int .i64 k ∧ Hid (Tab N (k - 1) wi P) ∧ Hid (Ways wi k) ∧ Hid (Dr w cb A n cap w.heap.size g3 gw N wi wr)) (fun q _ => N - (intOf q).toNat)
  case atStart => exact ⟨1, wi0, [], Nat.le_refl _, hN1, rfl, T0, W0, D0⟩
  case round =>
    clear T0 W0 D0
    obtain ⟨k, wi, P, hk1, hkN, rfl, hT, hW, hD⟩ := hrel
    obtain ⟨⟨c0, c1⟩, _⟩ := hD.out.h3.two
    by_cases hlt : k < N
    · have hkI : (k : Int) < (N : Int) := by omega
      have hst := hD.out.st
      go_wp2_with fail
      refine (below _ cb A n cap hst (k : Int) (by omega)).mono ?_
      rintro e w2 ⟨y, ⟨hy0, hy1⟩, rfl, hs2, hg2⟩
      obtain ⟨j, rfl⟩ := Int.eq_ofNat_of_zero_le hy0
      have hjk : j < k := by omega
      have hD2 := hD.out.grown hs2 hg2 (by omega) (by omega) (by omega)
      have u1 : IntKind.i64.wrap ((j : Int) * 7) = (j : Int) * 7 := IntWalk.i64_in _ (by omega)
      obtain ⟨p, hp⟩ : ∃ p, j * 7 + k = p := ⟨_, rfl⟩
      have u2 : IntKind.i64.wrap ((j : Int) * 7 + (k : Int)) = (p : Int) := by rw [IntWalk.i64_in _ (by omega)]; omega
      have hp49 : p < 49 := by omega
      have hpI : (p : Int) < 49 := by omega
      have hpI0 : (0 : Int) ≤ (p : Int) := by omega
      obtain ⟨d1, d2⟩ := hD2.cell hT.out.len hp49
      have hD3 := Lib.hid (hD2.put p hcbw hww)
      have hT3 : Hid (Tab N (k + 1 - 1) (wi.set p true) (p :: P)) := Lib.hid (by have := hT.out.set p; rw [show k - 1 + 1 = k + 1 - 1 by omega] at this; exact this)
      have hW3 : Hid (Ways (wi.set p true) (k + 1)) := Lib.hid (by rw [← hp]; exact hW.out.add hjk (by rw [hT.out.len]; omega))
      clear hD hD2 hst hs2 hg2 hT hW c0 c1 hp
      generalize wi.getD p false = bv at *
      go_wp2_with fail
      first
        | exact ⟨⟨k + 1, _, _, by omega, by omega, by go_num, hT3, hW3, hD3⟩, by simp [intOf] <;> omega⟩
        | (go_roundw <;> first | exact ⟨k + 1, _, _, by omega, by omega, by go_num, hT3, hW3, hD3⟩ | (simp [intOf] <;> omega))
    obtain rfl : k = N := by omega
    have hst := hD.out.st
    go_wp2_with fail
    refine (below _ cb A n cap hst 4 (by omega)).mono ?_
    rintro e w2 ⟨y, ⟨hy0, hy1⟩, rfl, hs2, hg2⟩
    obtain ⟨c4, rfl⟩ := Int.eq_ofNat_of_zero_le hy0
    have hc3 : c4 ≤ 3 := by omega
    have hD2 := Lib.hid (hD.out.grown hs2 hg2 (by omega) (by omega) (by omega))
    clear hD hst hs2 hg2 c0 c1
    go_wp2_with fail
    go_loopw [6] (fun q wr => ∃ (c : Nat) (wi : List Bool) (P : List Nat), c ≤ 3 ∧ q = .int .i64 c ∧ Hid (Tab k (9 - c) wi P) ∧ Hid (Ways wi k) ∧ Hid (Dr w cb A n cap w.heap.size g3 gw k wi wr)) (fun q _ => (intOf q).toNat)
    case atStart => exact ⟨c4, wi, P, hc3, rfl, Lib.hid ⟨hT.out.len, by have := hT.out.few; omega, hT.out.sub⟩, hW, hD2⟩
    case round =>
      clear hT hW hD2
      obtain ⟨c, wi, P, hc, rfl, hT, hW, hD⟩ := hrel
      obtain ⟨⟨c0, c1⟩, _⟩ := hD.out.h3.two
      by_cases hgo : 0 < c ∧ 2 < k
      · have hcI : (0 : Int) < (c : Int) := by omega
        have hkI : (2 : Int) < (k : Int) := by omega
        have hst := hD.out.st
        have uk : IntKind.i64.wrap ((k : Int) - 1) = (k : Int) - 1 := IntWalk.i64_in _ (by omega)
        go_wp2_with fail
        refine (below _ cb A n cap hst ((k : Int) - 1) (by omega)).mono ?_
        rintro e w3 ⟨y, ⟨hy0, hy1⟩, rfl, hs3, hg3⟩
        obtain ⟨b, hb⟩ : ∃ b : Nat, 1 + y = (b : Int) := ⟨(1 + y).toNat, by omega⟩
        have ub : IntKind.i64.wrap (1 + y) = (b : Int) := by rw [hb]; exact IntWalk.i64_in _ (by omega)
        have hD3 := Lib.hid (hD.out.grown hs3 hg3 (by omega) (by omega) (by omega))
        have hst3 := hD3.out.st
        clear hst hs3 hg3 hD c0 c1
        go_wp2_with fail
        refine (below _ cb A n cap hst3 (b : Int) (by omega)).mono ?_
        rintro e w4 ⟨z, ⟨hz0, hz1⟩, rfl, hs4, hg4⟩
        obtain ⟨j, rfl⟩ := Int.eq_ofNat_of_zero_le hz0
        have hD4 := hD3.out.grown hs4 hg4 (by omega) (by omega) (by omega)
        have u1 : IntKind.i64.wrap ((j : Int) * 7) = (j : Int) * 7 := IntWalk.i64_in _ (by omega)
        obtain ⟨p, hp⟩ : ∃ p, j * 7 + b = p := ⟨_, rfl⟩
        have u2 : IntKind.i64.wrap ((j : Int) * 7 + (b : Int)) = (p : Int) := by rw [IntWalk.i64_in _ (by omega)]; omega
        have hp49 : p < 49 := by omega
        have hpI : (p : Int) < 49 := by omega
        have hpI0 : (0 : Int) ≤ (p : Int) := by omega
        obtain ⟨d1, d2⟩ := hD4.cell hT.out.len hp49
        have hD5 := Lib.hid (hD4.put p hcbw hww)
        have hT5 : Hid (Tab k (9 - (c - 1)) (wi.set p true) (p :: P)) := Lib.hid (by have := hT.out.set p; rw [show 9 - c + 1 = 9 - (c - 1) by omega] at this; exact this)
        have hW5 : Hid (Ways (wi.set p true) k) := Lib.hid hW.out.set
        have uc : IntKind.i64.wrap ((c : Int) - 1) = ((c - 1 : Nat) : Int) := by rw [IntWalk.i64_in _ (by omega)]; omega
        clear hD3 hD4 hst3 hs4 hg4 hT hW hp hb
        generalize wi.getD p false = bv at *
        go_wp2_with fail
        first
          | exact ⟨⟨c - 1, _, _, by omega, rfl, hT5, hW5, hD5⟩, by simp [intOf] <;> omega⟩
          | (go_roundw <;> first | exact ⟨c - 1, _, _, by omega, by go_num, hT5, hW5, hD5⟩ | (simp [intOf] <;> omega))
      · have hD0 : Hid (Dd w cb A n cap w.heap.size g3 gw k wi none 0 (doorT k wi (0 * 7)) wr) := Lib.hid hD.out.doors
        rcases (by omega : ¬ 0 < c ∨ (0 < c ∧ ¬ 2 < k)) with hx | ⟨hx, hy⟩
        · have hxI : ¬ (0 : Int) < (c : Int) := by omega
          clear hD hc
          go_wp2_with fail
          go_loopw [8] (fun q wr => ∃ (a : Nat) (A1 : Option Addr) (c1 : Nat), a ≤ k ∧ q = .int .i64 a ∧ Hid (Dd w cb A n cap w.heap.size g3 gw k wi A1 c1 (doorT k wi (a * 7)) wr)) (fun q _ => k - (intOf q).toNat)
          case atStart => exact ⟨0, none, 0, Nat.zero_le _, rfl, hD0⟩
          case round =>
            clear hD0
            obtain ⟨a, A1, c1, hak, rfl, hD⟩ := hrel
            obtain ⟨⟨c0, c1_⟩, _⟩ := hD.out.h3.two
            by_cases hlt : a < k
            · have haI : (a : Int) < (k : Int) := by omega
              have ua : IntKind.i64.wrap ((a : Int) + 1) = ((a + 1 : Nat) : Int) := by rw [IntWalk.i64_in _ (by omega)]; omega
              have hS : Hid (doorT k wi (a * 7 + (a + 1)) = doorT k wi (a * 7)) := Lib.hid (doorT_same (fun p h1 h2 => fT_no (by omega)))
              rw [← hS.out] at hD
              clear hS c1_
              go_wp2_with fail
              go_loopw [9] (fun q wr => ∃ (b : Nat) (A1 : Option Addr) (c1 : Nat), a + 1 ≤ b ∧ b ≤ k ∧ q = .int .i64 b ∧ Hid (Dd w cb A n cap w.heap.size g3 gw k wi A1 c1 (doorT k wi (a * 7 + b)) wr)) (fun q _ => k - (intOf q).toNat)
              case atStart => exact ⟨a + 1, A1, c1, Nat.le_refl _, by omega, rfl, hD⟩
              case round =>
                clear hD c0
                obtain ⟨b, A1, c1, hab, hbk, rfl, hD⟩ := hrel
                obtain ⟨⟨c0, c1_⟩, f0_, f1_⟩ := hD.out.h3.two
                by_cases hltb : b < k
                · have hbI : (b : Int) < (k : Int) := by omega
                  have u1 : IntKind.i64.wrap ((a : Int) * 7) = (a : Int) * 7 := IntWalk.i64_in _ (by omega)
                  have hsucc : Hid (doorT k wi (a * 7 + (b + 1)) = if wi.getD (a * 7 + b) false then doorT k wi (a * 7 + b) ++ [pairT (a * 7 + b)] else doorT k wi (a * 7 + b)) := Lib.hid (by
                    rw [← Nat.add_assoc, doorT_succ, fT_is (by omega) hltb hN7])
                  have hpp : pairT (a * 7 + b) = ((a : Int), (b : Int)) := by
                    unfold pairT
                    rw [show (a * 7 + b) / 7 = a by omega, show (a * 7 + b) % 7 = b by omega]
                  rw [hpp] at hsucc
                  have hle := doorT_le k wi (a * 7 + b)
                  obtain ⟨p, hp⟩ : ∃ p, a * 7 + b = p := ⟨_, rfl⟩
                  have u2 : IntKind.i64.wrap ((a : Int) * 7 + (b : Int)) = (p : Int) := by rw [IntWalk.i64_in _ (by omega)]; omega
                  have hp49 : p < 49 := by omega
                  have hpI : (p : Int) < 49 := by omega
                  have hpI0 : (0 : Int) ≤ (p : Int) := by omega
                  rw [hp] at hsucc hD hle c1_
                  have d1 := hD.out.cell hT.out.len hp49
                  generalize doorT k wi p = d at *
                  cases hb : wi.getD p false
                  · rw [hb] at d1 hsucc
                    have hsucc2 : Hid (doorT k wi (a * 7 + (b + 1)) = d) := Lib.hid (by rw [hsucc.out]; rfl)
                    clear hsucc hb hp
                    go_wp2_with fail
                    first
                      | exact ⟨⟨b + 1, A1, c1, by omega, by omega, by go_num, by rw [hsucc2.out]; exact hD⟩, by simp [intOf] <;> omega⟩
                      | (go_roundw <;> first | exact ⟨b + 1, A1, c1, by omega, by omega, by go_num, by rw [hsucc2.out]; exact hD⟩ | (simp [intOf] <;> omega))
                  · rw [hb] at d1 hsucc
                    have hsucc2 : Hid (doorT k wi (a * 7 + (b + 1)) = d ++ [((a : Int), (b : Int))]) := Lib.hid (by rw [hsucc.out]; rfl)
                    have hDa := hD.out.alloc (Obj.cells #[.int .i64 (a : Int), .int .i64 (b : Int)] 83)
                    have hzz := hDa.gr.size
                    have hzz2 := hD.out.gr.size
                    have hgl3 := hD.out.h3.lt
                    clear hsucc hb hp
                    obtain ⟨m, hm⟩ : ∃ m, d.length = m := ⟨_, rfl⟩
                    have hdr := hD.out.dr
                    rw [hm] at hdr c1_ hle
                    go_wp2_with (at_builtin; go_must (refine wpList_append_lies _ rfl _ _ 39 rfl w.heap.size 83 j0 (.agg #[.int .i64 0, .int .i64 0]) 2 16 Try.underlying39 hj jz0 jz1 jz2 rfl (by decide) _ _ _ rfl (hdr.alloc _) ⟨_, 0, none⟩ 1 1 [.int .i64 (a : Int), .int .i64 (b : Int)] rfl rfl ?c1 ?c2 (by decide) ?c3 ?c4 ?c5 _ rfl ?_))
                    case c1 => (intro a u ha; match a, ha with | 0, ha => (simp at ha; subst ha; simp [Addr.add]) | 1, ha => (simp at ha; subst ha; simp [Addr.add]))
                    case c2 => (intro u hu; simp at hu; rcases hu with rfl | rfl <;> rfl)
                    case c3 => (unfold maxLen; omega)
                    case c4 => omega
                    case c5 => (simp; omega)
                    intro g_ cap_ wa_ ho_ hg_ hgo_ hlt_
                    have h3a : Holds wa_ g3 #[.int .i64 (k : Int), .slice A1 d.length c1] 41 := (hg_.block g3 hDa.h3.lt (fun e => apart hDa.dr hDa.h3 (by decide) g3 (by rw [hm]; exact e.symm) rfl)).trans hDa.h3
                    obtain ⟨⟨e0_, e1_⟩, _⟩ := h3a.two
                    have hDp := Lib.hid (hDa.push (e := ((a : Int), (b : Int))) (by rw [hm]; exact hg_) (by rw [hm]; exact ho_) hcb (by omega) (by omega))
                    rw [← hsucc2.out, hm] at hDp
                    clear ho_ hg_ hgo_ hlt_ hDa hD hdr d1 hsucc2
                    go_wp2_with fail
                    first
                      | exact ⟨⟨b + 1, _, _, by omega, by omega, by go_num, hDp⟩, by simp [intOf] <;> omega⟩
                      | (go_roundw <;> first | exact ⟨b + 1, _, _, by omega, by omega, by go_num, hDp⟩ | (simp [intOf] <;> omega))
                · obtain rfl : b = k := by omega
                  have hS : Hid (doorT b wi ((a + 1) * 7) = doorT b wi (a * 7 + b)) := Lib.hid (by
                    rw [show (a + 1) * 7 = a * 7 + b + (7 - b) by omega]
                    exact doorT_same (fun p h1 h2 => fT_no (by omega)))
                  go_wp2_with fail
                  first
                    | exact ⟨⟨a + 1, A1, c1, by omega, by go_num, by rw [hS.out]; exact hD⟩, by simp [intOf] <;> omega⟩
                    | (go_roundw <;> first | exact ⟨a + 1, A1, c1, by omega, by go_num, by rw [hS.out]; exact hD⟩ | (simp [intOf] <;> omega))
            · obtain rfl : a = k := by omega
              have hS : Hid (doorT a wi 49 = doorT a wi (a * 7)) := Lib.hid (by
                rw [show 49 = a * 7 + (49 - a * 7) by omega]
                exact doorT_same (fun p h1 h2 => fT_no (by omega)))
              clear c1_
              rw [← hS.out] at hD
              have hV : Hid (houseB a (doorT a wi 49) = true) := Lib.hid (house_T hN1 hN7 hT.out (by omega) hW.out)
              have hle := doorT_le a wi 49
              generalize doorT a wi 49 = d at *
              obtain ⟨⟨x0_, x1_⟩, y0_, y1_⟩ := hD.out.h2.two
              obtain ⟨⟨_, c1_⟩, _⟩ := hD.out.h3.two
              have e1 := Blk.set_own hD.out.h2 0 (.int .i64 (a : Int))
              have e2 := Blk.set_own e1 1 (.slice A1 d.length c1)
              obtain ⟨⟨r0_, r1_⟩, _⟩ := Blk.Holds.two e2
              have hst := Lib.hid (St.kept (St.kept hD.out.st (grown_set wr w.heap.size 0 (.int .i64 (a : Int))) (fun g e => by injection e with e; omega)) (grown_set _ w.heap.size 1 (.slice A1 d.length c1)) (fun g e => by injection e with e; omega))
              have hgr := Lib.hid (grown_own (grown_own hD.out.gr ⟨w.heap.size, 0, none⟩ (Nat.le_refl _) (.int .i64 (a : Int))) ⟨w.heap.size, 1, none⟩ (Nat.le_refl _) (.slice A1 d.length c1))
              have hdr := Lib.hid (kept_ne (kept_ne hD.out.dr (grown_set wr w.heap.size 0 (.int .i64 (a : Int))) (apart hD.out.dr hD.out.h2 (by decide))) (grown_set _ w.heap.size 1 (.slice A1 d.length c1)) (apart hD.out.dr hD.out.h2 (by decide)))
              clear hD hT hW hS e1 e2
              go_wp2_with fail
              refine bodyPost_ret (v := .agg #[.int .i64 (a : Int), .slice A1 d.length c1]) (by simp [results, Try.results36, go_sem, r0_, r1_]) rfl ⟨a, d, A1, c1, ⟨hN1, hN7, hV.out, hle⟩, rfl, hdr.out, hst.out, hgr.out⟩
        · have hxI : (0 : Int) < (c : Int) := by omega
          have hyI : ¬ (2 : Int) < (k : Int) := by omega
          clear hD hc
          go_wp2_with fail
          go_loopw [8] (fun q wr => ∃ (a : Nat) (A1 : Option Addr) (c1 : Nat), a ≤ k ∧ q = .int .i64 a ∧ Hid (Dd w cb A n cap w.heap.size g3 gw k wi A1 c1 (doorT k wi (a * 7)) wr)) (fun q _ => k - (intOf q).toNat)
          case atStart => exact ⟨0, none, 0, Nat.zero_le _, rfl, hD0⟩
          case round =>
            clear hD0
            obtain ⟨a, A1, c1, hak, rfl, hD⟩ := hrel
            obtain ⟨⟨c0, c1_⟩, _⟩ := hD.out.h3.two
            by_cases hlt : a < k
            · have haI : (a : Int) < (k : Int) := by omega
              have ua : IntKind.i64.wrap ((a : Int) + 1) = ((a + 1 : Nat) : Int) := by rw [IntWalk.i64_in _ (by omega)]; omega
              have hS : Hid (doorT k wi (a * 7 + (a + 1)) = doorT k wi (a * 7)) := Lib.hid (doorT_same (fun p h1 h2 => fT_no (by omega)))
              rw [← hS.out] at hD
              clear hS c1_
              go_wp2_with fail
              go_loopw [9] (fun q wr => ∃ (b : Nat) (A1 : Option Addr) (c1 : Nat), a + 1 ≤ b ∧ b ≤ k ∧ q = .int .i64 b ∧ Hid (Dd w cb A n cap w.heap.size g3 gw k wi A1 c1 (doorT k wi (a * 7 + b)) wr)) (fun q _ => k - (intOf q).toNat)
              case atStart => exact ⟨a + 1, A1, c1, Nat.le_refl _, by omega, rfl, hD⟩
              case round =>
                clear hD c0
                obtain ⟨b, A1, c1, hab, hbk, rfl, hD⟩ := hrel
                obtain ⟨⟨c0, c1_⟩, f0_, f1_⟩ := hD.out.h3.two
                by_cases hltb : b < k
                · have hbI : (b : Int) < (k : Int) := by omega
                  have u1 : IntKind.i64.wrap ((a : Int) * 7) = (a : Int) * 7 := IntWalk.i64_in _ (by omega)
                  have hsucc : Hid (doorT k wi (a * 7 + (b + 1)) = if wi.getD (a * 7 + b) false then doorT k wi (a * 7 + b) ++ [pairT (a * 7 + b)] else doorT k wi (a * 7 + b)) := Lib.hid (by
                    rw [← Nat.add_assoc, doorT_succ, fT_is (by omega) hltb hN7])
                  have hpp : pairT (a * 7 + b) = ((a : Int), (b : Int)) := by
                    unfold pairT
                    rw [show (a * 7 + b) / 7 = a by omega, show (a * 7 + b) % 7 = b by omega]
                  rw [hpp] at hsucc
                  have hle := doorT_le k wi (a * 7 + b)
                  obtain ⟨p, hp⟩ : ∃ p, a * 7 + b = p := ⟨_, rfl⟩
                  have u2 : IntKind.i64.wrap ((a : Int) * 7 + (b : Int)) = (p : Int) := by rw [IntWalk.i64_in _ (by omega)]; omega
                  have hp49 : p < 49 := by omega
                  have hpI : (p : Int) < 49 := by omega
                  have hpI0 : (0 : Int) ≤ (p : Int) := by omega
                  rw [hp] at hsucc hD hle c1_
                  have d1 := hD.out.cell hT.out.len hp49
                  generalize doorT k wi p = d at *
                  cases hb : wi.getD p false
                  · rw [hb] at d1 hsucc
                    have hsucc2 : Hid (doorT k wi (a * 7 + (b + 1)) = d) := Lib.hid (by rw [hsucc.out]; rfl)
                    clear hsucc hb hp
                    go_wp2_with fail
                    first
                      | exact ⟨⟨b + 1, A1, c1, by omega, by omega, by go_num, by rw [hsucc2.out]; exact hD⟩, by simp [intOf] <;> omega⟩
                      | (go_roundw <;> first | exact ⟨b + 1, A1, c1, by omega, by omega, by go_num, by rw [hsucc2.out]; exact hD⟩ | (simp [intOf] <;> omega))
                  · rw [hb] at d1 hsucc
                    have hsucc2 : Hid (doorT k wi (a * 7 + (b + 1)) = d ++ [((a : Int), (b : Int))]) := Lib.hid (by rw [hsucc.out]; rfl)
                    have hDa := hD.out.alloc (Obj.cells #[.int .i64 (a : Int), .int .i64 (b : Int)] 83)
                    have hzz := hDa.gr.size
                    have hzz2 := hD.out.gr.size
                    have hgl3 := hD.out.h3.lt
                    clear hsucc hb hp
                    obtain ⟨m, hm⟩ : ∃ m, d.length = m := ⟨_, rfl⟩
                    have hdr := hD.out.dr
                    rw [hm] at hdr c1_ hle
                    go_wp2_with (at_builtin; go_must (refine wpList_append_lies _ rfl _ _ 39 rfl w.heap.size 83 j0 (.agg #[.int .i64 0, .int .i64 0]) 2 16 Try.underlying39 hj jz0 jz1 jz2 rfl (by decide) _ _ _ rfl (hdr.alloc _) ⟨_, 0, none⟩ 1 1 [.int .i64 (a : Int), .int .i64 (b : Int)] rfl rfl ?c1 ?c2 (by decide) ?c3 ?c4 ?c5 _ rfl ?_))
                    case c1 => (intro a u ha; match a, ha with | 0, ha => (simp at ha; subst ha; simp [Addr.add]) | 1, ha => (simp at ha; subst ha; simp [Addr.add]))
                    case c2 => (intro u hu; simp at hu; rcases hu with rfl | rfl <;> rfl)
                    case c3 => (unfold maxLen; omega)
                    case c4 => omega
                    case c5 => (simp; omega)
                    intro g_ cap_ wa_ ho_ hg_ hgo_ hlt_
                    have h3a : Holds wa_ g3 #[.int .i64 (k : Int), .slice A1 d.length c1] 41 := (hg_.block g3 hDa.h3.lt (fun e => apart hDa.dr hDa.h3 (by decide) g3 (by rw [hm]; exact e.symm) rfl)).trans hDa.h3
                    obtain ⟨⟨e0_, e1_⟩, _⟩ := h3a.two
                    have hDp := Lib.hid (hDa.push (e := ((a : Int), (b : Int))) (by rw [hm]; exact hg_) (by rw [hm]; exact ho_) hcb (by omega) (by omega))
                    rw [← hsucc2.out, hm] at hDp
                    clear ho_ hg_ hgo_ hlt_ hDa hD hdr d1 hsucc2
                    go_wp2_with fail
                    first
                      | exact ⟨⟨b + 1, _, _, by omega, by omega, by go_num, hDp⟩, by simp [intOf] <;> omega⟩
                      | (go_roundw <;> first | exact ⟨b + 1, _, _, by omega, by omega, by go_num, hDp⟩ | (simp [intOf] <;> omega))
                · obtain rfl : b = k := by omega
                  have hS : Hid (doorT b wi ((a + 1) * 7) = doorT b wi (a * 7 + b)) := Lib.hid (by
                    rw [show (a + 1) * 7 = a * 7 + b + (7 - b) by omega]
                    exact doorT_same (fun p h1 h2 => fT_no (by omega)))
                  go_wp2_with fail
                  first
                    | exact ⟨⟨a + 1, A1, c1, by omega, by go_num, by rw [hS.out]; exact hD⟩, by simp [intOf] <;> omega⟩
                    | (go_roundw <;> first | exact ⟨a + 1, A1, c1, by omega, by go_num, by rw [hS.out]; exact hD⟩ | (simp [intOf] <;> omega))
            · obtain rfl : a = k := by omega
              have hS : Hid (doorT a wi 49 = doorT a wi (a * 7)) := Lib.hid (by
                rw [show 49 = a * 7 + (49 - a * 7) by omega]
                exact doorT_same (fun p h1 h2 => fT_no (by omega)))
              clear c1_
              rw [← hS.out] at hD
              have hV : Hid (houseB a (doorT a wi 49) = true) := Lib.hid (house_T hN1 hN7 hT.out (by omega) hW.out)
              have hle := doorT_le a wi 49
              generalize doorT a wi 49 = d at *
              obtain ⟨⟨x0_, x1_⟩, y0_, y1_⟩ := hD.out.h2.two
              obtain ⟨⟨_, c1_⟩, _⟩ := hD.out.h3.two
              have e1 := Blk.set_own hD.out.h2 0 (.int .i64 (a : Int))
              have e2 := Blk.set_own e1 1 (.slice A1 d.length c1)
              obtain ⟨⟨r0_, r1_⟩, _⟩ := Blk.Holds.two e2
              have hst := Lib.hid (St.kept (St.kept hD.out.st (grown_set wr w.heap.size 0 (.int .i64 (a : Int))) (fun g e => by injection e with e; omega)) (grown_set _ w.heap.size 1 (.slice A1 d.length c1)) (fun g e => by injection e with e; omega))
              have hgr := Lib.hid (grown_own (grown_own hD.out.gr ⟨w.heap.size, 0, none⟩ (Nat.le_refl _) (.int .i64 (a : Int))) ⟨w.heap.size, 1, none⟩ (Nat.le_refl _) (.slice A1 d.length c1))
              have hdr := Lib.hid (kept_ne (kept_ne hD.out.dr (grown_set wr w.heap.size 0 (.int .i64 (a : Int))) (apart hD.out.dr hD.out.h2 (by decide))) (grown_set _ w.heap.size 1 (.slice A1 d.length c1)) (apart hD.out.dr hD.out.h2 (by decide)))
              clear hD hT hW hS e1 e2
              go_wp2_with fail
              refine bodyPost_ret (v := .agg #[.int .i64 (a : Int), .slice A1 d.length c1]) (by simp [results, Try.results36, go_sem, r0_, r1_]) rfl ⟨a, d, A1, c1, ⟨hN1, hN7, hV.out, hle⟩, rfl, hdr.out, hst.out, hgr.out⟩
end Go.Proofs.Ytcfoleiooohbhaa.DrawHouse
