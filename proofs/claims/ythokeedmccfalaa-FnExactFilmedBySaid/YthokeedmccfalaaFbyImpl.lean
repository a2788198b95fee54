/-
  What the landed lensIn and FilmedBy do, as contracts: a lens that shows the points of the floor that the camera films; the points in new memory.
-/
import Derived.Test.YthokeedmccfalaaTrackImpl
import Derived.Test.YthokeedmccfalaaFromImpl
import Derived.Test.YthokeedmccfalaaFiltImpl
import Derived.Test.YthokeedmccfalaaFbyMath
import Derived.Test.YthokeedmccfalaaRoomRes
import Derived.Laws.EntriesVeiled
namespace Go.Proofs.Ythokeedmccfalaa.FbyImpl
open Go.RowKit Own PointMath WallMath RoomMath Pts Blk AreaMath PlaceMath FloorMath LineMath CutsMath SightMath FromImpl TrackMath FiltMath FbyMath
open PointOk (ret_bool ret_i64 below1 below2 below3)
open RoomRes (below_set)

/-- A cell that does not hold what a one-cell block holds is another one. -/
theorem cell_far {W : World} {k : Nat} {z u v : Value} {T : TypeId} {p : Addr} (h : Holds W k #[z] T) (hp : W.cell? p = some v) (hv : v ≠ z) : (W.setCell ⟨k, 0, none⟩ u).cell? p = some v := by
  rw [World.cell?_setCell_other _ _ _ _ (fun e => ?_)]
  · exact hp
  · subst e
    obtain ⟨h1, _⟩ := h.one
    rw [h1] at hp
    injection hp with hp
    exact hv hp.symm
theorem tup_far {W : World} {k c : Nat} {z u : Value} {T : TypeId} { ax ay rx ry lx ly q : Int} (h : Holds W k #[z] T) (hz : ∀ i, (.int .i64 i : Value) ≠ z) (hp : Tup7.Box W c ax ay rx ry lx ly q) : Tup7.Box (W.setCell ⟨k, 0, none⟩ u) c ax ay rx ry lx ly q :=
  ⟨cell_far h hp.1 (hz _), cell_far h hp.2.1 (hz _), cell_far h hp.2.2.1 (hz _), cell_far h hp.2.2.2.1 (hz _), cell_far h hp.2.2.2.2.1 (hz _), cell_far h hp.2.2.2.2.2.1 (hz _), cell_far h hp.2.2.2.2.2.2 (hz _)⟩
theorem box_far {W : World} {k c : Nat} {z u : Value} {T : TypeId} {x y : Int} (h : Holds W k #[z] T) (hz : ∀ i, (.int .i64 i : Value) ≠ z) (hp : PointOk.Box W c x y) : PointOk.Box (W.setCell ⟨k, 0, none⟩ u) c x y :=
  ⟨cell_far h hp.1 (hz _), cell_far h hp.2 (hz _)⟩
theorem pts_far {W : World} {k b : Nat} {z u : Value} {T : TypeId} {A : Option Addr} {l : List (Int × Int)} (h : Holds W k #[z] T) (hz : ∀ i, (.int .i64 i : Value) ≠ z) (hp : PtsAt W b A l) : PtsAt (W.setCell ⟨k, 0, none⟩ u) b A l := by
  intro j hj
  obtain ⟨ad, e, hb, h1, h2⟩ := hp j hj
  exact ⟨ad, e, hb, cell_far h h1 (hz _), cell_far h h2 (hz _)⟩

/-- What a lens in a room rests on: the camera's field and the sight from its place. -/
def FilmAt (W : World) (C C1 C2 : Nat) (Ad : Option Addr) (n cd : Nat) (ps : List (Int × Int)) (ax ay rx ry lx ly q : Int) : Prop :=
  Tup7.Box W C ax ay rx ry lx ly q ∧ C < W.heap.size ∧ W.cell? ⟨C1, 0, none⟩ = some (.slice Ad n cd) ∧ C1 < W.heap.size ∧ PointOk.Box W C2 ax ay ∧ PtsAt W W.heap.size Ad (dblL ps)
def FilmC (W : World) (C5 C6 : Nat) (C C1 C2 : Nat) : Prop :=
  (W.cell? ⟨C5, 0, none⟩ = some (.func (.func 168) #[] #[.pointer (some ⟨C, 0, none⟩)]) ∧ C5 < W.heap.size) ∧ (W.cell? ⟨C6, 0, none⟩ = some (.func (.func 171) #[] #[.pointer (some ⟨C1, 0, none⟩), .pointer (some ⟨C2, 0, none⟩)]) ∧ C6 < W.heap.size)
theorem FilmC.later {W W' : World} {C5 C6 C C1 C2 : Nat} (h : FilmC W C5 C6 C C1 C2) (hb : Below W.heap.size W W') : FilmC W' C5 C6 C C1 C2 :=
  ⟨⟨(hb.cell (p := ⟨C5, 0, none⟩) h.1.2).trans h.1.1, Nat.lt_of_lt_of_le h.1.2 hb.size⟩, ⟨(hb.cell (p := ⟨C6, 0, none⟩) h.2.2).trans h.2.1, Nat.lt_of_lt_of_le h.2.2 hb.size⟩⟩
theorem FilmAt.later {W W' : World} {C C1 C2 : Nat} {Ad : Option Addr} {n cd : Nat} {ps : List (Int × Int)} { ax ay rx ry lx ly q : Int} (h : FilmAt W C C1 C2 Ad n cd ps ax ay rx ry lx ly q) (hb : Below W.heap.size W W') : FilmAt W' C C1 C2 Ad n cd ps ax ay rx ry lx ly q :=
  ⟨h.1.later hb, Nat.lt_of_lt_of_le h.2.1 hb.size, (hb.cell (p := ⟨C1, 0, none⟩) h.2.2.2.1).trans h.2.2.1, Nat.lt_of_lt_of_le h.2.2.2.1 hb.size, h.2.2.2.2.1.later hb, (h.2.2.2.2.2.later hb).wide hb.size⟩

set_option maxHeartbeats 800000 in
theorem never (x y : Int) (w : World) : Calls Try.prog 134 #[.agg #[.int .i64 x, .int .i64 y]] w fun e w' => e = .returned (.bool false) ∧ Below w.heap.size w w' := by
  go_enter Try.func134, Try.ntmps134
  go_wp2_with fail
  go_ret
  exact ⟨rfl, below1 _ _⟩

set_option maxRecDepth 100000 in
set_option maxHeartbeats 3200000 in
theorem both (x y : Int) (C5 C6 C C1 C2 : Nat) (Ad : Option Addr) (n cd : Nat) (ax ay rx ry lx ly q : Int) (w : World) (ps : List (Int × Int)) (hl : ps.length = n) (hc : camB ax ay rx ry lx ly q = true) (ha : inB ps ax ay = true) (hb : inB ps x y = true)
    (h1 : FilmC w C5 C6 C C1 C2) (h2 : FilmAt w C C1 C2 Ad n cd ps ax ay rx ry lx ly q) :
    Calls Try.prog 137 #[.agg #[.int .i64 x, .int .i64 y], .pointer (some ⟨C5, 0, none⟩), .pointer (some ⟨C6, 0, none⟩)] w fun e w' => e = .returned (.bool (fieldB ax ay rx ry lx ly q x y && seesM ps (ax, ay) (x, y))) ∧ Below w.heap.size w w' := by
  obtain ⟨r, hr⟩ : ∃ r, (fieldB ax ay rx ry lx ly q x y && seesM ps (ax, ay) (x, y)) = r := ⟨_, rfl⟩
  have HR := Lib.hid hr
  rw [hr]
  clear hr
  have QF : Hid (∀ W h, _) := Lib.hid fun W h => TrackImpl.shows C ax ay rx ry lx ly q x y W hc (inB_parts hb).2 h
  have QS : Hid (∀ W h1 h2 h3, _) := Lib.hid fun W h1 h2 h3 => FromImpl.asks ax ay x y C1 C2 Ad n cd W ps hl ha hb h1 h2 h3
  have HE : Hid (r = (fieldB ax ay rx ry lx ly q x y && seesM ps (ax, ay) (x, y))) := Lib.hid HR.out.symm
  obtain ⟨o1, ho1⟩ : ∃ o, fieldB ax ay rx ry lx ly q x y = o := ⟨_, rfl⟩
  obtain ⟨o2, ho2⟩ : ∃ o, seesM ps (ax, ay) (x, y) = o := ⟨_, rfl⟩
  rw [ho1] at QF HE
  rw [ho2] at QS HE
  clear HR ho1 ho2 hc ha hb hl
  have b0 := below1 w (Obj.cells #[.int .i64 x, .int .i64 y] 49)
  have g1 := h1.later b0
  have g2 := h2.later b0
  have X0 := PointOk.box1 w x y 49 (k := w.heap.size) rfl
  obtain ⟨⟨_, _⟩, ⟨_, _⟩⟩ := id g1
  obtain ⟨_, _⟩ := id X0
  have e1 := Try.call168
  have e2 := Try.call171
  go_enter Try.func137, Try.ntmps137
  go_wp2_with fail
  generalize w.alloc (Obj.cells #[.int .i64 x, .int .i64 y] 49) = w1 at *
  refine (QF.out _ g2.1).mono ?_
  rintro e w2 ⟨rfl, hb_⟩
  replace g1 := g1.later hb_
  replace g2 := g2.later hb_
  replace X0 := X0.later hb_
  replace b0 := b0.trans (hb_.mono b0.size)
  clear hb_
  obtain ⟨⟨_, _⟩, ⟨_, _⟩⟩ := id g1
  obtain ⟨_, _⟩ := id X0
  cases o1
  · have E : Hid (r = false) := Lib.hid (by rw [HE.out]; rfl)
    clear HE
    go_wp2_with fail
    go_ret
    exact ⟨ret_bool E.out.symm, b0⟩
  have E : Hid (r = o2) := Lib.hid (by rw [HE.out]; rfl)
  clear HE
  go_wp2_with fail
  refine (QS.out _ ⟨g2.2.2.1, trivial⟩ g2.2.2.2.2.1 g2.2.2.2.2.2).mono ?_
  rintro e w3 ⟨rfl, hb_⟩
  go_wp2_with fail
  go_ret
  exact ⟨ret_bool E.out.symm, b0.trans (hb_.mono b0.size)⟩

/-- A lens that shows nothing came back. -/
def Blank (w : World) (en : Ending) (w' : World) : Prop := en = .returned (.agg #[.func (.func 134) #[] #[]]) ∧ Below w.heap.size w w'
/-- A lens came back that shows what the camera films. -/
def LensIn (w : World) (n : Nat) (ps : List (Int × Int)) (ax ay rx ry lx ly q : Int) (en : Ending) (w' : World) : Prop :=
  ∃ C5 C6 C C1 C2 Ad cd, en = .returned (.agg #[.func (.func 137) #[] #[.pointer (some ⟨C5, 0, none⟩), .pointer (some ⟨C6, 0, none⟩)]]) ∧ FilmC w' C5 C6 C C1 C2 ∧ FilmAt w' C C1 C2 Ad n cd ps ax ay rx ry lx ly q ∧ Below w.heap.size w w'


set_option maxRecDepth 100000 in
set_option maxHeartbeats 12800000 in
theorem lensNo (A : Option Addr) (n cap : Nat) (ax ay rx ry lx ly q : Int) (w : World) (ps : List (Int × Int)) (hl : ps.length = n) (hn : n ≤ 1048576) (hno : (camB ax ay rx ry lx ly q && inB ps ax ay) = false) (hp : PtsAt w w.heap.size A ps) :
    Calls Try.prog 84 #[.agg #[.slice A n cap], .agg #[.int .i64 ax, .int .i64 ay, .int .i64 rx, .int .i64 ry, .int .i64 lx, .int .i64 ly, .int .i64 q]] w (Blank w) := by
  have hmf : ∀ (fn : Fn) (first cap : Array Value) (w : World), (Instr.makeFunc fn first cap).run Try.prog w = .ok (.func fn first cap) w := fun _ _ _ _ => rfl
  go_enter Try.func84, Try.ntmps84
  go_wp2_with fail
  have X0 := ((Pts.boxR w (.slice A n cap) 37 (k := w.heap.size) (by simp)).alloc (Obj.cells #[.int .i64 ax, .int .i64 ay, .int .i64 rx, .int .i64 ry, .int .i64 lx, .int .i64 ly, .int .i64 q] 51)).alloc (Obj.cells #[.nilFunc] 111)
  have X1 := (Tup7.box1 (w.alloc (Obj.cells #[.slice A n cap] 37)) ax ay rx ry lx ly q 51 (k := w.heap.size + 1) (by simp)).alloc (Obj.cells #[.nilFunc] 111)
  have X2 := Blk.Holds.box ((w.alloc (Obj.cells #[.slice A n cap] 37)).alloc (Obj.cells #[.int .i64 ax, .int .i64 ay, .int .i64 rx, .int .i64 ry, .int .i64 lx, .int .i64 ly, .int .i64 q] 51)) #[.nilFunc] 111 (k := w.heap.size + 1 + 1) (by simp)
  have b0 := PointOk.below3 w (Obj.cells #[.slice A n cap] 37) (Obj.cells #[.int .i64 ax, .int .i64 ay, .int .i64 rx, .int .i64 ry, .int .i64 lx, .int .i64 ly, .int .i64 q] 51) (Obj.cells #[.nilFunc] 111)
  have HO : ∀ W W' : World, (Pts.BoxR W (w.heap.size) (.slice A n cap) ∧ Tup7.Box W (w.heap.size + 1) ax ay rx ry lx ly q ∧ Blk.Holds W (w.heap.size + 1 + 1) #[.nilFunc] 111 ∧ PtsAt W w.heap.size A ps ∧ w.heap.size + 3 ≤ W.heap.size ∧ Below w.heap.size w W) → Below W.heap.size W W' → (Pts.BoxR W' (w.heap.size) (.slice A n cap) ∧ Tup7.Box W' (w.heap.size + 1) ax ay rx ry lx ly q ∧ Blk.Holds W' (w.heap.size + 1 + 1) #[.nilFunc] 111 ∧ PtsAt W' w.heap.size A ps ∧ w.heap.size + 3 ≤ W'.heap.size ∧ Below w.heap.size w W') := fun W W' ⟨h0, h1, h2, x0, x1, hb⟩ h => ⟨h0.later h, h1.later h, h2.later h, x0.later (h.mono hb.size), Nat.le_trans x1 h.size, hb.trans (h.mono hb.size)⟩
  have hz0_ : Hid (((((w.alloc (Obj.cells #[.slice A n cap] 37)).alloc (Obj.cells #[.int .i64 ax, .int .i64 ay, .int .i64 rx, .int .i64 ry, .int .i64 lx, .int .i64 ly, .int .i64 q] 51)).alloc (Obj.cells #[.nilFunc] 111))).heap.size = w.heap.size + 1 + 1 + 1) := Lib.hid (by simp)
  have Y0 : PtsAt ((((w.alloc (Obj.cells #[.slice A n cap] 37)).alloc (Obj.cells #[.int .i64 ax, .int .i64 ay, .int .i64 rx, .int .i64 ry, .int .i64 lx, .int .i64 ly, .int .i64 q] 51)).alloc (Obj.cells #[.nilFunc] 111))) w.heap.size A ps := hp.later b0
  have Y1 : w.heap.size + 3 ≤ ((((w.alloc (Obj.cells #[.slice A n cap] 37)).alloc (Obj.cells #[.int .i64 ax, .int .i64 ay, .int .i64 rx, .int .i64 ry, .int .i64 lx, .int .i64 ly, .int .i64 q] 51)).alloc (Obj.cells #[.nilFunc] 111))).heap.size := by simp
  generalize (((w.alloc (Obj.cells #[.slice A n cap] 37)).alloc (Obj.cells #[.int .i64 ax, .int .i64 ay, .int .i64 rx, .int .i64 ry, .int .i64 lx, .int .i64 ly, .int .i64 q] 51)).alloc (Obj.cells #[.nilFunc] 111)) = w0 at X0 X1 X2 Y0 Y1 b0 hz0_ ⊢
  have S0 := (⟨X0, X1, X2, Y0, Y1, b0⟩ : Pts.BoxR w0 (w.heap.size) (.slice A n cap) ∧ Tup7.Box w0 (w.heap.size + 1) ax ay rx ry lx ly q ∧ Blk.Holds w0 (w.heap.size + 1 + 1) #[.nilFunc] 111 ∧ PtsAt w0 w.heap.size A ps ∧ w.heap.size + 3 ≤ w0.heap.size ∧ Below w.heap.size w w0)
  clear X0 X1 X2 Y0 Y1 b0
  obtain ⟨⟨_, _⟩, ⟨_, _, _, _, _, _, _⟩, _, _, _, _⟩ := id S0
  refine (TrackImpl.cameraOk ax ay rx ry lx ly q _).mono ?_
  rintro e w1 ⟨rfl, hb_⟩
  replace S0 := HO _ _ S0 hb_
  clear hb_
  obtain ⟨⟨_, _⟩, ⟨_, _, _, _, _, _, _⟩, _, _, _, _⟩ := id S0

  cases hc : camB ax ay rx ry lx ly q
  · skip
    have hR := S0.2.2.1
    have E_ := Blk.set_own hR 0 (.func (.func 134) #[] #[])
    obtain ⟨r0_, _⟩ := Blk.Holds.one E_
    have hb4 := Lib.hid (S0.2.2.2.2.2.trans (below_set w1 w.heap.size (w.heap.size + 1 + 1) 0 (.func (.func 134) #[] #[]) (by omega)))
    obtain ⟨_, _⟩ := hR.one
    clear hR
    go_wp2_with fail
    refine bodyPost_ret (v := .agg #[.func (.func 134) #[] #[]]) (by simp [results, Try.results84, go_sem, r0_]) rfl ⟨rfl, hb4.out⟩
  go_wp2_with fail
  refine (PlaceImpl.isIn A n cap ax ay _ ps hl hn (S0.2.2.2.1.wide S0.2.2.2.2.2.size)).mono ?_
  rintro e w2 ⟨rfl, hb_⟩
  replace S0 := HO _ _ S0 hb_
  clear hb_
  obtain ⟨⟨_, _⟩, ⟨_, _, _, _, _, _, _⟩, _, _, _, _⟩ := id S0
  have ha : inB ps ax ay = false := by rw [hc] at hno; exact hno
  rw [ha]
  have hR := S0.2.2.1
  have E_ := Blk.set_own hR 0 (.func (.func 134) #[] #[])
  obtain ⟨r0_, _⟩ := Blk.Holds.one E_
  have hb4 := Lib.hid (S0.2.2.2.2.2.trans (below_set w2 w.heap.size (w.heap.size + 1 + 1) 0 (.func (.func 134) #[] #[]) (by omega)))
  obtain ⟨_, _⟩ := hR.one
  clear hR
  go_wp2_with fail
  refine bodyPost_ret (v := .agg #[.func (.func 134) #[] #[]]) (by simp [results, Try.results84, go_sem, r0_]) rfl ⟨rfl, hb4.out⟩

set_option maxRecDepth 100000 in
set_option maxHeartbeats 12800000 in
theorem lensYes (A : Option Addr) (n cap : Nat) (ax ay rx ry lx ly q : Int) (w : World) (ps : List (Int × Int)) (hl : ps.length = n) (hn : n ≤ 1048576) (hc : camB ax ay rx ry lx ly q = true) (ha : inB ps ax ay = true) (hp : PtsAt w w.heap.size A ps) :
    Calls Try.prog 84 #[.agg #[.slice A n cap], .agg #[.int .i64 ax, .int .i64 ay, .int .i64 rx, .int .i64 ry, .int .i64 lx, .int .i64 ly, .int .i64 q]] w (LensIn w n ps ax ay rx ry lx ly q) := by
  have hmf : ∀ (fn : Fn) (first cap : Array Value) (w : World), (Instr.makeFunc fn first cap).run Try.prog w = .ok (.func fn first cap) w := fun _ _ _ _ => rfl
  go_enter Try.func84, Try.ntmps84
  go_wp2_with fail
  have X0 := ((Pts.boxR w (.slice A n cap) 37 (k := w.heap.size) (by simp)).alloc (Obj.cells #[.int .i64 ax, .int .i64 ay, .int .i64 rx, .int .i64 ry, .int .i64 lx, .int .i64 ly, .int .i64 q] 51)).alloc (Obj.cells #[.nilFunc] 111)
  have X1 := (Tup7.box1 (w.alloc (Obj.cells #[.slice A n cap] 37)) ax ay rx ry lx ly q 51 (k := w.heap.size + 1) (by simp)).alloc (Obj.cells #[.nilFunc] 111)
  have X2 := Blk.Holds.box ((w.alloc (Obj.cells #[.slice A n cap] 37)).alloc (Obj.cells #[.int .i64 ax, .int .i64 ay, .int .i64 rx, .int .i64 ry, .int .i64 lx, .int .i64 ly, .int .i64 q] 51)) #[.nilFunc] 111 (k := w.heap.size + 1 + 1) (by simp)
  have b0 := PointOk.below3 w (Obj.cells #[.slice A n cap] 37) (Obj.cells #[.int .i64 ax, .int .i64 ay, .int .i64 rx, .int .i64 ry, .int .i64 lx, .int .i64 ly, .int .i64 q] 51) (Obj.cells #[.nilFunc] 111)
  have HO : ∀ W W' : World, (Pts.BoxR W (w.heap.size) (.slice A n cap) ∧ Tup7.Box W (w.heap.size + 1) ax ay rx ry lx ly q ∧ Blk.Holds W (w.heap.size + 1 + 1) #[.nilFunc] 111 ∧ PtsAt W w.heap.size A ps ∧ w.heap.size + 3 ≤ W.heap.size ∧ Below w.heap.size w W) → Below W.heap.size W W' → (Pts.BoxR W' (w.heap.size) (.slice A n cap) ∧ Tup7.Box W' (w.heap.size + 1) ax ay rx ry lx ly q ∧ Blk.Holds W' (w.heap.size + 1 + 1) #[.nilFunc] 111 ∧ PtsAt W' w.heap.size A ps ∧ w.heap.size + 3 ≤ W'.heap.size ∧ Below w.heap.size w W') := fun W W' ⟨h0, h1, h2, x0, x1, hb⟩ h => ⟨h0.later h, h1.later h, h2.later h, x0.later (h.mono hb.size), Nat.le_trans x1 h.size, hb.trans (h.mono hb.size)⟩
  have hz0_ : Hid (((((w.alloc (Obj.cells #[.slice A n cap] 37)).alloc (Obj.cells #[.int .i64 ax, .int .i64 ay, .int .i64 rx, .int .i64 ry, .int .i64 lx, .int .i64 ly, .int .i64 q] 51)).alloc (Obj.cells #[.nilFunc] 111))).heap.size = w.heap.size + 1 + 1 + 1) := Lib.hid (by simp)
  have Y0 : PtsAt ((((w.alloc (Obj.cells #[.slice A n cap] 37)).alloc (Obj.cells #[.int .i64 ax, .int .i64 ay, .int .i64 rx, .int .i64 ry, .int .i64 lx, .int .i64 ly, .int .i64 q] 51)).alloc (Obj.cells #[.nilFunc] 111))) w.heap.size A ps := hp.later b0
  have Y1 : w.heap.size + 3 ≤ ((((w.alloc (Obj.cells #[.slice A n cap] 37)).alloc (Obj.cells #[.int .i64 ax, .int .i64 ay, .int .i64 rx, .int .i64 ry, .int .i64 lx, .int .i64 ly, .int .i64 q] 51)).alloc (Obj.cells #[.nilFunc] 111))).heap.size := by simp
  generalize (((w.alloc (Obj.cells #[.slice A n cap] 37)).alloc (Obj.cells #[.int .i64 ax, .int .i64 ay, .int .i64 rx, .int .i64 ry, .int .i64 lx, .int .i64 ly, .int .i64 q] 51)).alloc (Obj.cells #[.nilFunc] 111)) = w0 at X0 X1 X2 Y0 Y1 b0 hz0_ ⊢
  have S0 := (⟨X0, X1, X2, Y0, Y1, b0⟩ : Pts.BoxR w0 (w.heap.size) (.slice A n cap) ∧ Tup7.Box w0 (w.heap.size + 1) ax ay rx ry lx ly q ∧ Blk.Holds w0 (w.heap.size + 1 + 1) #[.nilFunc] 111 ∧ PtsAt w0 w.heap.size A ps ∧ w.heap.size + 3 ≤ w0.heap.size ∧ Below w.heap.size w w0)
  clear X0 X1 X2 Y0 Y1 b0
  obtain ⟨⟨_, _⟩, ⟨_, _, _, _, _, _, _⟩, _, _, _, _⟩ := id S0
  refine (TrackImpl.cameraOk ax ay rx ry lx ly q _).mono ?_
  rintro e w1 ⟨rfl, hb_⟩
  replace S0 := HO _ _ S0 hb_
  clear hb_
  obtain ⟨⟨_, _⟩, ⟨_, _, _, _, _, _, _⟩, _, _, _, _⟩ := id S0

  rw [hc]
  go_wp2_with fail
  refine (PlaceImpl.isIn A n cap ax ay _ ps hl hn (S0.2.2.2.1.wide S0.2.2.2.2.2.size)).mono ?_
  rintro e w2 ⟨rfl, hb_⟩
  replace S0 := HO _ _ S0 hb_
  clear hb_
  obtain ⟨⟨_, _⟩, ⟨_, _, _, _, _, _, _⟩, _, _, _, _⟩ := id S0
  rw [ha]
  have hr := roomB_yes (inB_parts ha).1
  have QF : Hid (∀ w hp, _) := Lib.hid fun w hp => sightFrom A n cap ax ay w ps hl (by omega) hr.2.1 hp
  unfold Asks at QF
  have HO3 : ∀ W W' : World, (Pts.BoxR W w.heap.size (.slice A n cap) ∧ Tup7.Box W (w.heap.size + 1) ax ay rx ry lx ly q ∧ Blk.Holds W (w.heap.size + 1 + 1) #[.nilFunc] 111 ∧ PtsAt W w.heap.size A ps ∧ w.heap.size + 3 ≤ W.heap.size ∧ Below w.heap.size w W) → Below (w.heap.size + 3) W W' → (Pts.BoxR W' w.heap.size (.slice A n cap) ∧ Tup7.Box W' (w.heap.size + 1) ax ay rx ry lx ly q ∧ Blk.Holds W' (w.heap.size + 1 + 1) #[.nilFunc] 111 ∧ PtsAt W' w.heap.size A ps ∧ w.heap.size + 3 ≤ W'.heap.size ∧ Below w.heap.size w W') := fun W W' ⟨h0, h1, h2, x0, x1, hb⟩ h => ⟨⟨(h.cell (by show w.heap.size < _; omega)).trans h0.1, trivial⟩, h1.laterB (by omega) h, (h.block _ (by omega)).trans h2, x0.later (h.mono (by omega)), Nat.le_trans x1 h.size, hb.trans (h.mono (by omega))⟩
  have HSS : ∀ W : World, (Pts.BoxR W w.heap.size (.slice A n cap) ∧ Tup7.Box W (w.heap.size + 1) ax ay rx ry lx ly q ∧ Blk.Holds W (w.heap.size + 1 + 1) #[.nilFunc] 111 ∧ PtsAt W w.heap.size A ps ∧ w.heap.size + 3 ≤ W.heap.size ∧ Below w.heap.size w W) → (W.cell? ⟨w.heap.size, 0, none⟩ = some (.slice A n cap) ∧ W.cell? ⟨w.heap.size + 1, 0, none⟩ = some (.int .i64 ax) ∧ W.cell? ⟨w.heap.size + 1, 1, none⟩ = some (.int .i64 ay) ∧ W.cell? ⟨w.heap.size + 1, 2, none⟩ = some (.int .i64 rx) ∧ W.cell? ⟨w.heap.size + 1, 3, none⟩ = some (.int .i64 ry) ∧ W.cell? ⟨w.heap.size + 1, 4, none⟩ = some (.int .i64 lx) ∧ W.cell? ⟨w.heap.size + 1, 5, none⟩ = some (.int .i64 ly) ∧ W.cell? ⟨w.heap.size + 1, 6, none⟩ = some (.int .i64 q)) := fun W h => ⟨h.1.1, h.2.1.1, h.2.1.2.1, h.2.1.2.2.1, h.2.1.2.2.2.1, h.2.1.2.2.2.2.1, h.2.1.2.2.2.2.2.1, h.2.1.2.2.2.2.2.2⟩
  clear hr hl
  go_wp2_with fail
  have SD := HO _ _ S0 (Below.refl w2.heap.size w2).drew
  have HS0_ := HSS _ SD
  clear S0
  refine wp_region_held_drew (S := fun W => (W.cell? ⟨w.heap.size, 0, none⟩ = some (.slice A n cap) ∧ W.cell? ⟨w.heap.size + 1, 0, none⟩ = some (.int .i64 ax) ∧ W.cell? ⟨w.heap.size + 1, 1, none⟩ = some (.int .i64 ay) ∧ W.cell? ⟨w.heap.size + 1, 2, none⟩ = some (.int .i64 rx) ∧ W.cell? ⟨w.heap.size + 1, 3, none⟩ = some (.int .i64 ry) ∧ W.cell? ⟨w.heap.size + 1, 4, none⟩ = some (.int .i64 lx) ∧ W.cell? ⟨w.heap.size + 1, 5, none⟩ = some (.int .i64 ly) ∧ W.cell? ⟨w.heap.size + 1, 6, none⟩ = some (.int .i64 q))) (by kernel_rfl) HS0_ (fun hHeld => ?_)
  clear HS0_
  generalize w2.drew = v0 at *
  have S0 := SD
  clear SD
  refine wpAnyH_take (i := 0) (oi := ⟨some 18, _, _, _, _, _⟩) (v := ?_) rfl (by kernel_rfl) (by kernel_rfl) (by kernel_rfl) (fun _ _ _ h => h) (Or.inl ⟨by rfl, ?_⟩) (by assumption) ?_
  rotate_left 1
  · (intro w hSw; (try dsimp only at hSw); go_simp; try with_reducible rfl)
  try simp only [Act.put, List.setIfInBounds_toArray, List.set_cons_zero, List.set_cons_succ]
  refine wpAnyH_take (i := 2) (oi := ⟨some 20, _, _, _, _, _⟩) (v := ?_) rfl (by kernel_rfl) (by kernel_rfl) (by kernel_rfl) (fun _ _ _ h => h) (Or.inl ⟨by rfl, ?_⟩) (by assumption) ?_
  rotate_left 1
  · (intro w hSw; (try dsimp only at hSw); go_simp; try with_reducible rfl)
  try simp only [Act.put, List.setIfInBounds_toArray, List.set_cons_zero, List.set_cons_succ]
  refine wpAnyH_take (i := 3) (oi := ⟨some 21, _, _, _, _, _⟩) (v := ?_) rfl (by kernel_rfl) (by kernel_rfl) (by kernel_rfl) (fun _ _ _ h => h) (Or.inl ⟨by rfl, ?_⟩) (by assumption) ?_
  rotate_left 1
  · (intro w hSw; (try dsimp only at hSw); go_simp; try with_reducible rfl)
  try simp only [Act.put, List.setIfInBounds_toArray, List.set_cons_zero, List.set_cons_succ]
  refine wpAnyH_take (i := 4) (oi := ⟨some 22, _, _, _, _, _⟩) (v := ?_) rfl (by kernel_rfl) (by kernel_rfl) (by kernel_rfl) (fun _ _ _ h => h) (Or.inl ⟨by rfl, ?_⟩) (by assumption) ?_
  rotate_left 1
  · (intro w hSw; (try dsimp only at hSw); go_simp; try with_reducible rfl)
  try simp only [Act.put, List.setIfInBounds_toArray, List.set_cons_zero, List.set_cons_succ]
  refine wpAnyH_ready (rs := [1, 6, 7]) (by kernel_rfl) (by simp) ?_
  refine AllReadyH.cons (o := ⟨some 19, _, _, _, _, _⟩) rfl (fun K hK => ?_) ?_
  · skip
    go_simp
    go_at_call 135
    refine (TrackImpl.lensOf ax ay rx ry lx ly q _).mono ?_
    rintro e v1 ⟨C, rfl, HC, hC_, hb_⟩
    have hC : C < v1.heap.size := World.block_lt_of_cell? v1 _ HC.1
    replace S0 := HO _ _ S0 hb_
    clear hb_ hC_
    refine hK.out _ _ (HSS _ S0) (fun hHeld => ?_)
    clear hK K
    try simp only [Act.put, List.setIfInBounds_toArray, List.set_cons_zero, List.set_cons_succ]
    refine wpAnyH_ready (rs := [5, 6, 7]) (by kernel_rfl) (by simp) ?_
    refine AllReadyH.cons (o := ⟨some 23, _, _, _, _, _⟩) rfl (fun K hK => ?_) ?_
    · skip
      go_simp
      go_at_call 136
      refine (QF.out _ (S0.2.2.2.1.wide S0.2.2.2.2.2.size)).mono ?_
      rintro e v5 ⟨C1, C2, Ad, cd, rfl, HB1_, HB2, HQ, hb_⟩
      have HB1 := HB1_.1
      clear HB1_
      have hC1 : C1 < v5.heap.size := World.block_lt_of_cell? v5 _ HB1
      replace HC := HC.later hb_
      replace hC := Nat.lt_of_lt_of_le hC hb_.size
      replace S0 := HO _ _ S0 hb_
      clear hb_
      refine hK.out _ _ (HSS _ S0) (fun hHeld => ?_)
      clear hK K
      try simp only [Act.put, List.setIfInBounds_toArray, List.set_cons_zero, List.set_cons_succ]
      refine wpAnyH_ready (rs := [6, 7]) (by kernel_rfl) (by simp) ?_
      refine AllReadyH.cons (o := ⟨some 5, _, _, _, _, _⟩) rfl (fun K hK => ?_) ?_
      · skip
        obtain ⟨k6, hk6⟩ : ∃ q, q = v5.heap.size := ⟨_, rfl⟩
        have lo6 : w.heap.size + 3 ≤ k6 := by rw [hk6]; exact S0.2.2.2.2.1
        have H6 := Blk.Holds.box v5 #[.nilFunc] 111 hk6
        have hb_ := below1 v5 (Obj.cells #[.nilFunc] 111)
        replace HC := HC.later hb_
        replace hC := Nat.lt_of_lt_of_le hC hb_.size
        replace HB1 := (hb_.cell (p := ⟨C1, 0, none⟩) hC1).trans HB1
        replace hC1 := Nat.lt_of_lt_of_le hC1 hb_.size
        replace HB2 := HB2.later hb_
        replace HQ := (HQ.later hb_).wide hb_.size
        replace S0 := HO _ _ S0 hb_
        clear hb_
        go_simp
        try rw [← hk6]
        generalize v5.alloc (Obj.cells #[.nilFunc] 111) = v6 at *
        clear hk6
        refine hK.out _ _ (HSS _ S0) (fun hHeld => ?_)
        clear hK K
        try simp only [Act.put, List.setIfInBounds_toArray, List.set_cons_zero, List.set_cons_succ]
        refine wpAnyH_ready (rs := [7]) (by kernel_rfl) (by simp) ?_
        refine AllReadyH.cons (o := ⟨some 6, _, _, _, _, _⟩) rfl (fun K hK => ?_) ?_
        rotate_left 1
        · exact AllReadyH.nil
        obtain ⟨k7, hk7⟩ : ∃ q, q = v6.heap.size := ⟨_, rfl⟩
        have lo7 : w.heap.size + 3 ≤ k7 := by rw [hk7]; exact S0.2.2.2.2.1
        have H7 := Blk.Holds.box v6 #[.nilFunc] 109 hk7
        have n67 : k6 ≠ k7 := by have := H6.lt; omega
        have hb_ := below1 v6 (Obj.cells #[.nilFunc] 109)
        replace HC := HC.later hb_
        replace hC := Nat.lt_of_lt_of_le hC hb_.size
        replace HB1 := (hb_.cell (p := ⟨C1, 0, none⟩) hC1).trans HB1
        replace hC1 := Nat.lt_of_lt_of_le hC1 hb_.size
        replace HB2 := HB2.later hb_
        replace HQ := (HQ.later hb_).wide hb_.size
        replace H6 := H6.later hb_
        replace S0 := HO _ _ S0 hb_
        clear hb_
        go_simp
        try rw [← hk7]
        generalize v6.alloc (Obj.cells #[.nilFunc] 109) = v7 at *
        clear hk7
        refine hK.out _ _ (HSS _ S0) (fun hHeld => ?_)
        clear hK K
        try simp only [Act.put, List.setIfInBounds_toArray, List.set_cons_zero, List.set_cons_succ]
        refine wpAnyH_ready (rs := [8]) (by kernel_rfl) (by simp) ?_
        refine AllReadyH.cons (o := ⟨none, _, _, _, _, _⟩) rfl (fun K hK => ?_) ?_
        rotate_left 1
        · exact AllReadyH.nil
        obtain ⟨_, _⟩ := H6.one
        have hb_ := below_set v7 (w.heap.size + 3) k6 0 (.func (.func 168) #[] #[.pointer (some ⟨C, 0, none⟩)]) lo6
        have hs_ := hb_.size
        replace HC := tup_far (u := (.func (.func 168) #[] #[.pointer (some ⟨C, 0, none⟩)])) H6 (fun i h => by cases h) HC
        replace hC := Nat.lt_of_lt_of_le hC hs_
        replace HB1 := cell_far (u := (.func (.func 168) #[] #[.pointer (some ⟨C, 0, none⟩)])) H6 HB1 (fun h => by cases h)
        replace hC1 := Nat.lt_of_lt_of_le hC1 hs_
        replace HB2 := box_far (u := (.func (.func 168) #[] #[.pointer (some ⟨C, 0, none⟩)])) H6 (fun i h => by cases h) HB2
        replace HQ := (pts_far (u := (.func (.func 168) #[] #[.pointer (some ⟨C, 0, none⟩)])) H6 (fun i h => by cases h) HQ).wide hs_
        replace H7 := H7.far ⟨k6, 0, none⟩ (.func (.func 168) #[] #[.pointer (some ⟨C, 0, none⟩)]) (fun e => n67 e.symm)
        replace H6 : Holds (v7.setCell ⟨k6, 0, none⟩ (.func (.func 168) #[] #[.pointer (some ⟨C, 0, none⟩)])) k6 #[(.func (.func 168) #[] #[.pointer (some ⟨C, 0, none⟩)])] 111 := Blk.set_own H6 0 (.func (.func 168) #[] #[.pointer (some ⟨C, 0, none⟩)])
        replace S0 := HO3 _ _ S0 hb_
        go_simp
        generalize v7.setCell ⟨k6, 0, none⟩ (.func (.func 168) #[] #[.pointer (some ⟨C, 0, none⟩)]) = v8 at *
        clear hb_ hs_
        refine hK.out _ _ (HSS _ S0) (fun hHeld => ?_)
        clear hK K
        try simp only [Act.put, List.setIfInBounds_toArray, List.set_cons_zero, List.set_cons_succ]
        refine wpAnyH_ready (rs := [9]) (by kernel_rfl) (by simp) ?_
        refine AllReadyH.cons (o := ⟨none, _, _, _, _, _⟩) rfl (fun K hK => ?_) ?_
        rotate_left 1
        · exact AllReadyH.nil
        obtain ⟨_, _⟩ := H7.one
        have hb_ := below_set v8 (w.heap.size + 3) k7 0 (.func (.func 171) #[] #[.pointer (some ⟨C1, 0, none⟩), .pointer (some ⟨C2, 0, none⟩)]) lo7
        have hs_ := hb_.size
        replace HC := tup_far (u := (.func (.func 171) #[] #[.pointer (some ⟨C1, 0, none⟩), .pointer (some ⟨C2, 0, none⟩)])) H7 (fun i h => by cases h) HC
        replace hC := Nat.lt_of_lt_of_le hC hs_
        replace HB1 := cell_far (u := (.func (.func 171) #[] #[.pointer (some ⟨C1, 0, none⟩), .pointer (some ⟨C2, 0, none⟩)])) H7 HB1 (fun h => by cases h)
        replace hC1 := Nat.lt_of_lt_of_le hC1 hs_
        replace HB2 := box_far (u := (.func (.func 171) #[] #[.pointer (some ⟨C1, 0, none⟩), .pointer (some ⟨C2, 0, none⟩)])) H7 (fun i h => by cases h) HB2
        replace HQ := (pts_far (u := (.func (.func 171) #[] #[.pointer (some ⟨C1, 0, none⟩), .pointer (some ⟨C2, 0, none⟩)])) H7 (fun i h => by cases h) HQ).wide hs_
        replace H6 := H6.far ⟨k7, 0, none⟩ (.func (.func 171) #[] #[.pointer (some ⟨C1, 0, none⟩), .pointer (some ⟨C2, 0, none⟩)]) n67
        replace H7 : Holds (v8.setCell ⟨k7, 0, none⟩ (.func (.func 171) #[] #[.pointer (some ⟨C1, 0, none⟩), .pointer (some ⟨C2, 0, none⟩)])) k7 #[(.func (.func 171) #[] #[.pointer (some ⟨C1, 0, none⟩), .pointer (some ⟨C2, 0, none⟩)])] 109 := Blk.set_own H7 0 (.func (.func 171) #[] #[.pointer (some ⟨C1, 0, none⟩), .pointer (some ⟨C2, 0, none⟩)])
        replace S0 := HO3 _ _ S0 hb_
        go_simp
        generalize v8.setCell ⟨k7, 0, none⟩ (.func (.func 171) #[] #[.pointer (some ⟨C1, 0, none⟩), .pointer (some ⟨C2, 0, none⟩)]) = v9 at *
        clear hb_ hs_
        refine hK.out _ _ (HSS _ S0) (fun hHeld => ?_)
        clear hK K
        try simp only [Act.put, List.setIfInBounds_toArray, List.set_cons_zero, List.set_cons_succ]
        refine wpAnyH_done (by kernel_rfl) ?_ _
        have hR := S0.2.2.1
        have E_ := Blk.set_own hR 0 (.func (.func 137) #[] #[.pointer (some ⟨k6, 0, none⟩), .pointer (some ⟨k7, 0, none⟩)])
        obtain ⟨r0_, _⟩ := Blk.Holds.one E_
        have hb_ := (below_set v9 (w.heap.size + 1 + 1) (w.heap.size + 1 + 1) 0 (.func (.func 137) #[] #[.pointer (some ⟨k6, 0, none⟩), .pointer (some ⟨k7, 0, none⟩)]) (Nat.le_refl _))
        have hb4 := Lib.hid (S0.2.2.2.2.2.trans (hb_.mono (by omega)))
        have hs_ := hb_.size
        have FC : Hid (FilmC (v9.setCell ⟨w.heap.size + 1 + 1, 0, none⟩ (.func (.func 137) #[] #[.pointer (some ⟨k6, 0, none⟩), .pointer (some ⟨k7, 0, none⟩)])) k6 k7 C C1 C2) := Lib.hid ⟨⟨cell_far hR (H6.one).1 (fun h => by cases h), Nat.lt_of_lt_of_le H6.lt hs_⟩, ⟨cell_far hR (H7.one).1 (fun h => by cases h), Nat.lt_of_lt_of_le H7.lt hs_⟩⟩
        have FA : Hid (FilmAt (v9.setCell ⟨w.heap.size + 1 + 1, 0, none⟩ (.func (.func 137) #[] #[.pointer (some ⟨k6, 0, none⟩), .pointer (some ⟨k7, 0, none⟩)])) C C1 C2 Ad n cd ps ax ay rx ry lx ly q) := Lib.hid ⟨tup_far hR (fun i h => by cases h) HC, Nat.lt_of_lt_of_le hC hs_, cell_far hR HB1 (fun h => by cases h), Nat.lt_of_lt_of_le hC1 hs_, box_far hR (fun i h => by cases h) HB2, (pts_far hR (fun i h => by cases h) HQ).wide hs_⟩
        obtain ⟨_, _⟩ := hR.one
        clear hR HC HB1 HB2 HQ S0 H6 H7 QF
        go_wp2_with fail
        refine bodyPost_ret (v := .agg #[(.func (.func 137) #[] #[.pointer (some ⟨k6, 0, none⟩), .pointer (some ⟨k7, 0, none⟩)])]) (by simp [results, Try.results84, go_sem, r0_]) rfl ⟨k6, k7, C, C1, C2, Ad, cd, rfl, FC.out, FA.out, hb4.out⟩
      refine AllReadyH.cons (o := ⟨some 6, _, _, _, _, _⟩) rfl (fun K hK => ?_) ?_
      · skip
        obtain ⟨k7, hk7⟩ : ∃ q, q = v5.heap.size := ⟨_, rfl⟩
        have lo7 : w.heap.size + 3 ≤ k7 := by rw [hk7]; exact S0.2.2.2.2.1
        have H7 := Blk.Holds.box v5 #[.nilFunc] 109 hk7
        have hb_ := below1 v5 (Obj.cells #[.nilFunc] 109)
        replace HC := HC.later hb_
        replace hC := Nat.lt_of_lt_of_le hC hb_.size
        replace HB1 := (hb_.cell (p := ⟨C1, 0, none⟩) hC1).trans HB1
        replace hC1 := Nat.lt_of_lt_of_le hC1 hb_.size
        replace HB2 := HB2.later hb_
        replace HQ := (HQ.later hb_).wide hb_.size
        replace S0 := HO _ _ S0 hb_
        clear hb_
        go_simp
        try rw [← hk7]
        generalize v5.alloc (Obj.cells #[.nilFunc] 109) = v7 at *
        clear hk7
        refine hK.out _ _ (HSS _ S0) (fun hHeld => ?_)
        clear hK K
        try simp only [Act.put, List.setIfInBounds_toArray, List.set_cons_zero, List.set_cons_succ]
        refine wpAnyH_ready (rs := [6]) (by kernel_rfl) (by simp) ?_
        refine AllReadyH.cons (o := ⟨some 5, _, _, _, _, _⟩) rfl (fun K hK => ?_) ?_
        rotate_left 1
        · exact AllReadyH.nil
        obtain ⟨k6, hk6⟩ : ∃ q, q = v7.heap.size := ⟨_, rfl⟩
        have lo6 : w.heap.size + 3 ≤ k6 := by rw [hk6]; exact S0.2.2.2.2.1
        have H6 := Blk.Holds.box v7 #[.nilFunc] 111 hk6
        have n67 : k6 ≠ k7 := by have := H7.lt; omega
        have hb_ := below1 v7 (Obj.cells #[.nilFunc] 111)
        replace HC := HC.later hb_
        replace hC := Nat.lt_of_lt_of_le hC hb_.size
        replace HB1 := (hb_.cell (p := ⟨C1, 0, none⟩) hC1).trans HB1
        replace hC1 := Nat.lt_of_lt_of_le hC1 hb_.size
        replace HB2 := HB2.later hb_
        replace HQ := (HQ.later hb_).wide hb_.size
        replace H7 := H7.later hb_
        replace S0 := HO _ _ S0 hb_
        clear hb_
        go_simp
        try rw [← hk6]
        generalize v7.alloc (Obj.cells #[.nilFunc] 111) = v6 at *
        clear hk6
        refine hK.out _ _ (HSS _ S0) (fun hHeld => ?_)
        clear hK K
        try simp only [Act.put, List.setIfInBounds_toArray, List.set_cons_zero, List.set_cons_succ]
        refine wpAnyH_ready (rs := [8]) (by kernel_rfl) (by simp) ?_
        refine AllReadyH.cons (o := ⟨none, _, _, _, _, _⟩) rfl (fun K hK => ?_) ?_
        rotate_left 1
        · exact AllReadyH.nil
        obtain ⟨_, _⟩ := H6.one
        have hb_ := below_set v6 (w.heap.size + 3) k6 0 (.func (.func 168) #[] #[.pointer (some ⟨C, 0, none⟩)]) lo6
        have hs_ := hb_.size
        replace HC := tup_far (u := (.func (.func 168) #[] #[.pointer (some ⟨C, 0, none⟩)])) H6 (fun i h => by cases h) HC
        replace hC := Nat.lt_of_lt_of_le hC hs_
        replace HB1 := cell_far (u := (.func (.func 168) #[] #[.pointer (some ⟨C, 0, none⟩)])) H6 HB1 (fun h => by cases h)
        replace hC1 := Nat.lt_of_lt_of_le hC1 hs_
        replace HB2 := box_far (u := (.func (.func 168) #[] #[.pointer (some ⟨C, 0, none⟩)])) H6 (fun i h => by cases h) HB2
        replace HQ := (pts_far (u := (.func (.func 168) #[] #[.pointer (some ⟨C, 0, none⟩)])) H6 (fun i h => by cases h) HQ).wide hs_
        replace H7 := H7.far ⟨k6, 0, none⟩ (.func (.func 168) #[] #[.pointer (some ⟨C, 0, none⟩)]) (fun e => n67 e.symm)
        replace H6 : Holds (v6.setCell ⟨k6, 0, none⟩ (.func (.func 168) #[] #[.pointer (some ⟨C, 0, none⟩)])) k6 #[(.func (.func 168) #[] #[.pointer (some ⟨C, 0, none⟩)])] 111 := Blk.set_own H6 0 (.func (.func 168) #[] #[.pointer (some ⟨C, 0, none⟩)])
        replace S0 := HO3 _ _ S0 hb_
        go_simp
        generalize v6.setCell ⟨k6, 0, none⟩ (.func (.func 168) #[] #[.pointer (some ⟨C, 0, none⟩)]) = v8 at *
        clear hb_ hs_
        refine hK.out _ _ (HSS _ S0) (fun hHeld => ?_)
        clear hK K
        try simp only [Act.put, List.setIfInBounds_toArray, List.set_cons_zero, List.set_cons_succ]
        refine wpAnyH_ready (rs := [9]) (by kernel_rfl) (by simp) ?_
        refine AllReadyH.cons (o := ⟨none, _, _, _, _, _⟩) rfl (fun K hK => ?_) ?_
        rotate_left 1
        · exact AllReadyH.nil
        obtain ⟨_, _⟩ := H7.one
        have hb_ := below_set v8 (w.heap.size + 3) k7 0 (.func (.func 171) #[] #[.pointer (some ⟨C1, 0, none⟩), .pointer (some ⟨C2, 0, none⟩)]) lo7
        have hs_ := hb_.size
        replace HC := tup_far (u := (.func (.func 171) #[] #[.pointer (some ⟨C1, 0, none⟩), .pointer (some ⟨C2, 0, none⟩)])) H7 (fun i h => by cases h) HC
        replace hC := Nat.lt_of_lt_of_le hC hs_
        replace HB1 := cell_far (u := (.func (.func 171) #[] #[.pointer (some ⟨C1, 0, none⟩), .pointer (some ⟨C2, 0, none⟩)])) H7 HB1 (fun h => by cases h)
        replace hC1 := Nat.lt_of_lt_of_le hC1 hs_
        replace HB2 := box_far (u := (.func (.func 171) #[] #[.pointer (some ⟨C1, 0, none⟩), .pointer (some ⟨C2, 0, none⟩)])) H7 (fun i h => by cases h) HB2
        replace HQ := (pts_far (u := (.func (.func 171) #[] #[.pointer (some ⟨C1, 0, none⟩), .pointer (some ⟨C2, 0, none⟩)])) H7 (fun i h => by cases h) HQ).wide hs_
        replace H6 := H6.far ⟨k7, 0, none⟩ (.func (.func 171) #[] #[.pointer (some ⟨C1, 0, none⟩), .pointer (some ⟨C2, 0, none⟩)]) n67
        replace H7 : Holds (v8.setCell ⟨k7, 0, none⟩ (.func (.func 171) #[] #[.pointer (some ⟨C1, 0, none⟩), .pointer (some ⟨C2, 0, none⟩)])) k7 #[(.func (.func 171) #[] #[.pointer (some ⟨C1, 0, none⟩), .pointer (some ⟨C2, 0, none⟩)])] 109 := Blk.set_own H7 0 (.func (.func 171) #[] #[.pointer (some ⟨C1, 0, none⟩), .pointer (some ⟨C2, 0, none⟩)])
        replace S0 := HO3 _ _ S0 hb_
        go_simp
        generalize v8.setCell ⟨k7, 0, none⟩ (.func (.func 171) #[] #[.pointer (some ⟨C1, 0, none⟩), .pointer (some ⟨C2, 0, none⟩)]) = v9 at *
        clear hb_ hs_
        refine hK.out _ _ (HSS _ S0) (fun hHeld => ?_)
        clear hK K
        try simp only [Act.put, List.setIfInBounds_toArray, List.set_cons_zero, List.set_cons_succ]
        refine wpAnyH_done (by kernel_rfl) ?_ _
        have hR := S0.2.2.1
        have E_ := Blk.set_own hR 0 (.func (.func 137) #[] #[.pointer (some ⟨k6, 0, none⟩), .pointer (some ⟨k7, 0, none⟩)])
        obtain ⟨r0_, _⟩ := Blk.Holds.one E_
        have hb_ := (below_set v9 (w.heap.size + 1 + 1) (w.heap.size + 1 + 1) 0 (.func (.func 137) #[] #[.pointer (some ⟨k6, 0, none⟩), .pointer (some ⟨k7, 0, none⟩)]) (Nat.le_refl _))
        have hb4 := Lib.hid (S0.2.2.2.2.2.trans (hb_.mono (by omega)))
        have hs_ := hb_.size
        have FC : Hid (FilmC (v9.setCell ⟨w.heap.size + 1 + 1, 0, none⟩ (.func (.func 137) #[] #[.pointer (some ⟨k6, 0, none⟩), .pointer (some ⟨k7, 0, none⟩)])) k6 k7 C C1 C2) := Lib.hid ⟨⟨cell_far hR (H6.one).1 (fun h => by cases h), Nat.lt_of_lt_of_le H6.lt hs_⟩, ⟨cell_far hR (H7.one).1 (fun h => by cases h), Nat.lt_of_lt_of_le H7.lt hs_⟩⟩
        have FA : Hid (FilmAt (v9.setCell ⟨w.heap.size + 1 + 1, 0, none⟩ (.func (.func 137) #[] #[.pointer (some ⟨k6, 0, none⟩), .pointer (some ⟨k7, 0, none⟩)])) C C1 C2 Ad n cd ps ax ay rx ry lx ly q) := Lib.hid ⟨tup_far hR (fun i h => by cases h) HC, Nat.lt_of_lt_of_le hC hs_, cell_far hR HB1 (fun h => by cases h), Nat.lt_of_lt_of_le hC1 hs_, box_far hR (fun i h => by cases h) HB2, (pts_far hR (fun i h => by cases h) HQ).wide hs_⟩
        obtain ⟨_, _⟩ := hR.one
        clear hR HC HB1 HB2 HQ S0 H6 H7 QF
        go_wp2_with fail
        refine bodyPost_ret (v := .agg #[(.func (.func 137) #[] #[.pointer (some ⟨k6, 0, none⟩), .pointer (some ⟨k7, 0, none⟩)])]) (by simp [results, Try.results84, go_sem, r0_]) rfl ⟨k6, k7, C, C1, C2, Ad, cd, rfl, FC.out, FA.out, hb4.out⟩
      exact AllReadyH.nil
    refine AllReadyH.cons (o := ⟨some 5, _, _, _, _, _⟩) rfl (fun K hK => ?_) ?_
    · skip
      obtain ⟨k6, hk6⟩ : ∃ q, q = v1.heap.size := ⟨_, rfl⟩
      have lo6 : w.heap.size + 3 ≤ k6 := by rw [hk6]; exact S0.2.2.2.2.1
      have H6 := Blk.Holds.box v1 #[.nilFunc] 111 hk6
      have hb_ := below1 v1 (Obj.cells #[.nilFunc] 111)
      replace HC := HC.later hb_
      replace hC := Nat.lt_of_lt_of_le hC hb_.size
      replace S0 := HO _ _ S0 hb_
      clear hb_
      go_simp
      try rw [← hk6]
      generalize v1.alloc (Obj.cells #[.nilFunc] 111) = v6 at *
      clear hk6
      refine hK.out _ _ (HSS _ S0) (fun hHeld => ?_)
      clear hK K
      try simp only [Act.put, List.setIfInBounds_toArray, List.set_cons_zero, List.set_cons_succ]
      refine wpAnyH_ready (rs := [5, 7]) (by kernel_rfl) (by simp) ?_
      refine AllReadyH.cons (o := ⟨some 23, _, _, _, _, _⟩) rfl (fun K hK => ?_) ?_
      · skip
        go_simp
        go_at_call 136
        refine (QF.out _ (S0.2.2.2.1.wide S0.2.2.2.2.2.size)).mono ?_
        rintro e v5 ⟨C1, C2, Ad, cd, rfl, HB1_, HB2, HQ, hb_⟩
        have HB1 := HB1_.1
        clear HB1_
        have hC1 : C1 < v5.heap.size := World.block_lt_of_cell? v5 _ HB1
        replace HC := HC.later hb_
        replace hC := Nat.lt_of_lt_of_le hC hb_.size
        replace H6 := H6.later hb_
        replace S0 := HO _ _ S0 hb_
        clear hb_
        refine hK.out _ _ (HSS _ S0) (fun hHeld => ?_)
        clear hK K
        try simp only [Act.put, List.setIfInBounds_toArray, List.set_cons_zero, List.set_cons_succ]
        refine wpAnyH_ready (rs := [7]) (by kernel_rfl) (by simp) ?_
        refine AllReadyH.cons (o := ⟨some 6, _, _, _, _, _⟩) rfl (fun K hK => ?_) ?_
        rotate_left 1
        · exact AllReadyH.nil
        obtain ⟨k7, hk7⟩ : ∃ q, q = v5.heap.size := ⟨_, rfl⟩
        have lo7 : w.heap.size + 3 ≤ k7 := by rw [hk7]; exact S0.2.2.2.2.1
        have H7 := Blk.Holds.box v5 #[.nilFunc] 109 hk7
        have n67 : k6 ≠ k7 := by have := H6.lt; omega
        have hb_ := below1 v5 (Obj.cells #[.nilFunc] 109)
        replace HC := HC.later hb_
        replace hC := Nat.lt_of_lt_of_le hC hb_.size
        replace HB1 := (hb_.cell (p := ⟨C1, 0, none⟩) hC1).trans HB1
        replace hC1 := Nat.lt_of_lt_of_le hC1 hb_.size
        replace HB2 := HB2.later hb_
        replace HQ := (HQ.later hb_).wide hb_.size
        replace H6 := H6.later hb_
        replace S0 := HO _ _ S0 hb_
        clear hb_
        go_simp
        try rw [← hk7]
        generalize v5.alloc (Obj.cells #[.nilFunc] 109) = v7 at *
        clear hk7
        refine hK.out _ _ (HSS _ S0) (fun hHeld => ?_)
        clear hK K
        try simp only [Act.put, List.setIfInBounds_toArray, List.set_cons_zero, List.set_cons_succ]
        refine wpAnyH_ready (rs := [8]) (by kernel_rfl) (by simp) ?_
        refine AllReadyH.cons (o := ⟨none, _, _, _, _, _⟩) rfl (fun K hK => ?_) ?_
        rotate_left 1
        · exact AllReadyH.nil
        obtain ⟨_, _⟩ := H6.one
        have hb_ := below_set v7 (w.heap.size + 3) k6 0 (.func (.func 168) #[] #[.pointer (some ⟨C, 0, none⟩)]) lo6
        have hs_ := hb_.size
        replace HC := tup_far (u := (.func (.func 168) #[] #[.pointer (some ⟨C, 0, none⟩)])) H6 (fun i h => by cases h) HC
        replace hC := Nat.lt_of_lt_of_le hC hs_
        replace HB1 := cell_far (u := (.func (.func 168) #[] #[.pointer (some ⟨C, 0, none⟩)])) H6 HB1 (fun h => by cases h)
        replace hC1 := Nat.lt_of_lt_of_le hC1 hs_
        replace HB2 := box_far (u := (.func (.func 168) #[] #[.pointer (some ⟨C, 0, none⟩)])) H6 (fun i h => by cases h) HB2
        replace HQ := (pts_far (u := (.func (.func 168) #[] #[.pointer (some ⟨C, 0, none⟩)])) H6 (fun i h => by cases h) HQ).wide hs_
        replace H7 := H7.far ⟨k6, 0, none⟩ (.func (.func 168) #[] #[.pointer (some ⟨C, 0, none⟩)]) (fun e => n67 e.symm)
        replace H6 : Holds (v7.setCell ⟨k6, 0, none⟩ (.func (.func 168) #[] #[.pointer (some ⟨C, 0, none⟩)])) k6 #[(.func (.func 168) #[] #[.pointer (some ⟨C, 0, none⟩)])] 111 := Blk.set_own H6 0 (.func (.func 168) #[] #[.pointer (some ⟨C, 0, none⟩)])
        replace S0 := HO3 _ _ S0 hb_
        go_simp
        generalize v7.setCell ⟨k6, 0, none⟩ (.func (.func 168) #[] #[.pointer (some ⟨C, 0, none⟩)]) = v8 at *
        clear hb_ hs_
        refine hK.out _ _ (HSS _ S0) (fun hHeld => ?_)
        clear hK K
        try simp only [Act.put, List.setIfInBounds_toArray, List.set_cons_zero, List.set_cons_succ]
        refine wpAnyH_ready (rs := [9]) (by kernel_rfl) (by simp) ?_
        refine AllReadyH.cons (o := ⟨none, _, _, _, _, _⟩) rfl (fun K hK => ?_) ?_
        rotate_left 1
        · exact AllReadyH.nil
        obtain ⟨_, _⟩ := H7.one
        have hb_ := below_set v8 (w.heap.size + 3) k7 0 (.func (.func 171) #[] #[.pointer (some ⟨C1, 0, none⟩), .pointer (some ⟨C2, 0, none⟩)]) lo7
        have hs_ := hb_.size
        replace HC := tup_far (u := (.func (.func 171) #[] #[.pointer (some ⟨C1, 0, none⟩), .pointer (some ⟨C2, 0, none⟩)])) H7 (fun i h => by cases h) HC
        replace hC := Nat.lt_of_lt_of_le hC hs_
        replace HB1 := cell_far (u := (.func (.func 171) #[] #[.pointer (some ⟨C1, 0, none⟩), .pointer (some ⟨C2, 0, none⟩)])) H7 HB1 (fun h => by cases h)
        replace hC1 := Nat.lt_of_lt_of_le hC1 hs_
        replace HB2 := box_far (u := (.func (.func 171) #[] #[.pointer (some ⟨C1, 0, none⟩), .pointer (some ⟨C2, 0, none⟩)])) H7 (fun i h => by cases h) HB2
        replace HQ := (pts_far (u := (.func (.func 171) #[] #[.pointer (some ⟨C1, 0, none⟩), .pointer (some ⟨C2, 0, none⟩)])) H7 (fun i h => by cases h) HQ).wide hs_
        replace H6 := H6.far ⟨k7, 0, none⟩ (.func (.func 171) #[] #[.pointer (some ⟨C1, 0, none⟩), .pointer (some ⟨C2, 0, none⟩)]) n67
        replace H7 : Holds (v8.setCell ⟨k7, 0, none⟩ (.func (.func 171) #[] #[.pointer (some ⟨C1, 0, none⟩), .pointer (some ⟨C2, 0, none⟩)])) k7 #[(.func (.func 171) #[] #[.pointer (some ⟨C1, 0, none⟩), .pointer (some ⟨C2, 0, none⟩)])] 109 := Blk.set_own H7 0 (.func (.func 171) #[] #[.pointer (some ⟨C1, 0, none⟩), .pointer (some ⟨C2, 0, none⟩)])
        replace S0 := HO3 _ _ S0 hb_
        go_simp
        generalize v8.setCell ⟨k7, 0, none⟩ (.func (.func 171) #[] #[.pointer (some ⟨C1, 0, none⟩), .pointer (some ⟨C2, 0, none⟩)]) = v9 at *
        clear hb_ hs_
        refine hK.out _ _ (HSS _ S0) (fun hHeld => ?_)
        clear hK K
        try simp only [Act.put, List.setIfInBounds_toArray, List.set_cons_zero, List.set_cons_succ]
        refine wpAnyH_done (by kernel_rfl) ?_ _
        have hR := S0.2.2.1
        have E_ := Blk.set_own hR 0 (.func (.func 137) #[] #[.pointer (some ⟨k6, 0, none⟩), .pointer (some ⟨k7, 0, none⟩)])
        obtain ⟨r0_, _⟩ := Blk.Holds.one E_
        have hb_ := (below_set v9 (w.heap.size + 1 + 1) (w.heap.size + 1 + 1) 0 (.func (.func 137) #[] #[.pointer (some ⟨k6, 0, none⟩), .pointer (some ⟨k7, 0, none⟩)]) (Nat.le_refl _))
        have hb4 := Lib.hid (S0.2.2.2.2.2.trans (hb_.mono (by omega)))
        have hs_ := hb_.size
        have FC : Hid (FilmC (v9.setCell ⟨w.heap.size + 1 + 1, 0, none⟩ (.func (.func 137) #[] #[.pointer (some ⟨k6, 0, none⟩), .pointer (some ⟨k7, 0, none⟩)])) k6 k7 C C1 C2) := Lib.hid ⟨⟨cell_far hR (H6.one).1 (fun h => by cases h), Nat.lt_of_lt_of_le H6.lt hs_⟩, ⟨cell_far hR (H7.one).1 (fun h => by cases h), Nat.lt_of_lt_of_le H7.lt hs_⟩⟩
        have FA : Hid (FilmAt (v9.setCell ⟨w.heap.size + 1 + 1, 0, none⟩ (.func (.func 137) #[] #[.pointer (some ⟨k6, 0, none⟩), .pointer (some ⟨k7, 0, none⟩)])) C C1 C2 Ad n cd ps ax ay rx ry lx ly q) := Lib.hid ⟨tup_far hR (fun i h => by cases h) HC, Nat.lt_of_lt_of_le hC hs_, cell_far hR HB1 (fun h => by cases h), Nat.lt_of_lt_of_le hC1 hs_, box_far hR (fun i h => by cases h) HB2, (pts_far hR (fun i h => by cases h) HQ).wide hs_⟩
        obtain ⟨_, _⟩ := hR.one
        clear hR HC HB1 HB2 HQ S0 H6 H7 QF
        go_wp2_with fail
        refine bodyPost_ret (v := .agg #[(.func (.func 137) #[] #[.pointer (some ⟨k6, 0, none⟩), .pointer (some ⟨k7, 0, none⟩)])]) (by simp [results, Try.results84, go_sem, r0_]) rfl ⟨k6, k7, C, C1, C2, Ad, cd, rfl, FC.out, FA.out, hb4.out⟩
      refine AllReadyH.cons (o := ⟨some 6, _, _, _, _, _⟩) rfl (fun K hK => ?_) ?_
      · skip
        obtain ⟨k7, hk7⟩ : ∃ q, q = v6.heap.size := ⟨_, rfl⟩
        have lo7 : w.heap.size + 3 ≤ k7 := by rw [hk7]; exact S0.2.2.2.2.1
        have H7 := Blk.Holds.box v6 #[.nilFunc] 109 hk7
        have n67 : k6 ≠ k7 := by have := H6.lt; omega
        have hb_ := below1 v6 (Obj.cells #[.nilFunc] 109)
        replace HC := HC.later hb_
        replace hC := Nat.lt_of_lt_of_le hC hb_.size
        replace H6 := H6.later hb_
        replace S0 := HO _ _ S0 hb_
        clear hb_
        go_simp
        try rw [← hk7]
        generalize v6.alloc (Obj.cells #[.nilFunc] 109) = v7 at *
        clear hk7
        refine hK.out _ _ (HSS _ S0) (fun hHeld => ?_)
        clear hK K
        try simp only [Act.put, List.setIfInBounds_toArray, List.set_cons_zero, List.set_cons_succ]
        refine wpAnyH_ready (rs := [5]) (by kernel_rfl) (by simp) ?_
        refine AllReadyH.cons (o := ⟨some 23, _, _, _, _, _⟩) rfl (fun K hK => ?_) ?_
        rotate_left 1
        · exact AllReadyH.nil
        go_simp
        go_at_call 136
        refine (QF.out _ (S0.2.2.2.1.wide S0.2.2.2.2.2.size)).mono ?_
        rintro e v5 ⟨C1, C2, Ad, cd, rfl, HB1_, HB2, HQ, hb_⟩
        have HB1 := HB1_.1
        clear HB1_
        have hC1 : C1 < v5.heap.size := World.block_lt_of_cell? v5 _ HB1
        replace HC := HC.later hb_
        replace hC := Nat.lt_of_lt_of_le hC hb_.size
        replace H6 := H6.later hb_
        replace H7 := H7.later hb_
        replace S0 := HO _ _ S0 hb_
        clear hb_
        refine hK.out _ _ (HSS _ S0) (fun hHeld => ?_)
        clear hK K
        try simp only [Act.put, List.setIfInBounds_toArray, List.set_cons_zero, List.set_cons_succ]
        refine wpAnyH_ready (rs := [8]) (by kernel_rfl) (by simp) ?_
        refine AllReadyH.cons (o := ⟨none, _, _, _, _, _⟩) rfl (fun K hK => ?_) ?_
        rotate_left 1
        · exact AllReadyH.nil
        obtain ⟨_, _⟩ := H6.one
        have hb_ := below_set v5 (w.heap.size + 3) k6 0 (.func (.func 168) #[] #[.pointer (some ⟨C, 0, none⟩)]) lo6
        have hs_ := hb_.size
        replace HC := tup_far (u := (.func (.func 168) #[] #[.pointer (some ⟨C, 0, none⟩)])) H6 (fun i h => by cases h) HC
        replace hC := Nat.lt_of_lt_of_le hC hs_
        replace HB1 := cell_far (u := (.func (.func 168) #[] #[.pointer (some ⟨C, 0, none⟩)])) H6 HB1 (fun h => by cases h)
        replace hC1 := Nat.lt_of_lt_of_le hC1 hs_
        replace HB2 := box_far (u := (.func (.func 168) #[] #[.pointer (some ⟨C, 0, none⟩)])) H6 (fun i h => by cases h) HB2
        replace HQ := (pts_far (u := (.func (.func 168) #[] #[.pointer (some ⟨C, 0, none⟩)])) H6 (fun i h => by cases h) HQ).wide hs_
        replace H7 := H7.far ⟨k6, 0, none⟩ (.func (.func 168) #[] #[.pointer (some ⟨C, 0, none⟩)]) (fun e => n67 e.symm)
        replace H6 : Holds (v5.setCell ⟨k6, 0, none⟩ (.func (.func 168) #[] #[.pointer (some ⟨C, 0, none⟩)])) k6 #[(.func (.func 168) #[] #[.pointer (some ⟨C, 0, none⟩)])] 111 := Blk.set_own H6 0 (.func (.func 168) #[] #[.pointer (some ⟨C, 0, none⟩)])
        replace S0 := HO3 _ _ S0 hb_
        go_simp
        generalize v5.setCell ⟨k6, 0, none⟩ (.func (.func 168) #[] #[.pointer (some ⟨C, 0, none⟩)]) = v8 at *
        clear hb_ hs_
        refine hK.out _ _ (HSS _ S0) (fun hHeld => ?_)
        clear hK K
        try simp only [Act.put, List.setIfInBounds_toArray, List.set_cons_zero, List.set_cons_succ]
        refine wpAnyH_ready (rs := [9]) (by kernel_rfl) (by simp) ?_
        refine AllReadyH.cons (o := ⟨none, _, _, _, _, _⟩) rfl (fun K hK => ?_) ?_
        rotate_left 1
        · exact AllReadyH.nil
        obtain ⟨_, _⟩ := H7.one
        have hb_ := below_set v8 (w.heap.size + 3) k7 0 (.func (.func 171) #[] #[.pointer (some ⟨C1, 0, none⟩), .pointer (some ⟨C2, 0, none⟩)]) lo7
        have hs_ := hb_.size
        replace HC := tup_far (u := (.func (.func 171) #[] #[.pointer (some ⟨C1, 0, none⟩), .pointer (some ⟨C2, 0, none⟩)])) H7 (fun i h => by cases h) HC
        replace hC := Nat.lt_of_lt_of_le hC hs_
        replace HB1 := cell_far (u := (.func (.func 171) #[] #[.pointer (some ⟨C1, 0, none⟩), .pointer (some ⟨C2, 0, none⟩)])) H7 HB1 (fun h => by cases h)
        replace hC1 := Nat.lt_of_lt_of_le hC1 hs_
        replace HB2 := box_far (u := (.func (.func 171) #[] #[.pointer (some ⟨C1, 0, none⟩), .pointer (some ⟨C2, 0, none⟩)])) H7 (fun i h => by cases h) HB2
        replace HQ := (pts_far (u := (.func (.func 171) #[] #[.pointer (some ⟨C1, 0, none⟩), .pointer (some ⟨C2, 0, none⟩)])) H7 (fun i h => by cases h) HQ).wide hs_
        replace H6 := H6.far ⟨k7, 0, none⟩ (.func (.func 171) #[] #[.pointer (some ⟨C1, 0, none⟩), .pointer (some ⟨C2, 0, none⟩)]) n67
        replace H7 : Holds (v8.setCell ⟨k7, 0, none⟩ (.func (.func 171) #[] #[.pointer (some ⟨C1, 0, none⟩), .pointer (some ⟨C2, 0, none⟩)])) k7 #[(.func (.func 171) #[] #[.pointer (some ⟨C1, 0, none⟩), .pointer (some ⟨C2, 0, none⟩)])] 109 := Blk.set_own H7 0 (.func (.func 171) #[] #[.pointer (some ⟨C1, 0, none⟩), .pointer (some ⟨C2, 0, none⟩)])
        replace S0 := HO3 _ _ S0 hb_
        go_simp
        generalize v8.setCell ⟨k7, 0, none⟩ (.func (.func 171) #[] #[.pointer (some ⟨C1, 0, none⟩), .pointer (some ⟨C2, 0, none⟩)]) = v9 at *
        clear hb_ hs_
        refine hK.out _ _ (HSS _ S0) (fun hHeld => ?_)
        clear hK K
        try simp only [Act.put, List.setIfInBounds_toArray, List.set_cons_zero, List.set_cons_succ]
        refine wpAnyH_done (by kernel_rfl) ?_ _
        have hR := S0.2.2.1
        have E_ := Blk.set_own hR 0 (.func (.func 137) #[] #[.pointer (some ⟨k6, 0, none⟩), .pointer (some ⟨k7, 0, none⟩)])
        obtain ⟨r0_, _⟩ := Blk.Holds.one E_
        have hb_ := (below_set v9 (w.heap.size + 1 + 1) (w.heap.size + 1 + 1) 0 (.func (.func 137) #[] #[.pointer (some ⟨k6, 0, none⟩), .pointer (some ⟨k7, 0, none⟩)]) (Nat.le_refl _))
        have hb4 := Lib.hid (S0.2.2.2.2.2.trans (hb_.mono (by omega)))
        have hs_ := hb_.size
        have FC : Hid (FilmC (v9.setCell ⟨w.heap.size + 1 + 1, 0, none⟩ (.func (.func 137) #[] #[.pointer (some ⟨k6, 0, none⟩), .pointer (some ⟨k7, 0, none⟩)])) k6 k7 C C1 C2) := Lib.hid ⟨⟨cell_far hR (H6.one).1 (fun h => by cases h), Nat.lt_of_lt_of_le H6.lt hs_⟩, ⟨cell_far hR (H7.one).1 (fun h => by cases h), Nat.lt_of_lt_of_le H7.lt hs_⟩⟩
        have FA : Hid (FilmAt (v9.setCell ⟨w.heap.size + 1 + 1, 0, none⟩ (.func (.func 137) #[] #[.pointer (some ⟨k6, 0, none⟩), .pointer (some ⟨k7, 0, none⟩)])) C C1 C2 Ad n cd ps ax ay rx ry lx ly q) := Lib.hid ⟨tup_far hR (fun i h => by cases h) HC, Nat.lt_of_lt_of_le hC hs_, cell_far hR HB1 (fun h => by cases h), Nat.lt_of_lt_of_le hC1 hs_, box_far hR (fun i h => by cases h) HB2, (pts_far hR (fun i h => by cases h) HQ).wide hs_⟩
        obtain ⟨_, _⟩ := hR.one
        clear hR HC HB1 HB2 HQ S0 H6 H7 QF
        go_wp2_with fail
        refine bodyPost_ret (v := .agg #[(.func (.func 137) #[] #[.pointer (some ⟨k6, 0, none⟩), .pointer (some ⟨k7, 0, none⟩)])]) (by simp [results, Try.results84, go_sem, r0_]) rfl ⟨k6, k7, C, C1, C2, Ad, cd, rfl, FC.out, FA.out, hb4.out⟩
      exact AllReadyH.nil
    refine AllReadyH.cons (o := ⟨some 6, _, _, _, _, _⟩) rfl (fun K hK => ?_) ?_
    · skip
      obtain ⟨k7, hk7⟩ : ∃ q, q = v1.heap.size := ⟨_, rfl⟩
      have lo7 : w.heap.size + 3 ≤ k7 := by rw [hk7]; exact S0.2.2.2.2.1
      have H7 := Blk.Holds.box v1 #[.nilFunc] 109 hk7
      have hb_ := below1 v1 (Obj.cells #[.nilFunc] 109)
      replace HC := HC.later hb_
      replace hC := Nat.lt_of_lt_of_le hC hb_.size
      replace S0 := HO _ _ S0 hb_
      clear hb_
      go_simp
      try rw [← hk7]
      generalize v1.alloc (Obj.cells #[.nilFunc] 109) = v7 at *
      clear hk7
      refine hK.out _ _ (HSS _ S0) (fun hHeld => ?_)
      clear hK K
      try simp only [Act.put, List.setIfInBounds_toArray, List.set_cons_zero, List.set_cons_succ]
      refine wpAnyH_ready (rs := [5, 6]) (by kernel_rfl) (by simp) ?_
      refine AllReadyH.cons (o := ⟨some 23, _, _, _, _, _⟩) rfl (fun K hK => ?_) ?_
      · skip
        go_simp
        go_at_call 136
        refine (QF.out _ (S0.2.2.2.1.wide S0.2.2.2.2.2.size)).mono ?_
        rintro e v5 ⟨C1, C2, Ad, cd, rfl, HB1_, HB2, HQ, hb_⟩
        have HB1 := HB1_.1
        clear HB1_
        have hC1 : C1 < v5.heap.size := World.block_lt_of_cell? v5 _ HB1
        replace HC := HC.later hb_
        replace hC := Nat.lt_of_lt_of_le hC hb_.size
        replace H7 := H7.later hb_
        replace S0 := HO _ _ S0 hb_
        clear hb_
        refine hK.out _ _ (HSS _ S0) (fun hHeld => ?_)
        clear hK K
        try simp only [Act.put, List.setIfInBounds_toArray, List.set_cons_zero, List.set_cons_succ]
        refine wpAnyH_ready (rs := [6]) (by kernel_rfl) (by simp) ?_
        refine AllReadyH.cons (o := ⟨some 5, _, _, _, _, _⟩) rfl (fun K hK => ?_) ?_
        rotate_left 1
        · exact AllReadyH.nil
        obtain ⟨k6, hk6⟩ : ∃ q, q = v5.heap.size := ⟨_, rfl⟩
        have lo6 : w.heap.size + 3 ≤ k6 := by rw [hk6]; exact S0.2.2.2.2.1
        have H6 := Blk.Holds.box v5 #[.nilFunc] 111 hk6
        have n67 : k6 ≠ k7 := by have := H7.lt; omega
        have hb_ := below1 v5 (Obj.cells #[.nilFunc] 111)
        replace HC := HC.later hb_
        replace hC := Nat.lt_of_lt_of_le hC hb_.size
        replace HB1 := (hb_.cell (p := ⟨C1, 0, none⟩) hC1).trans HB1
        replace hC1 := Nat.lt_of_lt_of_le hC1 hb_.size
        replace HB2 := HB2.later hb_
        replace HQ := (HQ.later hb_).wide hb_.size
        replace H7 := H7.later hb_
        replace S0 := HO _ _ S0 hb_
        clear hb_
        go_simp
        try rw [← hk6]
        generalize v5.alloc (Obj.cells #[.nilFunc] 111) = v6 at *
        clear hk6
        refine hK.out _ _ (HSS _ S0) (fun hHeld => ?_)
        clear hK K
        try simp only [Act.put, List.setIfInBounds_toArray, List.set_cons_zero, List.set_cons_succ]
        refine wpAnyH_ready (rs := [8]) (by kernel_rfl) (by simp) ?_
        refine AllReadyH.cons (o := ⟨none, _, _, _, _, _⟩) rfl (fun K hK => ?_) ?_
        rotate_left 1
        · exact AllReadyH.nil
        obtain ⟨_, _⟩ := H6.one
        have hb_ := below_set v6 (w.heap.size + 3) k6 0 (.func (.func 168) #[] #[.pointer (some ⟨C, 0, none⟩)]) lo6
        have hs_ := hb_.size
        replace HC := tup_far (u := (.func (.func 168) #[] #[.pointer (some ⟨C, 0, none⟩)])) H6 (fun i h => by cases h) HC
        replace hC := Nat.lt_of_lt_of_le hC hs_
        replace HB1 := cell_far (u := (.func (.func 168) #[] #[.pointer (some ⟨C, 0, none⟩)])) H6 HB1 (fun h => by cases h)
        replace hC1 := Nat.lt_of_lt_of_le hC1 hs_
        replace HB2 := box_far (u := (.func (.func 168) #[] #[.pointer (some ⟨C, 0, none⟩)])) H6 (fun i h => by cases h) HB2
        replace HQ := (pts_far (u := (.func (.func 168) #[] #[.pointer (some ⟨C, 0, none⟩)])) H6 (fun i h => by cases h) HQ).wide hs_
        replace H7 := H7.far ⟨k6, 0, none⟩ (.func (.func 168) #[] #[.pointer (some ⟨C, 0, none⟩)]) (fun e => n67 e.symm)
        replace H6 : Holds (v6.setCell ⟨k6, 0, none⟩ (.func (.func 168) #[] #[.pointer (some ⟨C, 0, none⟩)])) k6 #[(.func (.func 168) #[] #[.pointer (some ⟨C, 0, none⟩)])] 111 := Blk.set_own H6 0 (.func (.func 168) #[] #[.pointer (some ⟨C, 0, none⟩)])
        replace S0 := HO3 _ _ S0 hb_
        go_simp
        generalize v6.setCell ⟨k6, 0, none⟩ (.func (.func 168) #[] #[.pointer (some ⟨C, 0, none⟩)]) = v8 at *
        clear hb_ hs_
        refine hK.out _ _ (HSS _ S0) (fun hHeld => ?_)
        clear hK K
        try simp only [Act.put, List.setIfInBounds_toArray, List.set_cons_zero, List.set_cons_succ]
        refine wpAnyH_ready (rs := [9]) (by kernel_rfl) (by simp) ?_
        refine AllReadyH.cons (o := ⟨none, _, _, _, _, _⟩) rfl (fun K hK => ?_) ?_
        rotate_left 1
        · exact AllReadyH.nil
        obtain ⟨_, _⟩ := H7.one
        have hb_ := below_set v8 (w.heap.size + 3) k7 0 (.func (.func 171) #[] #[.pointer (some ⟨C1, 0, none⟩), .pointer (some ⟨C2, 0, none⟩)]) lo7
        have hs_ := hb_.size
        replace HC := tup_far (u := (.func (.func 171) #[] #[.pointer (some ⟨C1, 0, none⟩), .pointer (some ⟨C2, 0, none⟩)])) H7 (fun i h => by cases h) HC
        replace hC := Nat.lt_of_lt_of_le hC hs_
        replace HB1 := cell_far (u := (.func (.func 171) #[] #[.pointer (some ⟨C1, 0, none⟩), .pointer (some ⟨C2, 0, none⟩)])) H7 HB1 (fun h => by cases h)
        replace hC1 := Nat.lt_of_lt_of_le hC1 hs_
        replace HB2 := box_far (u := (.func (.func 171) #[] #[.pointer (some ⟨C1, 0, none⟩), .pointer (some ⟨C2, 0, none⟩)])) H7 (fun i h => by cases h) HB2
        replace HQ := (pts_far (u := (.func (.func 171) #[] #[.pointer (some ⟨C1, 0, none⟩), .pointer (some ⟨C2, 0, none⟩)])) H7 (fun i h => by cases h) HQ).wide hs_
        replace H6 := H6.far ⟨k7, 0, none⟩ (.func (.func 171) #[] #[.pointer (some ⟨C1, 0, none⟩), .pointer (some ⟨C2, 0, none⟩)]) n67
        replace H7 : Holds (v8.setCell ⟨k7, 0, none⟩ (.func (.func 171) #[] #[.pointer (some ⟨C1, 0, none⟩), .pointer (some ⟨C2, 0, none⟩)])) k7 #[(.func (.func 171) #[] #[.pointer (some ⟨C1, 0, none⟩), .pointer (some ⟨C2, 0, none⟩)])] 109 := Blk.set_own H7 0 (.func (.func 171) #[] #[.pointer (some ⟨C1, 0, none⟩), .pointer (some ⟨C2, 0, none⟩)])
        replace S0 := HO3 _ _ S0 hb_
        go_simp
        generalize v8.setCell ⟨k7, 0, none⟩ (.func (.func 171) #[] #[.pointer (some ⟨C1, 0, none⟩), .pointer (some ⟨C2, 0, none⟩)]) = v9 at *
        clear hb_ hs_
        refine hK.out _ _ (HSS _ S0) (fun hHeld => ?_)
        clear hK K
        try simp only [Act.put, List.setIfInBounds_toArray, List.set_cons_zero, List.set_cons_succ]
        refine wpAnyH_done (by kernel_rfl) ?_ _
        have hR := S0.2.2.1
        have E_ := Blk.set_own hR 0 (.func (.func 137) #[] #[.pointer (some ⟨k6, 0, none⟩), .pointer (some ⟨k7, 0, none⟩)])
        obtain ⟨r0_, _⟩ := Blk.Holds.one E_
        have hb_ := (below_set v9 (w.heap.size + 1 + 1) (w.heap.size + 1 + 1) 0 (.func (.func 137) #[] #[.pointer (some ⟨k6, 0, none⟩), .pointer (some ⟨k7, 0, none⟩)]) (Nat.le_refl _))
        have hb4 := Lib.hid (S0.2.2.2.2.2.trans (hb_.mono (by omega)))
        have hs_ := hb_.size
        have FC : Hid (FilmC (v9.setCell ⟨w.heap.size + 1 + 1, 0, none⟩ (.func (.func 137) #[] #[.pointer (some ⟨k6, 0, none⟩), .pointer (some ⟨k7, 0, none⟩)])) k6 k7 C C1 C2) := Lib.hid ⟨⟨cell_far hR (H6.one).1 (fun h => by cases h), Nat.lt_of_lt_of_le H6.lt hs_⟩, ⟨cell_far hR (H7.one).1 (fun h => by cases h), Nat.lt_of_lt_of_le H7.lt hs_⟩⟩
        have FA : Hid (FilmAt (v9.setCell ⟨w.heap.size + 1 + 1, 0, none⟩ (.func (.func 137) #[] #[.pointer (some ⟨k6, 0, none⟩), .pointer (some ⟨k7, 0, none⟩)])) C C1 C2 Ad n cd ps ax ay rx ry lx ly q) := Lib.hid ⟨tup_far hR (fun i h => by cases h) HC, Nat.lt_of_lt_of_le hC hs_, cell_far hR HB1 (fun h => by cases h), Nat.lt_of_lt_of_le hC1 hs_, box_far hR (fun i h => by cases h) HB2, (pts_far hR (fun i h => by cases h) HQ).wide hs_⟩
        obtain ⟨_, _⟩ := hR.one
        clear hR HC HB1 HB2 HQ S0 H6 H7 QF
        go_wp2_with fail
        refine bodyPost_ret (v := .agg #[(.func (.func 137) #[] #[.pointer (some ⟨k6, 0, none⟩), .pointer (some ⟨k7, 0, none⟩)])]) (by simp [results, Try.results84, go_sem, r0_]) rfl ⟨k6, k7, C, C1, C2, Ad, cd, rfl, FC.out, FA.out, hb4.out⟩
      refine AllReadyH.cons (o := ⟨some 5, _, _, _, _, _⟩) rfl (fun K hK => ?_) ?_
      · skip
        obtain ⟨k6, hk6⟩ : ∃ q, q = v7.heap.size := ⟨_, rfl⟩
        have lo6 : w.heap.size + 3 ≤ k6 := by rw [hk6]; exact S0.2.2.2.2.1
        have H6 := Blk.Holds.box v7 #[.nilFunc] 111 hk6
        have n67 : k6 ≠ k7 := by have := H7.lt; omega
        have hb_ := below1 v7 (Obj.cells #[.nilFunc] 111)
        replace HC := HC.later hb_
        replace hC := Nat.lt_of_lt_of_le hC hb_.size
        replace H7 := H7.later hb_
        replace S0 := HO _ _ S0 hb_
        clear hb_
        go_simp
        try rw [← hk6]
        generalize v7.alloc (Obj.cells #[.nilFunc] 111) = v6 at *
        clear hk6
        refine hK.out _ _ (HSS _ S0) (fun hHeld => ?_)
        clear hK K
        try simp only [Act.put, List.setIfInBounds_toArray, List.set_cons_zero, List.set_cons_succ]
        refine wpAnyH_ready (rs := [5]) (by kernel_rfl) (by simp) ?_
        refine AllReadyH.cons (o := ⟨some 23, _, _, _, _, _⟩) rfl (fun K hK => ?_) ?_
        rotate_left 1
        · exact AllReadyH.nil
        go_simp
        go_at_call 136
        refine (QF.out _ (S0.2.2.2.1.wide S0.2.2.2.2.2.size)).mono ?_
        rintro e v5 ⟨C1, C2, Ad, cd, rfl, HB1_, HB2, HQ, hb_⟩
        have HB1 := HB1_.1
        clear HB1_
        have hC1 : C1 < v5.heap.size := World.block_lt_of_cell? v5 _ HB1
        replace HC := HC.later hb_
        replace hC := Nat.lt_of_lt_of_le hC hb_.size
        replace H6 := H6.later hb_
        replace H7 := H7.later hb_
        replace S0 := HO _ _ S0 hb_
        clear hb_
        refine hK.out _ _ (HSS _ S0) (fun hHeld => ?_)
        clear hK K
        try simp only [Act.put, List.setIfInBounds_toArray, List.set_cons_zero, List.set_cons_succ]
        refine wpAnyH_ready (rs := [8]) (by kernel_rfl) (by simp) ?_
        refine AllReadyH.cons (o := ⟨none, _, _, _, _, _⟩) rfl (fun K hK => ?_) ?_
        rotate_left 1
        · exact AllReadyH.nil
        obtain ⟨_, _⟩ := H6.one
        have hb_ := below_set v5 (w.heap.size + 3) k6 0 (.func (.func 168) #[] #[.pointer (some ⟨C, 0, none⟩)]) lo6
        have hs_ := hb_.size
        replace HC := tup_far (u := (.func (.func 168) #[] #[.pointer (some ⟨C, 0, none⟩)])) H6 (fun i h => by cases h) HC
        replace hC := Nat.lt_of_lt_of_le hC hs_
        replace HB1 := cell_far (u := (.func (.func 168) #[] #[.pointer (some ⟨C, 0, none⟩)])) H6 HB1 (fun h => by cases h)
        replace hC1 := Nat.lt_of_lt_of_le hC1 hs_
        replace HB2 := box_far (u := (.func (.func 168) #[] #[.pointer (some ⟨C, 0, none⟩)])) H6 (fun i h => by cases h) HB2
        replace HQ := (pts_far (u := (.func (.func 168) #[] #[.pointer (some ⟨C, 0, none⟩)])) H6 (fun i h => by cases h) HQ).wide hs_
        replace H7 := H7.far ⟨k6, 0, none⟩ (.func (.func 168) #[] #[.pointer (some ⟨C, 0, none⟩)]) (fun e => n67 e.symm)
        replace H6 : Holds (v5.setCell ⟨k6, 0, none⟩ (.func (.func 168) #[] #[.pointer (some ⟨C, 0, none⟩)])) k6 #[(.func (.func 168) #[] #[.pointer (some ⟨C, 0, none⟩)])] 111 := Blk.set_own H6 0 (.func (.func 168) #[] #[.pointer (some ⟨C, 0, none⟩)])
        replace S0 := HO3 _ _ S0 hb_
        go_simp
        generalize v5.setCell ⟨k6, 0, none⟩ (.func (.func 168) #[] #[.pointer (some ⟨C, 0, none⟩)]) = v8 at *
        clear hb_ hs_
        refine hK.out _ _ (HSS _ S0) (fun hHeld => ?_)
        clear hK K
        try simp only [Act.put, List.setIfInBounds_toArray, List.set_cons_zero, List.set_cons_succ]
        refine wpAnyH_ready (rs := [9]) (by kernel_rfl) (by simp) ?_
        refine AllReadyH.cons (o := ⟨none, _, _, _, _, _⟩) rfl (fun K hK => ?_) ?_
        rotate_left 1
        · exact AllReadyH.nil
        obtain ⟨_, _⟩ := H7.one
        have hb_ := below_set v8 (w.heap.size + 3) k7 0 (.func (.func 171) #[] #[.pointer (some ⟨C1, 0, none⟩), .pointer (some ⟨C2, 0, none⟩)]) lo7
        have hs_ := hb_.size
        replace HC := tup_far (u := (.func (.func 171) #[] #[.pointer (some ⟨C1, 0, none⟩), .pointer (some ⟨C2, 0, none⟩)])) H7 (fun i h => by cases h) HC
        replace hC := Nat.lt_of_lt_of_le hC hs_
        replace HB1 := cell_far (u := (.func (.func 171) #[] #[.pointer (some ⟨C1, 0, none⟩), .pointer (some ⟨C2, 0, none⟩)])) H7 HB1 (fun h => by cases h)
        replace hC1 := Nat.lt_of_lt_of_le hC1 hs_
        replace HB2 := box_far (u := (.func (.func 171) #[] #[.pointer (some ⟨C1, 0, none⟩), .pointer (some ⟨C2, 0, none⟩)])) H7 (fun i h => by cases h) HB2
        replace HQ := (pts_far (u := (.func (.func 171) #[] #[.pointer (some ⟨C1, 0, none⟩), .pointer (some ⟨C2, 0, none⟩)])) H7 (fun i h => by cases h) HQ).wide hs_
        replace H6 := H6.far ⟨k7, 0, none⟩ (.func (.func 171) #[] #[.pointer (some ⟨C1, 0, none⟩), .pointer (some ⟨C2, 0, none⟩)]) n67
        replace H7 : Holds (v8.setCell ⟨k7, 0, none⟩ (.func (.func 171) #[] #[.pointer (some ⟨C1, 0, none⟩), .pointer (some ⟨C2, 0, none⟩)])) k7 #[(.func (.func 171) #[] #[.pointer (some ⟨C1, 0, none⟩), .pointer (some ⟨C2, 0, none⟩)])] 109 := Blk.set_own H7 0 (.func (.func 171) #[] #[.pointer (some ⟨C1, 0, none⟩), .pointer (some ⟨C2, 0, none⟩)])
        replace S0 := HO3 _ _ S0 hb_
        go_simp
        generalize v8.setCell ⟨k7, 0, none⟩ (.func (.func 171) #[] #[.pointer (some ⟨C1, 0, none⟩), .pointer (some ⟨C2, 0, none⟩)]) = v9 at *
        clear hb_ hs_
        refine hK.out _ _ (HSS _ S0) (fun hHeld => ?_)
        clear hK K
        try simp only [Act.put, List.setIfInBounds_toArray, List.set_cons_zero, List.set_cons_succ]
        refine wpAnyH_done (by kernel_rfl) ?_ _
        have hR := S0.2.2.1
        have E_ := Blk.set_own hR 0 (.func (.func 137) #[] #[.pointer (some ⟨k6, 0, none⟩), .pointer (some ⟨k7, 0, none⟩)])
        obtain ⟨r0_, _⟩ := Blk.Holds.one E_
        have hb_ := (below_set v9 (w.heap.size + 1 + 1) (w.heap.size + 1 + 1) 0 (.func (.func 137) #[] #[.pointer (some ⟨k6, 0, none⟩), .pointer (some ⟨k7, 0, none⟩)]) (Nat.le_refl _))
        have hb4 := Lib.hid (S0.2.2.2.2.2.trans (hb_.mono (by omega)))
        have hs_ := hb_.size
        have FC : Hid (FilmC (v9.setCell ⟨w.heap.size + 1 + 1, 0, none⟩ (.func (.func 137) #[] #[.pointer (some ⟨k6, 0, none⟩), .pointer (some ⟨k7, 0, none⟩)])) k6 k7 C C1 C2) := Lib.hid ⟨⟨cell_far hR (H6.one).1 (fun h => by cases h), Nat.lt_of_lt_of_le H6.lt hs_⟩, ⟨cell_far hR (H7.one).1 (fun h => by cases h), Nat.lt_of_lt_of_le H7.lt hs_⟩⟩
        have FA : Hid (FilmAt (v9.setCell ⟨w.heap.size + 1 + 1, 0, none⟩ (.func (.func 137) #[] #[.pointer (some ⟨k6, 0, none⟩), .pointer (some ⟨k7, 0, none⟩)])) C C1 C2 Ad n cd ps ax ay rx ry lx ly q) := Lib.hid ⟨tup_far hR (fun i h => by cases h) HC, Nat.lt_of_lt_of_le hC hs_, cell_far hR HB1 (fun h => by cases h), Nat.lt_of_lt_of_le hC1 hs_, box_far hR (fun i h => by cases h) HB2, (pts_far hR (fun i h => by cases h) HQ).wide hs_⟩
        obtain ⟨_, _⟩ := hR.one
        clear hR HC HB1 HB2 HQ S0 H6 H7 QF
        go_wp2_with fail
        refine bodyPost_ret (v := .agg #[(.func (.func 137) #[] #[.pointer (some ⟨k6, 0, none⟩), .pointer (some ⟨k7, 0, none⟩)])]) (by simp [results, Try.results84, go_sem, r0_]) rfl ⟨k6, k7, C, C1, C2, Ad, cd, rfl, FC.out, FA.out, hb4.out⟩
      exact AllReadyH.nil
    exact AllReadyH.nil
  refine AllReadyH.cons (o := ⟨some 5, _, _, _, _, _⟩) rfl (fun K hK => ?_) ?_
  · skip
    obtain ⟨k6, hk6⟩ : ∃ q, q = v0.heap.size := ⟨_, rfl⟩
    have lo6 : w.heap.size + 3 ≤ k6 := by rw [hk6]; exact S0.2.2.2.2.1
    have H6 := Blk.Holds.box v0 #[.nilFunc] 111 hk6
    have hb_ := below1 v0 (Obj.cells #[.nilFunc] 111)
    replace S0 := HO _ _ S0 hb_
    clear hb_
    go_simp
    try rw [← hk6]
    generalize v0.alloc (Obj.cells #[.nilFunc] 111) = v6 at *
    clear hk6
    refine hK.out _ _ (HSS _ S0) (fun hHeld => ?_)
    clear hK K
    try simp only [Act.put, List.setIfInBounds_toArray, List.set_cons_zero, List.set_cons_succ]
    refine wpAnyH_ready (rs := [1, 7]) (by kernel_rfl) (by simp) ?_
    refine AllReadyH.cons (o := ⟨some 19, _, _, _, _, _⟩) rfl (fun K hK => ?_) ?_
    · skip
      go_simp
      go_at_call 135
      refine (TrackImpl.lensOf ax ay rx ry lx ly q _).mono ?_
      rintro e v1 ⟨C, rfl, HC, hC_, hb_⟩
      have hC : C < v1.heap.size := World.block_lt_of_cell? v1 _ HC.1
      replace H6 := H6.later hb_
      replace S0 := HO _ _ S0 hb_
      clear hb_ hC_
      refine hK.out _ _ (HSS _ S0) (fun hHeld => ?_)
      clear hK K
      try simp only [Act.put, List.setIfInBounds_toArray, List.set_cons_zero, List.set_cons_succ]
      refine wpAnyH_ready (rs := [5, 7]) (by kernel_rfl) (by simp) ?_
      refine AllReadyH.cons (o := ⟨some 23, _, _, _, _, _⟩) rfl (fun K hK => ?_) ?_
      · skip
        go_simp
        go_at_call 136
        refine (QF.out _ (S0.2.2.2.1.wide S0.2.2.2.2.2.size)).mono ?_
        rintro e v5 ⟨C1, C2, Ad, cd, rfl, HB1_, HB2, HQ, hb_⟩
        have HB1 := HB1_.1
        clear HB1_
        have hC1 : C1 < v5.heap.size := World.block_lt_of_cell? v5 _ HB1
        replace HC := HC.later hb_
        replace hC := Nat.lt_of_lt_of_le hC hb_.size
        replace H6 := H6.later hb_
        replace S0 := HO _ _ S0 hb_
        clear hb_
        refine hK.out _ _ (HSS _ S0) (fun hHeld => ?_)
        clear hK K
        try simp only [Act.put, List.setIfInBounds_toArray, List.set_cons_zero, List.set_cons_succ]
        refine wpAnyH_ready (rs := [7]) (by kernel_rfl) (by simp) ?_
        refine AllReadyH.cons (o := ⟨some 6, _, _, _, _, _⟩) rfl (fun K hK => ?_) ?_
        rotate_left 1
        · exact AllReadyH.nil
        obtain ⟨k7, hk7⟩ : ∃ q, q = v5.heap.size := ⟨_, rfl⟩
        have lo7 : w.heap.size + 3 ≤ k7 := by rw [hk7]; exact S0.2.2.2.2.1
        have H7 := Blk.Holds.box v5 #[.nilFunc] 109 hk7
        have n67 : k6 ≠ k7 := by have := H6.lt; omega
        have hb_ := below1 v5 (Obj.cells #[.nilFunc] 109)
        replace HC := HC.later hb_
        replace hC := Nat.lt_of_lt_of_le hC hb_.size
        replace HB1 := (hb_.cell (p := ⟨C1, 0, none⟩) hC1).trans HB1
        replace hC1 := Nat.lt_of_lt_of_le hC1 hb_.size
        replace HB2 := HB2.later hb_
        replace HQ := (HQ.later hb_).wide hb_.size
        replace H6 := H6.later hb_
        replace S0 := HO _ _ S0 hb_
        clear hb_
        go_simp
        try rw [← hk7]
        generalize v5.alloc (Obj.cells #[.nilFunc] 109) = v7 at *
        clear hk7
        refine hK.out _ _ (HSS _ S0) (fun hHeld => ?_)
        clear hK K
        try simp only [Act.put, List.setIfInBounds_toArray, List.set_cons_zero, List.set_cons_succ]
        refine wpAnyH_ready (rs := [8]) (by kernel_rfl) (by simp) ?_
        refine AllReadyH.cons (o := ⟨none, _, _, _, _, _⟩) rfl (fun K hK => ?_) ?_
        rotate_left 1
        · exact AllReadyH.nil
        obtain ⟨_, _⟩ := H6.one
        have hb_ := below_set v7 (w.heap.size + 3) k6 0 (.func (.func 168) #[] #[.pointer (some ⟨C, 0, none⟩)]) lo6
        have hs_ := hb_.size
        replace HC := tup_far (u := (.func (.func 168) #[] #[.pointer (some ⟨C, 0, none⟩)])) H6 (fun i h => by cases h) HC
        replace hC := Nat.lt_of_lt_of_le hC hs_
        replace HB1 := cell_far (u := (.func (.func 168) #[] #[.pointer (some ⟨C, 0, none⟩)])) H6 HB1 (fun h => by cases h)
        replace hC1 := Nat.lt_of_lt_of_le hC1 hs_
        replace HB2 := box_far (u := (.func (.func 168) #[] #[.pointer (some ⟨C, 0, none⟩)])) H6 (fun i h => by cases h) HB2
        replace HQ := (pts_far (u := (.func (.func 168) #[] #[.pointer (some ⟨C, 0, none⟩)])) H6 (fun i h => by cases h) HQ).wide hs_
        replace H7 := H7.far ⟨k6, 0, none⟩ (.func (.func 168) #[] #[.pointer (some ⟨C, 0, none⟩)]) (fun e => n67 e.symm)
        replace H6 : Holds (v7.setCell ⟨k6, 0, none⟩ (.func (.func 168) #[] #[.pointer (some ⟨C, 0, none⟩)])) k6 #[(.func (.func 168) #[] #[.pointer (some ⟨C, 0, none⟩)])] 111 := Blk.set_own H6 0 (.func (.func 168) #[] #[.pointer (some ⟨C, 0, none⟩)])
        replace S0 := HO3 _ _ S0 hb_
        go_simp
        generalize v7.setCell ⟨k6, 0, none⟩ (.func (.func 168) #[] #[.pointer (some ⟨C, 0, none⟩)]) = v8 at *
        clear hb_ hs_
        refine hK.out _ _ (HSS _ S0) (fun hHeld => ?_)
        clear hK K
        try simp only [Act.put, List.setIfInBounds_toArray, List.set_cons_zero, List.set_cons_succ]
        refine wpAnyH_ready (rs := [9]) (by kernel_rfl) (by simp) ?_
        refine AllReadyH.cons (o := ⟨none, _, _, _, _, _⟩) rfl (fun K hK => ?_) ?_
        rotate_left 1
        · exact AllReadyH.nil
        obtain ⟨_, _⟩ := H7.one
        have hb_ := below_set v8 (w.heap.size + 3) k7 0 (.func (.func 171) #[] #[.pointer (some ⟨C1, 0, none⟩), .pointer (some ⟨C2, 0, none⟩)]) lo7
        have hs_ := hb_.size
        replace HC := tup_far (u := (.func (.func 171) #[] #[.pointer (some ⟨C1, 0, none⟩), .pointer (some ⟨C2, 0, none⟩)])) H7 (fun i h => by cases h) HC
        replace hC := Nat.lt_of_lt_of_le hC hs_
        replace HB1 := cell_far (u := (.func (.func 171) #[] #[.pointer (some ⟨C1, 0, none⟩), .pointer (some ⟨C2, 0, none⟩)])) H7 HB1 (fun h => by cases h)
        replace hC1 := Nat.lt_of_lt_of_le hC1 hs_
        replace HB2 := box_far (u := (.func (.func 171) #[] #[.pointer (some ⟨C1, 0, none⟩), .pointer (some ⟨C2, 0, none⟩)])) H7 (fun i h => by cases h) HB2
        replace HQ := (pts_far (u := (.func (.func 171) #[] #[.pointer (some ⟨C1, 0, none⟩), .pointer (some ⟨C2, 0, none⟩)])) H7 (fun i h => by cases h) HQ).wide hs_
        replace H6 := H6.far ⟨k7, 0, none⟩ (.func (.func 171) #[] #[.pointer (some ⟨C1, 0, none⟩), .pointer (some ⟨C2, 0, none⟩)]) n67
        replace H7 : Holds (v8.setCell ⟨k7, 0, none⟩ (.func (.func 171) #[] #[.pointer (some ⟨C1, 0, none⟩), .pointer (some ⟨C2, 0, none⟩)])) k7 #[(.func (.func 171) #[] #[.pointer (some ⟨C1, 0, none⟩), .pointer (some ⟨C2, 0, none⟩)])] 109 := Blk.set_own H7 0 (.func (.func 171) #[] #[.pointer (some ⟨C1, 0, none⟩), .pointer (some ⟨C2, 0, none⟩)])
        replace S0 := HO3 _ _ S0 hb_
        go_simp
        generalize v8.setCell ⟨k7, 0, none⟩ (.func (.func 171) #[] #[.pointer (some ⟨C1, 0, none⟩), .pointer (some ⟨C2, 0, none⟩)]) = v9 at *
        clear hb_ hs_
        refine hK.out _ _ (HSS _ S0) (fun hHeld => ?_)
        clear hK K
        try simp only [Act.put, List.setIfInBounds_toArray, List.set_cons_zero, List.set_cons_succ]
        refine wpAnyH_done (by kernel_rfl) ?_ _
        have hR := S0.2.2.1
        have E_ := Blk.set_own hR 0 (.func (.func 137) #[] #[.pointer (some ⟨k6, 0, none⟩), .pointer (some ⟨k7, 0, none⟩)])
        obtain ⟨r0_, _⟩ := Blk.Holds.one E_
        have hb_ := (below_set v9 (w.heap.size + 1 + 1) (w.heap.size + 1 + 1) 0 (.func (.func 137) #[] #[.pointer (some ⟨k6, 0, none⟩), .pointer (some ⟨k7, 0, none⟩)]) (Nat.le_refl _))
        have hb4 := Lib.hid (S0.2.2.2.2.2.trans (hb_.mono (by omega)))
        have hs_ := hb_.size
        have FC : Hid (FilmC (v9.setCell ⟨w.heap.size + 1 + 1, 0, none⟩ (.func (.func 137) #[] #[.pointer (some ⟨k6, 0, none⟩), .pointer (some ⟨k7, 0, none⟩)])) k6 k7 C C1 C2) := Lib.hid ⟨⟨cell_far hR (H6.one).1 (fun h => by cases h), Nat.lt_of_lt_of_le H6.lt hs_⟩, ⟨cell_far hR (H7.one).1 (fun h => by cases h), Nat.lt_of_lt_of_le H7.lt hs_⟩⟩
        have FA : Hid (FilmAt (v9.setCell ⟨w.heap.size + 1 + 1, 0, none⟩ (.func (.func 137) #[] #[.pointer (some ⟨k6, 0, none⟩), .pointer (some ⟨k7, 0, none⟩)])) C C1 C2 Ad n cd ps ax ay rx ry lx ly q) := Lib.hid ⟨tup_far hR (fun i h => by cases h) HC, Nat.lt_of_lt_of_le hC hs_, cell_far hR HB1 (fun h => by cases h), Nat.lt_of_lt_of_le hC1 hs_, box_far hR (fun i h => by cases h) HB2, (pts_far hR (fun i h => by cases h) HQ).wide hs_⟩
        obtain ⟨_, _⟩ := hR.one
        clear hR HC HB1 HB2 HQ S0 H6 H7 QF
        go_wp2_with fail
        refine bodyPost_ret (v := .agg #[(.func (.func 137) #[] #[.pointer (some ⟨k6, 0, none⟩), .pointer (some ⟨k7, 0, none⟩)])]) (by simp [results, Try.results84, go_sem, r0_]) rfl ⟨k6, k7, C, C1, C2, Ad, cd, rfl, FC.out, FA.out, hb4.out⟩
      refine AllReadyH.cons (o := ⟨some 6, _, _, _, _, _⟩) rfl (fun K hK => ?_) ?_
      · skip
        obtain ⟨k7, hk7⟩ : ∃ q, q = v1.heap.size := ⟨_, rfl⟩
        have lo7 : w.heap.size + 3 ≤ k7 := by rw [hk7]; exact S0.2.2.2.2.1
        have H7 := Blk.Holds.box v1 #[.nilFunc] 109 hk7
        have n67 : k6 ≠ k7 := by have := H6.lt; omega
        have hb_ := below1 v1 (Obj.cells #[.nilFunc] 109)
        replace HC := HC.later hb_
        replace hC := Nat.lt_of_lt_of_le hC hb_.size
        replace H6 := H6.later hb_
        replace S0 := HO _ _ S0 hb_
        clear hb_
        go_simp
        try rw [← hk7]
        generalize v1.alloc (Obj.cells #[.nilFunc] 109) = v7 at *
        clear hk7
        refine hK.out _ _ (HSS _ S0) (fun hHeld => ?_)
        clear hK K
        try simp only [Act.put, List.setIfInBounds_toArray, List.set_cons_zero, List.set_cons_succ]
        refine wpAnyH_ready (rs := [5]) (by kernel_rfl) (by simp) ?_
        refine AllReadyH.cons (o := ⟨some 23, _, _, _, _, _⟩) rfl (fun K hK => ?_) ?_
        rotate_left 1
        · exact AllReadyH.nil
        go_simp
        go_at_call 136
        refine (QF.out _ (S0.2.2.2.1.wide S0.2.2.2.2.2.size)).mono ?_
        rintro e v5 ⟨C1, C2, Ad, cd, rfl, HB1_, HB2, HQ, hb_⟩
        have HB1 := HB1_.1
        clear HB1_
        have hC1 : C1 < v5.heap.size := World.block_lt_of_cell? v5 _ HB1
        replace HC := HC.later hb_
        replace hC := Nat.lt_of_lt_of_le hC hb_.size
        replace H6 := H6.later hb_
        replace H7 := H7.later hb_
        replace S0 := HO _ _ S0 hb_
        clear hb_
        refine hK.out _ _ (HSS _ S0) (fun hHeld => ?_)
        clear hK K
        try simp only [Act.put, List.setIfInBounds_toArray, List.set_cons_zero, List.set_cons_succ]
        refine wpAnyH_ready (rs := [8]) (by kernel_rfl) (by simp) ?_
        refine AllReadyH.cons (o := ⟨none, _, _, _, _, _⟩) rfl (fun K hK => ?_) ?_
        rotate_left 1
        · exact AllReadyH.nil
        obtain ⟨_, _⟩ := H6.one
        have hb_ := below_set v5 (w.heap.size + 3) k6 0 (.func (.func 168) #[] #[.pointer (some ⟨C, 0, none⟩)]) lo6
        have hs_ := hb_.size
        replace HC := tup_far (u := (.func (.func 168) #[] #[.pointer (some ⟨C, 0, none⟩)])) H6 (fun i h => by cases h) HC
        replace hC := Nat.lt_of_lt_of_le hC hs_
        replace HB1 := cell_far (u := (.func (.func 168) #[] #[.pointer (some ⟨C, 0, none⟩)])) H6 HB1 (fun h => by cases h)
        replace hC1 := Nat.lt_of_lt_of_le hC1 hs_
        replace HB2 := box_far (u := (.func (.func 168) #[] #[.pointer (some ⟨C, 0, none⟩)])) H6 (fun i h => by cases h) HB2
        replace HQ := (pts_far (u := (.func (.func 168) #[] #[.pointer (some ⟨C, 0, none⟩)])) H6 (fun i h => by cases h) HQ).wide hs_
        replace H7 := H7.far ⟨k6, 0, none⟩ (.func (.func 168) #[] #[.pointer (some ⟨C, 0, none⟩)]) (fun e => n67 e.symm)
        replace H6 : Holds (v5.setCell ⟨k6, 0, none⟩ (.func (.func 168) #[] #[.pointer (some ⟨C, 0, none⟩)])) k6 #[(.func (.func 168) #[] #[.pointer (some ⟨C, 0, none⟩)])] 111 := Blk.set_own H6 0 (.func (.func 168) #[] #[.pointer (some ⟨C, 0, none⟩)])
        replace S0 := HO3 _ _ S0 hb_
        go_simp
        generalize v5.setCell ⟨k6, 0, none⟩ (.func (.func 168) #[] #[.pointer (some ⟨C, 0, none⟩)]) = v8 at *
        clear hb_ hs_
        refine hK.out _ _ (HSS _ S0) (fun hHeld => ?_)
        clear hK K
        try simp only [Act.put, List.setIfInBounds_toArray, List.set_cons_zero, List.set_cons_succ]
        refine wpAnyH_ready (rs := [9]) (by kernel_rfl) (by simp) ?_
        refine AllReadyH.cons (o := ⟨none, _, _, _, _, _⟩) rfl (fun K hK => ?_) ?_
        rotate_left 1
        · exact AllReadyH.nil
        obtain ⟨_, _⟩ := H7.one
        have hb_ := below_set v8 (w.heap.size + 3) k7 0 (.func (.func 171) #[] #[.pointer (some ⟨C1, 0, none⟩), .pointer (some ⟨C2, 0, none⟩)]) lo7
        have hs_ := hb_.size
        replace HC := tup_far (u := (.func (.func 171) #[] #[.pointer (some ⟨C1, 0, none⟩), .pointer (some ⟨C2, 0, none⟩)])) H7 (fun i h => by cases h) HC
        replace hC := Nat.lt_of_lt_of_le hC hs_
        replace HB1 := cell_far (u := (.func (.func 171) #[] #[.pointer (some ⟨C1, 0, none⟩), .pointer (some ⟨C2, 0, none⟩)])) H7 HB1 (fun h => by cases h)
        replace hC1 := Nat.lt_of_lt_of_le hC1 hs_
        replace HB2 := box_far (u := (.func (.func 171) #[] #[.pointer (some ⟨C1, 0, none⟩), .pointer (some ⟨C2, 0, none⟩)])) H7 (fun i h => by cases h) HB2
        replace HQ := (pts_far (u := (.func (.func 171) #[] #[.pointer (some ⟨C1, 0, none⟩), .pointer (some ⟨C2, 0, none⟩)])) H7 (fun i h => by cases h) HQ).wide hs_
        replace H6 := H6.far ⟨k7, 0, none⟩ (.func (.func 171) #[] #[.pointer (some ⟨C1, 0, none⟩), .pointer (some ⟨C2, 0, none⟩)]) n67
        replace H7 : Holds (v8.setCell ⟨k7, 0, none⟩ (.func (.func 171) #[] #[.pointer (some ⟨C1, 0, none⟩), .pointer (some ⟨C2, 0, none⟩)])) k7 #[(.func (.func 171) #[] #[.pointer (some ⟨C1, 0, none⟩), .pointer (some ⟨C2, 0, none⟩)])] 109 := Blk.set_own H7 0 (.func (.func 171) #[] #[.pointer (some ⟨C1, 0, none⟩), .pointer (some ⟨C2, 0, none⟩)])
        replace S0 := HO3 _ _ S0 hb_
        go_simp
        generalize v8.setCell ⟨k7, 0, none⟩ (.func (.func 171) #[] #[.pointer (some ⟨C1, 0, none⟩), .pointer (some ⟨C2, 0, none⟩)]) = v9 at *
        clear hb_ hs_
        refine hK.out _ _ (HSS _ S0) (fun hHeld => ?_)
        clear hK K
        try simp only [Act.put, List.setIfInBounds_toArray, List.set_cons_zero, List.set_cons_succ]
        refine wpAnyH_done (by kernel_rfl) ?_ _
        have hR := S0.2.2.1
        have E_ := Blk.set_own hR 0 (.func (.func 137) #[] #[.pointer (some ⟨k6, 0, none⟩), .pointer (some ⟨k7, 0, none⟩)])
        obtain ⟨r0_, _⟩ := Blk.Holds.one E_
        have hb_ := (below_set v9 (w.heap.size + 1 + 1) (w.heap.size + 1 + 1) 0 (.func (.func 137) #[] #[.pointer (some ⟨k6, 0, none⟩), .pointer (some ⟨k7, 0, none⟩)]) (Nat.le_refl _))
        have hb4 := Lib.hid (S0.2.2.2.2.2.trans (hb_.mono (by omega)))
        have hs_ := hb_.size
        have FC : Hid (FilmC (v9.setCell ⟨w.heap.size + 1 + 1, 0, none⟩ (.func (.func 137) #[] #[.pointer (some ⟨k6, 0, none⟩), .pointer (some ⟨k7, 0, none⟩)])) k6 k7 C C1 C2) := Lib.hid ⟨⟨cell_far hR (H6.one).1 (fun h => by cases h), Nat.lt_of_lt_of_le H6.lt hs_⟩, ⟨cell_far hR (H7.one).1 (fun h => by cases h), Nat.lt_of_lt_of_le H7.lt hs_⟩⟩
        have FA : Hid (FilmAt (v9.setCell ⟨w.heap.size + 1 + 1, 0, none⟩ (.func (.func 137) #[] #[.pointer (some ⟨k6, 0, none⟩), .pointer (some ⟨k7, 0, none⟩)])) C C1 C2 Ad n cd ps ax ay rx ry lx ly q) := Lib.hid ⟨tup_far hR (fun i h => by cases h) HC, Nat.lt_of_lt_of_le hC hs_, cell_far hR HB1 (fun h => by cases h), Nat.lt_of_lt_of_le hC1 hs_, box_far hR (fun i h => by cases h) HB2, (pts_far hR (fun i h => by cases h) HQ).wide hs_⟩
        obtain ⟨_, _⟩ := hR.one
        clear hR HC HB1 HB2 HQ S0 H6 H7 QF
        go_wp2_with fail
        refine bodyPost_ret (v := .agg #[(.func (.func 137) #[] #[.pointer (some ⟨k6, 0, none⟩), .pointer (some ⟨k7, 0, none⟩)])]) (by simp [results, Try.results84, go_sem, r0_]) rfl ⟨k6, k7, C, C1, C2, Ad, cd, rfl, FC.out, FA.out, hb4.out⟩
      exact AllReadyH.nil
    refine AllReadyH.cons (o := ⟨some 6, _, _, _, _, _⟩) rfl (fun K hK => ?_) ?_
    · skip
      obtain ⟨k7, hk7⟩ : ∃ q, q = v6.heap.size := ⟨_, rfl⟩
      have lo7 : w.heap.size + 3 ≤ k7 := by rw [hk7]; exact S0.2.2.2.2.1
      have H7 := Blk.Holds.box v6 #[.nilFunc] 109 hk7
      have n67 : k6 ≠ k7 := by have := H6.lt; omega
      have hb_ := below1 v6 (Obj.cells #[.nilFunc] 109)
      replace H6 := H6.later hb_
      replace S0 := HO _ _ S0 hb_
      clear hb_
      go_simp
      try rw [← hk7]
      generalize v6.alloc (Obj.cells #[.nilFunc] 109) = v7 at *
      clear hk7
      refine hK.out _ _ (HSS _ S0) (fun hHeld => ?_)
      clear hK K
      try simp only [Act.put, List.setIfInBounds_toArray, List.set_cons_zero, List.set_cons_succ]
      refine wpAnyH_ready (rs := [1]) (by kernel_rfl) (by simp) ?_
      refine AllReadyH.cons (o := ⟨some 19, _, _, _, _, _⟩) rfl (fun K hK => ?_) ?_
      rotate_left 1
      · exact AllReadyH.nil
      go_simp
      go_at_call 135
      refine (TrackImpl.lensOf ax ay rx ry lx ly q _).mono ?_
      rintro e v1 ⟨C, rfl, HC, hC_, hb_⟩
      have hC : C < v1.heap.size := World.block_lt_of_cell? v1 _ HC.1
      replace H6 := H6.later hb_
      replace H7 := H7.later hb_
      replace S0 := HO _ _ S0 hb_
      clear hb_ hC_
      refine hK.out _ _ (HSS _ S0) (fun hHeld => ?_)
      clear hK K
      try simp only [Act.put, List.setIfInBounds_toArray, List.set_cons_zero, List.set_cons_succ]
      refine wpAnyH_ready (rs := [5]) (by kernel_rfl) (by simp) ?_
      refine AllReadyH.cons (o := ⟨some 23, _, _, _, _, _⟩) rfl (fun K hK => ?_) ?_
      rotate_left 1
      · exact AllReadyH.nil
      go_simp
      go_at_call 136
      refine (QF.out _ (S0.2.2.2.1.wide S0.2.2.2.2.2.size)).mono ?_
      rintro e v5 ⟨C1, C2, Ad, cd, rfl, HB1_, HB2, HQ, hb_⟩
      have HB1 := HB1_.1
      clear HB1_
      have hC1 : C1 < v5.heap.size := World.block_lt_of_cell? v5 _ HB1
      replace HC := HC.later hb_
      replace hC := Nat.lt_of_lt_of_le hC hb_.size
      replace H6 := H6.later hb_
      replace H7 := H7.later hb_
      replace S0 := HO _ _ S0 hb_
      clear hb_
      refine hK.out _ _ (HSS _ S0) (fun hHeld => ?_)
      clear hK K
      try simp only [Act.put, List.setIfInBounds_toArray, List.set_cons_zero, List.set_cons_succ]
      refine wpAnyH_ready (rs := [8]) (by kernel_rfl) (by simp) ?_
      refine AllReadyH.cons (o := ⟨none, _, _, _, _, _⟩) rfl (fun K hK => ?_) ?_
      rotate_left 1
      · exact AllReadyH.nil
      obtain ⟨_, _⟩ := H6.one
      have hb_ := below_set v5 (w.heap.size + 3) k6 0 (.func (.func 168) #[] #[.pointer (some ⟨C, 0, none⟩)]) lo6
      have hs_ := hb_.size
      replace HC := tup_far (u := (.func (.func 168) #[] #[.pointer (some ⟨C, 0, none⟩)])) H6 (fun i h => by cases h) HC
      replace hC := Nat.lt_of_lt_of_le hC hs_
      replace HB1 := cell_far (u := (.func (.func 168) #[] #[.pointer (some ⟨C, 0, none⟩)])) H6 HB1 (fun h => by cases h)
      replace hC1 := Nat.lt_of_lt_of_le hC1 hs_
      replace HB2 := box_far (u := (.func (.func 168) #[] #[.pointer (some ⟨C, 0, none⟩)])) H6 (fun i h => by cases h) HB2
      replace HQ := (pts_far (u := (.func (.func 168) #[] #[.pointer (some ⟨C, 0, none⟩)])) H6 (fun i h => by cases h) HQ).wide hs_
      replace H7 := H7.far ⟨k6, 0, none⟩ (.func (.func 168) #[] #[.pointer (some ⟨C, 0, none⟩)]) (fun e => n67 e.symm)
      replace H6 : Holds (v5.setCell ⟨k6, 0, none⟩ (.func (.func 168) #[] #[.pointer (some ⟨C, 0, none⟩)])) k6 #[(.func (.func 168) #[] #[.pointer (some ⟨C, 0, none⟩)])] 111 := Blk.set_own H6 0 (.func (.func 168) #[] #[.pointer (some ⟨C, 0, none⟩)])
      replace S0 := HO3 _ _ S0 hb_
      go_simp
      generalize v5.setCell ⟨k6, 0, none⟩ (.func (.func 168) #[] #[.pointer (some ⟨C, 0, none⟩)]) = v8 at *
      clear hb_ hs_
      refine hK.out _ _ (HSS _ S0) (fun hHeld => ?_)
      clear hK K
      try simp only [Act.put, List.setIfInBounds_toArray, List.set_cons_zero, List.set_cons_succ]
      refine wpAnyH_ready (rs := [9]) (by kernel_rfl) (by simp) ?_
      refine AllReadyH.cons (o := ⟨none, _, _, _, _, _⟩) rfl (fun K hK => ?_) ?_
      rotate_left 1
      · exact AllReadyH.nil
      obtain ⟨_, _⟩ := H7.one
      have hb_ := below_set v8 (w.heap.size + 3) k7 0 (.func (.func 171) #[] #[.pointer (some ⟨C1, 0, none⟩), .pointer (some ⟨C2, 0, none⟩)]) lo7
      have hs_ := hb_.size
      replace HC := tup_far (u := (.func (.func 171) #[] #[.pointer (some ⟨C1, 0, none⟩), .pointer (some ⟨C2, 0, none⟩)])) H7 (fun i h => by cases h) HC
      replace hC := Nat.lt_of_lt_of_le hC hs_
      replace HB1 := cell_far (u := (.func (.func 171) #[] #[.pointer (some ⟨C1, 0, none⟩), .pointer (some ⟨C2, 0, none⟩)])) H7 HB1 (fun h => by cases h)
      replace hC1 := Nat.lt_of_lt_of_le hC1 hs_
      replace HB2 := box_far (u := (.func (.func 171) #[] #[.pointer (some ⟨C1, 0, none⟩), .pointer (some ⟨C2, 0, none⟩)])) H7 (fun i h => by cases h) HB2
      replace HQ := (pts_far (u := (.func (.func 171) #[] #[.pointer (some ⟨C1, 0, none⟩), .pointer (some ⟨C2, 0, none⟩)])) H7 (fun i h => by cases h) HQ).wide hs_
      replace H6 := H6.far ⟨k7, 0, none⟩ (.func (.func 171) #[] #[.pointer (some ⟨C1, 0, none⟩), .pointer (some ⟨C2, 0, none⟩)]) n67
      replace H7 : Holds (v8.setCell ⟨k7, 0, none⟩ (.func (.func 171) #[] #[.pointer (some ⟨C1, 0, none⟩), .pointer (some ⟨C2, 0, none⟩)])) k7 #[(.func (.func 171) #[] #[.pointer (some ⟨C1, 0, none⟩), .pointer (some ⟨C2, 0, none⟩)])] 109 := Blk.set_own H7 0 (.func (.func 171) #[] #[.pointer (some ⟨C1, 0, none⟩), .pointer (some ⟨C2, 0, none⟩)])
      replace S0 := HO3 _ _ S0 hb_
      go_simp
      generalize v8.setCell ⟨k7, 0, none⟩ (.func (.func 171) #[] #[.pointer (some ⟨C1, 0, none⟩), .pointer (some ⟨C2, 0, none⟩)]) = v9 at *
      clear hb_ hs_
      refine hK.out _ _ (HSS _ S0) (fun hHeld => ?_)
      clear hK K
      try simp only [Act.put, List.setIfInBounds_toArray, List.set_cons_zero, List.set_cons_succ]
      refine wpAnyH_done (by kernel_rfl) ?_ _
      have hR := S0.2.2.1
      have E_ := Blk.set_own hR 0 (.func (.func 137) #[] #[.pointer (some ⟨k6, 0, none⟩), .pointer (some ⟨k7, 0, none⟩)])
      obtain ⟨r0_, _⟩ := Blk.Holds.one E_
      have hb_ := (below_set v9 (w.heap.size + 1 + 1) (w.heap.size + 1 + 1) 0 (.func (.func 137) #[] #[.pointer (some ⟨k6, 0, none⟩), .pointer (some ⟨k7, 0, none⟩)]) (Nat.le_refl _))
      have hb4 := Lib.hid (S0.2.2.2.2.2.trans (hb_.mono (by omega)))
      have hs_ := hb_.size
      have FC : Hid (FilmC (v9.setCell ⟨w.heap.size + 1 + 1, 0, none⟩ (.func (.func 137) #[] #[.pointer (some ⟨k6, 0, none⟩), .pointer (some ⟨k7, 0, none⟩)])) k6 k7 C C1 C2) := Lib.hid ⟨⟨cell_far hR (H6.one).1 (fun h => by cases h), Nat.lt_of_lt_of_le H6.lt hs_⟩, ⟨cell_far hR (H7.one).1 (fun h => by cases h), Nat.lt_of_lt_of_le H7.lt hs_⟩⟩
      have FA : Hid (FilmAt (v9.setCell ⟨w.heap.size + 1 + 1, 0, none⟩ (.func (.func 137) #[] #[.pointer (some ⟨k6, 0, none⟩), .pointer (some ⟨k7, 0, none⟩)])) C C1 C2 Ad n cd ps ax ay rx ry lx ly q) := Lib.hid ⟨tup_far hR (fun i h => by cases h) HC, Nat.lt_of_lt_of_le hC hs_, cell_far hR HB1 (fun h => by cases h), Nat.lt_of_lt_of_le hC1 hs_, box_far hR (fun i h => by cases h) HB2, (pts_far hR (fun i h => by cases h) HQ).wide hs_⟩
      obtain ⟨_, _⟩ := hR.one
      clear hR HC HB1 HB2 HQ S0 H6 H7 QF
      go_wp2_with fail
      refine bodyPost_ret (v := .agg #[(.func (.func 137) #[] #[.pointer (some ⟨k6, 0, none⟩), .pointer (some ⟨k7, 0, none⟩)])]) (by simp [results, Try.results84, go_sem, r0_]) rfl ⟨k6, k7, C, C1, C2, Ad, cd, rfl, FC.out, FA.out, hb4.out⟩
    exact AllReadyH.nil
  refine AllReadyH.cons (o := ⟨some 6, _, _, _, _, _⟩) rfl (fun K hK => ?_) ?_
  · skip
    obtain ⟨k7, hk7⟩ : ∃ q, q = v0.heap.size := ⟨_, rfl⟩
    have lo7 : w.heap.size + 3 ≤ k7 := by rw [hk7]; exact S0.2.2.2.2.1
    have H7 := Blk.Holds.box v0 #[.nilFunc] 109 hk7
    have hb_ := below1 v0 (Obj.cells #[.nilFunc] 109)
    replace S0 := HO _ _ S0 hb_
    clear hb_
    go_simp
    try rw [← hk7]
    generalize v0.alloc (Obj.cells #[.nilFunc] 109) = v7 at *
    clear hk7
    refine hK.out _ _ (HSS _ S0) (fun hHeld => ?_)
    clear hK K
    try simp only [Act.put, List.setIfInBounds_toArray, List.set_cons_zero, List.set_cons_succ]
    refine wpAnyH_ready (rs := [1, 6]) (by kernel_rfl) (by simp) ?_
    refine AllReadyH.cons (o := ⟨some 19, _, _, _, _, _⟩) rfl (fun K hK => ?_) ?_
    · skip
      go_simp
      go_at_call 135
      refine (TrackImpl.lensOf ax ay rx ry lx ly q _).mono ?_
      rintro e v1 ⟨C, rfl, HC, hC_, hb_⟩
      have hC : C < v1.heap.size := World.block_lt_of_cell? v1 _ HC.1
      replace H7 := H7.later hb_
      replace S0 := HO _ _ S0 hb_
      clear hb_ hC_
      refine hK.out _ _ (HSS _ S0) (fun hHeld => ?_)
      clear hK K
      try simp only [Act.put, List.setIfInBounds_toArray, List.set_cons_zero, List.set_cons_succ]
      refine wpAnyH_ready (rs := [5, 6]) (by kernel_rfl) (by simp) ?_
      refine AllReadyH.cons (o := ⟨some 23, _, _, _, _, _⟩) rfl (fun K hK => ?_) ?_
      · skip
        go_simp
        go_at_call 136
        refine (QF.out _ (S0.2.2.2.1.wide S0.2.2.2.2.2.size)).mono ?_
        rintro e v5 ⟨C1, C2, Ad, cd, rfl, HB1_, HB2, HQ, hb_⟩
        have HB1 := HB1_.1
        clear HB1_
        have hC1 : C1 < v5.heap.size := World.block_lt_of_cell? v5 _ HB1
        replace HC := HC.later hb_
        replace hC := Nat.lt_of_lt_of_le hC hb_.size
        replace H7 := H7.later hb_
        replace S0 := HO _ _ S0 hb_
        clear hb_
        refine hK.out _ _ (HSS _ S0) (fun hHeld => ?_)
        clear hK K
        try simp only [Act.put, List.setIfInBounds_toArray, List.set_cons_zero, List.set_cons_succ]
        refine wpAnyH_ready (rs := [6]) (by kernel_rfl) (by simp) ?_
        refine AllReadyH.cons (o := ⟨some 5, _, _, _, _, _⟩) rfl (fun K hK => ?_) ?_
        rotate_left 1
        · exact AllReadyH.nil
        obtain ⟨k6, hk6⟩ : ∃ q, q = v5.heap.size := ⟨_, rfl⟩
        have lo6 : w.heap.size + 3 ≤ k6 := by rw [hk6]; exact S0.2.2.2.2.1
        have H6 := Blk.Holds.box v5 #[.nilFunc] 111 hk6
        have n67 : k6 ≠ k7 := by have := H7.lt; omega
        have hb_ := below1 v5 (Obj.cells #[.nilFunc] 111)
        replace HC := HC.later hb_
        replace hC := Nat.lt_of_lt_of_le hC hb_.size
        replace HB1 := (hb_.cell (p := ⟨C1, 0, none⟩) hC1).trans HB1
        replace hC1 := Nat.lt_of_lt_of_le hC1 hb_.size
        replace HB2 := HB2.later hb_
        replace HQ := (HQ.later hb_).wide hb_.size
        replace H7 := H7.later hb_
        replace S0 := HO _ _ S0 hb_
        clear hb_
        go_simp
        try rw [← hk6]
        generalize v5.alloc (Obj.cells #[.nilFunc] 111) = v6 at *
        clear hk6
        refine hK.out _ _ (HSS _ S0) (fun hHeld => ?_)
        clear hK K
        try simp only [Act.put, List.setIfInBounds_toArray, List.set_cons_zero, List.set_cons_succ]
        refine wpAnyH_ready (rs := [8]) (by kernel_rfl) (by simp) ?_
        refine AllReadyH.cons (o := ⟨none, _, _, _, _, _⟩) rfl (fun K hK => ?_) ?_
        rotate_left 1
        · exact AllReadyH.nil
        obtain ⟨_, _⟩ := H6.one
        have hb_ := below_set v6 (w.heap.size + 3) k6 0 (.func (.func 168) #[] #[.pointer (some ⟨C, 0, none⟩)]) lo6
        have hs_ := hb_.size
        replace HC := tup_far (u := (.func (.func 168) #[] #[.pointer (some ⟨C, 0, none⟩)])) H6 (fun i h => by cases h) HC
        replace hC := Nat.lt_of_lt_of_le hC hs_
        replace HB1 := cell_far (u := (.func (.func 168) #[] #[.pointer (some ⟨C, 0, none⟩)])) H6 HB1 (fun h => by cases h)
        replace hC1 := Nat.lt_of_lt_of_le hC1 hs_
        replace HB2 := box_far (u := (.func (.func 168) #[] #[.pointer (some ⟨C, 0, none⟩)])) H6 (fun i h => by cases h) HB2
        replace HQ := (pts_far (u := (.func (.func 168) #[] #[.pointer (some ⟨C, 0, none⟩)])) H6 (fun i h => by cases h) HQ).wide hs_
        replace H7 := H7.far ⟨k6, 0, none⟩ (.func (.func 168) #[] #[.pointer (some ⟨C, 0, none⟩)]) (fun e => n67 e.symm)
        replace H6 : Holds (v6.setCell ⟨k6, 0, none⟩ (.func (.func 168) #[] #[.pointer (some ⟨C, 0, none⟩)])) k6 #[(.func (.func 168) #[] #[.pointer (some ⟨C, 0, none⟩)])] 111 := Blk.set_own H6 0 (.func (.func 168) #[] #[.pointer (some ⟨C, 0, none⟩)])
        replace S0 := HO3 _ _ S0 hb_
        go_simp
        generalize v6.setCell ⟨k6, 0, none⟩ (.func (.func 168) #[] #[.pointer (some ⟨C, 0, none⟩)]) = v8 at *
        clear hb_ hs_
        refine hK.out _ _ (HSS _ S0) (fun hHeld => ?_)
        clear hK K
        try simp only [Act.put, List.setIfInBounds_toArray, List.set_cons_zero, List.set_cons_succ]
        refine wpAnyH_ready (rs := [9]) (by kernel_rfl) (by simp) ?_
        refine AllReadyH.cons (o := ⟨none, _, _, _, _, _⟩) rfl (fun K hK => ?_) ?_
        rotate_left 1
        · exact AllReadyH.nil
        obtain ⟨_, _⟩ := H7.one
        have hb_ := below_set v8 (w.heap.size + 3) k7 0 (.func (.func 171) #[] #[.pointer (some ⟨C1, 0, none⟩), .pointer (some ⟨C2, 0, none⟩)]) lo7
        have hs_ := hb_.size
        replace HC := tup_far (u := (.func (.func 171) #[] #[.pointer (some ⟨C1, 0, none⟩), .pointer (some ⟨C2, 0, none⟩)])) H7 (fun i h => by cases h) HC
        replace hC := Nat.lt_of_lt_of_le hC hs_
        replace HB1 := cell_far (u := (.func (.func 171) #[] #[.pointer (some ⟨C1, 0, none⟩), .pointer (some ⟨C2, 0, none⟩)])) H7 HB1 (fun h => by cases h)
        replace hC1 := Nat.lt_of_lt_of_le hC1 hs_
        replace HB2 := box_far (u := (.func (.func 171) #[] #[.pointer (some ⟨C1, 0, none⟩), .pointer (some ⟨C2, 0, none⟩)])) H7 (fun i h => by cases h) HB2
        replace HQ := (pts_far (u := (.func (.func 171) #[] #[.pointer (some ⟨C1, 0, none⟩), .pointer (some ⟨C2, 0, none⟩)])) H7 (fun i h => by cases h) HQ).wide hs_
        replace H6 := H6.far ⟨k7, 0, none⟩ (.func (.func 171) #[] #[.pointer (some ⟨C1, 0, none⟩), .pointer (some ⟨C2, 0, none⟩)]) n67
        replace H7 : Holds (v8.setCell ⟨k7, 0, none⟩ (.func (.func 171) #[] #[.pointer (some ⟨C1, 0, none⟩), .pointer (some ⟨C2, 0, none⟩)])) k7 #[(.func (.func 171) #[] #[.pointer (some ⟨C1, 0, none⟩), .pointer (some ⟨C2, 0, none⟩)])] 109 := Blk.set_own H7 0 (.func (.func 171) #[] #[.pointer (some ⟨C1, 0, none⟩), .pointer (some ⟨C2, 0, none⟩)])
        replace S0 := HO3 _ _ S0 hb_
        go_simp
        generalize v8.setCell ⟨k7, 0, none⟩ (.func (.func 171) #[] #[.pointer (some ⟨C1, 0, none⟩), .pointer (some ⟨C2, 0, none⟩)]) = v9 at *
        clear hb_ hs_
        refine hK.out _ _ (HSS _ S0) (fun hHeld => ?_)
        clear hK K
        try simp only [Act.put, List.setIfInBounds_toArray, List.set_cons_zero, List.set_cons_succ]
        refine wpAnyH_done (by kernel_rfl) ?_ _
        have hR := S0.2.2.1
        have E_ := Blk.set_own hR 0 (.func (.func 137) #[] #[.pointer (some ⟨k6, 0, none⟩), .pointer (some ⟨k7, 0, none⟩)])
        obtain ⟨r0_, _⟩ := Blk.Holds.one E_
        have hb_ := (below_set v9 (w.heap.size + 1 + 1) (w.heap.size + 1 + 1) 0 (.func (.func 137) #[] #[.pointer (some ⟨k6, 0, none⟩), .pointer (some ⟨k7, 0, none⟩)]) (Nat.le_refl _))
        have hb4 := Lib.hid (S0.2.2.2.2.2.trans (hb_.mono (by omega)))
        have hs_ := hb_.size
        have FC : Hid (FilmC (v9.setCell ⟨w.heap.size + 1 + 1, 0, none⟩ (.func (.func 137) #[] #[.pointer (some ⟨k6, 0, none⟩), .pointer (some ⟨k7, 0, none⟩)])) k6 k7 C C1 C2) := Lib.hid ⟨⟨cell_far hR (H6.one).1 (fun h => by cases h), Nat.lt_of_lt_of_le H6.lt hs_⟩, ⟨cell_far hR (H7.one).1 (fun h => by cases h), Nat.lt_of_lt_of_le H7.lt hs_⟩⟩
        have FA : Hid (FilmAt (v9.setCell ⟨w.heap.size + 1 + 1, 0, none⟩ (.func (.func 137) #[] #[.pointer (some ⟨k6, 0, none⟩), .pointer (some ⟨k7, 0, none⟩)])) C C1 C2 Ad n cd ps ax ay rx ry lx ly q) := Lib.hid ⟨tup_far hR (fun i h => by cases h) HC, Nat.lt_of_lt_of_le hC hs_, cell_far hR HB1 (fun h => by cases h), Nat.lt_of_lt_of_le hC1 hs_, box_far hR (fun i h => by cases h) HB2, (pts_far hR (fun i h => by cases h) HQ).wide hs_⟩
        obtain ⟨_, _⟩ := hR.one
        clear hR HC HB1 HB2 HQ S0 H6 H7 QF
        go_wp2_with fail
        refine bodyPost_ret (v := .agg #[(.func (.func 137) #[] #[.pointer (some ⟨k6, 0, none⟩), .pointer (some ⟨k7, 0, none⟩)])]) (by simp [results, Try.results84, go_sem, r0_]) rfl ⟨k6, k7, C, C1, C2, Ad, cd, rfl, FC.out, FA.out, hb4.out⟩
      refine AllReadyH.cons (o := ⟨some 5, _, _, _, _, _⟩) rfl (fun K hK => ?_) ?_
      · skip
        obtain ⟨k6, hk6⟩ : ∃ q, q = v1.heap.size := ⟨_, rfl⟩
        have lo6 : w.heap.size + 3 ≤ k6 := by rw [hk6]; exact S0.2.2.2.2.1
        have H6 := Blk.Holds.box v1 #[.nilFunc] 111 hk6
        have n67 : k6 ≠ k7 := by have := H7.lt; omega
        have hb_ := below1 v1 (Obj.cells #[.nilFunc] 111)
        replace HC := HC.later hb_
        replace hC := Nat.lt_of_lt_of_le hC hb_.size
        replace H7 := H7.later hb_
        replace S0 := HO _ _ S0 hb_
        clear hb_
        go_simp
        try rw [← hk6]
        generalize v1.alloc (Obj.cells #[.nilFunc] 111) = v6 at *
        clear hk6
        refine hK.out _ _ (HSS _ S0) (fun hHeld => ?_)
        clear hK K
        try simp only [Act.put, List.setIfInBounds_toArray, List.set_cons_zero, List.set_cons_succ]
        refine wpAnyH_ready (rs := [5]) (by kernel_rfl) (by simp) ?_
        refine AllReadyH.cons (o := ⟨some 23, _, _, _, _, _⟩) rfl (fun K hK => ?_) ?_
        rotate_left 1
        · exact AllReadyH.nil
        go_simp
        go_at_call 136
        refine (QF.out _ (S0.2.2.2.1.wide S0.2.2.2.2.2.size)).mono ?_
        rintro e v5 ⟨C1, C2, Ad, cd, rfl, HB1_, HB2, HQ, hb_⟩
        have HB1 := HB1_.1
        clear HB1_
        have hC1 : C1 < v5.heap.size := World.block_lt_of_cell? v5 _ HB1
        replace HC := HC.later hb_
        replace hC := Nat.lt_of_lt_of_le hC hb_.size
        replace H6 := H6.later hb_
        replace H7 := H7.later hb_
        replace S0 := HO _ _ S0 hb_
        clear hb_
        refine hK.out _ _ (HSS _ S0) (fun hHeld => ?_)
        clear hK K
        try simp only [Act.put, List.setIfInBounds_toArray, List.set_cons_zero, List.set_cons_succ]
        refine wpAnyH_ready (rs := [8]) (by kernel_rfl) (by simp) ?_
        refine AllReadyH.cons (o := ⟨none, _, _, _, _, _⟩) rfl (fun K hK => ?_) ?_
        rotate_left 1
        · exact AllReadyH.nil
        obtain ⟨_, _⟩ := H6.one
        have hb_ := below_set v5 (w.heap.size + 3) k6 0 (.func (.func 168) #[] #[.pointer (some ⟨C, 0, none⟩)]) lo6
        have hs_ := hb_.size
        replace HC := tup_far (u := (.func (.func 168) #[] #[.pointer (some ⟨C, 0, none⟩)])) H6 (fun i h => by cases h) HC
        replace hC := Nat.lt_of_lt_of_le hC hs_
        replace HB1 := cell_far (u := (.func (.func 168) #[] #[.pointer (some ⟨C, 0, none⟩)])) H6 HB1 (fun h => by cases h)
        replace hC1 := Nat.lt_of_lt_of_le hC1 hs_
        replace HB2 := box_far (u := (.func (.func 168) #[] #[.pointer (some ⟨C, 0, none⟩)])) H6 (fun i h => by cases h) HB2
        replace HQ := (pts_far (u := (.func (.func 168) #[] #[.pointer (some ⟨C, 0, none⟩)])) H6 (fun i h => by cases h) HQ).wide hs_
        replace H7 := H7.far ⟨k6, 0, none⟩ (.func (.func 168) #[] #[.pointer (some ⟨C, 0, none⟩)]) (fun e => n67 e.symm)
        replace H6 : Holds (v5.setCell ⟨k6, 0, none⟩ (.func (.func 168) #[] #[.pointer (some ⟨C, 0, none⟩)])) k6 #[(.func (.func 168) #[] #[.pointer (some ⟨C, 0, none⟩)])] 111 := Blk.set_own H6 0 (.func (.func 168) #[] #[.pointer (some ⟨C, 0, none⟩)])
        replace S0 := HO3 _ _ S0 hb_
        go_simp
        generalize v5.setCell ⟨k6, 0, none⟩ (.func (.func 168) #[] #[.pointer (some ⟨C, 0, none⟩)]) = v8 at *
        clear hb_ hs_
        refine hK.out _ _ (HSS _ S0) (fun hHeld => ?_)
        clear hK K
        try simp only [Act.put, List.setIfInBounds_toArray, List.set_cons_zero, List.set_cons_succ]
        refine wpAnyH_ready (rs := [9]) (by kernel_rfl) (by simp) ?_
        refine AllReadyH.cons (o := ⟨none, _, _, _, _, _⟩) rfl (fun K hK => ?_) ?_
        rotate_left 1
        · exact AllReadyH.nil
        obtain ⟨_, _⟩ := H7.one
        have hb_ := below_set v8 (w.heap.size + 3) k7 0 (.func (.func 171) #[] #[.pointer (some ⟨C1, 0, none⟩), .pointer (some ⟨C2, 0, none⟩)]) lo7
        have hs_ := hb_.size
        replace HC := tup_far (u := (.func (.func 171) #[] #[.pointer (some ⟨C1, 0, none⟩), .pointer (some ⟨C2, 0, none⟩)])) H7 (fun i h => by cases h) HC
        replace hC := Nat.lt_of_lt_of_le hC hs_
        replace HB1 := cell_far (u := (.func (.func 171) #[] #[.pointer (some ⟨C1, 0, none⟩), .pointer (some ⟨C2, 0, none⟩)])) H7 HB1 (fun h => by cases h)
        replace hC1 := Nat.lt_of_lt_of_le hC1 hs_
        replace HB2 := box_far (u := (.func (.func 171) #[] #[.pointer (some ⟨C1, 0, none⟩), .pointer (some ⟨C2, 0, none⟩)])) H7 (fun i h => by cases h) HB2
        replace HQ := (pts_far (u := (.func (.func 171) #[] #[.pointer (some ⟨C1, 0, none⟩), .pointer (some ⟨C2, 0, none⟩)])) H7 (fun i h => by cases h) HQ).wide hs_
        replace H6 := H6.far ⟨k7, 0, none⟩ (.func (.func 171) #[] #[.pointer (some ⟨C1, 0, none⟩), .pointer (some ⟨C2, 0, none⟩)]) n67
        replace H7 : Holds (v8.setCell ⟨k7, 0, none⟩ (.func (.func 171) #[] #[.pointer (some ⟨C1, 0, none⟩), .pointer (some ⟨C2, 0, none⟩)])) k7 #[(.func (.func 171) #[] #[.pointer (some ⟨C1, 0, none⟩), .pointer (some ⟨C2, 0, none⟩)])] 109 := Blk.set_own H7 0 (.func (.func 171) #[] #[.pointer (some ⟨C1, 0, none⟩), .pointer (some ⟨C2, 0, none⟩)])
        replace S0 := HO3 _ _ S0 hb_
        go_simp
        generalize v8.setCell ⟨k7, 0, none⟩ (.func (.func 171) #[] #[.pointer (some ⟨C1, 0, none⟩), .pointer (some ⟨C2, 0, none⟩)]) = v9 at *
        clear hb_ hs_
        refine hK.out _ _ (HSS _ S0) (fun hHeld => ?_)
        clear hK K
        try simp only [Act.put, List.setIfInBounds_toArray, List.set_cons_zero, List.set_cons_succ]
        refine wpAnyH_done (by kernel_rfl) ?_ _
        have hR := S0.2.2.1
        have E_ := Blk.set_own hR 0 (.func (.func 137) #[] #[.pointer (some ⟨k6, 0, none⟩), .pointer (some ⟨k7, 0, none⟩)])
        obtain ⟨r0_, _⟩ := Blk.Holds.one E_
        have hb_ := (below_set v9 (w.heap.size + 1 + 1) (w.heap.size + 1 + 1) 0 (.func (.func 137) #[] #[.pointer (some ⟨k6, 0, none⟩), .pointer (some ⟨k7, 0, none⟩)]) (Nat.le_refl _))
        have hb4 := Lib.hid (S0.2.2.2.2.2.trans (hb_.mono (by omega)))
        have hs_ := hb_.size
        have FC : Hid (FilmC (v9.setCell ⟨w.heap.size + 1 + 1, 0, none⟩ (.func (.func 137) #[] #[.pointer (some ⟨k6, 0, none⟩), .pointer (some ⟨k7, 0, none⟩)])) k6 k7 C C1 C2) := Lib.hid ⟨⟨cell_far hR (H6.one).1 (fun h => by cases h), Nat.lt_of_lt_of_le H6.lt hs_⟩, ⟨cell_far hR (H7.one).1 (fun h => by cases h), Nat.lt_of_lt_of_le H7.lt hs_⟩⟩
        have FA : Hid (FilmAt (v9.setCell ⟨w.heap.size + 1 + 1, 0, none⟩ (.func (.func 137) #[] #[.pointer (some ⟨k6, 0, none⟩), .pointer (some ⟨k7, 0, none⟩)])) C C1 C2 Ad n cd ps ax ay rx ry lx ly q) := Lib.hid ⟨tup_far hR (fun i h => by cases h) HC, Nat.lt_of_lt_of_le hC hs_, cell_far hR HB1 (fun h => by cases h), Nat.lt_of_lt_of_le hC1 hs_, box_far hR (fun i h => by cases h) HB2, (pts_far hR (fun i h => by cases h) HQ).wide hs_⟩
        obtain ⟨_, _⟩ := hR.one
        clear hR HC HB1 HB2 HQ S0 H6 H7 QF
        go_wp2_with fail
        refine bodyPost_ret (v := .agg #[(.func (.func 137) #[] #[.pointer (some ⟨k6, 0, none⟩), .pointer (some ⟨k7, 0, none⟩)])]) (by simp [results, Try.results84, go_sem, r0_]) rfl ⟨k6, k7, C, C1, C2, Ad, cd, rfl, FC.out, FA.out, hb4.out⟩
      exact AllReadyH.nil
    refine AllReadyH.cons (o := ⟨some 5, _, _, _, _, _⟩) rfl (fun K hK => ?_) ?_
    · skip
      obtain ⟨k6, hk6⟩ : ∃ q, q = v7.heap.size := ⟨_, rfl⟩
      have lo6 : w.heap.size + 3 ≤ k6 := by rw [hk6]; exact S0.2.2.2.2.1
      have H6 := Blk.Holds.box v7 #[.nilFunc] 111 hk6
      have n67 : k6 ≠ k7 := by have := H7.lt; omega
      have hb_ := below1 v7 (Obj.cells #[.nilFunc] 111)
      replace H7 := H7.later hb_
      replace S0 := HO _ _ S0 hb_
      clear hb_
      go_simp
      try rw [← hk6]
      generalize v7.alloc (Obj.cells #[.nilFunc] 111) = v6 at *
      clear hk6
      refine hK.out _ _ (HSS _ S0) (fun hHeld => ?_)
      clear hK K
      try simp only [Act.put, List.setIfInBounds_toArray, List.set_cons_zero, List.set_cons_succ]
      refine wpAnyH_ready (rs := [1]) (by kernel_rfl) (by simp) ?_
      refine AllReadyH.cons (o := ⟨some 19, _, _, _, _, _⟩) rfl (fun K hK => ?_) ?_
      rotate_left 1
      · exact AllReadyH.nil
      go_simp
      go_at_call 135
      refine (TrackImpl.lensOf ax ay rx ry lx ly q _).mono ?_
      rintro e v1 ⟨C, rfl, HC, hC_, hb_⟩
      have hC : C < v1.heap.size := World.block_lt_of_cell? v1 _ HC.1
      replace H6 := H6.later hb_
      replace H7 := H7.later hb_
      replace S0 := HO _ _ S0 hb_
      clear hb_ hC_
      refine hK.out _ _ (HSS _ S0) (fun hHeld => ?_)
      clear hK K
      try simp only [Act.put, List.setIfInBounds_toArray, List.set_cons_zero, List.set_cons_succ]
      refine wpAnyH_ready (rs := [5]) (by kernel_rfl) (by simp) ?_
      refine AllReadyH.cons (o := ⟨some 23, _, _, _, _, _⟩) rfl (fun K hK => ?_) ?_
      rotate_left 1
      · exact AllReadyH.nil
      go_simp
      go_at_call 136
      refine (QF.out _ (S0.2.2.2.1.wide S0.2.2.2.2.2.size)).mono ?_
      rintro e v5 ⟨C1, C2, Ad, cd, rfl, HB1_, HB2, HQ, hb_⟩
      have HB1 := HB1_.1
      clear HB1_
      have hC1 : C1 < v5.heap.size := World.block_lt_of_cell? v5 _ HB1
      replace HC := HC.later hb_
      replace hC := Nat.lt_of_lt_of_le hC hb_.size
      replace H6 := H6.later hb_
      replace H7 := H7.later hb_
      replace S0 := HO _ _ S0 hb_
      clear hb_
      refine hK.out _ _ (HSS _ S0) (fun hHeld => ?_)
      clear hK K
      try simp only [Act.put, List.setIfInBounds_toArray, List.set_cons_zero, List.set_cons_succ]
      refine wpAnyH_ready (rs := [8]) (by kernel_rfl) (by simp) ?_
      refine AllReadyH.cons (o := ⟨none, _, _, _, _, _⟩) rfl (fun K hK => ?_) ?_
      rotate_left 1
      · exact AllReadyH.nil
      obtain ⟨_, _⟩ := H6.one
      have hb_ := below_set v5 (w.heap.size + 3) k6 0 (.func (.func 168) #[] #[.pointer (some ⟨C, 0, none⟩)]) lo6
      have hs_ := hb_.size
      replace HC := tup_far (u := (.func (.func 168) #[] #[.pointer (some ⟨C, 0, none⟩)])) H6 (fun i h => by cases h) HC
      replace hC := Nat.lt_of_lt_of_le hC hs_
      replace HB1 := cell_far (u := (.func (.func 168) #[] #[.pointer (some ⟨C, 0, none⟩)])) H6 HB1 (fun h => by cases h)
      replace hC1 := Nat.lt_of_lt_of_le hC1 hs_
      replace HB2 := box_far (u := (.func (.func 168) #[] #[.pointer (some ⟨C, 0, none⟩)])) H6 (fun i h => by cases h) HB2
      replace HQ := (pts_far (u := (.func (.func 168) #[] #[.pointer (some ⟨C, 0, none⟩)])) H6 (fun i h => by cases h) HQ).wide hs_
      replace H7 := H7.far ⟨k6, 0, none⟩ (.func (.func 168) #[] #[.pointer (some ⟨C, 0, none⟩)]) (fun e => n67 e.symm)
      replace H6 : Holds (v5.setCell ⟨k6, 0, none⟩ (.func (.func 168) #[] #[.pointer (some ⟨C, 0, none⟩)])) k6 #[(.func (.func 168) #[] #[.pointer (some ⟨C, 0, none⟩)])] 111 := Blk.set_own H6 0 (.func (.func 168) #[] #[.pointer (some ⟨C, 0, none⟩)])
      replace S0 := HO3 _ _ S0 hb_
      go_simp
      generalize v5.setCell ⟨k6, 0, none⟩ (.func (.func 168) #[] #[.pointer (some ⟨C, 0, none⟩)]) = v8 at *
      clear hb_ hs_
      refine hK.out _ _ (HSS _ S0) (fun hHeld => ?_)
      clear hK K
      try simp only [Act.put, List.setIfInBounds_toArray, List.set_cons_zero, List.set_cons_succ]
      refine wpAnyH_ready (rs := [9]) (by kernel_rfl) (by simp) ?_
      refine AllReadyH.cons (o := ⟨none, _, _, _, _, _⟩) rfl (fun K hK => ?_) ?_
      rotate_left 1
      · exact AllReadyH.nil
      obtain ⟨_, _⟩ := H7.one
      have hb_ := below_set v8 (w.heap.size + 3) k7 0 (.func (.func 171) #[] #[.pointer (some ⟨C1, 0, none⟩), .pointer (some ⟨C2, 0, none⟩)]) lo7
      have hs_ := hb_.size
      replace HC := tup_far (u := (.func (.func 171) #[] #[.pointer (some ⟨C1, 0, none⟩), .pointer (some ⟨C2, 0, none⟩)])) H7 (fun i h => by cases h) HC
      replace hC := Nat.lt_of_lt_of_le hC hs_
      replace HB1 := cell_far (u := (.func (.func 171) #[] #[.pointer (some ⟨C1, 0, none⟩), .pointer (some ⟨C2, 0, none⟩)])) H7 HB1 (fun h => by cases h)
      replace hC1 := Nat.lt_of_lt_of_le hC1 hs_
      replace HB2 := box_far (u := (.func (.func 171) #[] #[.pointer (some ⟨C1, 0, none⟩), .pointer (some ⟨C2, 0, none⟩)])) H7 (fun i h => by cases h) HB2
      replace HQ := (pts_far (u := (.func (.func 171) #[] #[.pointer (some ⟨C1, 0, none⟩), .pointer (some ⟨C2, 0, none⟩)])) H7 (fun i h => by cases h) HQ).wide hs_
      replace H6 := H6.far ⟨k7, 0, none⟩ (.func (.func 171) #[] #[.pointer (some ⟨C1, 0, none⟩), .pointer (some ⟨C2, 0, none⟩)]) n67
      replace H7 : Holds (v8.setCell ⟨k7, 0, none⟩ (.func (.func 171) #[] #[.pointer (some ⟨C1, 0, none⟩), .pointer (some ⟨C2, 0, none⟩)])) k7 #[(.func (.func 171) #[] #[.pointer (some ⟨C1, 0, none⟩), .pointer (some ⟨C2, 0, none⟩)])] 109 := Blk.set_own H7 0 (.func (.func 171) #[] #[.pointer (some ⟨C1, 0, none⟩), .pointer (some ⟨C2, 0, none⟩)])
      replace S0 := HO3 _ _ S0 hb_
      go_simp
      generalize v8.setCell ⟨k7, 0, none⟩ (.func (.func 171) #[] #[.pointer (some ⟨C1, 0, none⟩), .pointer (some ⟨C2, 0, none⟩)]) = v9 at *
      clear hb_ hs_
      refine hK.out _ _ (HSS _ S0) (fun hHeld => ?_)
      clear hK K
      try simp only [Act.put, List.setIfInBounds_toArray, List.set_cons_zero, List.set_cons_succ]
      refine wpAnyH_done (by kernel_rfl) ?_ _
      have hR := S0.2.2.1
      have E_ := Blk.set_own hR 0 (.func (.func 137) #[] #[.pointer (some ⟨k6, 0, none⟩), .pointer (some ⟨k7, 0, none⟩)])
      obtain ⟨r0_, _⟩ := Blk.Holds.one E_
      have hb_ := (below_set v9 (w.heap.size + 1 + 1) (w.heap.size + 1 + 1) 0 (.func (.func 137) #[] #[.pointer (some ⟨k6, 0, none⟩), .pointer (some ⟨k7, 0, none⟩)]) (Nat.le_refl _))
      have hb4 := Lib.hid (S0.2.2.2.2.2.trans (hb_.mono (by omega)))
      have hs_ := hb_.size
      have FC : Hid (FilmC (v9.setCell ⟨w.heap.size + 1 + 1, 0, none⟩ (.func (.func 137) #[] #[.pointer (some ⟨k6, 0, none⟩), .pointer (some ⟨k7, 0, none⟩)])) k6 k7 C C1 C2) := Lib.hid ⟨⟨cell_far hR (H6.one).1 (fun h => by cases h), Nat.lt_of_lt_of_le H6.lt hs_⟩, ⟨cell_far hR (H7.one).1 (fun h => by cases h), Nat.lt_of_lt_of_le H7.lt hs_⟩⟩
      have FA : Hid (FilmAt (v9.setCell ⟨w.heap.size + 1 + 1, 0, none⟩ (.func (.func 137) #[] #[.pointer (some ⟨k6, 0, none⟩), .pointer (some ⟨k7, 0, none⟩)])) C C1 C2 Ad n cd ps ax ay rx ry lx ly q) := Lib.hid ⟨tup_far hR (fun i h => by cases h) HC, Nat.lt_of_lt_of_le hC hs_, cell_far hR HB1 (fun h => by cases h), Nat.lt_of_lt_of_le hC1 hs_, box_far hR (fun i h => by cases h) HB2, (pts_far hR (fun i h => by cases h) HQ).wide hs_⟩
      obtain ⟨_, _⟩ := hR.one
      clear hR HC HB1 HB2 HQ S0 H6 H7 QF
      go_wp2_with fail
      refine bodyPost_ret (v := .agg #[(.func (.func 137) #[] #[.pointer (some ⟨k6, 0, none⟩), .pointer (some ⟨k7, 0, none⟩)])]) (by simp [results, Try.results84, go_sem, r0_]) rfl ⟨k6, k7, C, C1, C2, Ad, cd, rfl, FC.out, FA.out, hb4.out⟩
    exact AllReadyH.nil
  exact AllReadyH.nil

set_option maxRecDepth 100000 in
set_option maxHeartbeats 6400000 in
theorem filmedBy (A : Option Addr) (n cap : Nat) (ax ay rx ry lx ly q : Int) (w : World) (ps : List (Int × Int)) (hl : ps.length = n) (hn : n ≤ 1048576) (hp : PtsAt w w.heap.size A ps) :
    Calls Try.prog 26 #[.agg #[.slice A n cap], .agg #[.int .i64 ax, .int .i64 ay, .int .i64 rx, .int .i64 ry, .int .i64 lx, .int .i64 ly, .int .i64 q]] w (GivesC 49 2 w (filmL ps ax ay rx ry lx ly q).length (cellsP (filmL ps ax ay rx ry lx ly q))) := by
  obtain ⟨r, hr⟩ : ∃ r, filmL ps ax ay rx ry lx ly q = r := ⟨_, rfl⟩
  have HR := Lib.hid hr
  rw [hr]
  clear hr
  have hfd : ∀ (v : Value) (w : World), (Instr.field 111 (.agg #[v]) 0).run Try.prog w = .ok v w := fun _ _ => rfl
  have QL : Hid (∀ w hp, _) := Lib.hid fun w hp => FloorImpl.floorPoints A n cap w ps hl hn hp
  have hle := floorL_le ps
  obtain ⟨m, hm⟩ : ∃ m, (floorL ps).length = m := ⟨_, rfl⟩
  unfold GivesC at QL
  rw [hm] at QL hle
  go_enter Try.func26, Try.ntmps26
  go_wp2_with fail
  have X0 := (Pts.boxR w (.slice A n cap) 37 (k := w.heap.size) (by simp)).alloc (Obj.cells #[.int .i64 ax, .int .i64 ay, .int .i64 rx, .int .i64 ry, .int .i64 lx, .int .i64 ly, .int .i64 q] 51)
  have X1 := Tup7.box1 (w.alloc (Obj.cells #[.slice A n cap] 37)) ax ay rx ry lx ly q 51 (k := w.heap.size + 1) (by simp)
  have b0 := PointOk.below2 w (Obj.cells #[.slice A n cap] 37) (Obj.cells #[.int .i64 ax, .int .i64 ay, .int .i64 rx, .int .i64 ry, .int .i64 lx, .int .i64 ly, .int .i64 q] 51)
  have HO : ∀ W W' : World, (Pts.BoxR W (w.heap.size) (.slice A n cap) ∧ Tup7.Box W (w.heap.size + 1) ax ay rx ry lx ly q ∧ PtsAt W w.heap.size A ps ∧ Below w.heap.size w W) → Below W.heap.size W W' → (Pts.BoxR W' (w.heap.size) (.slice A n cap) ∧ Tup7.Box W' (w.heap.size + 1) ax ay rx ry lx ly q ∧ PtsAt W' w.heap.size A ps ∧ Below w.heap.size w W') := fun W W' ⟨h0, h1, x0, hb⟩ h => ⟨h0.later h, h1.later h, x0.later (h.mono hb.size), hb.trans (h.mono hb.size)⟩
  have hz0_ : Hid ((((w.alloc (Obj.cells #[.slice A n cap] 37)).alloc (Obj.cells #[.int .i64 ax, .int .i64 ay, .int .i64 rx, .int .i64 ry, .int .i64 lx, .int .i64 ly, .int .i64 q] 51))).heap.size = w.heap.size + 1 + 1) := Lib.hid (by simp)
  have Y0 : PtsAt (((w.alloc (Obj.cells #[.slice A n cap] 37)).alloc (Obj.cells #[.int .i64 ax, .int .i64 ay, .int .i64 rx, .int .i64 ry, .int .i64 lx, .int .i64 ly, .int .i64 q] 51))) w.heap.size A ps := hp.later b0
  generalize ((w.alloc (Obj.cells #[.slice A n cap] 37)).alloc (Obj.cells #[.int .i64 ax, .int .i64 ay, .int .i64 rx, .int .i64 ry, .int .i64 lx, .int .i64 ly, .int .i64 q] 51)) = w0 at X0 X1 Y0 b0 hz0_ ⊢
  have S0 := (⟨X0, X1, Y0, b0⟩ : Pts.BoxR w0 (w.heap.size) (.slice A n cap) ∧ Tup7.Box w0 (w.heap.size + 1) ax ay rx ry lx ly q ∧ PtsAt w0 w.heap.size A ps ∧ Below w.heap.size w w0)
  clear X0 X1 Y0 b0
  obtain ⟨⟨_, _⟩, ⟨_, _, _, _, _, _, _⟩, _, _⟩ := id S0
  have HSS : ∀ W : World, (Pts.BoxR W (w.heap.size) (.slice A n cap) ∧ Tup7.Box W (w.heap.size + 1) ax ay rx ry lx ly q ∧ PtsAt W w.heap.size A ps ∧ Below w.heap.size w W) → (W.cell? ⟨w.heap.size, 0, none⟩ = some (.slice A n cap) ∧ W.cell? ⟨w.heap.size + 1, 0, none⟩ = some (.int .i64 ax) ∧ W.cell? ⟨w.heap.size + 1, 1, none⟩ = some (.int .i64 ay) ∧ W.cell? ⟨w.heap.size + 1, 2, none⟩ = some (.int .i64 rx) ∧ W.cell? ⟨w.heap.size + 1, 3, none⟩ = some (.int .i64 ry) ∧ W.cell? ⟨w.heap.size + 1, 4, none⟩ = some (.int .i64 lx) ∧ W.cell? ⟨w.heap.size + 1, 5, none⟩ = some (.int .i64 ly) ∧ W.cell? ⟨w.heap.size + 1, 6, none⟩ = some (.int .i64 q)) := fun W h => ⟨h.1.1, h.2.1.1, h.2.1.2.1, h.2.1.2.2.1, h.2.1.2.2.2.1, h.2.1.2.2.2.2.1, h.2.1.2.2.2.2.2.1, h.2.1.2.2.2.2.2.2⟩
  have SD := HO _ _ S0 (Below.refl w0.heap.size w0).drew
  have HS0_ := HSS _ SD
  clear S0
  refine wp_region_held_drew (S := fun W => (W.cell? ⟨w.heap.size, 0, none⟩ = some (.slice A n cap) ∧ W.cell? ⟨w.heap.size + 1, 0, none⟩ = some (.int .i64 ax) ∧ W.cell? ⟨w.heap.size + 1, 1, none⟩ = some (.int .i64 ay) ∧ W.cell? ⟨w.heap.size + 1, 2, none⟩ = some (.int .i64 rx) ∧ W.cell? ⟨w.heap.size + 1, 3, none⟩ = some (.int .i64 ry) ∧ W.cell? ⟨w.heap.size + 1, 4, none⟩ = some (.int .i64 lx) ∧ W.cell? ⟨w.heap.size + 1, 5, none⟩ = some (.int .i64 ly) ∧ W.cell? ⟨w.heap.size + 1, 6, none⟩ = some (.int .i64 q))) (by kernel_rfl) HS0_ (fun hHeld => ?_)
  clear HS0_
  generalize w0.drew = v0 at *
  have S0 := SD
  clear SD
  refine wpAnyH_take (i := 0) (oi := ⟨some 5, _, _, _, _, _⟩) (v := ?_) rfl (by kernel_rfl) (by kernel_rfl) (by kernel_rfl) (fun _ _ _ h => h) (Or.inl ⟨by rfl, ?_⟩) (by assumption) ?_
  rotate_left 1
  · (intro w hSw; (try dsimp only at hSw); go_simp; try with_reducible rfl)
  try simp only [Act.put, List.setIfInBounds_toArray, List.set_cons_zero, List.set_cons_succ]
  refine wpAnyH_take (i := 2) (oi := ⟨some 7, _, _, _, _, _⟩) (v := ?_) rfl (by kernel_rfl) (by kernel_rfl) (by kernel_rfl) (fun _ _ _ h => h) (Or.inl ⟨by rfl, ?_⟩) (by assumption) ?_
  rotate_left 1
  · (intro w hSw; (try dsimp only at hSw); go_simp; try with_reducible rfl)
  try simp only [Act.put, List.setIfInBounds_toArray, List.set_cons_zero, List.set_cons_succ]
  refine wpAnyH_take (i := 3) (oi := ⟨some 8, _, _, _, _, _⟩) (v := ?_) rfl (by kernel_rfl) (by kernel_rfl) (by kernel_rfl) (fun _ _ _ h => h) (Or.inl ⟨by rfl, ?_⟩) (by assumption) ?_
  rotate_left 1
  · (intro w hSw; (try dsimp only at hSw); go_simp; try with_reducible rfl)
  try simp only [Act.put, List.setIfInBounds_toArray, List.set_cons_zero, List.set_cons_succ]
  refine wpAnyH_ready (rs := [1]) (by kernel_rfl) (by simp) ?_
  refine AllReadyH.cons (o := ⟨some 6, _, _, _, _, _⟩) rfl (fun K hK => ?_) ?_
  rotate_left 1
  · exact AllReadyH.nil
  go_simp
  go_at_call 83
  refine (QL.out _ (S0.2.2.1.wide S0.2.2.2.size)).mono ?_
  rintro e v1 ⟨Al, cl, rfl, HL, hb_⟩
  replace HL := own_base HL (b' := w.heap.size) S0.2.2.2.size
  replace S0 := HO _ _ S0 hb_
  clear hb_
  refine hK.out _ _ (HSS _ S0) (fun hHeld => ?_)
  clear hK K
  try simp only [Act.put, List.setIfInBounds_toArray, List.set_cons_zero, List.set_cons_succ]
  cases hno : (camB ax ay rx ry lx ly q && inB ps ax ay)
  · skip
    have HE : Hid (filtTo (fun _ => false) (floorL ps) m = r) := Lib.hid (by rw [← HR.out, filt_none]; unfold filmL; rw [hno]; rfl)
    refine wpAnyH_ready (rs := [4]) (by kernel_rfl) (by simp) ?_
    refine AllReadyH.cons (o := ⟨some 9, _, _, _, _, _⟩) rfl (fun K hK => ?_) ?_
    rotate_left 1
    · exact AllReadyH.nil
    go_simp
    go_at_call 84
    refine (lensNo A n cap ax ay rx ry lx ly q _ ps hl hn hno (S0.2.2.1.wide S0.2.2.2.size)).mono ?_
    rintro e v4 ⟨rfl, hb_⟩
    replace HL := own_below HL hb_
    replace S0 := HO _ _ S0 hb_
    clear hb_
    refine hK.out _ _ (HSS _ S0) (fun hHeld => ?_)
    clear hK K
    try simp only [Act.put, List.setIfInBounds_toArray, List.set_cons_zero, List.set_cons_succ]
    refine wpAnyH_take (i := 5) (oi := ⟨some 10, _, _, _, _, _⟩) (v := ?_) rfl (by kernel_rfl) (by kernel_rfl) (by kernel_rfl) (fun _ _ _ h => h) (Or.inl ⟨by rfl, ?_⟩) (by assumption) ?_
    rotate_left 1
    · (intro w hSw; (try dsimp only at hSw); go_simp; try with_reducible rfl)
    try simp only [Act.put, List.setIfInBounds_toArray, List.set_cons_zero, List.set_cons_succ]
    refine wpAnyH_ready (rs := [6]) (by kernel_rfl) (by simp) ?_
    refine AllReadyH.cons (o := ⟨some 11, _, _, _, _, _⟩) rfl (fun K hK => ?_) ?_
    rotate_left 1
    · exact AllReadyH.nil
    have QG := FiltImpl.filtered 134 #[] (fun _ => false) Al m cl v4 (floorL ps) hm (by omega) (FiltImpl.pts_own HL) Try.call134 (fun W j hj hb => never _ _ W)
    unfold GivesC at QG
    rw [HE.out] at QG
    go_simp
    go_at_call 82
    refine QG.mono ?_
    rintro e v6 ⟨A4, c4, rfl, H4, hb_⟩
    have hz4 := S0.2.2.2.size
    replace S0 := HO _ _ S0 hb_
    clear hb_
    refine hK.out _ _ (HSS _ S0) (fun hHeld => ?_)
    clear hK K
    try simp only [Act.put, List.setIfInBounds_toArray, List.set_cons_zero, List.set_cons_succ]
    refine wpAnyH_take (i := 7) (oi := ⟨some 4, _, _, _, _, _⟩) (v := ?_) rfl (by kernel_rfl) (by kernel_rfl) (by kernel_rfl) (fun _ _ _ h => h) (Or.inl ⟨by rfl, ?_⟩) (by assumption) ?_
    rotate_left 1
    · (intro w hSw; (try dsimp only at hSw); go_simp; try with_reducible rfl)
    try simp only [Act.put, List.setIfInBounds_toArray, List.set_cons_zero, List.set_cons_succ]
    refine wpAnyH_done (by kernel_rfl) ?_ _
    have H5 := Lib.hid (own_base H4 (b' := w.heap.size) hz4)
    have hb5 := Lib.hid S0.2.2.2
    clear QL HL hl H4 S0
    go_wp2_with fail
    go_ret
    exact ⟨A4, c4, rfl, H5.out, hb5.out⟩
  have hc : camB ax ay rx ry lx ly q = true := by rw [Bool.and_eq_true] at hno; exact hno.1
  have ha : inB ps ax ay = true := by rw [Bool.and_eq_true] at hno; exact hno.2
  have HE : Hid (filtTo (shotB ps ax ay rx ry lx ly q (floorL ps)) (floorL ps) m = r) := Lib.hid (by rw [← HR.out, film_yes hc ha, hm])
  refine wpAnyH_ready (rs := [4]) (by kernel_rfl) (by simp) ?_
  refine AllReadyH.cons (o := ⟨some 9, _, _, _, _, _⟩) rfl (fun K hK => ?_) ?_
  rotate_left 1
  · exact AllReadyH.nil
  go_simp
  go_at_call 84
  refine (lensYes A n cap ax ay rx ry lx ly q _ ps hl hn hc ha (S0.2.2.1.wide S0.2.2.2.size)).mono ?_
  rintro e v4 ⟨C5, C6, C, C1, C2, Ad, cd, rfl, FC, FA, hb_⟩
  replace HL := own_below HL hb_
  replace S0 := HO _ _ S0 hb_
  clear hb_
  refine hK.out _ _ (HSS _ S0) (fun hHeld => ?_)
  clear hK K
  try simp only [Act.put, List.setIfInBounds_toArray, List.set_cons_zero, List.set_cons_succ]
  refine wpAnyH_take (i := 5) (oi := ⟨some 10, _, _, _, _, _⟩) (v := ?_) rfl (by kernel_rfl) (by kernel_rfl) (by kernel_rfl) (fun _ _ _ h => h) (Or.inl ⟨by rfl, ?_⟩) (by assumption) ?_
  rotate_left 1
  · (intro w hSw; (try dsimp only at hSw); go_simp; try with_reducible rfl)
  try simp only [Act.put, List.setIfInBounds_toArray, List.set_cons_zero, List.set_cons_succ]
  refine wpAnyH_ready (rs := [6]) (by kernel_rfl) (by simp) ?_
  refine AllReadyH.cons (o := ⟨some 11, _, _, _, _, _⟩) rfl (fun K hK => ?_) ?_
  rotate_left 1
  · exact AllReadyH.nil
  have QG := FiltImpl.filtered 137 #[.pointer (some ⟨C5, 0, none⟩), .pointer (some ⟨C6, 0, none⟩)] (shotB ps ax ay rx ry lx ly q (floorL ps)) Al m cl v4 (floorL ps) hm (by omega) (FiltImpl.pts_own HL) Try.call137 (fun W j hj hb => both (pt (floorL ps) j).1 (pt (floorL ps) j).2 C5 C6 C C1 C2 Ad n cd ax ay rx ry lx ly q W ps hl hc ha (floorL_in (pt_mem (by omega))) (FC.later hb) (FA.later hb))
  unfold GivesC at QG
  rw [HE.out] at QG
  go_simp
  go_at_call 82
  refine QG.mono ?_
  rintro e v6 ⟨A4, c4, rfl, H4, hb_⟩
  have hz4 := S0.2.2.2.size
  replace S0 := HO _ _ S0 hb_
  clear hb_
  refine hK.out _ _ (HSS _ S0) (fun hHeld => ?_)
  clear hK K
  try simp only [Act.put, List.setIfInBounds_toArray, List.set_cons_zero, List.set_cons_succ]
  refine wpAnyH_take (i := 7) (oi := ⟨some 4, _, _, _, _, _⟩) (v := ?_) rfl (by kernel_rfl) (by kernel_rfl) (by kernel_rfl) (fun _ _ _ h => h) (Or.inl ⟨by rfl, ?_⟩) (by assumption) ?_
  rotate_left 1
  · (intro w hSw; (try dsimp only at hSw); go_simp; try with_reducible rfl)
  try simp only [Act.put, List.setIfInBounds_toArray, List.set_cons_zero, List.set_cons_succ]
  refine wpAnyH_done (by kernel_rfl) ?_ _
  have H5 := Lib.hid (own_base H4 (b' := w.heap.size) hz4)
  have hb5 := Lib.hid S0.2.2.2
  clear QL HL hl H4 S0
  go_wp2_with fail
  go_ret
  exact ⟨A4, c4, rfl, H5.out, hb5.out⟩
end Go.Proofs.Ythokeedmccfalaa.FbyImpl

