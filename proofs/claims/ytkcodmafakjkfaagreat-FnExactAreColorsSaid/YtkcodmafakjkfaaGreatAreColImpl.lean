/-
  What the landed AreColors does, as a contract: its answer; new memory alone is written.
-/
import Derived.Test.YtkcodmafakjkfaaGreatTreeLand
import Derived.Test.YtkcodmafakjkfaaGreatInTriImpl
import Derived.Test.YtkcodmafakjkfaaGreatInNumImpl
import Derived.Test.YtkcodmafakjkfaaGreatAreColMath
import Derived.Laws.Cover3
namespace Go.Proofs.YtkcodmafakjkfaaGreat.AreColImpl
open Go.RowKit Own PointMath WallMath RoomMath Pts Blk AreaMath PlaceMath FloorMath LineMath CutsMath SightMath DiagMath TriMath TrisMath TreeMath Ints Tup3 TriRow TrisLand AreColMath
open PointOk (ret_bool ret_i64 below1 below2 below3)

set_option maxRecDepth 100000 in
theorem wrong (z : Int) (w : World) : Calls Tryz.prog 109 (#[.int .i64 z] ++ #[]) w fun e w' => e = .returned (.bool (wrongC z)) ∧ Below w.heap.size w w' := by
  show Calls Tryz.prog 109 #[.int .i64 z] w _
  unfold wrongC
  by_cases h1 : z < 0
  · rw [decide_eq_true h1]
    go_enter Tryz.func109, Tryz.ntmps109
    go_wp2_with fail
    go_ret
    exact ⟨rfl, Below.refl _ _⟩
  · by_cases h2 : 3 ≤ z
    · rw [decide_eq_false h1, decide_eq_true h2]
      go_enter Tryz.func109, Tryz.ntmps109
      go_wp2_with fail
      go_ret
      exact ⟨rfl, Below.refl _ _⟩
    · rw [decide_eq_false h1, decide_eq_false h2]
      go_enter Tryz.func109, Tryz.ntmps109
      go_wp2_with fail
      go_ret
      exact ⟨rfl, Below.refl _ _⟩
set_option maxRecDepth 100000 in
theorem areColors (B : Option Addr) (m cb : Nat) (w : World) (qs : List Int) (hl : qs.length = m) (hm : m ≤ 1048576) (hq : IntsAt w w.heap.size B qs) :
    Calls Tryz.prog 77 #[.slice B m cb] w fun e w' => e = .returned (.bool (okC qs)) ∧ Below w.heap.size w w' := by
  have QC := Lib.hid fun eF Q => InNumImpl.containsFunc 109 #[] (fun k => wrongC (qs.getD k 0)) B m cb w qs hl hm hq eF Q
  have HE : Hid (okC qs = !(List.range m).any fun k => wrongC (qs.getD k 0)) := Lib.hid (by unfold okC; rw [hl])
  rw [HE.out]
  generalize (List.range m).any (fun k => wrongC (qs.getD k 0)) = v at *
  clear HE
  go_enter Tryz.func77, Tryz.ntmps77
  go_wp2_with fail
  refine (QC.out ?eF ?qq).mono ?_
  case eF => (intro args w; first | exact Tryz.call109 args w | rfl)
  case qq => exact fun W k _ _ => wrong _ W
  rintro e w3 ⟨rfl, hb_⟩
  clear QC
  go_wp2_with fail
  go_ret
  exact ⟨rfl, hb_⟩

set_option maxRecDepth 100000 in
set_option maxHeartbeats 3200000 in
theorem bad (B : Option Addr) (m cb C : Nat) (x y z : Nat) (w : World) (qs : List Int) (hl : qs.length = m) (hx : x < m) (hy : y < m) (hz : z < m) (h1 : w.cell? ⟨C, 0, none⟩ = some (.slice B m cb)) (hq : IntsAt w w.heap.size B qs) :
    Calls Tryz.prog 79 (#[.agg #[.int .i64 (x : Int), .int .i64 (y : Int), .int .i64 (z : Int)]] ++ #[.pointer (some ⟨C, 0, none⟩)]) w fun e w' => e = .returned (.bool (badT qs x y z)) ∧ Below w.heap.size w w' := by
  show Calls Tryz.prog 79 #[.agg #[.int .i64 (x : Int), .int .i64 (y : Int), .int .i64 (z : Int)], .pointer (some ⟨C, 0, none⟩)] w _
  obtain ⟨r, hr⟩ : ∃ r, badT qs x y z = r := ⟨_, rfl⟩
  have HR := Lib.hid hr
  rw [hr]
  clear hr
  have p0 := JoinMath.at_d (zs := qs) (k := x) (by omega)
  have p1 := JoinMath.at_d (zs := qs) (k := y) (by omega)
  have p2 := JoinMath.at_d (zs := qs) (k := z) (by omega)
  have HE : Hid (r = (decide (qs.getD x 0 = qs.getD y 0) || decide (qs.getD y 0 = qs.getD z 0) || decide (qs.getD z 0 = qs.getD x 0))) := Lib.hid (by
    rw [← HR.out]; unfold badT; rw [Int.toNat_natCast, Int.toNat_natCast, Int.toNat_natCast, show decide (qs.getD z 0 = qs.getD x 0) = decide (qs.getD x 0 = qs.getD z 0) from by rw [decide_eq_decide]; exact eq_comm])
  generalize qs.getD x 0 = a at *
  generalize qs.getD y 0 = b at *
  generalize qs.getD z 0 = c at *
  obtain ⟨ad, eA, bA, pA⟩ := hq.get p0
  obtain ⟨ad2, eA2, _, pB⟩ := hq.get p1
  rw [eA] at eA2
  injection eA2 with eA2
  subst eA2
  obtain ⟨ad2, eA2, _, pC⟩ := hq.get p2
  rw [eA] at eA2
  injection eA2 with eA2
  subst eA2
  subst eA
  have x0 : (0 : Int) ≤ (x : Int) := by omega
  have x1 : (x : Int) < (m : Int) := by omega
  have y0 : (0 : Int) ≤ (y : Int) := by omega
  have y1 : (y : Int) < (m : Int) := by omega
  have z0 : (0 : Int) ≤ (z : Int) := by omega
  have z1 : (z : Int) < (m : Int) := by omega
  have l1 := World.block_lt_of_cell? _ _ h1
  clear p0 p1 p2 HR hl hq
  go_enter Tryz.func79, Tryz.ntmps79
  go_wp2_with fail
  have X0 := Box3.box1 w (x:Int) (y:Int) (z:Int) 65 (k := w.heap.size) (by simp)
  have b0 := PointOk.below1 w (Obj.cells #[.int .i64 (x:Int), .int .i64 (y:Int), .int .i64 (z:Int)] 65)
  have HO : ∀ W W' : World, (Box3.Box W (w.heap.size) (x:Int) (y:Int) (z:Int) ∧ W.cell? ⟨C, 0, none⟩ = some (.slice (some ad) m cb) ∧ IntAt W ad x a ∧ IntAt W ad y b ∧ IntAt W ad z c ∧ Below w.heap.size w W) → Below W.heap.size W W' → (Box3.Box W' (w.heap.size) (x:Int) (y:Int) (z:Int) ∧ W'.cell? ⟨C, 0, none⟩ = some (.slice (some ad) m cb) ∧ IntAt W' ad x a ∧ IntAt W' ad y b ∧ IntAt W' ad z c ∧ Below w.heap.size w W') := fun W W' ⟨h0, x0, x1, x2, x3, hb⟩ h => ⟨h0.later h, cell_later h x0, x1.later bA (h.mono hb.size), x2.later bA (h.mono hb.size), x3.later bA (h.mono hb.size), hb.trans (h.mono hb.size)⟩
  have hz0_ : Hid (((w.alloc (Obj.cells #[.int .i64 (x:Int), .int .i64 (y:Int), .int .i64 (z:Int)] 65))).heap.size = w.heap.size + 1) := Lib.hid (by simp)
  have Y0 : ((w.alloc (Obj.cells #[.int .i64 (x:Int), .int .i64 (y:Int), .int .i64 (z:Int)] 65))).cell? ⟨C, 0, none⟩ = some (.slice (some ad) m cb) := cell_later (below1 _ _) h1
  have Y1 : IntAt ((w.alloc (Obj.cells #[.int .i64 (x:Int), .int .i64 (y:Int), .int .i64 (z:Int)] 65))) ad x a := pA.later bA b0
  have Y2 : IntAt ((w.alloc (Obj.cells #[.int .i64 (x:Int), .int .i64 (y:Int), .int .i64 (z:Int)] 65))) ad y b := pB.later bA b0
  have Y3 : IntAt ((w.alloc (Obj.cells #[.int .i64 (x:Int), .int .i64 (y:Int), .int .i64 (z:Int)] 65))) ad z c := pC.later bA b0
  generalize (w.alloc (Obj.cells #[.int .i64 (x:Int), .int .i64 (y:Int), .int .i64 (z:Int)] 65)) = w0 at X0 Y0 Y1 Y2 Y3 b0 hz0_ ⊢
  have S0 := (⟨X0, Y0, Y1, Y2, Y3, b0⟩ : Box3.Box w0 (w.heap.size) (x:Int) (y:Int) (z:Int) ∧ w0.cell? ⟨C, 0, none⟩ = some (.slice (some ad) m cb) ∧ IntAt w0 ad x a ∧ IntAt w0 ad y b ∧ IntAt w0 ad z c ∧ Below w.heap.size w w0)
  clear X0 Y0 Y1 Y2 Y3 b0
  obtain ⟨⟨_, _, _⟩, _, ⟨_, _⟩, ⟨_, _⟩, ⟨_, _⟩, _⟩ := id S0
  refine Settle.region (fun W => Box3.Box W (w.heap.size) (x:Int) (y:Int) (z:Int) ∧ W.cell? ⟨C, 0, none⟩ = some (.slice (some ad) m cb) ∧ IntAt W ad x a ∧ IntAt W ad y b ∧ IntAt W ad z c ∧ Below w.heap.size w W) (by kernel_rfl) (by kernel_rfl) (by kernel_rfl) (by kernel_rfl) (HO _ _ S0 ((Below.refl _ _).drew)) ?_
  clear S0
  repeat (first
    | (refine Settle.Settles.off (by rfl) ?_; simp only [Act.put, List.setIfInBounds_toArray, List.set_cons_zero, List.set_cons_succ])
    | (refine Settle.Settles.quiet (v := ?_) (by rfl) ?_ ?_
       rotate_left
       · (intro W hS; obtain ⟨⟨_, _, _⟩, _, ⟨_, _⟩, ⟨_, _⟩, ⟨_, _⟩, _⟩ := hS; go_simp; with_reducible rfl)
       simp only [Act.put, List.setIfInBounds_toArray, List.set_cons_zero, List.set_cons_succ])
    | (refine Settle.Settles.call (v := ?_) (f := ?_) (args := ?_) (by rfl) ?_ ?_ ?_
       rotate_left 3
       · (intro W; go_simp; refine ⟨?_, ?_⟩ <;> with_reducible rfl)
       · (intro W hS; fail)
       simp only [Act.put, List.setIfInBounds_toArray, List.set_cons_zero, List.set_cons_succ]))
  refine Settle.Settles.nil ?_
  intro wr S0
  obtain ⟨⟨_, _, _⟩, _, ⟨_, _⟩, ⟨_, _⟩, ⟨_, _⟩, _⟩ := id S0
  clear h1 pA pB pC
  by_cases e1 : a = b
  · have g1 : (a == b) = true := by simpa using e1
    have E : Hid (r = true) := Lib.hid (by rw [HE.out, decide_eq_true e1]; rfl)
    clear HE e1
    go_wp2_with fail
    go_ret
    exact ⟨ret_bool E.out.symm, S0.2.2.2.2.2⟩
  have g1 : (a == b) = false := by simpa using e1
  by_cases e2 : b = c
  · have g2 : (b == c) = true := by simpa using e2
    have E : Hid (r = true) := Lib.hid (by rw [HE.out, decide_eq_true e2]; simp)
    clear HE e1 e2
    go_wp2_with fail
    go_ret
    exact ⟨ret_bool E.out.symm, S0.2.2.2.2.2⟩
  have g2 : (b == c) = false := by simpa using e2
  by_cases e3 : c = a
  · have g3 : (c == a) = true := by simpa using e3
    have E : Hid (r = true) := Lib.hid (by rw [HE.out, decide_eq_true e3]; simp)
    clear HE e1 e2 e3
    go_wp2_with fail
    go_ret
    exact ⟨ret_bool E.out.symm, S0.2.2.2.2.2⟩
  have g3 : (c == a) = false := by simpa using e3
  have E : Hid (r = false) := Lib.hid (by rw [HE.out, decide_eq_false e1, decide_eq_false e2, decide_eq_false e3]; rfl)
  clear HE e1 e2 e3
  go_wp2_with fail
  go_ret
  exact ⟨ret_bool E.out.symm, S0.2.2.2.2.2⟩

set_option maxRecDepth 100000 in
set_option maxHeartbeats 3200000 in
theorem areCol (A : Option Addr) (n cap : Nat) (B : Option Addr) (m cb : Nat) (w : World) (ps : List (Int × Int)) (hl : ps.length = n) (hn : n ≤ 1048576) (hp : PtsAt w w.heap.size A ps) (qs : List Int) (hlq : qs.length = m) (hm : m ≤ 1048576) (hq : IntsAt w w.heap.size B qs) :
    Calls Tryz.prog 38 #[.agg #[.slice A n cap], .slice B m cb] w fun e w' => e = .returned (.bool (areColB ps qs)) ∧ Below w.heap.size w w' := by
  obtain ⟨r, hr⟩ : ∃ r, areColB ps qs = r := ⟨_, rfl⟩
  have HR := Lib.hid hr
  rw [hr]
  clear hr
  have hn0 : ∀ (l c : Nat) (w : World), (binOp .eql 26 (.slice none l c) (.slice none 0 0)).run Tryz.prog w = .ok (.bool true) w := fun _ _ _ => by kernel_rfl
  have hn1 : ∀ (a : Addr) (l c : Nat) (w : World), (binOp .eql 26 (.slice (some a) l c) (.slice none 0 0)).run Tryz.prog w = .ok (.bool false) w := fun _ _ _ _ => by kernel_rfl
  have HE : Hid (r = (!decide ((trisL ps).length = 0) && decide (m = n) && okC qs && !(List.range (trisL ps).length).any (badF ps qs))) := Lib.hid (by rw [← HR.out, ← hl, ← hlq]; rfl)
  have HI : Hid (∀ k, k < (trisL ps).length → ∃ x y z : Nat, tt (trisL ps) k = ((x : Int), (y : Int), (z : Int)) ∧ x < y ∧ y < z ∧ z < n) := Lib.hid (fun k hk => by rw [← hl]; exact tris_in hk)
  have HB : Hid (∀ k, badF ps qs k = badT qs (tt (trisL ps) k).1 (tt (trisL ps) k).2.1 (tt (trisL ps) k).2.2) := Lib.hid (fun _ => rfl)
  have QT : Hid (∀ W h, _) := Lib.hid fun W h => trianglesOf A n cap W ps hl hn h
  have hle := trisL_le ps
  unfold GivesT at QT
  generalize badF ps qs = f at *
  generalize trisL ps = L at *
  obtain ⟨q, hLq⟩ : ∃ q, L.length = q := ⟨_, rfl⟩
  rw [hLq] at QT HE HI hle
  have QO : Hid (∀ W h, _) := Lib.hid fun W h => areColors B m cb W qs hlq hm h
  generalize okC qs = oc at *
  clear HR
  go_enter Tryz.func38, Tryz.ntmps38
  go_wp2_with fail
  have X0 := (Pts.boxR w (.slice A n cap) 30 (k := w.heap.size) (by simp)).alloc (Obj.cells #[.slice B m cb] 43)
  have X1 := Blk.Holds.box (w.alloc (Obj.cells #[.slice A n cap] 30)) #[.slice B m cb] 43 (k := w.heap.size + 1) (by simp)
  have b0 := PointOk.below2 w (Obj.cells #[.slice A n cap] 30) (Obj.cells #[.slice B m cb] 43)
  have HO : ∀ W W' : World, (Pts.BoxR W (w.heap.size) (.slice A n cap) ∧ Blk.Holds W (w.heap.size + 1) #[.slice B m cb] 43 ∧ PtsAt W w.heap.size A ps ∧ IntsAt W w.heap.size B qs ∧ Below w.heap.size w W) → Below W.heap.size W W' → (Pts.BoxR W' (w.heap.size) (.slice A n cap) ∧ Blk.Holds W' (w.heap.size + 1) #[.slice B m cb] 43 ∧ PtsAt W' w.heap.size A ps ∧ IntsAt W' w.heap.size B qs ∧ Below w.heap.size w W') := fun W W' ⟨h0, h1, x0, x1, hb⟩ h => ⟨h0.later h, h1.later h, x0.later (h.mono hb.size), x1.later (h.mono hb.size), hb.trans (h.mono hb.size)⟩
  have hz0_ : Hid ((((w.alloc (Obj.cells #[.slice A n cap] 30)).alloc (Obj.cells #[.slice B m cb] 43))).heap.size = w.heap.size + 1 + 1) := Lib.hid (by simp)
  have Y0 : PtsAt (((w.alloc (Obj.cells #[.slice A n cap] 30)).alloc (Obj.cells #[.slice B m cb] 43))) w.heap.size A ps := hp.later b0
  have Y1 : IntsAt (((w.alloc (Obj.cells #[.slice A n cap] 30)).alloc (Obj.cells #[.slice B m cb] 43))) w.heap.size B qs := hq.later b0
  generalize ((w.alloc (Obj.cells #[.slice A n cap] 30)).alloc (Obj.cells #[.slice B m cb] 43)) = w0 at X0 X1 Y0 Y1 b0 hz0_ ⊢
  have S0 := (⟨X0, X1, Y0, Y1, b0⟩ : Pts.BoxR w0 (w.heap.size) (.slice A n cap) ∧ Blk.Holds w0 (w.heap.size + 1) #[.slice B m cb] 43 ∧ PtsAt w0 w.heap.size A ps ∧ IntsAt w0 w.heap.size B qs ∧ Below w.heap.size w w0)
  clear X0 X1 Y0 Y1 b0
  obtain ⟨⟨_, _⟩, _, _, _, _⟩ := id S0
  refine (QT.out _ (S0.2.2.1.wide S0.2.2.2.2.size)).mono ?_
  rintro e w2 ⟨A2, c2, rfl, h4, hnil, hb_⟩
  replace S0 := HO _ _ S0 hb_
  have T2 := TreeLand.ts_own h4
  clear hb_ QT
  obtain ⟨⟨_, _⟩, _, _, _, _⟩ := id S0
  obtain ⟨_, _⟩ := Holds.one S0.2.1
  by_cases c0 : q = 0
  · subst c0
    obtain rfl : A2 = none := hnil (List.length_eq_zero_iff.1 hLq)
    have E : Hid (r = false) := Lib.hid (by rw [HE.out]; rfl)
    clear HE HI HB QO hl hlq hLq T2 h4 hnil
    go_wp2_with fail
    go_ret
    exact ⟨ret_bool E.out.symm, S0.2.2.2.2⟩
  obtain ⟨g2, rfl⟩ : ∃ g2, A2 = some ⟨g2, 0, none⟩ := by
    obtain ⟨g3, cc3, e3, _, _⟩ := h4.form (by omega)
    injection e3 with x1 _ x3
    exact ⟨g3, x1⟩
  by_cases c1 : m = n
  rotate_left
  · have E : Hid (r = false) := Lib.hid (by rw [HE.out, decide_eq_false c1]; simp)
    have g1 : ((m : Int) != (n : Int)) = true := by rw [bne_iff_ne]; omega
    have g1n : (m != n) = true := by rw [bne_iff_ne]; exact c1
    clear HE HI HB QO hl hlq hLq T2 h4 hnil
    go_wp2_with fail
    go_ret
    exact ⟨ret_bool E.out.symm, S0.2.2.2.2⟩
  subst c1
  go_wp2_with fail
  refine (QO.out _ (S0.2.2.2.1.wide S0.2.2.2.2.size)).mono ?_
  rintro e w3 ⟨rfl, hb_⟩
  replace S0 := HO _ _ S0 hb_
  replace T2 := (T2.later hb_).wide hb_.size
  clear hb_ QO h4 hnil
  obtain ⟨⟨_, _⟩, _, _, _, _⟩ := id S0
  obtain ⟨_, _⟩ := Holds.one S0.2.1
  cases oc
  · have E : Hid (r = false) := Lib.hid (by rw [HE.out, Bool.and_false]; rfl)
    clear HE HI HB hl hlq hLq T2
    go_wp2_with fail
    go_ret
    exact ⟨ret_bool E.out.symm, S0.2.2.2.2⟩
  have E : Hid ((!(List.range q).any f) = r) := Lib.hid (by rw [HE.out, decide_eq_false c0]; simp)
  have QF := Lib.hid fun eF Q => InTriImpl.containsFunc 79 #[.pointer (some ⟨w.heap.size + 1, 0, none⟩)] f (some ⟨g2, 0, none⟩) q c2 w3 L hLq (by omega) T2 eF Q
  generalize (List.range q).any f = v at *
  clear HE
  go_wp2_with fail
  refine (QF.out ?eF ?qq).mono ?_
  case eF => (intro args w; first | exact Tryz.call79 args w | rfl)
  case qq =>
    intro W k hk hb
    have hS := HO _ _ S0 hb
    obtain ⟨x, y, z, ez, h1, h2, h3⟩ := HI.out k hk
    have hbk := HB.out k
    rw [ez] at hbk ⊢
    rw [hbk]
    exact bad B m cb (w.heap.size + 1) x y z W qs hlq (by omega) (by omega) h3 (Holds.one hS.2.1).1 (hS.2.2.2.1.wide hS.2.2.2.2.size)
  rintro e w4 ⟨rfl, hb_⟩
  replace S0 := HO _ _ S0 hb_
  clear hb_ QF HI HB T2 hl hlq hLq
  go_wp2_with fail
  go_ret
  exact ⟨ret_bool (by rw [← E.out]), S0.2.2.2.2⟩
end Go.Proofs.YtkcodmafakjkfaaGreat.AreColImpl

