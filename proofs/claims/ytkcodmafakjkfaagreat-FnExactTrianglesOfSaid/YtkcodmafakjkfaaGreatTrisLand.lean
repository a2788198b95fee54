/-
  What the landed TrianglesOf does, as a contract: the triangles, in a new slice that is nil if there are none.
-/
import Derived.Test.YtkcodmafakjkfaaGreatEarImpl
import Derived.Test.YtkcodmafakjkfaaGreatTriRow
namespace Go.Proofs.YtkcodmafakjkfaaGreat.TrisLand
open Go.RowKit Own PointMath WallMath RoomMath Pts Blk AreaMath PlaceMath FloorMath LineMath CutsMath SightMath DiagMath TriMath TrisMath Ints Tup3 TriRow TrisImpl
open PointOk (ret_bool ret_i64 below1 below2 below3)

/-- Triangles came back in new memory; none: nil. -/
def GivesT (w : World) (l : List Tu) (en : Ending) (w' : World) : Prop :=
  ∃ A c, en = .returned (.slice A l.length c) ∧ w'.ownsRow w.heap.size 65 3 (.slice A l.length c) l.length (cellsT l) ∧ (l = [] → A = none) ∧ Below w.heap.size w w'

def lenV : Value → Nat
  | .slice _ n _ => n
  | _ => 0

set_option maxRecDepth 100000 in
set_option maxHeartbeats 1600000 in
theorem yes (W : World) (k : Nat) : Calls Tryz.prog 61 (#[.int .i64 (k : Int)] ++ #[]) W fun e w' => e = .returned (.bool true) ∧ Below W.heap.size W w' := by
  show Calls Tryz.prog 61 #[.int .i64 (k : Int)] W _
  go_enter Tryz.func61, Tryz.ntmps61
  go_wp2_with fail
  go_ret
  exact ⟨rfl, Below.refl _ _⟩

set_option maxRecDepth 100000 in
set_option maxHeartbeats 6400000 in
theorem trianglesOf (A : Option Addr) (n cap : Nat) (w : World) (ps : List (Int × Int)) (hl : ps.length = n) (hn : n ≤ 1048576) (hp : PtsAt w w.heap.size A ps) :
    Calls Tryz.prog 18 #[.agg #[.slice A n cap]] w (GivesT w (trisL ps)) := by
  obtain ⟨r, hr⟩ : ∃ r, trisL ps = r := ⟨_, rfl⟩
  have HR := Lib.hid hr
  rw [hr]
  clear hr
  have HE0 : Hid (roomB ps = false → r = []) := Lib.hid (fun h => by rw [← HR.out]; unfold trisL; rw [h]; rfl)
  have HE1 : Hid (roomB ps = true → (trisF ps (List.range n)).getD [] = r) := Lib.hid (fun h => by rw [← HR.out]; unfold trisL; rw [h, hl]; rfl)
  clear HR
  go_enter Tryz.func18, Tryz.ntmps18
  go_wp2_with fail
  have X0 := Pts.boxR w (.slice A n cap) 30 (k := w.heap.size) (by simp)
  have b0 := PointOk.below1 w (Obj.cells #[.slice A n cap] 30)
  have HO : ∀ W W' : World, (Pts.BoxR W (w.heap.size) (.slice A n cap) ∧ PtsAt W w.heap.size A ps ∧ Below w.heap.size w W) → Below W.heap.size W W' → (Pts.BoxR W' (w.heap.size) (.slice A n cap) ∧ PtsAt W' w.heap.size A ps ∧ Below w.heap.size w W') := fun W W' ⟨h0, x0, hb⟩ h => ⟨h0.later h, x0.later (h.mono hb.size), hb.trans (h.mono hb.size)⟩
  have hz0_ : Hid (((w.alloc (Obj.cells #[.slice A n cap] 30))).heap.size = w.heap.size + 1) := Lib.hid (by simp)
  have Y0 : PtsAt ((w.alloc (Obj.cells #[.slice A n cap] 30))) w.heap.size A ps := hp.later b0
  generalize (w.alloc (Obj.cells #[.slice A n cap] 30)) = w0 at X0 Y0 b0 hz0_ ⊢
  have S0 := (⟨X0, Y0, b0⟩ : Pts.BoxR w0 (w.heap.size) (.slice A n cap) ∧ PtsAt w0 w.heap.size A ps ∧ Below w.heap.size w w0)
  clear X0 Y0 b0
  obtain ⟨⟨_, _⟩, _, _⟩ := id S0
  refine (RoomOkImpl.roomOk A n cap _ ps hl hn (S0.2.1.wide S0.2.2.size)).mono ?_
  rintro e w1 ⟨rfl, hb_⟩
  replace S0 := HO _ _ S0 hb_
  clear hb_
  obtain ⟨⟨_, _⟩, _, _⟩ := id S0
  cases hr : roomB ps
  · have E := Lib.hid (HE0.out hr)
    clear HE0 HE1 hl
    go_wp2_with fail
    go_ret
    exact ⟨none, 0, by rw [E.out]; rfl, by rw [E.out]; exact World.ownsRow_nil _ _ _ _, fun _ => rfl, S0.2.2⟩
  have HE := Lib.hid (HE1.out hr)
  have hy := roomB_yes hr
  clear HE0 HE1
  have HO2 : ∀ W W' : World, (Pts.BoxR W (w.heap.size) (.slice A n cap) ∧ PtsAt W w.heap.size A ps ∧ Below w.heap.size w W) → Below (w.heap.size + 1) W W' → (Pts.BoxR W' (w.heap.size) (.slice A n cap) ∧ PtsAt W' w.heap.size A ps ∧ Below w.heap.size w W') := fun W W' ⟨h0, x0, hb⟩ h => ⟨⟨(h.cell (by simp)).trans h0.1, trivial⟩, x0.later (h.mono (by omega)), hb.trans (h.mono (by omega))⟩
  have hz1 : w.heap.size + 1 ≤ w1.heap.size := World.block_lt_of_cell? _ _ S0.1.1
  go_wp2_with fail
  refine (ThatImpl.cornersThat 61 #[] (fun _ => true) A n cap _ hn ?eF (fun W k _ _ => yes W k)).mono ?_
  case eF => (intro args w; first | exact Tryz.call61 args w | rfl)
  rintro e w2 ⟨A1, c1, rfl, hown, hb_⟩
  replace S0 := HO _ _ S0 hb_
  rw [← li_range] at hown
  have hlen0 : (li (List.range n)).length = n := by rw [li_len]; simp
  have hown := own_base hown hz1
  have hz2 : w.heap.size + 1 ≤ w2.heap.size := Nat.le_trans hz1 hb_.size
  clear hb_ hz1
  obtain ⟨⟨_, _⟩, _, _⟩ := id S0
  rw [← li_range, hlen0]
  rw [hlen0] at hown
  go_wp2_with fail
  clear hlen0
  have hn3 := hy.1
  go_loopw [3, 4] (fun v3 v4 wr => ∃ (m q : Nat) (l : List Nat) (o : List Tu) (A3 : Option Addr) (c3 : Nat), v3 = .slice A3 m c3 ∧ wr.ownsRow (w.heap.size + 1) 3 1 (.slice A3 m c3) m (icells (li l)) ∧ wr.ownsRow (w.heap.size + 1) 65 3 v4 q (cellsT o) ∧
      Hid (l.length = m ∧ o.length = q ∧ Asc n l ∧ 3 ≤ m ∧ q + m = n ∧ (trisF ps l).map (o ++ ·) = trisF ps (List.range n)) ∧ w.heap.size + 1 ≤ wr.heap.size ∧ (Pts.BoxR wr (w.heap.size) (.slice A n cap) ∧ PtsAt wr w.heap.size A ps ∧ Below w.heap.size w wr))
    (fun v3 _ _ => lenV v3)
  case atStart => exact ⟨n, 0, List.range n, [], A1, c1, rfl, hown, World.ownsRow_nil _ _ _ _, Lib.hid ⟨by simp, rfl, asc_range n, by omega, by omega, by simp⟩, hz2, S0⟩
  case round =>
    clear S0 hown hz2
    obtain ⟨m, q, l, o, A3, c3, rfl, h3, h4, hi, hz, S0⟩ := hrel
    obtain ⟨⟨_, _⟩, _, _⟩ := id S0
    obtain ⟨hlm, hoq, ha, hm3, hqm, hmap⟩ := hi.out
    clear hi
    have hlm := Lib.hid hlm
    have hoq := Lib.hid hoq
    have ha := Lib.hid ha
    have hmap := Lib.hid hmap
    have h3 := Lib.hid h3
    have h4 := Lib.hid h4
    by_cases hlt : 3 < m
    rotate_left
    · obtain rfl : m = 3 := by omega
      have E : Hid (o ++ [triAt l 1] = r) := Lib.hid (by rw [← HE.out, ← hmap.out, trisF_end (by rw [hlm.out]; omega)]; rfl)
      have g3 : ¬ (3 : Int) < 3 := by omega
      have QT : Hid (∀ W h, _) := Lib.hid fun W h => triangleAt n A3 3 c3 1 W l hlm.out (by omega) (by omega) (by omega) ha.out h
      obtain ⟨z0, z1, z2, hz_⟩ : ∃ z0 z1 z2, triAt l 1 = (z0, z1, z2) := ⟨_, _, _, rfl⟩
      rw [hz_] at QT E
      have hq1 : r.length = q + 1 := by rw [← E.out, List.length_append, hoq.out]; rfl
      clear hmap HE hz_ hl hr hy ha hlm
      go_wp2_with fail
      refine (QT.out _ (ints_own h3.out)).mono ?_
      rintro e w4 ⟨rfl, hb_⟩
      replace S0 := HO _ _ S0 hb_
      replace h4 := Lib.hid (own_below h4.out hb_)
      replace hz := Nat.le_trans hz hb_.size
      clear hb_ QT h3
      obtain ⟨⟨_, _⟩, _, _⟩ := id S0
      go_wp2_with (at_builtin; refine append_tri _ (by rfl) _ _ (by rfl) (w.heap.size + 1) _ q o (by rfl) h4.out z0 z1 z2 (by rfl) (by omega) hz ?_)
      intro v5 w5 h5 hg5
      have hb5 : Below (w.heap.size + 1) w4 w5 := (Below.refl _ _).grown hg5 hz (fun g hg => (h4.out.lt g hg).1)
      replace S0 := HO2 _ _ S0 hb5
      rw [E.out, ← hq1] at h5
      obtain ⟨A5, c5, rfl⟩ := own_shape h5
      have h5 := Lib.hid h5
      clear hb5 hg5 h4
      go_wp2_with fail
      go_ret
      exact ⟨A5, c5, rfl, own_base h5.out (by omega), fun h => by rw [h] at hq1; simp at hq1, S0.2.2⟩
    have g3 : (3 : Int) < (m : Int) := by omega
    have hmb : m ≤ 1048576 := by omega
    have QE : Hid (∀ W h h2, _) := Lib.hid fun W h h2 => EarImpl.earAmong A n cap A3 m c3 W ps hl hn hr h l hlm.out hlt hmb ha.out h2
    go_wp2_with fail
    refine (QE.out _ (S0.2.1.wide S0.2.2.size) (ints_own h3.out)).mono ?_
    rintro e w3 ⟨rfl, hb_⟩
    replace S0 := HO _ _ S0 hb_
    replace h3 := Lib.hid (own_below h3.out hb_)
    replace h4 := Lib.hid (own_below h4.out hb_)
    replace hz := Nat.le_trans hz hb_.size
    clear hb_ QE
    obtain ⟨⟨_, _⟩, _, _⟩ := id S0
    have hlb := earAt_lt ps l
    rw [hlm.out] at hlb
    by_cases he : earAt ps l < 0
    · have E : Hid (r = []) := Lib.hid (by rw [← HE.out, ← hmap.out, trisF_none (by rw [hlm.out]; exact hlt) he]; rfl)
      clear HE hmap hlb hl hr hy ha hlm
      go_wp2_with fail
      go_ret
      exact ⟨none, 0, by rw [E.out]; rfl, by rw [E.out]; exact World.ownsRow_nil _ _ _ _, fun _ => rfl, S0.2.2⟩
    obtain ⟨k, hk⟩ := Int.eq_ofNat_of_zero_le (show 0 ≤ earAt ps l by omega)
    have hkm : k < m := by omega
    have hm2 : Hid ((trisF ps (l.eraseIdx k)).map ((o ++ [triAt l k]) ++ ·) = trisF ps (List.range n)) := Lib.hid (by
      rw [← hmap.out, trisF_step (by rw [hlm.out]; exact hlt) hk, Option.map_map]
      congr 1
      funext x
      simp)
    have ha2 := Lib.hid (ha.out.erase (k := k) (by rw [hlm.out]; exact hkm))
    have hl2 : Hid ((l.eraseIdx k).length = m - 1) := Lib.hid (by rw [erase_len (by rw [hlm.out]; exact hkm), hlm.out])
    have he2 : Hid ((li l).take k ++ (li l).drop (k + 1) = li (l.eraseIdx k)) := Lib.hid (li_erase l k).symm
    have QT : Hid (∀ W h, _) := Lib.hid fun W h => triangleAt n A3 m c3 k W l hlm.out (by omega) hmb hkm ha.out h
    rw [hk] at he ⊢
    obtain ⟨z0, z1, z2, hz_⟩ : ∃ z0 z1 z2, triAt l k = (z0, z1, z2) := ⟨_, _, _, rfl⟩
    rw [hz_] at QT hm2
    have hk0 : ¬ (k : Int) < 0 := by omega
    have u1 : IntKind.i64.wrap ((k : Int) + 1) = (k : Int) + 1 := IntWalk.i64_in _ (by omega)
    clear hmap hlb hk hz_ he
    go_wp2_with fail
    refine (QT.out _ (ints_own h3.out)).mono ?_
    rintro e w4 ⟨rfl, hb_⟩
    replace S0 := HO _ _ S0 hb_
    replace h3 := Lib.hid (own_below h3.out hb_)
    replace h4 := Lib.hid (own_below h4.out hb_)
    replace hz := Nat.le_trans hz hb_.size
    clear hb_ QT
    obtain ⟨⟨_, _⟩, _, _⟩ := id S0
    go_wp2_with (at_builtin; refine append_tri _ (by rfl) _ _ (by rfl) (w.heap.size + 1) _ q o (by rfl) h4.out z0 z1 z2 (by rfl) (by omega) hz ?_)
    intro v5 w5 h5 hg5
    have hb5 : Below (w.heap.size + 1) w4 w5 := (Below.refl _ _).grown hg5 hz (fun g hg => (h4.out.lt g hg).1)
    replace S0 := HO2 _ _ S0 hb5
    replace h3 := Lib.hid (kept_apart h3.out hg5 (rows_ne h3.out h4.out (by decide)))
    have h5 := Lib.hid h5
    replace hz := Nat.le_trans hz hb5.size
    clear hb5 hg5 h4
    obtain ⟨⟨_, _⟩, _, _⟩ := id S0
    go_wp2_with fail
    refine (delete_own h3.out k hkm).mono ?_
    rintro e w6 ⟨rfl, h6, hg6⟩
    have hb6 : Below (w.heap.size + 1) w5 w6 := (Below.refl _ _).grown hg6 hz (fun g hg => (h3.out.lt g hg).1)
    replace S0 := HO2 _ _ S0 hb6
    replace h5 := Lib.hid (kept_apart h5.out hg6 (rows_ne h5.out h3.out (by decide)))
    rw [he2.out] at h6
    have h6 := Lib.hid h6
    replace hz := Nat.le_trans hz hb6.size
    clear hb6 hg6 h3 he2
    obtain ⟨⟨_, _⟩, _, _⟩ := id S0
    have hoq2 : Hid ((o ++ [(z0, z1, z2)]).length = q + 1) := Lib.hid (by rw [List.length_append, hoq.out]; rfl)
    go_wp2_with fail
    first
      | exact ⟨⟨m - 1, q + 1, l.eraseIdx k, o ++ [(z0, z1, z2)], A3, c3, rfl, h6.out, h5.out, Lib.hid ⟨hl2.out, hoq2.out, ha2.out, by omega, by omega, hm2.out⟩, hz, S0⟩, by simp [lenV]; omega⟩
      | (go_roundw <;> first | exact ⟨m - 1, q + 1, l.eraseIdx k, o ++ [(z0, z1, z2)], A3, c3, rfl, h6.out, h5.out, Lib.hid ⟨hl2.out, hoq2.out, ha2.out, by omega, by omega, hm2.out⟩, hz, S0⟩ | (simp [lenV]; omega))

theorem trianglesOfC (A : Option Addr) (n cap : Nat) (w : World) (ps : List (Int × Int)) (hl : ps.length = n) (hn : n ≤ 1048576) (hp : PtsAt w w.heap.size A ps) :
    Calls Tryz.prog 18 #[.agg #[.slice A n cap]] w (GivesC 65 3 w (trisL ps).length (cellsT (trisL ps))) := by
  refine (trianglesOf A n cap w ps hl hn hp).mono ?_
  rintro e w' ⟨A1, c1, rfl, h, _, hb⟩
  exact ⟨A1, c1, rfl, h, hb⟩
theorem trisL_le (ps : List (Int × Int)) : (trisL ps).length ≤ 11 := by
  have h := trisL_len ps
  by_cases hr : roomB ps = true
  · have := (roomB_yes hr).1; omega
  · unfold trisL; rw [if_neg hr]; simp
end Go.Proofs.YtkcodmafakjkfaaGreat.TrisLand

