/-
  How the landed code divides a room into triangles, as contracts: what each function answers; no old cell is written.
-/
import Derived.Test.YtkcodmafakjkfaaGreatSortI
import Derived.Test.YtkcodmafakjkfaaGreatTrisPlain
import Derived.Test.YtkcodmafakjkfaaGreatGround
import Derived.Test.YtkcodmafakjkfaaGreatTup3
import Derived.OwnWalk
import Derived.Deep.RegionHeld3
import Derived.Deep.AppendLies
import Derived.Sort.OwnSortedInts
import Derived.Lib.OwnBridge
import Derived.Test.YtkcodmafakjkfaaGreatDiagImpl
import Derived.Test.YtkcodmafakjkfaaGreatTriImpl

/-
  Rows of triangles and of numbers of the call's own: a triangle is appended; a number is taken out (slices.Delete); rows of two types lie apart.
-/
namespace Go.Proofs.YtkcodmafakjkfaaGreat.TriRow
open Go.RowKit Own PointOk Ints Tup3 TrisMath Go.Sort

theorem infoT : (Tryz.prog.info? 65).map (fun i => (i.zero, i.size, i.bytes)) = some (some (.agg #[.int .i64 0, .int .i64 0, .int .i64 0]), 3, 24) := by kernel_rfl
theorem ints_own {W : World} {b e n cap : Nat} {A : Option Addr} {l : List Int} (h : W.ownsRow b e 1 (.slice A n cap) n (icells l)) : IntsAt W W.heap.size A l := by
  intro j hj
  have hn : l.length = n := by have := h.1; simpa [icells] using this
  obtain ⟨g, hA, _, hg, h1, _⟩ := own_cell h (by omega) (icells_at hj)
  refine ⟨_, hA, hg, ?_⟩
  by_cases hj0 : j = 0
  · subst hj0; exact h1
  · simpa [Addr.add, hj0] using h1
theorem row_cell {W : World} {b e g n c j : Nat} {L : List Int} {x : Int} (h : W.ownsRow b e 1 (.slice (some ⟨g, 0, none⟩) n c) n (icells L)) (hj : j < n) (hx : L[j]? = some x) :
    W.cell? ⟨g, j, none⟩ = some (.int .i64 x) ∧ W.frozen? ⟨g, j, none⟩ = false := by
  obtain ⟨g', hA, _, _, h1, h2⟩ := own_cell h hj (x := .int .i64 x) (by unfold icells; rw [List.getElem?_map, hx]; rfl)
  injection hA with hA
  injection hA with hA
  subst hA
  exact ⟨h1, h2⟩
theorem row_at {W : World} {b e n c j : Nat} {ad : Addr} {L : List Int} {x : Int} (h : W.ownsRow b e 1 (.slice (some ad) n c) n (icells L)) (hx : L[j]? = some x) : IntAt W ad j x := by
  obtain ⟨ad, e1, _, p⟩ := (ints_own h).get hx
  injection e1 with e1
  subst e1
  exact p
theorem rows_ne {W : World} {b1 e1 s1 n1 b2 e2 s2 n2 : Nat} {v1 v2 : Value} {xs ys : List Value} (h1 : W.ownsRow b1 e1 s1 v1 n1 xs) (h2 : W.ownsRow b2 e2 s2 v2 n2 ys) (hT : e1 ≠ e2) : ∀ k j, v1.ownBlock = some k → v2.ownBlock = some j → k ≠ j := by
  intro k j hk hj e
  subst e
  rcases h1.2 with ⟨rfl, _⟩ | ⟨g, cap, cur, rfl, _, hb, _⟩
  · cases hk
  · rcases h2.2 with ⟨rfl, _⟩ | ⟨g2, cap2, cur2, rfl, _, hb2, _⟩
    · cases hj
    · have x1 : g = k := Option.some.inj hk
      have x2 : g2 = k := Option.some.inj hj
      subst x1
      subst x2
      have h3 := hb.symm.trans hb2
      injection h3 with h3
      injection h3 with _ h4
      exact hT h4

set_option maxHeartbeats 1600000 in
theorem append_tri (w : World) {ops : Array Oper} {rest : List Oper} {o : Oper} {a : Act} {Q : Exit → Act → World → Prop} (hgd : o.guard = none) (s x : Operand)
    (ho : o.op = .call { callee := .builtin .append, args := #[s, x], argTypes := #[26, 26] })
    (B : Nat) (v : Value) (n : Nat) (L : List Tu) (hs : a.eval s = v) (hown : w.ownsRow B 65 3 v n (cellsT L))
    (z0 z1 z2 : Int) (hx : a.eval x = .slice (some ⟨w.heap.size, 0, none⟩) 1 1) (hN : n ≤ 1048575) (hB : B ≤ w.heap.size)
    (h : ∀ v' w', w'.ownsRow B 65 3 v' (n + 1) (cellsT (L ++ [(z0, z1, z2)])) → w.grownBy w' v.ownBlock → wpList Tryz.prog ops Q rest (a.put o.dst v') w') :
    wpList Tryz.prog ops Q (o :: rest) a (w.alloc (Obj.cells #[.int .i64 z0, .int .i64 z1, .int .i64 z2] 65)) := by
  obtain ⟨i0, hi, hz0, hz1, hz2⟩ := info_parts infoT
  refine wpList_append_own _ hgd s x 26 ho B 65 i0 (.agg #[.int .i64 0, .int .i64 0, .int .i64 0]) 3 24 Tryz.underlying26 hi hz0 hz1 hz2 rfl (by decide) v n (cellsT L) hs (hown.alloc _) ⟨w.heap.size, 0, none⟩ 1 1 [.int .i64 z0, .int .i64 z1, .int .i64 z2] hx rfl ?c1 ?c2 ?c3 ?c4 ?c5 ?_
  case c1 => (intro a u ha; match a, ha with | 0, ha => (simp at ha; subst ha; simp [Addr.add]) | 1, ha => (simp at ha; subst ha; simp [Addr.add]) | 2, ha => (simp at ha; subst ha; simp [Addr.add]))
  case c2 => (intro u hu; simp at hu; rcases hu with rfl | rfl | rfl <;> rfl)
  case c3 => (unfold maxLen; omega)
  case c4 => omega
  case c5 => (simp; omega)
  intro v1 wa ho1 hg1 _
  refine h v1 wa ?_ (grown_trans (grown_of_below (below1 w _) _) hg1)
  rw [cellsT_app]
  exact ho1

set_option maxHeartbeats 1600000 in
/-- The same at a step of a region that draws its order. -/
theorem step_append_tri (w : World) {ops : Array Oper} {o : Oper} {a : Act} {K : Act → World → Prop} {Q : Exit → Act → World → Prop} {E : Prop} (hgd : o.guard = none) (s x : Operand)
    (ho : o.op = .call { callee := .builtin .append, args := #[s, x], argTypes := #[26, 26] })
    (B : Nat) (v : Value) (n : Nat) (L : List Tu) (hs : a.eval s = v) (hown : w.ownsRow B 65 3 v n (cellsT L))
    (z0 z1 z2 : Int) (hx : a.eval x = .slice (some ⟨w.heap.size, 0, none⟩) 1 1) (hN : n ≤ 1048575) (hB : B ≤ w.heap.size)
    (h : ∀ v' w', w'.ownsRow B 65 3 v' (n + 1) (cellsT (L ++ [(z0, z1, z2)])) → w.grownBy w' v.ownBlock → K (a.put o.dst v') w') :
    if Region.wanted o (yielded ops a.tmps) = true then Oper.wp Tryz.prog o a (w.alloc (Obj.cells #[.int .i64 z0, .int .i64 z1, .int .i64 z2] 65)) K Q else E := by
  have hw : Region.wanted o (yielded ops a.tmps) = true := by simp [Region.wanted, hgd]
  rw [if_pos hw]
  obtain ⟨i0, hi, hz0, hz1, hz2⟩ := info_parts infoT
  refine wp_append_lies (w.alloc (Obj.cells #[.int .i64 z0, .int .i64 z1, .int .i64 z2] 65)) s x _ ho B 65 i0 _ 3 24 Tryz.underlying26 hi hz0 hz1 hz2 rfl (by decide) v n (cellsT L) hs (hown.alloc _) ⟨w.heap.size, 0, none⟩ 1 1 [.int .i64 z0, .int .i64 z1, .int .i64 z2] hx rfl ?c1 ?c2 (by omega) (by unfold maxLen; omega) (by omega) (by simp; omega) _ rfl ?_
  case c1 => (intro a u ha; match a, ha with | 0, ha => (simp at ha; subst ha; simp [Addr.add]) | 1, ha => (simp at ha; subst ha; simp [Addr.add]) | 2, ha => (simp at ha; subst ha; simp [Addr.add]))
  case c2 => (intro u hu; simp at hu; rcases hu with rfl | rfl | rfl <;> rfl)
  intro g cap w' ho' hg _ _
  refine h _ _ ?_ (grown_trans (grown_of_below (below1 w _) _) hg)
  rw [cellsT_app]
  exact ho'

theorem delete_own {w : World} {b n cap : Nat} {A : Option Addr} {l : List Int} (h : w.ownsRow b 3 1 (.slice A n cap) n (icells l)) (k : Nat) (hk : k < n) :
    Calls Tryz.prog 64 #[.slice A n cap, .int .i64 (k : Int), .int .i64 ((k : Int) + 1)] w fun e w' => e = .returned (.slice A (n - 1) cap) ∧ w'.ownsRow b 3 1 (.slice A (n - 1) cap) (n - 1) (icells (l.take k ++ l.drop (k + 1))) ∧ w.grownBy w' (Value.slice A n cap).ownBlock := by
  have hlen : l.length = n := by have := h.1; simpa [icells] using this
  have hv : Value.slice A n cap ≠ .slice none 0 0 := fun e => by injection e with _ e2 _; omega
  obtain ⟨g, c, e1, hb, hg, hnc, hcm, _, hH⟩ := Lib.holds_of_ownsRow (enc := Value.int .i64) (zs := l) h hv
  injection e1 with e1 _ e3
  subst e1 e3
  unfold maxLen at hcm
  have hs := Tryz.slices_Delete_int g 0 cap k (k + 1) l w hH (by omega) (by omega) (by omega) (by omega)
  rw [hlen, show k + 1 - k = 1 by omega, show ((k + 1 : Nat) : Int) = (k : Int) + 1 by omega] at hs
  have hl2 : (l.take k ++ l.drop (k + 1)).length = n - 1 := by rw [List.length_append, List.length_take, List.length_drop]; omega
  refine hs.mono ?_
  rintro e w' ⟨rfl, q, rfl⟩
  have hr := Lib.ownsRow_putRow (enc := Value.int .i64) (q := q) (k := n - 1) (ys := l.take k ++ l.drop (k + 1) ++ List.replicate 1 0) h (by rw [List.length_append, hl2]; simp; omega) (by omega)
  rw [← hl2, List.take_left, hl2] at hr
  refine ⟨rfl, hr, ?_⟩
  have hg2 := grownBy_sortedI (w := w) (g := g) (n := q) (os := #[]) (l.take k ++ l.drop (k + 1) ++ List.replicate 1 0).toArray
  rw [grow_empty] at hg2
  exact hg2
end Go.Proofs.YtkcodmafakjkfaaGreat.TriRow

/-
  How the landed code finds the next ear of a room and sorts its corners, as contracts: what each answers; no old cell is written.
-/
namespace Go.Proofs.YtkcodmafakjkfaaGreat.TrisImpl
open Go.RowKit Own PointMath WallMath RoomMath Pts Blk AreaMath PlaceMath FloorMath LineMath CutsMath SightMath DiagMath TriMath TrisMath TreeMath Ints
open PointOk (ret_bool ret_i64 below1 below2 below3)

theorem facts3 {w : World} {k : Nat} {v0 v1 v2 : Value} {T : TypeId} (h : Holds w k #[v0, v1, v2] T) :
    (w.cell? ⟨k, 0, none⟩ = some v0 ∧ w.cell? ⟨k, 1, none⟩ = some v1 ∧ w.cell? ⟨k, 2, none⟩ = some v2) ∧ w.frozen? ⟨k, 0, none⟩ = false ∧ w.frozen? ⟨k, 1, none⟩ = false ∧ w.frozen? ⟨k, 2, none⟩ = false := by
  have c0 := cell_of_row w k 0 _ _ _ h
  have c1 := cell_of_row w k 1 _ _ _ h
  have c2 := cell_of_row w k 2 _ _ _ h
  unfold Holds at h
  simp at c0 c1 c2
  exact ⟨⟨c0, c1, c2⟩, by simp [World.frozen?, h], by simp [World.frozen?, h], by simp [World.frozen?, h]⟩
theorem indexAroundI (A : Option Addr) (n cap : Nat) (k : Int) (h0 : 0 < n) (hn : n ≤ 1048576) (w : World) :
    Calls Tryz.prog 95 #[.slice A n cap, .int .i64 k] w fun e w' => e = .returned (.int .i64 (ixI n k)) ∧ w = w' := by
  have hz : ¬ ((n : Int) = 0) := by omega
  have hm := ix_tmod (n := n) (k := k) (by omega)
  obtain ⟨hx1, hx2⟩ := ix_lt (n := n) (k := k) (by omega)
  obtain ⟨r, hr⟩ : ∃ r, k.tmod n = r := ⟨_, rfl⟩
  rw [hr] at hx1 hm
  generalize ixI n k = m at *
  have u1 : IntKind.i64.wrap (r + n) = r + n := IntWalk.i64_in _ (by omega)
  go_enter Tryz.func95, Tryz.ntmps95
  go_wp2_with fail
  go_ret
  exact ⟨rfl, rfl⟩
theorem pv_ix {m k : Nat} (h : 2 ≤ m) (hk : k < m) : ixI m ((k : Int) - 1) = pvN m k := by
  rw [ix_pred h hk]; unfold pvN; congr 1; omega
theorem nx_ix {m k : Nat} (h : 0 < m) : ixI m ((k : Int) + 1) = nxN m k := ix_succ h

set_option maxRecDepth 100000 in
set_option maxHeartbeats 3200000 in
theorem triangleAt (n : Nat) (A : Option Addr) (m cap k : Nat) (w : World) (l : List Nat) (hl : l.length = m) (h3 : 3 ≤ m) (hm : m ≤ 1048576) (hk : k < m) (ha : Asc n l) (hq : IntsAt w w.heap.size A (li l)) :
    Calls Tryz.prog 63 #[.slice A m cap, .int .i64 (k : Int)] w fun e w' => e = .returned (.agg #[.int .i64 (triAt l k).1, .int .i64 (triAt l k).2.1, .int .i64 (triAt l k).2.2]) ∧ Below w.heap.size w w' := by
  obtain ⟨a, b, c, et, hab, hbc, _, hr⟩ := rot ha (by omega) (show k < l.length by omega)
  rw [et]
  have hp1 : pvN m k < m := Nat.mod_lt _ (by omega)
  have hn1 : nxN m k < m := Nat.mod_lt _ (by omega)
  have p0 := li_at (l := l) (k := pvN m k) (by omega)
  have p1 := li_at (l := l) (k := k) (by omega)
  have p2 := li_at (l := l) (k := nxN m k) (by omega)
  have HS : Hid (sorted [((ix l (pvN m k) : Nat) : Int), ((ix l k : Nat) : Int), ((ix l (nxN m k) : Nat) : Int)] = [(a : Int), (b : Int), (c : Int)]) := Lib.hid (by
    unfold pvx nxx at hr
    rw [hl] at hr
    apply sorted3 <;> omega)
  have QA : Hid (∀ w, _) := Lib.hid fun w => indexAroundI A m cap ((k : Int) - 1) (by omega) hm w
  have QB : Hid (∀ w, _) := Lib.hid fun w => indexAroundI A m cap ((k : Int) + 1) (by omega) hm w
  rw [pv_ix (by omega) hk] at QA
  rw [nx_ix (by omega)] at QB
  generalize ((ix l (pvN m k) : Nat) : Int) = x at *
  generalize ((ix l k : Nat) : Int) = y at *
  generalize ((ix l (nxN m k) : Nat) : Int) = z at *
  generalize pvN m k = i at *
  generalize nxN m k = j at *
  obtain ⟨ad, eA, bA, pA⟩ := hq.get p0
  obtain ⟨ad2, eA2, _, pB⟩ := hq.get p1
  rw [eA] at eA2
  injection eA2 with eA2
  subst eA2
  obtain ⟨ad2, eA2, _, pC⟩ := hq.get p2
  rw [eA] at eA2
  injection eA2 with eA2
  subst eA2
  subst eA
  have hi1 : (i : Int) < (m : Int) := by omega
  have hi0 : (0 : Int) ≤ (i : Int) := by omega
  have hj1 : (j : Int) < (m : Int) := by omega
  have hj0 : (0 : Int) ≤ (j : Int) := by omega
  have hk1 : (k : Int) < (m : Int) := by omega
  have hk0 : (0 : Int) ≤ (k : Int) := by omega
  have u1 : IntKind.i64.wrap ((k : Int) - 1) = (k : Int) - 1 := IntWalk.i64_in _ (by omega)
  have u2 : IntKind.i64.wrap ((k : Int) + 1) = (k : Int) + 1 := IntWalk.i64_in _ (by omega)
  clear hl hq p0 p1 p2 ha et hr hab hbc
  go_enter Tryz.func63, Tryz.ntmps63
  go_wp2_with fail
  have X0 := Blk.Holds.box w #[.int .i64 0, .int .i64 0, .int .i64 0] 65 (k := w.heap.size) (by simp)
  have b0 := PointOk.below1 w (Obj.cells #[.int .i64 0, .int .i64 0, .int .i64 0] 65)
  have HO : ∀ W W' : World, (Blk.Holds W (w.heap.size) #[.int .i64 0, .int .i64 0, .int .i64 0] 65 ∧ IntAt W ad i x ∧ IntAt W ad k y ∧ IntAt W ad j z ∧ Below w.heap.size w W) → Below W.heap.size W W' → (Blk.Holds W' (w.heap.size) #[.int .i64 0, .int .i64 0, .int .i64 0] 65 ∧ IntAt W' ad i x ∧ IntAt W' ad k y ∧ IntAt W' ad j z ∧ Below w.heap.size w W') := fun W W' ⟨h0, x0, x1, x2, hb⟩ h => ⟨h0.later h, x0.later bA (h.mono hb.size), x1.later bA (h.mono hb.size), x2.later bA (h.mono hb.size), hb.trans (h.mono hb.size)⟩
  have hz0_ : Hid (((w.alloc (Obj.cells #[.int .i64 0, .int .i64 0, .int .i64 0] 65))).heap.size = w.heap.size + 1) := Lib.hid (by simp)
  have Y0 : IntAt ((w.alloc (Obj.cells #[.int .i64 0, .int .i64 0, .int .i64 0] 65))) ad i x := pA.later bA b0
  have Y1 : IntAt ((w.alloc (Obj.cells #[.int .i64 0, .int .i64 0, .int .i64 0] 65))) ad k y := pB.later bA b0
  have Y2 : IntAt ((w.alloc (Obj.cells #[.int .i64 0, .int .i64 0, .int .i64 0] 65))) ad j z := pC.later bA b0
  generalize (w.alloc (Obj.cells #[.int .i64 0, .int .i64 0, .int .i64 0] 65)) = w0 at X0 Y0 Y1 Y2 b0 hz0_ ⊢
  have S0 := (⟨X0, Y0, Y1, Y2, b0⟩ : Blk.Holds w0 (w.heap.size) #[.int .i64 0, .int .i64 0, .int .i64 0] 65 ∧ IntAt w0 ad i x ∧ IntAt w0 ad k y ∧ IntAt w0 ad j z ∧ Below w.heap.size w w0)
  clear X0 Y0 Y1 Y2 b0
  obtain ⟨_, ⟨_, _⟩, ⟨_, _⟩, ⟨_, _⟩, _⟩ := id S0
  refine Settle.regionTails (fun W => Blk.Holds W (w.heap.size) #[.int .i64 0, .int .i64 0, .int .i64 0] 65 ∧ IntAt W ad i x ∧ IntAt W ad k y ∧ IntAt W ad j z ∧ Below w.heap.size w W) 18 (by kernel_rfl) (by kernel_rfl) (of_decide_eq_true (by kernel_rfl)) (by kernel_rfl) (by kernel_rfl) (by kernel_rfl) (by kernel_rfl) (HO _ _ S0 ((Below.refl _ _).drew)) ?_
  simp only [List.take_succ_cons, List.take_zero, List.drop_succ_cons, List.drop_zero]
  clear S0
  repeat (first
    | (refine Settle.Settles.off (by rfl) ?_; simp only [Act.put, List.setIfInBounds_toArray, List.set_cons_zero, List.set_cons_succ])
    | (refine Settle.Settles.quiet (v := ?_) (by rfl) ?_ ?_
       rotate_left
       · (intro W hS; obtain ⟨_, ⟨_, _⟩, ⟨_, _⟩, ⟨_, _⟩, _⟩ := hS; go_simp; with_reducible rfl)
       simp only [Act.put, List.setIfInBounds_toArray, List.set_cons_zero, List.set_cons_succ])
    | (refine Settle.Settles.call (v := ?_) (f := ?_) (args := ?_) (by rfl) ?_ ?_ ?_
       rotate_left 3
       · (intro W; go_simp; refine ⟨?_, ?_⟩ <;> with_reducible rfl)
       · (intro W hS; first | (go_at_call 95; (with_reducible refine (QA.out _).mono ?_); rintro e W1 ⟨rfl, rfl⟩; refine ⟨?_, hS⟩; with_reducible rfl) | (go_at_call 95; (with_reducible refine (QB.out _).mono ?_); rintro e W1 ⟨rfl, rfl⟩; refine ⟨?_, hS⟩; with_reducible rfl))
       simp only [Act.put, List.setIfInBounds_toArray, List.set_cons_zero, List.set_cons_succ]))
  refine Settle.Settles.nil ?_
  intro wr S0 K_ hK_
  obtain ⟨_, ⟨_, _⟩, ⟨_, _⟩, ⟨_, _⟩, _⟩ := id S0
  have hnew := Blk.Holds.new wr #[.int .i64 x, .int .i64 y, .int .i64 z] 3
  have hlt0 := Holds.lt S0.1
  have hown : (wr.alloc (Obj.cells #[.int .i64 x, .int .i64 y, .int .i64 z] 3)).ownsRow (w.heap.size + 1) 3 1 (.slice (some ⟨wr.heap.size, 0, none⟩) 3 3) 3 (icells [x, y, z]) :=
    ⟨by simp [icells], .inr ⟨wr.heap.size, 3, _, rfl, by omega, hnew, Nat.le_refl _, by decide, by simp, by simp [icells]⟩⟩
  have hown := Lib.hid hown
  have S1 := HO _ _ S0 (below1 wr (Obj.cells #[.int .i64 x, .int .i64 y, .int .i64 z] 3))
  have hs1 : w.heap.size + 1 ≤ (wr.alloc (Obj.cells #[.int .i64 x, .int .i64 y, .int .i64 z] 3)).heap.size := by simp; omega
  clear hnew S0 hlt0
  go_wp2_with fail
  generalize wr.alloc (Obj.cells #[.int .i64 x, .int .i64 y, .int .i64 z] 3) = w2 at *
  generalize wr.heap.size = g0 at *
  refine (SortI.sort_own hown.out (by omega)).mono ?_
  rintro e w3 ⟨rfl, ho3, hg3⟩
  have hb3 : Below (w.heap.size + 1) w2 w3 := (Below.refl _ _).grown hg3 hs1 (fun k hk => (hown.out.lt k hk).1)
  rw [HS.out] at ho3
  have X0 : Holds w3 w.heap.size #[.int .i64 0, .int .i64 0, .int .i64 0] 65 := (hb3.block w.heap.size (by omega)).trans S1.1
  have hbw : Below w.heap.size w w3 := S1.2.2.2.2.trans (hb3.mono (by omega))
  obtain ⟨g1, e1, _, _, c0, _⟩ := own_cell ho3 (j := 0) (by omega) (x := .int .i64 (a : Int)) rfl
  injection e1 with e1
  injection e1 with e1
  obtain ⟨g2, e2, _, _, c1, _⟩ := own_cell ho3 (j := 1) (by omega) (x := .int .i64 (b : Int)) rfl
  injection e2 with e2
  injection e2 with e2
  obtain ⟨g3, e3, _, _, c2, _⟩ := own_cell ho3 (j := 2) (by omega) (x := .int .i64 (c : Int)) rfl
  injection e3 with e3
  injection e3 with e3
  rw [← e1] at c0
  rw [← e2] at c1
  rw [← e3] at c2
  clear S1 hb3 hown ho3 hg3 e1 e2 e3 HS hs1 HO QA QB
  have HO : ∀ W W' : World, (Holds W w.heap.size #[.int .i64 0, .int .i64 0, .int .i64 0] 65 ∧ W.cell? ⟨g0, 0, none⟩ = some (.int .i64 (a : Int)) ∧ W.cell? ⟨g0, 1, none⟩ = some (.int .i64 (b : Int)) ∧ W.cell? ⟨g0, 2, none⟩ = some (.int .i64 (c : Int)) ∧ Below w.heap.size w W) → Below W.heap.size W W' → (Holds W' w.heap.size #[.int .i64 0, .int .i64 0, .int .i64 0] 65 ∧ W'.cell? ⟨g0, 0, none⟩ = some (.int .i64 (a : Int)) ∧ W'.cell? ⟨g0, 1, none⟩ = some (.int .i64 (b : Int)) ∧ W'.cell? ⟨g0, 2, none⟩ = some (.int .i64 (c : Int)) ∧ Below w.heap.size w W') := fun W W' ⟨x0, x1, x2, x3, hb⟩ h => ⟨x0.later h, cell_later h x1, cell_later h x2, cell_later h x3, hb.trans (h.mono hb.size)⟩
  have S0 : Holds w3 w.heap.size #[.int .i64 0, .int .i64 0, .int .i64 0] 65 ∧ w3.cell? ⟨g0, 0, none⟩ = some (.int .i64 (a : Int)) ∧ w3.cell? ⟨g0, 1, none⟩ = some (.int .i64 (b : Int)) ∧ w3.cell? ⟨g0, 2, none⟩ = some (.int .i64 (c : Int)) ∧ Below w.heap.size w w3 := ⟨X0, c0, c1, c2, hbw⟩
  clear X0 c0 c1 c2 hbw
  obtain ⟨_, _, _, _, _⟩ := id S0
  go_wp2_with fail
  refine Settle.regionTails (fun W => Holds W w.heap.size #[.int .i64 0, .int .i64 0, .int .i64 0] 65 ∧ W.cell? ⟨g0, 0, none⟩ = some (.int .i64 (a : Int)) ∧ W.cell? ⟨g0, 1, none⟩ = some (.int .i64 (b : Int)) ∧ W.cell? ⟨g0, 2, none⟩ = some (.int .i64 (c : Int)) ∧ Below w.heap.size w W) 9 (by kernel_rfl) (by kernel_rfl) (of_decide_eq_true (by kernel_rfl)) (by kernel_rfl) (by kernel_rfl) (by kernel_rfl) (by kernel_rfl) (HO _ _ S0 ((Below.refl _ _).drew)) ?_
  simp only [List.take_succ_cons, List.take_zero, List.drop_succ_cons, List.drop_zero]
  clear S0
  repeat (first
    | (refine Settle.Settles.off (by rfl) ?_; simp only [Act.put, List.setIfInBounds_toArray, List.set_cons_zero, List.set_cons_succ])
    | (refine Settle.Settles.quiet (v := ?_) (by rfl) ?_ ?_
       rotate_left
       · (intro W hS; obtain ⟨_, _, _, _, _⟩ := hS; go_simp; with_reducible rfl)
       simp only [Act.put, List.setIfInBounds_toArray, List.set_cons_zero, List.set_cons_succ])
    | (refine Settle.Settles.call (v := ?_) (f := ?_) (args := ?_) (by rfl) ?_ ?_ ?_
       rotate_left 3
       · (intro W; go_simp; refine ⟨?_, ?_⟩ <;> with_reducible rfl)
       · (intro W hS; fail)
       simp only [Act.put, List.setIfInBounds_toArray, List.set_cons_zero, List.set_cons_succ]))
  refine Settle.Settles.nil ?_
  intro wr S0 K_ hK_
  obtain ⟨_, _, _, _, _⟩ := id S0
  obtain ⟨⟨_, _, _⟩, _, _, _⟩ := facts3 S0.1
  go_wp2_with fail
  have E_ := Blk.set_own (Blk.set_own (Blk.set_own S0.1 0 (.int .i64 (a : Int))) 1 (.int .i64 (b : Int))) 2 (.int .i64 (c : Int))
  obtain ⟨⟨r0_, r1_, r2_⟩, _⟩ := facts3 E_
  refine bodyPost_ret (v := .agg #[.int .i64 (a : Int), .int .i64 (b : Int), .int .i64 (c : Int)]) (by simp [results, Tryz.results63, go_sem, r0_, r1_, r2_]) rfl ⟨rfl, ?_⟩
  exact ((S0.2.2.2.2.setCell (p := ⟨w.heap.size, 0, none⟩) (Nat.le_refl _) _).setCell (p := ⟨w.heap.size, 1, none⟩) (Nat.le_refl _) _).setCell (p := ⟨w.heap.size, 2, none⟩) (Nat.le_refl _) _
end Go.Proofs.YtkcodmafakjkfaaGreat.TrisImpl

/-
  How the landed code finds the next ear among the corners that are left, as contracts: what each function answers; no old cell is written.
-/
namespace Go.Proofs.YtkcodmafakjkfaaGreat.EarImpl
open Go.RowKit Own PointMath WallMath RoomMath Pts Blk AreaMath PlaceMath FloorMath LineMath CutsMath SightMath DiagMath TriMath TrisMath TreeMath Ints TrisImpl
open PointOk (ret_bool ret_i64 below1 below2 below3)

set_option maxRecDepth 100000 in
set_option maxHeartbeats 1600000 in
theorem has (a b c x : Int) (w : World) :
    Calls Tryz.prog 99 #[.agg #[.int .i64 a, .int .i64 b, .int .i64 c], .int .i64 x] w fun e w' => e = .returned (.bool (hasT (a, b, c) x)) ∧ Below w.heap.size w w' := by
  obtain ⟨r, hr⟩ : ∃ r, hasT (a, b, c) x = r := ⟨_, rfl⟩
  have HR := Lib.hid hr
  rw [hr]
  clear hr
  have HE : Hid (r = (decide (x = a) || decide (x = b) || decide (x = c))) := Lib.hid (by rw [← HR.out]; rfl)
  clear HR
  by_cases h1 : x = a
  · have E : Hid (r = true) := Lib.hid (by rw [HE.out, decide_eq_true h1]; rfl)
    have g1 : (x == a) = true := by simpa using h1
    clear HE h1
    go_enter Tryz.func99, Tryz.ntmps99
    go_wp2_with fail
    have X0 := Box3.box1 w a b c 65 (k := w.heap.size) (by simp)
    have b0 := PointOk.below1 w (Obj.cells #[.int .i64 a, .int .i64 b, .int .i64 c] 65)
    have HO : ∀ W W' : World, (Box3.Box W (w.heap.size) a b c ∧ Below w.heap.size w W) → Below W.heap.size W W' → (Box3.Box W' (w.heap.size) a b c ∧ Below w.heap.size w W') := fun W W' ⟨h0, hb⟩ h => ⟨h0.later h, hb.trans (h.mono hb.size)⟩
    have hz0_ : Hid (((w.alloc (Obj.cells #[.int .i64 a, .int .i64 b, .int .i64 c] 65))).heap.size = w.heap.size + 1) := Lib.hid (by simp)
    generalize (w.alloc (Obj.cells #[.int .i64 a, .int .i64 b, .int .i64 c] 65)) = w0 at X0 b0 hz0_ ⊢
    have S0 := (⟨X0, b0⟩ : Box3.Box w0 (w.heap.size) a b c ∧ Below w.heap.size w w0)
    clear X0 b0
    obtain ⟨⟨_, _, _⟩, _⟩ := id S0
    go_ret
    exact ⟨ret_bool E.out.symm, S0.2⟩
  have g1 : (x == a) = false := by simpa using h1
  by_cases h2 : x = b
  · have E : Hid (r = true) := Lib.hid (by rw [HE.out, decide_eq_true h2]; simp)
    have g2 : (x == b) = true := by simpa using h2
    clear HE h1 h2
    go_enter Tryz.func99, Tryz.ntmps99
    go_wp2_with fail
    have X0 := Box3.box1 w a b c 65 (k := w.heap.size) (by simp)
    have b0 := PointOk.below1 w (Obj.cells #[.int .i64 a, .int .i64 b, .int .i64 c] 65)
    have HO : ∀ W W' : World, (Box3.Box W (w.heap.size) a b c ∧ Below w.heap.size w W) → Below W.heap.size W W' → (Box3.Box W' (w.heap.size) a b c ∧ Below w.heap.size w W') := fun W W' ⟨h0, hb⟩ h => ⟨h0.later h, hb.trans (h.mono hb.size)⟩
    have hz0_ : Hid (((w.alloc (Obj.cells #[.int .i64 a, .int .i64 b, .int .i64 c] 65))).heap.size = w.heap.size + 1) := Lib.hid (by simp)
    generalize (w.alloc (Obj.cells #[.int .i64 a, .int .i64 b, .int .i64 c] 65)) = w0 at X0 b0 hz0_ ⊢
    have S0 := (⟨X0, b0⟩ : Box3.Box w0 (w.heap.size) a b c ∧ Below w.heap.size w w0)
    clear X0 b0
    obtain ⟨⟨_, _, _⟩, _⟩ := id S0
    go_ret
    exact ⟨ret_bool E.out.symm, S0.2⟩
  have g2 : (x == b) = false := by simpa using h2
  by_cases h3 : x = c
  · have E : Hid (r = true) := Lib.hid (by rw [HE.out, decide_eq_true h3]; simp)
    have g3 : (x == c) = true := by simpa using h3
    clear HE h1 h2 h3
    go_enter Tryz.func99, Tryz.ntmps99
    go_wp2_with fail
    have X0 := Box3.box1 w a b c 65 (k := w.heap.size) (by simp)
    have b0 := PointOk.below1 w (Obj.cells #[.int .i64 a, .int .i64 b, .int .i64 c] 65)
    have HO : ∀ W W' : World, (Box3.Box W (w.heap.size) a b c ∧ Below w.heap.size w W) → Below W.heap.size W W' → (Box3.Box W' (w.heap.size) a b c ∧ Below w.heap.size w W') := fun W W' ⟨h0, hb⟩ h => ⟨h0.later h, hb.trans (h.mono hb.size)⟩
    have hz0_ : Hid (((w.alloc (Obj.cells #[.int .i64 a, .int .i64 b, .int .i64 c] 65))).heap.size = w.heap.size + 1) := Lib.hid (by simp)
    generalize (w.alloc (Obj.cells #[.int .i64 a, .int .i64 b, .int .i64 c] 65)) = w0 at X0 b0 hz0_ ⊢
    have S0 := (⟨X0, b0⟩ : Box3.Box w0 (w.heap.size) a b c ∧ Below w.heap.size w w0)
    clear X0 b0
    obtain ⟨⟨_, _, _⟩, _⟩ := id S0
    go_ret
    exact ⟨ret_bool E.out.symm, S0.2⟩
  have g3 : (x == c) = false := by simpa using h3
  have E : Hid (r = false) := Lib.hid (by rw [HE.out, decide_eq_false h1, decide_eq_false h2, decide_eq_false h3]; rfl)
  clear HE h1 h2 h3
  go_enter Tryz.func99, Tryz.ntmps99
  go_wp2_with fail
  have X0 := Box3.box1 w a b c 65 (k := w.heap.size) (by simp)
  have b0 := PointOk.below1 w (Obj.cells #[.int .i64 a, .int .i64 b, .int .i64 c] 65)
  have HO : ∀ W W' : World, (Box3.Box W (w.heap.size) a b c ∧ Below w.heap.size w W) → Below W.heap.size W W' → (Box3.Box W' (w.heap.size) a b c ∧ Below w.heap.size w W') := fun W W' ⟨h0, hb⟩ h => ⟨h0.later h, hb.trans (h.mono hb.size)⟩
  have hz0_ : Hid (((w.alloc (Obj.cells #[.int .i64 a, .int .i64 b, .int .i64 c] 65))).heap.size = w.heap.size + 1) := Lib.hid (by simp)
  generalize (w.alloc (Obj.cells #[.int .i64 a, .int .i64 b, .int .i64 c] 65)) = w0 at X0 b0 hz0_ ⊢
  have S0 := (⟨X0, b0⟩ : Box3.Box w0 (w.heap.size) a b c ∧ Below w.heap.size w w0)
  clear X0 b0
  obtain ⟨⟨_, _, _⟩, _⟩ := id S0
  go_ret
  exact ⟨ret_bool E.out.symm, S0.2⟩

set_option maxRecDepth 100000 in
set_option maxHeartbeats 6400000 in
theorem earAmong (A : Option Addr) (n cap : Nat) (B : Option Addr) (m cb : Nat) (w : World) (ps : List (Int × Int)) (hl : ps.length = n) (_hn : n ≤ 1048576) (hr : roomB ps = true) (hp : PtsAt w w.heap.size A ps)
    (l : List Nat) (hlm : l.length = m) (h3 : 3 < m) (hm : m ≤ 1048576) (ha : Asc n l) (hq : IntsAt w w.heap.size B (li l)) :
    Calls Tryz.prog 62 #[.agg #[.slice A n cap], .slice B m cb] w fun e w' => e = .returned (.int .i64 (earAt ps l)) ∧ Below w.heap.size w w' := by
  obtain ⟨r, hr⟩ : ∃ r, earAt ps l = r := ⟨_, rfl⟩
  have HR := Lib.hid hr
  rw [hr]
  clear hr
  have HA : Hid (∀ k, k < m → earM ps l k = true → (∀ j, j < k → earM ps l j = false) → r = (k : Int)) := Lib.hid (fun k hk h1 h2 => by rw [← HR.out]; unfold earAt; rw [hlm]; exact firstI_at hk h1 h2)
  have HN : Hid ((∀ k, k < m → earM ps l k = false) → r = -1) := Lib.hid (fun h => by rw [← HR.out]; unfold earAt; rw [hlm]; exact firstI_none h)
  have hok := Lib.hid (roomB_yes hr).2.1
  have ha := Lib.hid ha
  clear HR
  go_enter Tryz.func62, Tryz.ntmps62
  go_wp2_with fail
  have X0 := Pts.boxR w (.slice A n cap) 30 (k := w.heap.size) (by simp)
  have b0 := PointOk.below1 w (Obj.cells #[.slice A n cap] 30)
  have HO : ∀ W W' : World, (Pts.BoxR W (w.heap.size) (.slice A n cap) ∧ PtsAt W w.heap.size A ps ∧ IntsAt W w.heap.size B (li l) ∧ Below w.heap.size w W) → Below W.heap.size W W' → (Pts.BoxR W' (w.heap.size) (.slice A n cap) ∧ PtsAt W' w.heap.size A ps ∧ IntsAt W' w.heap.size B (li l) ∧ Below w.heap.size w W') := fun W W' ⟨h0, x0, x1, hb⟩ h => ⟨h0.later h, x0.later (h.mono hb.size), x1.later (h.mono hb.size), hb.trans (h.mono hb.size)⟩
  have hz0_ : Hid (((w.alloc (Obj.cells #[.slice A n cap] 30))).heap.size = w.heap.size + 1) := Lib.hid (by simp)
  have Y0 : PtsAt ((w.alloc (Obj.cells #[.slice A n cap] 30))) w.heap.size A ps := hp.later b0
  have Y1 : IntsAt ((w.alloc (Obj.cells #[.slice A n cap] 30))) w.heap.size B (li l) := hq.later b0
  generalize (w.alloc (Obj.cells #[.slice A n cap] 30)) = w0 at X0 Y0 Y1 b0 hz0_ ⊢
  have S0 := (⟨X0, Y0, Y1, b0⟩ : Pts.BoxR w0 (w.heap.size) (.slice A n cap) ∧ PtsAt w0 w.heap.size A ps ∧ IntsAt w0 w.heap.size B (li l) ∧ Below w.heap.size w w0)
  clear X0 Y0 Y1 b0
  obtain ⟨⟨_, _⟩, _, _, _⟩ := id S0
  go_step3
  go_wp2_with fail
  go_step3
  go_wp2_with fail
  go_loopw [13] (fun q wr => ∃ k : Nat, k ≤ m ∧ q = .int .i64 k ∧ Hid (∀ j, j < k → earM ps l j = false) ∧ (Pts.BoxR wr (w.heap.size) (.slice A n cap) ∧ PtsAt wr w.heap.size A ps ∧ IntsAt wr w.heap.size B (li l) ∧ Below w.heap.size w wr))
    (fun q _ => m - (intOf q).toNat)
  case atStart => exact ⟨0, Nat.zero_le _, rfl, Lib.hid (fun t ht => absurd ht (by omega)), S0⟩
  case round =>
    clear S0
    obtain ⟨k, hk, rfl, hno, S0⟩ := hrel
    obtain ⟨⟨_, _⟩, _, _, _⟩ := id S0
    by_cases hlt : k < m
    rotate_left
    · obtain rfl : k = m := by omega
      have E := Lib.hid (HN.out hno.out)
      clear HN HA hno hok hl hlm ha
      go_wp2_with fail
      rw [Exit.noGoto_ret]
      go_ret
      exact ⟨ret_i64 E.out.symm, S0.2.2.2⟩
    obtain ⟨a, b, c, et, hab, hbc, hcn, hr3⟩ := rot ha.out (by omega) (show k < l.length by omega)
    have he := ear_eq (ps := ps) (l := l) (by rw [hl]; exact ha.out) (by omega) (show k < l.length by omega) hr3
    have QT : Hid (∀ W h, _) := Lib.hid fun W h => triangleAt n B m cb k W l hlm (by omega) hm hlt ha.out h
    rw [et] at QT
    have hp1 : pvN m k < m := Nat.mod_lt _ (by omega)
    have hn1 : nxN m k < m := Nat.mod_lt _ (by omega)
    have xi : pvx l k < n := by unfold pvx; exact ha.out.2 _ (by rw [hlm]; exact hp1)
    have xj : nxx l k < n := by unfold nxx; exact ha.out.2 _ (by rw [hlm]; exact hn1)
    have p0 : (li l)[pvN m k]? = some ((pvx l k : Nat) : Int) := by unfold pvx; rw [hlm]; exact li_at (by omega)
    have p2 : (li l)[nxN m k]? = some ((nxx l k : Nat) : Int) := by unfold nxx; rw [hlm]; exact li_at (by omega)
    have QA : Hid (∀ w, _) := Lib.hid fun w => indexAroundI B m cb ((k : Int) - 1) (by omega) hm w
    have QB : Hid (∀ w, _) := Lib.hid fun w => indexAroundI B m cb ((k : Int) + 1) (by omega) hm w
    rw [pv_ix (by omega) hlt] at QA
    rw [nx_ix (by omega)] at QB
    have QD : Hid (∀ W h, _) := Lib.hid fun W h => DiagImpl.diag A n cap (pvx l k) (nxx l k) W ps hl hr xi xj h
    have QC : Hid (∀ W h, _) := Lib.hid fun W h => TriImpl.cornersIn A n cap a b c W ps hl (by omega) (by omega) (by omega) h
    have oa := okAll_at hok.out (k := a) (by omega)
    have ob := okAll_at hok.out (k := b) (by omega)
    have oc := okAll_at hok.out (k := c) (by omega)
    have hoks : okAll [pt ps a, pt ps b, pt ps c] = true := by simp [okAll, oa, ob, oc]
    have QN : Hid (∀ (A3 : Option Addr) (c3 : Nat) (W : World) h, _) := Lib.hid fun A3 c3 W h => RoomOkImpl.bendAt A3 3 c3 1 W [pt ps a, pt ps b, pt ps c] rfl (by omega) (by omega) hoks h
    rw [bend_three] at QN
    unfold earI at he
    rw [hlm] at he
    have HI : Hid (∀ q, q < m → inAny ps l a b c q = false → earM ps l k = false) := Lib.hid (fun q hq h => by
      rw [he, show (List.range m).all (inAny ps l a b c) = false from List.all_eq_false.2 ⟨q, List.mem_range.2 hq, by rw [h]; simp⟩, Bool.and_false])
    have HJ : Hid (diagM ps (pvx l k) (nxx l k) = true → 0 < turnP (pt ps a) (pt ps b) (pt ps c) → (∀ q, q < m → inAny ps l a b c q = true) → earM ps l k = true) := Lib.hid (fun h1 h2 h4 => by
      rw [he, h1, decide_eq_true h2, show (List.range m).all (inAny ps l a b c) = true from List.all_eq_true.2 (fun q hq => h4 q (List.mem_range.1 hq))]; rfl)
    have HD : Hid (diagM ps (pvx l k) (nxx l k) = false → earM ps l k = false) := Lib.hid (fun h => by rw [he, h]; rfl)
    have HT : Hid (¬ 0 < turnP (pt ps a) (pt ps b) (pt ps c) → earM ps l k = false) := Lib.hid (fun h => by rw [he, decide_eq_false h, Bool.and_false, Bool.false_and])
    have HW : Hid (earM ps l k = false → ∀ j, j < k + 1 → earM ps l j = false) := Lib.hid (fun h j hj => by
      rcases Nat.lt_or_ge j k with h1 | h1
      · exact hno.out j h1
      · obtain rfl : j = k := by omega
        exact h)
    have HAk := Lib.hid (fun h => HA.out k hlt h hno.out)
    generalize earM ps l k = ek at *
    obtain ⟨d, hd⟩ : ∃ d, diagM ps (pvx l k) (nxx l k) = d := ⟨_, rfl⟩
    rw [hd] at QD HJ HD
    obtain ⟨t, ht⟩ : ∃ t, turnP (pt ps a) (pt ps b) (pt ps c) = t := ⟨_, rfl⟩
    rw [ht] at QN HJ HT
    generalize pvx l k = i at *
    generalize nxx l k = j at *
    generalize pvN m k = pi at *
    generalize nxN m k = pj at *
    obtain ⟨bd, eB, bB, pA⟩ := S0.2.2.1.get p0
    obtain ⟨bd2, eB2, _, pC⟩ := S0.2.2.1.get p2
    rw [eB] at eB2
    injection eB2 with eB2
    subst eB2
    subst eB
    have hk1 : (k : Int) < (m : Int) := by omega
    have hk0 : (0 : Int) ≤ (k : Int) := by omega
    have hi1 : (pi : Int) < (m : Int) := by omega
    have hi0 : (0 : Int) ≤ (pi : Int) := by omega
    have hj1 : (pj : Int) < (m : Int) := by omega
    have hj0 : (0 : Int) ≤ (pj : Int) := by omega
    have u1 : IntKind.i64.wrap ((k : Int) - 1) = (k : Int) - 1 := IntWalk.i64_in _ (by omega)
    have u2 : IntKind.i64.wrap ((k : Int) + 1) = (k : Int) + 1 := IntWalk.i64_in _ (by omega)
    clear hd ht he p0 p2 hoks oa ob oc hno HA HN et hr3
    have HO : ∀ W W' : World, (Pts.BoxR W w.heap.size (.slice A n cap) ∧ PtsAt W w.heap.size A ps ∧ IntsAt W w.heap.size (some bd) (li l) ∧ IntAt W bd pi (i : Int) ∧ IntAt W bd pj (j : Int) ∧ Below w.heap.size w W) → Below W.heap.size W W' → (Pts.BoxR W' w.heap.size (.slice A n cap) ∧ PtsAt W' w.heap.size A ps ∧ IntsAt W' w.heap.size (some bd) (li l) ∧ IntAt W' bd pi (i : Int) ∧ IntAt W' bd pj (j : Int) ∧ Below w.heap.size w W') := fun W W' ⟨x0, x1, x2, x3, x4, hb⟩ h => ⟨x0.later h, x1.later (h.mono hb.size), x2.later (h.mono hb.size), x3.later bB (h.mono hb.size), x4.later bB (h.mono hb.size), hb.trans (h.mono hb.size)⟩
    replace S0 : Pts.BoxR wr w.heap.size (.slice A n cap) ∧ PtsAt wr w.heap.size A ps ∧ IntsAt wr w.heap.size (some bd) (li l) ∧ IntAt wr bd pi (i : Int) ∧ IntAt wr bd pj (j : Int) ∧ Below w.heap.size w wr := ⟨S0.1, S0.2.1, S0.2.2.1, pA, pC, S0.2.2.2⟩
    clear pA pC
    obtain ⟨⟨_, _⟩, _, _, ⟨_, _⟩, ⟨_, _⟩, _⟩ := id S0
    go_wp2_with fail
    refine (QT.out _ (S0.2.2.1.wide S0.2.2.2.2.2.size)).mono ?_
    rintro e w1 ⟨rfl, hb_⟩
    replace S0 := HO _ _ S0 hb_
    clear hb_ QT
    have X := Box3.box1 w1 (a : Int) (b : Int) (c : Int) 65 (k := w1.heap.size) rfl
    have S1 := HO _ _ S0 (below1 w1 (Obj.cells #[.int .i64 (a : Int), .int .i64 (b : Int), .int .i64 (c : Int)] 65))
    clear S0
    have hkb := PointOk.below1 w1 (Obj.cells #[.int .i64 (a : Int), .int .i64 (b : Int), .int .i64 (c : Int)] 65)
    clear hkb
    go_wp2_with fail
    generalize w1.alloc (Obj.cells #[.int .i64 (a : Int), .int .i64 (b : Int), .int .i64 (c : Int)] 65) = w2 at *
    generalize w1.heap.size = kb at *
    have S0 := S1
    clear S1
    have HO : ∀ W W' : World, (Pts.BoxR W w.heap.size (.slice A n cap) ∧ PtsAt W w.heap.size A ps ∧ IntsAt W w.heap.size (some bd) (li l) ∧ IntAt W bd pi (i : Int) ∧ IntAt W bd pj (j : Int) ∧ Box3.Box W kb (a : Int) (b : Int) (c : Int) ∧ Below w.heap.size w W) → Below W.heap.size W W' → (Pts.BoxR W' w.heap.size (.slice A n cap) ∧ PtsAt W' w.heap.size A ps ∧ IntsAt W' w.heap.size (some bd) (li l) ∧ IntAt W' bd pi (i : Int) ∧ IntAt W' bd pj (j : Int) ∧ Box3.Box W' kb (a : Int) (b : Int) (c : Int) ∧ Below w.heap.size w W') := fun W W' ⟨x0, x1, x2, x3, x4, x5, hb⟩ h => ⟨x0.later h, x1.later (h.mono hb.size), x2.later (h.mono hb.size), x3.later bB (h.mono hb.size), x4.later bB (h.mono hb.size), x5.later h, hb.trans (h.mono hb.size)⟩
    replace S0 : Pts.BoxR w2 w.heap.size (.slice A n cap) ∧ PtsAt w2 w.heap.size A ps ∧ IntsAt w2 w.heap.size (some bd) (li l) ∧ IntAt w2 bd pi (i : Int) ∧ IntAt w2 bd pj (j : Int) ∧ Box3.Box w2 kb (a : Int) (b : Int) (c : Int) ∧ Below w.heap.size w w2 := ⟨S0.1, S0.2.1, S0.2.2.1, S0.2.2.2.1, S0.2.2.2.2.1, X, S0.2.2.2.2.2⟩
    clear X
    obtain ⟨⟨_, _⟩, _, _, ⟨_, _⟩, ⟨_, _⟩, ⟨_, _, _⟩, _⟩ := id S0
    refine Settle.region (fun W => Pts.BoxR W w.heap.size (.slice A n cap) ∧ PtsAt W w.heap.size A ps ∧ IntsAt W w.heap.size (some bd) (li l) ∧ IntAt W bd pi (i : Int) ∧ IntAt W bd pj (j : Int) ∧ Box3.Box W kb (a : Int) (b : Int) (c : Int) ∧ Below w.heap.size w W) (by kernel_rfl) (by kernel_rfl) (by kernel_rfl) (by kernel_rfl) (HO _ _ S0 ((Below.refl _ _).drew)) ?_
    clear S0
    repeat (first
      | (refine Settle.Settles.off (by rfl) ?_; simp only [Act.put, List.setIfInBounds_toArray, List.set_cons_zero, List.set_cons_succ])
      | (refine Settle.Settles.quiet (v := ?_) (by rfl) ?_ ?_
         rotate_left
         · (intro W hS; obtain ⟨⟨_, _⟩, _, _, ⟨_, _⟩, ⟨_, _⟩, ⟨_, _, _⟩, _⟩ := hS; go_simp; with_reducible rfl)
         simp only [Act.put, List.setIfInBounds_toArray, List.set_cons_zero, List.set_cons_succ])
      | (refine Settle.Settles.call (v := ?_) (f := ?_) (args := ?_) (by rfl) ?_ ?_ ?_
         rotate_left 3
         · (intro W; go_simp; refine ⟨?_, ?_⟩ <;> with_reducible rfl)
         · (intro W hS; first | (go_at_call 95; (with_reducible refine (QA.out _).mono ?_); rintro e W1 ⟨rfl, rfl⟩; refine ⟨?_, hS⟩; with_reducible rfl) | (go_at_call 95; (with_reducible refine (QB.out _).mono ?_); rintro e W1 ⟨rfl, rfl⟩; refine ⟨?_, hS⟩; with_reducible rfl))
         simp only [Act.put, List.setIfInBounds_toArray, List.set_cons_zero, List.set_cons_succ]))
    refine Settle.Settles.nil ?_
    intro wr S0
    obtain ⟨⟨_, _⟩, _, _, ⟨_, _⟩, ⟨_, _⟩, ⟨_, _, _⟩, _⟩ := id S0
    go_wp2_with fail
    refine (QD.out _ (S0.2.1.wide S0.2.2.2.2.2.2.size)).mono ?_
    rintro e w3 ⟨rfl, hb_⟩
    replace S0 := HO _ _ S0 hb_
    clear hb_ QD QA QB
    obtain ⟨⟨_, _⟩, _, _, ⟨_, _⟩, ⟨_, _⟩, ⟨_, _, _⟩, _⟩ := id S0
    cases d
    · have hno2 := Lib.hid (HW.out (HD.out (by first | rfl | trivial)))
      clear HW HD HJ HT HI HAk hl hlm
      go_wp2_with fail
      first
        | exact ⟨⟨k + 1, by omega, by go_num, hno2, S0.1, S0.2.1, S0.2.2.1, S0.2.2.2.2.2.2⟩, by simp [intOf]; omega⟩
        | (go_roundw <;> first | exact ⟨k + 1, by omega, by go_num, hno2, S0.1, S0.2.1, S0.2.2.1, S0.2.2.2.2.2.2⟩ | (simp [intOf]; omega))
    clear HD
    unfold GivesC at QC
    go_wp2_with fail
    refine (QC.out _ (S0.2.1.wide S0.2.2.2.2.2.2.size)).mono ?_
    rintro e w4 ⟨A3, c3, rfl, hown, hb_⟩
    replace S0 := HO _ _ S0 hb_
    have hq3 := TriImpl.pts_own hown
    clear hb_ QC hown
    obtain ⟨⟨_, _⟩, _, _, ⟨_, _⟩, ⟨_, _⟩, ⟨_, _, _⟩, _⟩ := id S0
    go_wp2_with fail
    refine (QN.out A3 c3 _ hq3).mono ?_
    rintro e w5 ⟨rfl, hb_⟩
    replace S0 := HO _ _ S0 hb_
    clear hb_ QN hq3
    obtain ⟨⟨_, _⟩, _, _, ⟨_, _⟩, ⟨_, _⟩, ⟨_, _, _⟩, _⟩ := id S0
    by_cases h0 : 0 < t
    rotate_left
    · have hno2 := Lib.hid (HW.out (HT.out (by omega)))
      have g0 : t ≤ 0 := by omega
      clear HW HJ HT HI HAk hl hlm
      go_wp2_with fail
      first
        | exact ⟨⟨k + 1, by omega, by go_num, hno2, S0.1, S0.2.1, S0.2.2.1, S0.2.2.2.2.2.2⟩, by simp [intOf]; omega⟩
        | (go_roundw <;> first | exact ⟨k + 1, by omega, by go_num, hno2, S0.1, S0.2.1, S0.2.2.1, S0.2.2.2.2.2.2⟩ | (simp [intOf]; omega))
    have g0 : ¬ t ≤ 0 := by omega
    replace HJ := Lib.hid (fun h => HAk.out (HJ.out (by first | rfl | trivial) h0 h))
    have HI2 : Hid (∀ q, q < m → inAny ps l a b c q = false → ∀ j, j < k + 1 → earM ps l j = false) := Lib.hid (fun q hq h => HW.out (HI.out q hq h))
    clear HT HAk HW HI h0
    go_wp2_with fail
    go_loopw [47] (fun q wr => ∃ s : Nat, s ≤ m ∧ q = .int .i64 s ∧ Hid (∀ j, j < s → inAny ps l a b c j = true) ∧ (Pts.BoxR wr w.heap.size (.slice A n cap) ∧ PtsAt wr w.heap.size A ps ∧ IntsAt wr w.heap.size (some bd) (li l) ∧ IntAt wr bd pi (i : Int) ∧ IntAt wr bd pj (j : Int) ∧ Box3.Box wr kb (a : Int) (b : Int) (c : Int) ∧ Below w.heap.size w wr))
      (fun q _ => m - (intOf q).toNat)
    case atStart => exact ⟨0, Nat.zero_le _, rfl, Lib.hid (fun t ht => absurd ht (by omega)), S0⟩
    case round =>
      clear S0
      obtain ⟨s, hs, rfl, hin, S0⟩ := hrel
      obtain ⟨⟨_, _⟩, _, _, ⟨_, _⟩, ⟨_, _⟩, ⟨_, _, _⟩, _⟩ := id S0
      by_cases hst : s < m
      rotate_left
      · obtain rfl : s = m := by omega
        have E := Lib.hid (HJ.out hin.out)
        clear HJ HI2 hin hl hlm hok
        go_wp2_with fail
        rw [Exit.noGoto_ret]
        go_ret
        exact ⟨ret_i64 E.out.symm, S0.2.2.2.2.2.2⟩
      have q0 := li_at (l := l) (k := s) (by omega)
      have xs : ix l s < n := ha.out.2 _ (by omega)
      have pp := pt_at (ps := ps) (k := ix l s) (by omega)
      have op := okAll_at hok.out (k := ix l s) (by omega)
      have HF : Hid (inAny ps l a b c s = (hasT ((a : Int), (b : Int), (c : Int)) ((ix l s : Nat) : Int) || !triIn (pt ps a) (pt ps b) (pt ps c) (pt ps (ix l s)))) := Lib.hid (by
        unfold inAny hasT
        simp only [Int.natCast_inj])
      have HS1 : Hid (inAny ps l a b c s = true → ∀ j, j < s + 1 → inAny ps l a b c j = true) := Lib.hid (fun h j hj => by
        rcases Nat.lt_or_ge j s with h1 | h1
        · exact hin.out j h1
        · obtain rfl : j = s := by omega
          exact h)
      replace HI2 := Lib.hid (fun h => HI2.out s hst h)
      have QH : Hid (∀ w, _) := Lib.hid fun w => has (a : Int) (b : Int) (c : Int) ((ix l s : Nat) : Int) w
      generalize ix l s = x at *
      obtain ⟨px, py, hx⟩ : ∃ u v, pt ps x = (u, v) := ⟨_, _, rfl⟩
      rw [hx] at pp op HF
      have QL : Hid (∀ W h, _) := Lib.hid fun W h => TriImpl.holds A n cap a b c px py W ps hl (by omega) (by omega) (by omega) hok.out op h
      generalize inAny ps l a b c s = iv at *
      generalize hasT ((a : Int), (b : Int), (c : Int)) (x : Int) = hb at *
      generalize triIn (pt ps a) (pt ps b) (pt ps c) (px, py) = tr at *
      obtain ⟨ad, eA, bA, pX⟩ := S0.2.1.get pp
      subst eA
      obtain ⟨bd3, eB3, _, pQ⟩ := S0.2.2.1.get q0
      injection eB3 with eB3
      subst eB3
      have hs1 : (s : Int) < (m : Int) := by omega
      have hs0 : (0 : Int) ≤ (s : Int) := by omega
      have hx1 : (x : Int) < (n : Int) := by omega
      have hx0 : (0 : Int) ≤ (x : Int) := by omega
      clear q0 pp op hx hin
      have HO : ∀ W W' : World, (Pts.BoxR W w.heap.size (.slice (some ad) n cap) ∧ PtsAt W w.heap.size (some ad) ps ∧ IntsAt W w.heap.size (some bd) (li l) ∧ IntAt W bd pi (i : Int) ∧ IntAt W bd pj (j : Int) ∧ Box3.Box W kb (a : Int) (b : Int) (c : Int) ∧ IntAt W bd s (x : Int) ∧ PtAt W ad x px py ∧ Below w.heap.size w W) → Below W.heap.size W W' → (Pts.BoxR W' w.heap.size (.slice (some ad) n cap) ∧ PtsAt W' w.heap.size (some ad) ps ∧ IntsAt W' w.heap.size (some bd) (li l) ∧ IntAt W' bd pi (i : Int) ∧ IntAt W' bd pj (j : Int) ∧ Box3.Box W' kb (a : Int) (b : Int) (c : Int) ∧ IntAt W' bd s (x : Int) ∧ PtAt W' ad x px py ∧ Below w.heap.size w W') := fun W W' ⟨x0, x1, x2, x3, x4, x5, x6, x7, hb⟩ h => ⟨x0.later h, x1.later (h.mono hb.size), x2.later (h.mono hb.size), x3.later bB (h.mono hb.size), x4.later bB (h.mono hb.size), x5.later h, x6.later bB (h.mono hb.size), x7.later bA (h.mono hb.size), hb.trans (h.mono hb.size)⟩
      rename World => wi
      replace S0 : Pts.BoxR wi w.heap.size (.slice (some ad) n cap) ∧ PtsAt wi w.heap.size (some ad) ps ∧ IntsAt wi w.heap.size (some bd) (li l) ∧ IntAt wi bd pi (i : Int) ∧ IntAt wi bd pj (j : Int) ∧ Box3.Box wi kb (a : Int) (b : Int) (c : Int) ∧ IntAt wi bd s (x : Int) ∧ PtAt wi ad x px py ∧ Below w.heap.size w wi := ⟨S0.1, S0.2.1, S0.2.2.1, S0.2.2.2.1, S0.2.2.2.2.1, S0.2.2.2.2.2.1, pQ, pX, S0.2.2.2.2.2.2⟩
      clear pQ pX
      obtain ⟨⟨_, _⟩, _, _, ⟨_, _⟩, ⟨_, _⟩, ⟨_, _, _⟩, ⟨_, _⟩, ⟨_, _⟩, _⟩ := id S0
      cases hb
      · cases tr
        · have hin2 := Lib.hid (HS1.out HF.out)
          clear HS1 HF HI2 HJ hl hlm
          go_wp2_with fail
          refine Settle.region (fun W => Pts.BoxR W w.heap.size (.slice (some ad) n cap) ∧ PtsAt W w.heap.size (some ad) ps ∧ IntsAt W w.heap.size (some bd) (li l) ∧ IntAt W bd pi (i : Int) ∧ IntAt W bd pj (j : Int) ∧ Box3.Box W kb (a : Int) (b : Int) (c : Int) ∧ IntAt W bd s (x : Int) ∧ PtAt W ad x px py ∧ Below w.heap.size w W) (by kernel_rfl) (by kernel_rfl) (by kernel_rfl) (by kernel_rfl) (HO _ _ S0 ((Below.refl _ _).drew)) ?_
          clear S0
          repeat (first
            | (refine Settle.Settles.off (by rfl) ?_; simp only [Act.put, List.setIfInBounds_toArray, List.set_cons_zero, List.set_cons_succ])
            | (refine Settle.Settles.quiet (v := ?_) (by rfl) ?_ ?_
               rotate_left
               · (intro W hS; obtain ⟨⟨_, _⟩, _, _, ⟨_, _⟩, ⟨_, _⟩, ⟨_, _, _⟩, ⟨_, _⟩, ⟨_, _⟩, _⟩ := hS; go_simp; with_reducible rfl)
               simp only [Act.put, List.setIfInBounds_toArray, List.set_cons_zero, List.set_cons_succ])
            | (refine Settle.Settles.call (v := ?_) (f := ?_) (args := ?_) (by rfl) ?_ ?_ ?_
               rotate_left 3
               · (intro W; go_simp; refine ⟨?_, ?_⟩ <;> with_reducible rfl)
               · (intro W hS; first | (go_at_call 99; (with_reducible refine (QH.out _).mono ?_); rintro e W1 ⟨rfl, hb⟩; refine ⟨?_, HO _ _ hS hb⟩; with_reducible rfl) | (go_at_call 100; (with_reducible refine (QL.out _ (hS.2.1.wide hS.2.2.2.2.2.2.2.2.size)).mono ?_); rintro e W1 ⟨rfl, hb⟩; refine ⟨?_, HO _ _ hS hb⟩; with_reducible rfl))
               simp only [Act.put, List.setIfInBounds_toArray, List.set_cons_zero, List.set_cons_succ]))
          refine Settle.Settles.nil ?_
          intro wr S0
          obtain ⟨⟨_, _⟩, _, _, ⟨_, _⟩, ⟨_, _⟩, ⟨_, _, _⟩, ⟨_, _⟩, ⟨_, _⟩, _⟩ := id S0
          go_wp2_with fail
          first
            | exact ⟨⟨s + 1, by omega, by go_num, hin2, S0.1, S0.2.1, S0.2.2.1, S0.2.2.2.1, S0.2.2.2.2.1, S0.2.2.2.2.2.1, S0.2.2.2.2.2.2.2.2⟩, by simp [intOf]; omega⟩
            | (go_roundw <;> first | exact ⟨s + 1, by omega, by go_num, hin2, S0.1, S0.2.1, S0.2.2.1, S0.2.2.2.1, S0.2.2.2.2.1, S0.2.2.2.2.2.1, S0.2.2.2.2.2.2.2.2⟩ | (simp [intOf]; omega))
        · have hno2 := Lib.hid (HI2.out HF.out)
          clear HS1 HF HI2 HJ hl hlm
          go_wp2_with fail
          refine Settle.region (fun W => Pts.BoxR W w.heap.size (.slice (some ad) n cap) ∧ PtsAt W w.heap.size (some ad) ps ∧ IntsAt W w.heap.size (some bd) (li l) ∧ IntAt W bd pi (i : Int) ∧ IntAt W bd pj (j : Int) ∧ Box3.Box W kb (a : Int) (b : Int) (c : Int) ∧ IntAt W bd s (x : Int) ∧ PtAt W ad x px py ∧ Below w.heap.size w W) (by kernel_rfl) (by kernel_rfl) (by kernel_rfl) (by kernel_rfl) (HO _ _ S0 ((Below.refl _ _).drew)) ?_
          clear S0
          repeat (first
            | (refine Settle.Settles.off (by rfl) ?_; simp only [Act.put, List.setIfInBounds_toArray, List.set_cons_zero, List.set_cons_succ])
            | (refine Settle.Settles.quiet (v := ?_) (by rfl) ?_ ?_
               rotate_left
               · (intro W hS; obtain ⟨⟨_, _⟩, _, _, ⟨_, _⟩, ⟨_, _⟩, ⟨_, _, _⟩, ⟨_, _⟩, ⟨_, _⟩, _⟩ := hS; go_simp; with_reducible rfl)
               simp only [Act.put, List.setIfInBounds_toArray, List.set_cons_zero, List.set_cons_succ])
            | (refine Settle.Settles.call (v := ?_) (f := ?_) (args := ?_) (by rfl) ?_ ?_ ?_
               rotate_left 3
               · (intro W; go_simp; refine ⟨?_, ?_⟩ <;> with_reducible rfl)
               · (intro W hS; first | (go_at_call 99; (with_reducible refine (QH.out _).mono ?_); rintro e W1 ⟨rfl, hb⟩; refine ⟨?_, HO _ _ hS hb⟩; with_reducible rfl) | (go_at_call 100; (with_reducible refine (QL.out _ (hS.2.1.wide hS.2.2.2.2.2.2.2.2.size)).mono ?_); rintro e W1 ⟨rfl, hb⟩; refine ⟨?_, HO _ _ hS hb⟩; with_reducible rfl))
               simp only [Act.put, List.setIfInBounds_toArray, List.set_cons_zero, List.set_cons_succ]))
          refine Settle.Settles.nil ?_
          intro wr S0
          obtain ⟨⟨_, _⟩, _, _, ⟨_, _⟩, ⟨_, _⟩, ⟨_, _, _⟩, ⟨_, _⟩, ⟨_, _⟩, _⟩ := id S0
          go_wp2_with fail
          first
            | exact ⟨⟨k + 1, by omega, by go_num, hno2, S0.1, S0.2.1, S0.2.2.1, S0.2.2.2.2.2.2.2.2⟩, by simp [intOf]; omega⟩
            | (go_roundw <;> first | exact ⟨k + 1, by omega, by go_num, hno2, S0.1, S0.2.1, S0.2.2.1, S0.2.2.2.2.2.2.2.2⟩ | (simp [intOf]; omega))
      · have hin2 := Lib.hid (HS1.out HF.out)
        clear HS1 HF HI2 HJ hl hlm QL
        go_wp2_with fail
        refine Settle.region (fun W => Pts.BoxR W w.heap.size (.slice (some ad) n cap) ∧ PtsAt W w.heap.size (some ad) ps ∧ IntsAt W w.heap.size (some bd) (li l) ∧ IntAt W bd pi (i : Int) ∧ IntAt W bd pj (j : Int) ∧ Box3.Box W kb (a : Int) (b : Int) (c : Int) ∧ IntAt W bd s (x : Int) ∧ PtAt W ad x px py ∧ Below w.heap.size w W) (by kernel_rfl) (by kernel_rfl) (by kernel_rfl) (by kernel_rfl) (HO _ _ S0 ((Below.refl _ _).drew)) ?_
        clear S0
        repeat (first
          | (refine Settle.Settles.off (by rfl) ?_; simp only [Act.put, List.setIfInBounds_toArray, List.set_cons_zero, List.set_cons_succ])
          | (refine Settle.Settles.quiet (v := ?_) (by rfl) ?_ ?_
             rotate_left
             · (intro W hS; obtain ⟨⟨_, _⟩, _, _, ⟨_, _⟩, ⟨_, _⟩, ⟨_, _, _⟩, ⟨_, _⟩, ⟨_, _⟩, _⟩ := hS; go_simp; with_reducible rfl)
             simp only [Act.put, List.setIfInBounds_toArray, List.set_cons_zero, List.set_cons_succ])
          | (refine Settle.Settles.call (v := ?_) (f := ?_) (args := ?_) (by rfl) ?_ ?_ ?_
             rotate_left 3
             · (intro W; go_simp; refine ⟨?_, ?_⟩ <;> with_reducible rfl)
             · (intro W hS; first | (go_at_call 99; (with_reducible refine (QH.out _).mono ?_); rintro e W1 ⟨rfl, hb⟩; refine ⟨?_, HO _ _ hS hb⟩; with_reducible rfl))
             simp only [Act.put, List.setIfInBounds_toArray, List.set_cons_zero, List.set_cons_succ]))
        refine Settle.Settles.nil ?_
        intro wr S0
        obtain ⟨⟨_, _⟩, _, _, ⟨_, _⟩, ⟨_, _⟩, ⟨_, _, _⟩, ⟨_, _⟩, ⟨_, _⟩, _⟩ := id S0
        go_wp2_with fail
        first
          | exact ⟨⟨s + 1, by omega, by go_num, hin2, S0.1, S0.2.1, S0.2.2.1, S0.2.2.2.1, S0.2.2.2.2.1, S0.2.2.2.2.2.1, S0.2.2.2.2.2.2.2.2⟩, by simp [intOf]; omega⟩
          | (go_roundw <;> first | exact ⟨s + 1, by omega, by go_num, hin2, S0.1, S0.2.1, S0.2.2.1, S0.2.2.2.1, S0.2.2.2.2.1, S0.2.2.2.2.2.1, S0.2.2.2.2.2.2.2.2⟩ | (simp [intOf]; omega))
end Go.Proofs.YtkcodmafakjkfaaGreat.EarImpl

/-
  What the landed TrianglesOf does, as a contract: the triangles, in a new slice that is nil if there are none.
-/
namespace Go.Proofs.YtkcodmafakjkfaaGreat.TrisLand
open Go.RowKit Own PointMath WallMath RoomMath Pts Blk AreaMath PlaceMath FloorMath LineMath CutsMath SightMath DiagMath TriMath TrisMath Ints Tup3 TriRow TrisImpl
open PointOk (ret_bool ret_i64 below1 below2 below3)

/-- Triangles came back in new memory; none: nil. -/
def GivesT (w : World) (l : List Tu) (en : Ending) (w' : World) : Prop :=
  ∃ A c, en = .returned (.slice A l.length c) ∧ w'.ownsRow w.heap.size 65 3 (.slice A l.length c) l.length (cellsT l) ∧ (l = [] → A = none) ∧ Below w.heap.size w w'

def lenV : Value → Nat
  | .slice _ n _ => n
  | _ => 0

set_option maxRecDepth 100000 in
set_option maxHeartbeats 1600000 in
theorem yes (W : World) (k : Nat) : Calls Tryz.prog 61 (#[.int .i64 (k : Int)] ++ #[]) W fun e w' => e = .returned (.bool true) ∧ Below W.heap.size W w' := by
  show Calls Tryz.prog 61 #[.int .i64 (k : Int)] W _
  go_enter Tryz.func61, Tryz.ntmps61
  go_wp2_with fail
  go_ret
  exact ⟨rfl, Below.refl _ _⟩

set_option maxRecDepth 100000 in
set_option maxHeartbeats 6400000 in
theorem trianglesOf (A : Option Addr) (n cap : Nat) (w : World) (ps : List (Int × Int)) (hl : ps.length = n) (hn : n ≤ 1048576) (hp : PtsAt w w.heap.size A ps) :
    Calls Tryz.prog 18 #[.agg #[.slice A n cap]] w (GivesT w (trisL ps)) := by
  obtain ⟨r, hr⟩ : ∃ r, trisL ps = r := ⟨_, rfl⟩
  have HR := Lib.hid hr
  rw [hr]
  clear hr
  have HE0 : Hid (roomB ps = false → r = []) := Lib.hid (fun h => by rw [← HR.out]; unfold trisL; rw [h]; rfl)
  have HE1 : Hid (roomB ps = true → (trisF ps (List.range n)).getD [] = r) := Lib.hid (fun h => by rw [← HR.out]; unfold trisL; rw [h, hl]; rfl)
  clear HR
  go_enter Tryz.func18, Tryz.ntmps18
  go_wp2_with fail
  have X0 := Pts.boxR w (.slice A n cap) 30 (k := w.heap.size) (by simp)
  have b0 := PointOk.below1 w (Obj.cells #[.slice A n cap] 30)
  have HO : ∀ W W' : World, (Pts.BoxR W (w.heap.size) (.slice A n cap) ∧ PtsAt W w.heap.size A ps ∧ Below w.heap.size w W) → Below W.heap.size W W' → (Pts.BoxR W' (w.heap.size) (.slice A n cap) ∧ PtsAt W' w.heap.size A ps ∧ Below w.heap.size w W') := fun W W' ⟨h0, x0, hb⟩ h => ⟨h0.later h, x0.later (h.mono hb.size), hb.trans (h.mono hb.size)⟩
  have hz0_ : Hid (((w.alloc (Obj.cells #[.slice A n cap] 30))).heap.size = w.heap.size + 1) := Lib.hid (by simp)
  have Y0 : PtsAt ((w.alloc (Obj.cells #[.slice A n cap] 30))) w.heap.size A ps := hp.later b0
  generalize (w.alloc (Obj.cells #[.slice A n cap] 30)) = w0 at X0 Y0 b0 hz0_ ⊢
  have S0 := (⟨X0, Y0, b0⟩ : Pts.BoxR w0 (w.heap.size) (.slice A n cap) ∧ PtsAt w0 w.heap.size A ps ∧ Below w.heap.size w w0)
  clear X0 Y0 b0
  obtain ⟨⟨_, _⟩, _, _⟩ := id S0
  refine (RoomOkImpl.roomOk A n cap _ ps hl hn (S0.2.1.wide S0.2.2.size)).mono ?_
  rintro e w1 ⟨rfl, hb_⟩
  replace S0 := HO _ _ S0 hb_
  clear hb_
  obtain ⟨⟨_, _⟩, _, _⟩ := id S0
  cases hr : roomB ps
  · have E := Lib.hid (HE0.out hr)
    clear HE0 HE1 hl
    go_wp2_with fail
    go_ret
    exact ⟨none, 0, by rw [E.out]; rfl, by rw [E.out]; exact World.ownsRow_nil _ _ _ _, fun _ => rfl, S0.2.2⟩
  have HE := Lib.hid (HE1.out hr)
  have hy := roomB_yes hr
  clear HE0 HE1
  have HO2 : ∀ W W' : World, (Pts.BoxR W (w.heap.size) (.slice A n cap) ∧ PtsAt W w.heap.size A ps ∧ Below w.heap.size w W) → Below (w.heap.size + 1) W W' → (Pts.BoxR W' (w.heap.size) (.slice A n cap) ∧ PtsAt W' w.heap.size A ps ∧ Below w.heap.size w W') := fun W W' ⟨h0, x0, hb⟩ h => ⟨⟨(h.cell (by simp)).trans h0.1, trivial⟩, x0.later (h.mono (by omega)), hb.trans (h.mono (by omega))⟩
  have hz1 : w.heap.size + 1 ≤ w1.heap.size := World.block_lt_of_cell? _ _ S0.1.1
  go_wp2_with fail
  refine (ThatImpl.cornersThat 61 #[] (fun _ => true) A n cap _ hn ?eF (fun W k _ _ => yes W k)).mono ?_
  case eF => (intro args w; first | exact Tryz.call61 args w | rfl)
  rintro e w2 ⟨A1, c1, rfl, hown, hb_⟩
  replace S0 := HO _ _ S0 hb_
  rw [← li_range] at hown
  have hlen0 : (li (List.range n)).length = n := by rw [li_len]; simp
  have hown := own_base hown hz1
  have hz2 : w.heap.size + 1 ≤ w2.heap.size := Nat.le_trans hz1 hb_.size
  clear hb_ hz1
  obtain ⟨⟨_, _⟩, _, _⟩ := id S0
  rw [← li_range, hlen0]
  rw [hlen0] at hown
  go_wp2_with fail
  clear hlen0
  have hn3 := hy.1
  go_loopw [3, 4] (fun v3 v4 wr => ∃ (m q : Nat) (l : List Nat) (o : List Tu) (A3 : Option Addr) (c3 : Nat), v3 = .slice A3 m c3 ∧ wr.ownsRow (w.heap.size + 1) 3 1 (.slice A3 m c3) m (icells (li l)) ∧ wr.ownsRow (w.heap.size + 1) 65 3 v4 q (cellsT o) ∧
      Hid (l.length = m ∧ o.length = q ∧ Asc n l ∧ 3 ≤ m ∧ q + m = n ∧ (trisF ps l).map (o ++ ·) = trisF ps (List.range n)) ∧ w.heap.size + 1 ≤ wr.heap.size ∧ (Pts.BoxR wr (w.heap.size) (.slice A n cap) ∧ PtsAt wr w.heap.size A ps ∧ Below w.heap.size w wr))
    (fun v3 _ _ => lenV v3)
  case atStart => exact ⟨n, 0, List.range n, [], A1, c1, rfl, hown, World.ownsRow_nil _ _ _ _, Lib.hid ⟨by simp, rfl, asc_range n, by omega, by omega, by simp⟩, hz2, S0⟩
  case round =>
    clear S0 hown hz2
    obtain ⟨m, q, l, o, A3, c3, rfl, h3, h4, hi, hz, S0⟩ := hrel
    obtain ⟨⟨_, _⟩, _, _⟩ := id S0
    obtain ⟨hlm, hoq, ha, hm3, hqm, hmap⟩ := hi.out
    clear hi
    have hlm := Lib.hid hlm
    have hoq := Lib.hid hoq
    have ha := Lib.hid ha
    have hmap := Lib.hid hmap
    have h3 := Lib.hid h3
    have h4 := Lib.hid h4
    by_cases hlt : 3 < m
    rotate_left
    · obtain rfl : m = 3 := by omega
      have E : Hid (o ++ [triAt l 1] = r) := Lib.hid (by rw [← HE.out, ← hmap.out, trisF_end (by rw [hlm.out]; omega)]; rfl)
      have g3 : ¬ (3 : Int) < 3 := by omega
      have QT : Hid (∀ W h, _) := Lib.hid fun W h => triangleAt n A3 3 c3 1 W l hlm.out (by omega) (by omega) (by omega) ha.out h
      obtain ⟨z0, z1, z2, hz_⟩ : ∃ z0 z1 z2, triAt l 1 = (z0, z1, z2) := ⟨_, _, _, rfl⟩
      rw [hz_] at QT E
      have hq1 : r.length = q + 1 := by rw [← E.out, List.length_append, hoq.out]; rfl
      clear hmap HE hz_ hl hr hy ha hlm
      go_wp2_with fail
      refine (QT.out _ (ints_own h3.out)).mono ?_
      rintro e w4 ⟨rfl, hb_⟩
      replace S0 := HO _ _ S0 hb_
      replace h4 := Lib.hid (own_below h4.out hb_)
      replace hz := Nat.le_trans hz hb_.size
      clear hb_ QT h3
      obtain ⟨⟨_, _⟩, _, _⟩ := id S0
      go_wp2_with (at_builtin; refine append_tri _ (by rfl) _ _ (by rfl) (w.heap.size + 1) _ q o (by rfl) h4.out z0 z1 z2 (by rfl) (by omega) hz ?_)
      intro v5 w5 h5 hg5
      have hb5 : Below (w.heap.size + 1) w4 w5 := (Below.refl _ _).grown hg5 hz (fun g hg => (h4.out.lt g hg).1)
      replace S0 := HO2 _ _ S0 hb5
      rw [E.out, ← hq1] at h5
      obtain ⟨A5, c5, rfl⟩ := own_shape h5
      have h5 := Lib.hid h5
      clear hb5 hg5 h4
      go_wp2_with fail
      go_ret
      exact ⟨A5, c5, rfl, own_base h5.out (by omega), fun h => by rw [h] at hq1; simp at hq1, S0.2.2⟩
    have g3 : (3 : Int) < (m : Int) := by omega
    have hmb : m ≤ 1048576 := by omega
    have QE : Hid (∀ W h h2, _) := Lib.hid fun W h h2 => EarImpl.earAmong A n cap A3 m c3 W ps hl hn hr h l hlm.out hlt hmb ha.out h2
    go_wp2_with fail
    refine (QE.out _ (S0.2.1.wide S0.2.2.size) (ints_own h3.out)).mono ?_
    rintro e w3 ⟨rfl, hb_⟩
    replace S0 := HO _ _ S0 hb_
    replace h3 := Lib.hid (own_below h3.out hb_)
    replace h4 := Lib.hid (own_below h4.out hb_)
    replace hz := Nat.le_trans hz hb_.size
    clear hb_ QE
    obtain ⟨⟨_, _⟩, _, _⟩ := id S0
    have hlb := earAt_lt ps l
    rw [hlm.out] at hlb
    by_cases he : earAt ps l < 0
    · have E : Hid (r = []) := Lib.hid (by rw [← HE.out, ← hmap.out, trisF_none (by rw [hlm.out]; exact hlt) he]; rfl)
      clear HE hmap hlb hl hr hy ha hlm
      go_wp2_with fail
      go_ret
      exact ⟨none, 0, by rw [E.out]; rfl, by rw [E.out]; exact World.ownsRow_nil _ _ _ _, fun _ => rfl, S0.2.2⟩
    obtain ⟨k, hk⟩ := Int.eq_ofNat_of_zero_le (show 0 ≤ earAt ps l by omega)
    have hkm : k < m := by omega
    have hm2 : Hid ((trisF ps (l.eraseIdx k)).map ((o ++ [triAt l k]) ++ ·) = trisF ps (List.range n)) := Lib.hid (by
      rw [← hmap.out, trisF_step (by rw [hlm.out]; exact hlt) hk, Option.map_map]
      congr 1
      funext x
      simp)
    have ha2 := Lib.hid (ha.out.erase (k := k) (by rw [hlm.out]; exact hkm))
    have hl2 : Hid ((l.eraseIdx k).length = m - 1) := Lib.hid (by rw [erase_len (by rw [hlm.out]; exact hkm), hlm.out])
    have he2 : Hid ((li l).take k ++ (li l).drop (k + 1) = li (l.eraseIdx k)) := Lib.hid (li_erase l k).symm
    have QT : Hid (∀ W h, _) := Lib.hid fun W h => triangleAt n A3 m c3 k W l hlm.out (by omega) hmb hkm ha.out h
    rw [hk] at he ⊢
    obtain ⟨z0, z1, z2, hz_⟩ : ∃ z0 z1 z2, triAt l k = (z0, z1, z2) := ⟨_, _, _, rfl⟩
    rw [hz_] at QT hm2
    have hk0 : ¬ (k : Int) < 0 := by omega
    have u1 : IntKind.i64.wrap ((k : Int) + 1) = (k : Int) + 1 := IntWalk.i64_in _ (by omega)
    clear hmap hlb hk hz_ he
    go_wp2_with fail
    refine (QT.out _ (ints_own h3.out)).mono ?_
    rintro e w4 ⟨rfl, hb_⟩
    replace S0 := HO _ _ S0 hb_
    replace h3 := Lib.hid (own_below h3.out hb_)
    replace h4 := Lib.hid (own_below h4.out hb_)
    replace hz := Nat.le_trans hz hb_.size
    clear hb_ QT
    obtain ⟨⟨_, _⟩, _, _⟩ := id S0
    go_wp2_with (at_builtin; refine append_tri _ (by rfl) _ _ (by rfl) (w.heap.size + 1) _ q o (by rfl) h4.out z0 z1 z2 (by rfl) (by omega) hz ?_)
    intro v5 w5 h5 hg5
    have hb5 : Below (w.heap.size + 1) w4 w5 := (Below.refl _ _).grown hg5 hz (fun g hg => (h4.out.lt g hg).1)
    replace S0 := HO2 _ _ S0 hb5
    replace h3 := Lib.hid (kept_apart h3.out hg5 (rows_ne h3.out h4.out (by decide)))
    have h5 := Lib.hid h5
    replace hz := Nat.le_trans hz hb5.size
    clear hb5 hg5 h4
    obtain ⟨⟨_, _⟩, _, _⟩ := id S0
    go_wp2_with fail
    refine (delete_own h3.out k hkm).mono ?_
    rintro e w6 ⟨rfl, h6, hg6⟩
    have hb6 : Below (w.heap.size + 1) w5 w6 := (Below.refl _ _).grown hg6 hz (fun g hg => (h3.out.lt g hg).1)
    replace S0 := HO2 _ _ S0 hb6
    replace h5 := Lib.hid (kept_apart h5.out hg6 (rows_ne h5.out h3.out (by decide)))
    rw [he2.out] at h6
    have h6 := Lib.hid h6
    replace hz := Nat.le_trans hz hb6.size
    clear hb6 hg6 h3 he2
    obtain ⟨⟨_, _⟩, _, _⟩ := id S0
    have hoq2 : Hid ((o ++ [(z0, z1, z2)]).length = q + 1) := Lib.hid (by rw [List.length_append, hoq.out]; rfl)
    go_wp2_with fail
    first
      | exact ⟨⟨m - 1, q + 1, l.eraseIdx k, o ++ [(z0, z1, z2)], A3, c3, rfl, h6.out, h5.out, Lib.hid ⟨hl2.out, hoq2.out, ha2.out, by omega, by omega, hm2.out⟩, hz, S0⟩, by simp [lenV]; omega⟩
      | (go_roundw <;> first | exact ⟨m - 1, q + 1, l.eraseIdx k, o ++ [(z0, z1, z2)], A3, c3, rfl, h6.out, h5.out, Lib.hid ⟨hl2.out, hoq2.out, ha2.out, by omega, by omega, hm2.out⟩, hz, S0⟩ | (simp [lenV]; omega))

theorem trianglesOfC (A : Option Addr) (n cap : Nat) (w : World) (ps : List (Int × Int)) (hl : ps.length = n) (hn : n ≤ 1048576) (hp : PtsAt w w.heap.size A ps) :
    Calls Tryz.prog 18 #[.agg #[.slice A n cap]] w (GivesC 65 3 w (trisL ps).length (cellsT (trisL ps))) := by
  refine (trianglesOf A n cap w ps hl hn hp).mono ?_
  rintro e w' ⟨A1, c1, rfl, h, _, hb⟩
  exact ⟨A1, c1, rfl, h, hb⟩
theorem trisL_le (ps : List (Int × Int)) : (trisL ps).length ≤ 11 := by
  have h := trisL_len ps
  by_cases hr : roomB ps = true
  · have := (roomB_yes hr).1; omega
  · unfold trisL; rw [if_neg hr]; simp
end Go.Proofs.YtkcodmafakjkfaaGreat.TrisLand
