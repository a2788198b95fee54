/-
  Rows of triangles and of numbers of the call's own: a triangle is appended; a number is taken out (slices.Delete); rows of two types lie apart.
-/
import Derived.Test.YtkcodmafakjkfaaGreatSuspSort
import Derived.Test.YtkcodmafakjkfaaGreatTrisMath
import Derived.Test.YtkcodmafakjkfaaGreatGround
import Derived.Test.YtkcodmafakjkfaaGreatTup3
import Derived.OwnWalk
import Derived.Deep.RegionHeld3
import Derived.Deep.AppendLies
import Derived.Sort.OwnSortedInts
import Derived.Lib.OwnBridge
namespace Go.Proofs.YtkcodmafakjkfaaGreat.TriRow
open Go.RowKit Own PointOk Ints Tup3 TrisMath Go.Sort

theorem infoT : (Tryz.prog.info? 65).map (fun i => (i.zero, i.size, i.bytes)) = some (some (.agg #[.int .i64 0, .int .i64 0, .int .i64 0]), 3, 24) := by kernel_rfl
theorem ints_own {W : World} {b e n cap : Nat} {A : Option Addr} {l : List Int} (h : W.ownsRow b e 1 (.slice A n cap) n (icells l)) : IntsAt W W.heap.size A l := by
  intro j hj
  have hn : l.length = n := by have := h.1; simpa [icells] using this
  obtain ⟨g, hA, _, hg, h1, _⟩ := own_cell h (by omega) (icells_at hj)
  refine ⟨_, hA, hg, ?_⟩
  by_cases hj0 : j = 0
  · subst hj0; exact h1
  · simpa [Addr.add, hj0] using h1
theorem row_cell {W : World} {b e g n c j : Nat} {L : List Int} {x : Int} (h : W.ownsRow b e 1 (.slice (some ⟨g, 0, none⟩) n c) n (icells L)) (hj : j < n) (hx : L[j]? = some x) :
    W.cell? ⟨g, j, none⟩ = some (.int .i64 x) ∧ W.frozen? ⟨g, j, none⟩ = false := by
  obtain ⟨g', hA, _, _, h1, h2⟩ := own_cell h hj (x := .int .i64 x) (by unfold icells; rw [List.getElem?_map, hx]; rfl)
  injection hA with hA
  injection hA with hA
  subst hA
  exact ⟨h1, h2⟩
theorem row_at {W : World} {b e n c j : Nat} {ad : Addr} {L : List Int} {x : Int} (h : W.ownsRow b e 1 (.slice (some ad) n c) n (icells L)) (hx : L[j]? = some x) : IntAt W ad j x := by
  obtain ⟨ad, e1, _, p⟩ := (ints_own h).get hx
  injection e1 with e1
  subst e1
  exact p
theorem rows_ne {W : World} {b1 e1 s1 n1 b2 e2 s2 n2 : Nat} {v1 v2 : Value} {xs ys : List Value} (h1 : W.ownsRow b1 e1 s1 v1 n1 xs) (h2 : W.ownsRow b2 e2 s2 v2 n2 ys) (hT : e1 ≠ e2) : ∀ k j, v1.ownBlock = some k → v2.ownBlock = some j → k ≠ j := by
  intro k j hk hj e
  subst e
  rcases h1.2 with ⟨rfl, _⟩ | ⟨g, cap, cur, rfl, _, hb, _⟩
  · cases hk
  · rcases h2.2 with ⟨rfl, _⟩ | ⟨g2, cap2, cur2, rfl, _, hb2, _⟩
    · cases hj
    · have x1 : g = k := Option.some.inj hk
      have x2 : g2 = k := Option.some.inj hj
      subst x1
      subst x2
      have h3 := hb.symm.trans hb2
      injection h3 with h3
      injection h3 with _ h4
      exact hT h4

set_option maxHeartbeats 1600000 in
theorem append_tri (w : World) {ops : Array Oper} {rest : List Oper} {o : Oper} {a : Act} {Q : Exit → Act → World → Prop} (hgd : o.guard = none) (s x : Operand)
    (ho : o.op = .call { callee := .builtin .append, args := #[s, x], argTypes := #[26, 26] })
    (B : Nat) (v : Value) (n : Nat) (L : List Tu) (hs : a.eval s = v) (hown : w.ownsRow B 65 3 v n (cellsT L))
    (z0 z1 z2 : Int) (hx : a.eval x = .slice (some ⟨w.heap.size, 0, none⟩) 1 1) (hN : n ≤ 1048575) (hB : B ≤ w.heap.size)
    (h : ∀ v' w', w'.ownsRow B 65 3 v' (n + 1) (cellsT (L ++ [(z0, z1, z2)])) → w.grownBy w' v.ownBlock → wpList Tryz.prog ops Q rest (a.put o.dst v') w') :
    wpList Tryz.prog ops Q (o :: rest) a (w.alloc (Obj.cells #[.int .i64 z0, .int .i64 z1, .int .i64 z2] 65)) := by
  obtain ⟨i0, hi, hz0, hz1, hz2⟩ := info_parts infoT
  refine wpList_append_own _ hgd s x 26 ho B 65 i0 (.agg #[.int .i64 0, .int .i64 0, .int .i64 0]) 3 24 Tryz.underlying26 hi hz0 hz1 hz2 rfl (by decide) v n (cellsT L) hs (hown.alloc _) ⟨w.heap.size, 0, none⟩ 1 1 [.int .i64 z0, .int .i64 z1, .int .i64 z2] hx rfl ?c1 ?c2 ?c3 ?c4 ?c5 ?_
  case c1 => (intro a u ha; match a, ha with | 0, ha => (simp at ha; subst ha; simp [Addr.add]) | 1, ha => (simp at ha; subst ha; simp [Addr.add]) | 2, ha => (simp at ha; subst ha; simp [Addr.add]))
  case c2 => (intro u hu; simp at hu; rcases hu with rfl | rfl | rfl <;> rfl)
  case c3 => (unfold maxLen; omega)
  case c4 => omega
  case c5 => (simp; omega)
  intro v1 wa ho1 hg1 _
  refine h v1 wa ?_ (grown_trans (grown_of_below (below1 w _) _) hg1)
  rw [cellsT_app]
  exact ho1

set_option maxHeartbeats 1600000 in
/-- The same at a step of a region that draws its order. -/
theorem step_append_tri (w : World) {ops : Array Oper} {o : Oper} {a : Act} {K : Act → World → Prop} {Q : Exit → Act → World → Prop} {E : Prop} (hgd : o.guard = none) (s x : Operand)
    (ho : o.op = .call { callee := .builtin .append, args := #[s, x], argTypes := #[26, 26] })
    (B : Nat) (v : Value) (n : Nat) (L : List Tu) (hs : a.eval s = v) (hown : w.ownsRow B 65 3 v n (cellsT L))
    (z0 z1 z2 : Int) (hx : a.eval x = .slice (some ⟨w.heap.size, 0, none⟩) 1 1) (hN : n ≤ 1048575) (hB : B ≤ w.heap.size)
    (h : ∀ v' w', w'.ownsRow B 65 3 v' (n + 1) (cellsT (L ++ [(z0, z1, z2)])) → w.grownBy w' v.ownBlock → K (a.put o.dst v') w') :
    if Region.wanted o (yielded ops a.tmps) = true then Oper.wp Tryz.prog o a (w.alloc (Obj.cells #[.int .i64 z0, .int .i64 z1, .int .i64 z2] 65)) K Q else E := by
  have hw : Region.wanted o (yielded ops a.tmps) = true := by simp [Region.wanted, hgd]
  rw [if_pos hw]
  obtain ⟨i0, hi, hz0, hz1, hz2⟩ := info_parts infoT
  refine wp_append_lies (w.alloc (Obj.cells #[.int .i64 z0, .int .i64 z1, .int .i64 z2] 65)) s x _ ho B 65 i0 _ 3 24 Tryz.underlying26 hi hz0 hz1 hz2 rfl (by decide) v n (cellsT L) hs (hown.alloc _) ⟨w.heap.size, 0, none⟩ 1 1 [.int .i64 z0, .int .i64 z1, .int .i64 z2] hx rfl ?c1 ?c2 (by omega) (by unfold maxLen; omega) (by omega) (by simp; omega) _ rfl ?_
  case c1 => (intro a u ha; match a, ha with | 0, ha => (simp at ha; subst ha; simp [Addr.add]) | 1, ha => (simp at ha; subst ha; simp [Addr.add]) | 2, ha => (simp at ha; subst ha; simp [Addr.add]))
  case c2 => (intro u hu; simp at hu; rcases hu with rfl | rfl | rfl <;> rfl)
  intro g cap w' ho' hg _ _
  refine h _ _ ?_ (grown_trans (grown_of_below (below1 w _) _) hg)
  rw [cellsT_app]
  exact ho'

theorem delete_own {w : World} {b n cap : Nat} {A : Option Addr} {l : List Int} (h : w.ownsRow b 3 1 (.slice A n cap) n (icells l)) (k : Nat) (hk : k < n) :
    Calls Tryz.prog 64 #[.slice A n cap, .int .i64 (k : Int), .int .i64 ((k : Int) + 1)] w fun e w' => e = .returned (.slice A (n - 1) cap) ∧ w'.ownsRow b 3 1 (.slice A (n - 1) cap) (n - 1) (icells (l.take k ++ l.drop (k + 1))) ∧ w.grownBy w' (Value.slice A n cap).ownBlock := by
  have hlen : l.length = n := by have := h.1; simpa [icells] using this
  have hv : Value.slice A n cap ≠ .slice none 0 0 := fun e => by injection e with _ e2 _; omega
  obtain ⟨g, c, e1, hb, hg, hnc, hcm, _, hH⟩ := Lib.holds_of_ownsRow (enc := Value.int .i64) (zs := l) h hv
  injection e1 with e1 _ e3
  subst e1 e3
  unfold maxLen at hcm
  have hs := Tryz.slices_Delete_int g 0 cap k (k + 1) l w hH (by omega) (by omega) (by omega) (by omega)
  rw [hlen, show k + 1 - k = 1 by omega, show ((k + 1 : Nat) : Int) = (k : Int) + 1 by omega] at hs
  have hl2 : (l.take k ++ l.drop (k + 1)).length = n - 1 := by rw [List.length_append, List.length_take, List.length_drop]; omega
  refine hs.mono ?_
  rintro e w' ⟨rfl, q, rfl⟩
  have hr := Lib.ownsRow_putRow (enc := Value.int .i64) (q := q) (k := n - 1) (ys := l.take k ++ l.drop (k + 1) ++ List.replicate 1 0) h (by rw [List.length_append, hl2]; simp; omega) (by omega)
  rw [← hl2, List.take_left, hl2] at hr
  refine ⟨rfl, hr, ?_⟩
  have hg2 := grownBy_sortedI (w := w) (g := g) (n := q) (os := #[]) (l.take k ++ l.drop (k + 1) ++ List.replicate 1 0).toArray
  rw [grow_empty] at hg2
  exact hg2
end Go.Proofs.YtkcodmafakjkfaaGreat.TriRow
