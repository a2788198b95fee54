/-
  A row of points of the call's own: a point is appended.
-/
import Derived.Test.YtmmmnnncbpdinaaRoomRes
import Derived.OwnWalk
import Derived.Deep.RegionHeld3
import Derived.Deep.AppendLies
namespace Go.Proofs.Ytmmmnnncbpdinaa.PtRow
open Go.RowKit Own PointOk Pts Blk RoomRes

theorem infoP : (Try.prog.info? 58).map (fun i => (i.zero, i.size, i.bytes)) = some (some (.agg #[.int .i64 0, .int .i64 0]), 2, 16) := by kernel_rfl
set_option maxHeartbeats 1600000 in
theorem append_pt (w : World) {ops : Array Oper} {rest : List Oper} {o : Oper} {a : Act} {Q : Exit → Act → World → Prop} (hgd : o.guard = none) (s x : Operand)
    (ho : o.op = .call { callee := .builtin .append, args := #[s, x], argTypes := #[26, 26] })
    (B : Nat) (v : Value) (n : Nat) (L : List (Int × Int)) (hs : a.eval s = v) (hown : w.ownsRow B 58 2 v n (cellsP L))
    (z0 z1 : Int) (hx : a.eval x = .slice (some ⟨w.heap.size, 0, none⟩) 1 1) (hN : n ≤ 1048575) (hB : B ≤ w.heap.size)
    (h : ∀ v' w', w'.ownsRow B 58 2 v' (n + 1) (cellsP (L ++ [(z0, z1)])) → w.grownBy w' v.ownBlock → wpList Try.prog ops Q rest (a.put o.dst v') w') :
    wpList Try.prog ops Q (o :: rest) a (w.alloc (Obj.cells #[.int .i64 z0, .int .i64 z1] 58)) := by
  obtain ⟨i0, hi, hz0, hz1, hz2⟩ := info_parts infoP
  refine wpList_append_own _ hgd s x 26 ho B 58 i0 (.agg #[.int .i64 0, .int .i64 0]) 2 16 Try.underlying26 hi hz0 hz1 hz2 rfl (by decide) v n (cellsP L) hs (hown.alloc _) ⟨w.heap.size, 0, none⟩ 1 1 [.int .i64 z0, .int .i64 z1] hx rfl ?c1 ?c2 ?c3 ?c4 ?c5 ?_
  case c1 => (intro a u ha; match a, ha with | 0, ha => (simp at ha; subst ha; simp [Addr.add]) | 1, ha => (simp at ha; subst ha; simp [Addr.add]))
  case c2 => (intro u hu; simp at hu; rcases hu with rfl | rfl <;> rfl)
  case c3 => (unfold maxLen; omega)
  case c4 => omega
  case c5 => (simp; omega)
  intro v1 wa ho1 hg1 _
  refine h v1 wa ?_ (grown_trans (grown_of_below (below1 w _) _) hg1)
  rw [cellsP_app]
  exact ho1

set_option maxHeartbeats 1600000 in
/-- The same at a step of a region that draws its order. -/
theorem step_append_pt (w : World) {ops : Array Oper} {o : Oper} {a : Act} {K : Act → World → Prop} {Q : Exit → Act → World → Prop} {E : Prop} (hgd : o.guard = none) (s x : Operand)
    (ho : o.op = .call { callee := .builtin .append, args := #[s, x], argTypes := #[26, 26] })
    (B : Nat) (v : Value) (n : Nat) (L : List (Int × Int)) (hs : a.eval s = v) (hown : w.ownsRow B 58 2 v n (cellsP L))
    (z0 z1 : Int) (hx : a.eval x = .slice (some ⟨w.heap.size, 0, none⟩) 1 1) (hN : n ≤ 1048575) (hB : B ≤ w.heap.size)
    (h : ∀ v' w', w'.ownsRow B 58 2 v' (n + 1) (cellsP (L ++ [(z0, z1)])) → w.grownBy w' v.ownBlock → K (a.put o.dst v') w') :
    if Region.wanted o (yielded ops a.tmps) = true then Oper.wp Try.prog o a (w.alloc (Obj.cells #[.int .i64 z0, .int .i64 z1] 58)) K Q else E := by
  have hw : Region.wanted o (yielded ops a.tmps) = true := by simp [Region.wanted, hgd]
  rw [if_pos hw]
  obtain ⟨i0, hi, hz0, hz1, hz2⟩ := info_parts infoP
  refine wp_append_lies (w.alloc (Obj.cells #[.int .i64 z0, .int .i64 z1] 58)) s x _ ho B 58 i0 _ 2 16 Try.underlying26 hi hz0 hz1 hz2 rfl (by decide) v n (cellsP L) hs (hown.alloc _) ⟨w.heap.size, 0, none⟩ 1 1 [.int .i64 z0, .int .i64 z1] hx rfl ?c1 ?c2 (by omega) (by unfold maxLen; omega) (by omega) (by simp; omega) _ rfl ?_
  case c1 => (intro a u ha; match a, ha with | 0, ha => (simp at ha; subst ha; simp [Addr.add]) | 1, ha => (simp at ha; subst ha; simp [Addr.add]))
  case c2 => (intro u hu; simp at hu; rcases hu with rfl | rfl <;> rfl)
  intro g cap w' ho' hg _ _
  refine h _ _ ?_ (grown_trans (grown_of_below (below1 w _) _) hg)
  rw [cellsP_app]
  exact ho'

end Go.Proofs.Ytmmmnnncbpdinaa.PtRow
