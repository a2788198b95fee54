/-
  What a law does with a room that came back: held against another, marked, looked at again; as contracts.
-/
import Derived.Test.YthokeedmccfalaaLawInt
import Derived.Test.YthokeedmccfalaaRoomRes
namespace Go.Proofs.Ythokeedmccfalaa.LawRes
open Go.RowKit PointOk Blk Pts Own LawInt RoomRes

set_option maxHeartbeats 800000 in
theorem eqRoomB (w : World) (b1 b2 n : Nat) (hn : n ≤ 1048576) (v1 v2 : Value) (ps : List (Int × Int)) (h1 : w.ownsRow b1 49 2 v1 n (cellsP ps)) (h2 : w.ownsRow b2 49 2 v2 n (cellsP ps)) :
    Calls Try.prog 21 #[.agg #[v1], .agg #[v2]] w fun e w' => e = .returned (.bool true) ∧ Below w.heap.size w w' := by
  obtain ⟨A1, c1, rfl, hl, hp1⟩ := own_pts h1
  obtain ⟨A2, c2, rfl, _, hp2⟩ := own_pts h2
  exact LawRoom.eqRoom_same A1 A2 ps n c1 c2 w hl hn hp1 hp2

set_option maxRecDepth 100000 in
set_option maxHeartbeats 800000 in
theorem markRoomB (w : World) (b n : Nat) (hn : n ≤ 1048576) (v : Value) (xs : List Value) (h : w.ownsRow b 49 2 v n xs) :
    Calls Try.prog 22 #[.agg #[v], .int .i64 1] w fun e w' => e = .returned (.int .i64 ((1 + n * 2 : Nat) : Int)) ∧ w'.ownsRow b 49 2 v n (marks 1 (n * 2)) ∧ w.grownBy w' v.ownBlock := by
  have hb1 := PointOk.below1 w (Obj.cells #[v] 37)
  have Q := markP (w.alloc (Obj.cells #[v] 37)) b n 1 hn (by omega) (by omega) _ _ (own_below h hb1)
  obtain ⟨A, c, rfl⟩ := own_shape h
  clear h
  go_enter Try.func22, Try.ntmps22
  go_wp2_with fail
  refine Q.mono ?_
  rintro e w2 ⟨rfl, ho, hg⟩
  have HG := Lib.hid (grown_trans (grown_of_below hb1 (Value.slice A n c).ownBlock) hg)
  have HO := Lib.hid ho
  clear hg hb1 ho
  go_wp2_with fail
  go_ret
  exact ⟨rfl, HO.out, HG.out⟩

set_option maxRecDepth 100000 in
set_option maxHeartbeats 800000 in
theorem heldRoomB (w : World) (b n : Nat) (hn : n ≤ 1048576) (v : Value) (h : w.ownsRow b 49 2 v n (marks 1 (n * 2))) :
    Calls Try.prog 23 #[.agg #[v], .int .i64 1] w fun e w' => e = .returned (.int .i64 ((1 + n * 2 : Nat) : Int)) ∧ Below w.heap.size w w' := by
  have hb1 := PointOk.below1 w (Obj.cells #[v] 37)
  have Q := heldPt (w.alloc (Obj.cells #[v] 37)) b n 1 hn (by omega) (by omega) _ (own_below h hb1)
  obtain ⟨A, c, rfl⟩ := own_shape h
  have h0 : ¬ (((1 + n * 2 : Nat) : Int) < 0) := by omega
  clear h
  unfold HeldP at Q
  go_enter Try.func23, Try.ntmps23
  go_wp2_with fail
  refine Q.mono ?_
  rintro e w2 ⟨rfl, hg⟩
  have HG := Lib.hid (hb1.trans (hg.mono hb1.size))
  clear hg hb1
  go_wp2_with fail
  go_ret
  exact ⟨rfl, HG.out⟩
end Go.Proofs.Ythokeedmccfalaa.LawRes
