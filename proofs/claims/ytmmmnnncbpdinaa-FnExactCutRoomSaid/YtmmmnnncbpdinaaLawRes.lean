/-
  What a law does with a room that came back: held against another, marked, looked at again; as contracts.
-/
import Derived.Test.YtmmmnnncbpdinaaLawInt
import Derived.Test.YtmmmnnncbpdinaaRoomRes
namespace Go.Proofs.Ytmmmnnncbpdinaa.LawRes
open Go.RowKit PointOk Blk Pts Own LawInt RoomRes

set_option maxHeartbeats 800000 in
theorem eqRoomB (w : World) (b1 b2 n : Nat) (hn : n ≤ 1048576) (v1 v2 : Value) (ps : List (Int × Int)) (h1 : w.ownsRow b1 58 2 v1 n (cellsP ps)) (h2 : w.ownsRow b2 58 2 v2 n (cellsP ps)) :
    Calls Try.prog 11 #[.agg #[v1], .agg #[v2]] w fun e w' => e = .returned (.bool true) ∧ Below w.heap.size w w' := by
  obtain ⟨A1, c1, rfl, hl, hp1⟩ := own_pts h1
  obtain ⟨A2, c2, rfl, _, hp2⟩ := own_pts h2
  exact LawRoom.eqRoom_same A1 A2 ps n c1 c2 w hl hn hp1 hp2

set_option maxRecDepth 100000 in
set_option maxHeartbeats 800000 in
theorem markRoomB (w : World) (b n : Nat) (hn : n ≤ 1048576) (v : Value) (xs : List Value) (h : w.ownsRow b 58 2 v n xs) :
    Calls Try.prog 12 #[.agg #[v], .int .i64 1] w fun e w' => e = .returned (.int .i64 ((1 + n * 2 : Nat) : Int)) ∧ w'.ownsRow b 58 2 v n (marks 1 (n * 2)) ∧ w.grownBy w' v.ownBlock := by
  have hb1 := PointOk.below1 w (Obj.cells #[v] 28)
  have Q := markP (w.alloc (Obj.cells #[v] 28)) b n 1 hn (by omega) (by omega) _ _ (own_below h hb1)
  obtain ⟨A, c, rfl⟩ := own_shape h
  clear h
  go_enter Try.func12, Try.ntmps12
  go_wp2_with fail
  refine Q.mono ?_
  rintro e w2 ⟨rfl, ho, hg⟩
  have HG := Lib.hid (grown_trans (grown_of_below hb1 (Value.slice A n c).ownBlock) hg)
  have HO := Lib.hid ho
  clear hg hb1 ho
  go_wp2_with fail
  go_ret
  exact ⟨rfl, HO.out, HG.out⟩

set_option maxRecDepth 100000 in
set_option maxHeartbeats 800000 in
theorem heldRoomB (w : World) (b n : Nat) (hn : n ≤ 1048576) (v : Value) (h : w.ownsRow b 58 2 v n (marks 1 (n * 2))) :
    Calls Try.prog 13 #[.agg #[v], .int .i64 1] w fun e w' => e = .returned (.int .i64 ((1 + n * 2 : Nat) : Int)) ∧ Below w.heap.size w w' := by
  have hb1 := PointOk.below1 w (Obj.cells #[v] 28)
  have Q := heldPt (w.alloc (Obj.cells #[v] 28)) b n 1 hn (by omega) (by omega) _ (own_below h hb1)
  obtain ⟨A, c, rfl⟩ := own_shape h
  have h0 : ¬ (((1 + n * 2 : Nat) : Int) < 0) := by omega
  clear h
  unfold HeldP at Q
  go_enter Try.func13, Try.ntmps13
  go_wp2_with fail
  refine Q.mono ?_
  rintro e w2 ⟨rfl, hg⟩
  have HG := Lib.hid (hb1.trans (hg.mono hb1.size))
  clear hg hb1
  go_wp2_with fail
  go_ret
  exact ⟨rfl, HG.out⟩
end Go.Proofs.Ytmmmnnncbpdinaa.LawRes
