/-
  What a law does with two rooms that came back: marks and reads them from any number on; rows between two blocks.
-/
import Derived.Test.YtmmmnnncbpdinaaLawRes
namespace Go.Proofs.Ytmmmnnncbpdinaa.LawCut
open Go Go.RowKit PointOk Blk Pts Own LawInt RoomRes LawRes

/-- A row of points whose block, if it has one, lies from lo on and below hi. -/
def RowIn (W : World) (lo hi : Nat) (v : Value) (m : Nat) (L : List Value) : Prop := W.ownsRow lo 58 2 v m L ∧ (∀ k, v.ownBlock = some k → k < hi) ∧ hi ≤ W.heap.size
theorem RowIn.later {W W' : World} {lo hi m : Nat} {v : Value} {L : List Value} (h : RowIn W lo hi v m L) (hb : Below W.heap.size W W') : RowIn W' lo hi v m L := ⟨own_below h.1 hb, h.2.1, Nat.le_trans h.2.2 hb.size⟩
theorem RowIn.keptLow {W W' : World} {lo hi m : Nat} {v : Value} {L : List Value} (h : RowIn W lo hi v m L) {o : Option Nat} (hg : W.grownBy W' o) (hl : ∀ g, o = some g → hi ≤ g) : RowIn W' lo hi v m L := by
  refine ⟨h.1.kept hg ?_, h.2.1, Nat.le_trans h.2.2 hg.size⟩
  cases ho : v.ownBlock with
  | none => exact .inl rfl
  | some k0 => exact .inr (fun e => by have := h.2.1 k0 ho; have := hl k0 e.symm; omega)
theorem RowIn.keptHigh {W W' : World} {lo hi m : Nat} {v : Value} {L : List Value} (h : RowIn W lo hi v m L) {o : Option Nat} (hg : W.grownBy W' o) (hl : ∀ g, o = some g → g < lo) : RowIn W' lo hi v m L := by
  refine ⟨h.1.kept hg ?_, h.2.1, Nat.le_trans h.2.2 hg.size⟩
  cases ho : v.ownBlock with
  | none => exact .inl rfl
  | some k0 => exact .inr (fun e => by have := (h.1.lt k0 ho).1; have := hl k0 e.symm; omega)

set_option maxRecDepth 100000 in
set_option maxHeartbeats 800000 in
theorem markRoomK (w : World) (b n k : Nat) (hn : n ≤ 1048576) (hk : 0 < k) (hk2 : k ≤ 100000) (v : Value) (xs : List Value) (h : w.ownsRow b 58 2 v n xs) :
    Calls Try.prog 12 #[.agg #[v], .int .i64 (k : Int)] w fun e w' => e = .returned (.int .i64 ((k + n * 2 : Nat) : Int)) ∧ w'.ownsRow b 58 2 v n (marks k (n * 2)) ∧ w.grownBy w' v.ownBlock := by
  have hb1 := PointOk.below1 w (Obj.cells #[v] 28)
  have Q := markP (w.alloc (Obj.cells #[v] 28)) b n k hn hk hk2 _ _ (own_below h hb1)
  obtain ⟨A, c, rfl⟩ := own_shape h
  clear h
  go_enter Try.func12, Try.ntmps12
  go_wp2_with fail
  refine Q.mono ?_
  rintro e w2 ⟨rfl, ho, hg⟩
  have HG := Lib.hid (grown_trans (grown_of_below hb1 (Value.slice A n c).ownBlock) hg)
  have HO := Lib.hid ho
  clear hg hb1 ho
  go_wp2_with fail
  go_ret
  exact ⟨rfl, HO.out, HG.out⟩

set_option maxRecDepth 100000 in
set_option maxHeartbeats 800000 in
theorem heldRoomK (w : World) (b n k : Nat) (hn : n ≤ 1048576) (hk : 0 < k) (hk2 : k ≤ 100000) (v : Value) (h : w.ownsRow b 58 2 v n (marks k (n * 2))) :
    Calls Try.prog 13 #[.agg #[v], .int .i64 (k : Int)] w fun e w' => e = .returned (.int .i64 ((k + n * 2 : Nat) : Int)) ∧ Below w.heap.size w w' := by
  have hb1 := PointOk.below1 w (Obj.cells #[v] 28)
  have Q := heldPt (w.alloc (Obj.cells #[v] 28)) b n k hn hk hk2 _ (own_below h hb1)
  obtain ⟨A, c, rfl⟩ := own_shape h
  have h0 : ¬ (((k + n * 2 : Nat) : Int) < 0) := by omega
  clear h
  unfold HeldP at Q
  go_enter Try.func13, Try.ntmps13
  go_wp2_with fail
  refine Q.mono ?_
  rintro e w2 ⟨rfl, hg⟩
  have HG := Lib.hid (hb1.trans (hg.mono hb1.size))
  clear hg hb1
  go_wp2_with fail
  go_ret
  exact ⟨rfl, HG.out⟩
end Go.Proofs.Ytmmmnnncbpdinaa.LawCut
