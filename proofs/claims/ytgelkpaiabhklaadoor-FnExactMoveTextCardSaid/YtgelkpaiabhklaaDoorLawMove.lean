/-
  The law's own copy of a Move, and of a slice of them, as contracts.
-/
import Derived.Test.YtgelkpaiabhklaaDoorGround
import Derived.Test.YtgelkpaiabhklaaDoorLawRoom
import Derived.Test.YtgelkpaiabhklaaDoorTup4
import Derived.Test.YtgelkpaiabhklaaDoorLawInt
namespace Go.Proofs.YtgelkpaiabhklaaDoor.LawMove
open Go.RowKit PointOk Blk Tup4 Go.Lib Own LawInt

theorem facts {w : World} {k : Nat} {v0 v1 v2 v3 : Value} {T : TypeId} (h : Holds w k #[v0, v1, v2, v3] T) :
    (w.cell? ⟨k, 0, none⟩ = some v0 ∧ w.cell? ⟨k, 1, none⟩ = some v1 ∧ w.cell? ⟨k, 2, none⟩ = some v2 ∧ w.cell? ⟨k, 3, none⟩ = some v3) ∧ w.frozen? ⟨k, 0, none⟩ = false ∧ w.frozen? ⟨k, 1, none⟩ = false ∧ w.frozen? ⟨k, 2, none⟩ = false ∧ w.frozen? ⟨k, 3, none⟩ = false := by
  have c0 := cell_of_row w k 0 _ _ _ h
  have c1 := cell_of_row w k 1 _ _ _ h
  have c2 := cell_of_row w k 2 _ _ _ h
  have c3 := cell_of_row w k 3 _ _ _ h
  unfold Holds at h
  simp at c0 c1 c2 c3
  exact ⟨⟨c0, c1, c2, c3⟩, by simp [World.frozen?, h], by simp [World.frozen?, h], by simp [World.frozen?, h], by simp [World.frozen?, h]⟩

set_option maxHeartbeats 800000 in
theorem toMove (z0 z1 z2 z3 : Int) (w : World) : Calls Tryd.prog 7 #[.agg #[.int .i64 z0, .int .i64 z1, .int .i64 z2, .int .i64 z3]] w fun e w' => e = .returned (.agg #[.int .i64 z0, .int .i64 z1, .int .i64 z2, .int .i64 z3]) ∧ Below w.heap.size w w' := by
  go_enter Tryd.func7, Tryd.ntmps7
  go_wp2_with fail
  refine bodyPost_ret (v := .agg #[.int .i64 z0, .int .i64 z1, .int .i64 z2, .int .i64 z3]) (by simp [results, Tryd.results7, go_sem]) rfl ⟨rfl, ?_⟩
  exact below3 _ _ _ _

theorem infoMove : (Tryd.prog.info? 25).map (fun i => (i.zero, i.size, i.bytes)) = some (some (.agg #[.int .i64 0, .int .i64 0, .int .i64 0, .int .i64 0]), 4, 32) := by kernel_rfl
theorem own_of_row {w : World} {g n b : Nat} {T : TypeId} {ps : List Tu} (h : Row w g T ps) (hl : ps.length = n) (hn : n ≤ 1048576) (hb : b ≤ g) : w.ownsRow b T 4 (.slice (some ⟨g, 0, none⟩) n n) n (cellsT ps) :=
  ⟨by rw [cellsT_length, hl], .inr ⟨g, n, _, rfl, hb, h, Nat.le_refl _, by unfold maxLen; omega, by simp [cellsT_length, hl], List.take_of_length_le (by simp [cellsT_length, hl])⟩⟩

end Go.Proofs.YtgelkpaiabhklaaDoor.LawMove

