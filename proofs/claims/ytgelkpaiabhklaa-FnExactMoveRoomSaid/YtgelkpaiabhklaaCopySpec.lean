/-
  What the model's l04Copy does, as a contract: the room in new memory; no old cell is written.
-/
import Derived.Test.YtgelkpaiabhklaaGround
import Derived.Test.YtgelkpaiabhklaaRoomRes
import Derived.Laws.OwnMore
import Derived.OwnWalk
namespace Go.Proofs.Ytgelkpaiabhklaa.CopySpec
open Go.RowKit Own PointMath WallMath RoomMath Pts Blk RoomRes
open PointOk (ret_bool ret_i64 below1 below2 below3)

theorem infoP : (Try.prog.info? 118).map (fun i => (i.zero, i.size, i.bytes)) = some (some (.agg #[.int .i64 0, .int .i64 0]), 2, 16) := by kernel_rfl
theorem cell_ints : ∀ (ps : List (Int × Int)), ∀ u ∈ cellsP ps, u.oneCell' = true
  | [], u, h => by cases h
  | p :: ps, u, h => by
    simp only [cellsP, List.mem_cons] at h
    rcases h with rfl | rfl | h
    · rfl
    · rfl
    · exact cell_ints ps u h
theorem pts_cells {w : World} {b : Nat} {ad : Addr} {ps : List (Int × Int)} (h : PtsAt w b (some ad) ps) (j : Nat) (u : Value) (hj : (cellsP ps)[j]? = some u) : w.cell? (ad.add j) = some u ∧ ad.block < b := by
  have hlt : j < ps.length * 2 := by rw [← cellsP_length]; exact (List.getElem?_eq_some_iff.1 hj).1
  obtain ⟨ad', e1, hb, h3, h4⟩ := h (j / 2) (by omega)
  injection e1 with e1
  subst e1
  obtain ⟨c0, c1⟩ := cellsP_at ps (j / 2) (by omega)
  refine ⟨?_, hb⟩
  rcases Nat.mod_two_eq_zero_or_one j with hm | hm
  · have ej : j / 2 * 2 = j := by omega
    rw [ej] at h3 c0
    rw [h3, ← hj, c0]
  · have ej : j / 2 * 2 + 1 = j := by omega
    rw [ej] at c1
    rw [← hj, c1, ← h4]
    congr 1
    unfold Addr.add
    rw [if_neg (by omega)]
    split
    · first | (simp; done) | (simp; omega)
    · rename_i hne
      simp only [Addr.mk.injEq, true_and, and_true]
      omega

set_option maxRecDepth 100000 in
set_option maxHeartbeats 1600000 in
theorem copy (ad : Addr) (n cap : Nat) (w : World) (ps : List (Int × Int)) (hl : ps.length = n) (hn : n ≤ 1048576) (hp : PtsAt w w.heap.size (some ad) ps) :
    Calls Try.prog 87 #[.agg #[.slice (some ad) n cap]] w (GivesR 118 w ps) := by
  obtain ⟨i0, hi, hz0, hz1, hz2⟩ := info_parts infoP
  have HOWN : (((w.alloc (Obj.cells #[.slice (some ad) n cap] 50)).alloc (Obj.cells #[.slice none 0 0] 50)).alloc (Obj.cells #[] 118)).ownsRow (w.heap.size + 2) 118 2 (.slice (some ⟨w.heap.size + 1 + 1, 0, none⟩) 0 0) 0 [] := by
    have h := own_empty ((w.alloc (Obj.cells #[.slice (some ad) n cap] 50)).alloc (Obj.cells #[.slice none 0 0] 50)) 118 2
    simpa using h
  have HB3 := Lib.hid (below3 w (Obj.cells #[.slice (some ad) n cap] 50) (Obj.cells #[.slice none 0 0] 50) (Obj.cells #[] 118))
  have HR0 := Lib.hid ((Blk.Holds.box (w.alloc (Obj.cells #[.slice (some ad) n cap] 50)) #[.slice none 0 0] 50 (k := w.heap.size + 1) (by simp)).alloc (Obj.cells #[] 118))
  have HC := Lib.hid (pts_cells hp)
  have HI := Lib.hid (cell_ints ps)
  have HLN : Hid ((cellsP ps).length = n * 2) := Lib.hid (by rw [cellsP_length, hl])
  have HL := Lib.hid hl
  clear hl hp
  go_enter Try.func87, Try.ntmps87
  go_wp2_with (at_builtin; refine wpList_append_own _ rfl _ _ 48 rfl (w.heap.size + 2) 118 i0 _ 2 16 Try.underlying48 hi hz0 hz1 hz2 rfl (by omega) _ _ _ rfl HOWN ad n cap (cellsP ps) rfl ?qc1 ?qc2 ?qc3 ?qc4 ?qc5 ?qc6 ?_)
  case qc1 => exact HLN.out
  case qc2 =>
    intro j u hj
    obtain ⟨h1, h2⟩ := HC.out j u hj
    exact (HB3.out.cell (by rw [block_add]; exact h2)).trans h1
  case qc3 => exact HI.out
  case qc4 => (unfold maxLen; omega)
  case qc5 => omega
  case qc6 => (simp)
  intro v' w1 hown hgrow hnil
  have hb : Below (w.heap.size + 2) (((w.alloc (Obj.cells #[.slice (some ad) n cap] 50)).alloc (Obj.cells #[.slice none 0 0] 50)).alloc (Obj.cells #[] 118)) w1 := (Below.refl _ _).grown hgrow (by simp) (by intro k hk; simp [Value.ownBlock] at hk; omega)
  have hR : Blk.Holds w1 (w.heap.size + 1) #[.slice none 0 0] 50 := (hb.block _ (by omega)).trans HR0.out
  have hbw : Below w.heap.size w w1 := HB3.out.trans (hb.mono (by omega))
  obtain ⟨A1, c1, rfl⟩ := own_shape hown
  clear hgrow hnil hb HOWN HR0 HB3
  obtain ⟨_, _⟩ := hR.one
  have E_ := Blk.set_own hR 0 (.slice A1 n c1)
  obtain ⟨r0_, _⟩ := Blk.Holds.one E_
  have hown4 := Lib.hid (own_set hown (w.heap.size + 1) 0 (.slice A1 n c1) (by omega))
  have hb4 := Lib.hid (hbw.trans (below_set w1 w.heap.size (w.heap.size + 1) 0 (.slice A1 n c1) (by omega)))
  clear hown hR hbw
  go_wp2_with fail
  refine bodyPost_ret (v := .agg #[.slice A1 n c1]) (by simp [results, Try.results87, go_sem, r0_]) rfl ⟨A1, c1, by rw [HL.out], by rw [HL.out]; exact own_base hown4.out (by omega), hb4.out⟩

end Go.Proofs.Ytgelkpaiabhklaa.CopySpec

