/-
  slices.Reverse over points in memory of the caller's own, as a contract: the row holds them from the last to the first.
-/
import Derived.Test.YtgelkpaiabhklaaRevMath
import Derived.Test.YtgelkpaiabhklaaRoomRes
import Derived.Test.YtgelkpaiabhklaaGround
import Derived.Laws.OwnMore
import Derived.WalkKit
import Derived.Deep.LoopGhost
import Derived.BigRegion
import Derived.ProofKit
namespace Go.Proofs.Ytgelkpaiabhklaa.RevImpl
open Go.RowKit Own PointMath WallMath RoomMath Pts Blk RoomRes RevMath
open PointOk (ret_bool ret_i64 below1 below2 below3)

theorem infoP : (Try.prog.info? 118).map (fun i => (i.zero, i.size, i.bytes)) = some (some (.agg #[.int .i64 0, .int .i64 0]), 2, 16) := by kernel_rfl

set_option maxRecDepth 100000 in
set_option maxHeartbeats 4000000 in
theorem reverse (base g n cap : Nat) (ps : List (Int × Int)) (hl : ps.length = n) (hn : n ≤ 1048576) (w : World)
    (h : w.ownsRow base 118 2 (.slice (some ⟨g, 0, none⟩) n cap) n (cellsP ps)) :
    Calls Try.prog 84 #[.slice (some ⟨g, 0, none⟩) n cap] w fun e w' =>
      e = .returned (.tuple #[]) ∧ w'.ownsRow base 118 2 (.slice (some ⟨g, 0, none⟩) n cap) n (cellsP ps.reverse) ∧ w.grownBy w' (some g) := by
  obtain ⟨i0, hi, hz0, hz1, hz2⟩ := info_parts infoP
  have h := Lib.hid h
  go_enter Try.func84, Try.ntmps84
  have un1 : IntKind.i64.wrap ((n : Int) - 1) = (n : Int) - 1 := IntWalk.i64_in _ (by omega)
  go_wp2_with fail
  go_loopg [2, 3] n (fun k s2 s3 wr => ∃ (i : Nat) (qs : List (Int × Int)), s2 = .int .i64 i ∧ s3 = .int .i64 ((n : Int) - 1 - i) ∧ 2 * i ≤ n ∧ n - 2 * i ≤ k ∧ RevTo i ps qs ∧
    wr.ownsRow base 118 2 (.slice (some ⟨g, 0, none⟩) n cap) n (cellsP qs) ∧ w.grownBy wr (some g))
  case atStart => exact ⟨0, ps, rfl, by go_num, by omega, by omega, revTo_zero ps, h.out, ⟨rfl, rfl, rfl, Nat.le_refl _, fun _ _ _ => rfl⟩⟩
  case round =>
    obtain ⟨i, qs, rfl, rfl, hi2, hk, hrev, hown, hgr⟩ := hrel
    clear un1
    by_cases hlt : (i : Int) < (n : Int) - 1 - (i : Int)
    · obtain ⟨m, hm⟩ : ∃ m, ps.length - 1 - i = m := ⟨_, rfl⟩
      have em : (n : Int) - 1 - (i : Int) = (m : Int) := by omega
      rw [em] at hlt ⊢
      have hlq : qs.length = n := by rw [hrev.1, hl]
      have him : i < n := by omega
      have hmn : m < n := by omega
      have hi1 : (i : Int) < (n : Int) := by omega
      have hi0 : (0 : Int) ≤ (i : Int) := by omega
      have hm1 : (m : Int) < (n : Int) := by omega
      have hm0 : (0 : Int) ≤ (m : Int) := by omega
      have um : IntKind.i64.wrap ((m : Int) - 1) = (m : Int) - 1 := IntWalk.i64_in _ (by omega)
      have ui : IntKind.i64.wrap ((i : Int) + 1) = (i : Int) + 1 := IntWalk.i64_in _ (by omega)
      obtain ⟨a0, a1⟩ := cellsP_at qs i (by omega)
      obtain ⟨b0, b1⟩ := cellsP_at qs m (by omega)
      have ha : qs[i]? = some qs[i] := List.getElem?_eq_getElem (by omega)
      have hb : qs[m]? = some qs[m] := List.getElem?_eq_getElem (by omega)
      have HN := Lib.hid (revTo_step hrev hm (by omega) (by omega) ha hb)
      clear hrev ha hb
      generalize qs[i] = a at *
      generalize qs[m] = b at *
      obtain ⟨ax, ay⟩ := a
      obtain ⟨bx, b_y⟩ := b
      have c0 := (hown.cellAt (i * 2) (by omega)).trans a0
      have c1 := (hown.cellAt (i * 2 + 1) (by omega)).trans a1
      have d0 := (hown.cellAt (m * 2) (by omega)).trans b0
      have d1 := (hown.cellAt (m * 2 + 1) (by omega)).trans b1
      have f0 := hown.frozenAt (i * 2)
      have f1 := hown.frozenAt (i * 2 + 1)
      have f2 := hown.frozenAt (m * 2)
      have f3 := hown.frozenAt (m * 2 + 1)
      have hown := Lib.hid hown
      have hgr := Lib.hid hgr
      have hk := Lib.hid hk
      clear a0 a1 b0 b1 h
      go_wp2_with fail
      go_region
      go_wp2_with fail
      obtain ⟨w1, g1⟩ := World.ownsRow.stored hown.out (i * 2) (.int .i64 bx)
      obtain ⟨w2, g2⟩ := World.ownsRow.stored w1 (i * 2 + 1) (.int .i64 b_y)
      obtain ⟨w3, g3⟩ := World.ownsRow.stored w2 (m * 2) (.int .i64 ax)
      obtain ⟨w4, g4⟩ := World.ownsRow.stored w3 (m * 2 + 1) (.int .i64 ay)
      rw [cellsP_set, cellsP_set] at w4
      have G4 := grown_trans (grown_trans (grown_trans (grown_trans hgr.out g1) g2) g3) g4
      have W4 := Lib.hid w4
      have G4 := Lib.hid G4
      clear w1 w2 w3 w4 g1 g2 g3 g4 c0 c1 d0 d1 f0 f1 f2 f3
      have hk := hk.out
      go_roundg (n - 2 * (i + 1))
      case measure => omega
      case rel => exact ⟨i + 1, _, by go_num, by go_num, by omega, by omega, HN.out, own_below W4.out ⟨rfl, rfl, rfl, Nat.le_refl _, fun _ _ => rfl⟩, ⟨G4.out.os, G4.out.tape, G4.out.output, G4.out.size, G4.out.block⟩⟩
    · have HN := Lib.hid (revTo_end hrev (by omega))
      have hown := Lib.hid hown
      have hgr := Lib.hid hgr
      clear hrev h
      go_wp2_with fail
      go_end0
      exact ⟨rfl, by rw [← HN.out]; exact hown.out, hgr.out⟩

end Go.Proofs.Ytgelkpaiabhklaa.RevImpl
