/-
  What the model's DiagonalsOf does, as a contract: the diagonals, in new memory.
-/
import Derived.Test.YtmmmnnncbpdinaaDiagSpec
import Derived.Test.YtmmmnnncbpdinaaDgsMath
import Derived.Test.YtmmmnnncbpdinaaNest
namespace Go.Proofs.Ytmmmnnncbpdinaa.DgsSpec
open Go.RowKit Own PointMath WallMath RoomMath Pts Blk AreaMath PlaceMath FloorMath LineMath CutsMath SightMath DiagMath EdgeMath DgsMath
open PointOk (ret_bool ret_i64 below1 below2 below3)
open Nest (GivesN)

set_option maxRecDepth 100000 in
set_option maxHeartbeats 6400000 in
theorem diagonalsOf (A : Option Addr) (n cap : Nat) (w : World) (ps : List (Int × Int)) (hl : ps.length = n) (hn : n ≤ 1048576) (hp : PtsAt w w.heap.size A ps) :
    Calls Try.prog 42 #[.agg #[.slice A n cap]] w (GivesN w (dgsL ps)) := by
  obtain ⟨r, hr⟩ : ∃ r, dgsL ps = r := ⟨_, rfl⟩
  have HR := Lib.hid hr
  rw [hr]
  clear hr
  have HE0 : Hid (roomB ps = false → r = []) := Lib.hid (fun h => by rw [← HR.out]; unfold dgsL; rw [h]; rfl)
  have HE1 : Hid (roomB ps = true → edgesTo (diagM ps) n n = r) := Lib.hid (fun h => by rw [← HR.out]; unfold dgsL; rw [h, hl]; rfl)
  clear HR
  go_enter Try.func42, Try.ntmps42
  go_wp2_with fail
  have X0 := Pts.boxR w (.slice A n cap) 28 (k := w.heap.size) (by simp)
  have b0 := PointOk.below1 w (Obj.cells #[.slice A n cap] 28)
  have HO : ∀ W W' : World, (Pts.BoxR W (w.heap.size) (.slice A n cap) ∧ PtsAt W w.heap.size A ps ∧ Below w.heap.size w W) → Below W.heap.size W W' → (Pts.BoxR W' (w.heap.size) (.slice A n cap) ∧ PtsAt W' w.heap.size A ps ∧ Below w.heap.size w W') := fun W W' ⟨h0, x0, hb⟩ h => ⟨h0.later h, x0.later (h.mono hb.size), hb.trans (h.mono hb.size)⟩
  have hz0_ : Hid (((w.alloc (Obj.cells #[.slice A n cap] 28))).heap.size = w.heap.size + 1) := Lib.hid (by simp)
  have Y0 : PtsAt ((w.alloc (Obj.cells #[.slice A n cap] 28))) w.heap.size A ps := hp.later b0
  generalize (w.alloc (Obj.cells #[.slice A n cap] 28)) = w0 at X0 Y0 b0 hz0_ ⊢
  have S0 := (⟨X0, Y0, b0⟩ : Pts.BoxR w0 (w.heap.size) (.slice A n cap) ∧ PtsAt w0 w.heap.size A ps ∧ Below w.heap.size w w0)
  clear X0 Y0 b0
  obtain ⟨⟨_, _⟩, _, _⟩ := id S0
  have HO2 : ∀ W W' : World, (Pts.BoxR W (w.heap.size) (.slice A n cap) ∧ PtsAt W w.heap.size A ps ∧ Below w.heap.size w W) → Below (w.heap.size + 1) W W' → (Pts.BoxR W' (w.heap.size) (.slice A n cap) ∧ PtsAt W' w.heap.size A ps ∧ Below w.heap.size w W') := fun W W' ⟨h0, x0, hb⟩ h => ⟨⟨(h.cell (by simp)).trans h0.1, trivial⟩, x0.later (h.mono (by omega)), hb.trans (h.mono (by omega))⟩
  have QR : Hid (∀ W h, _) := Lib.hid fun W h => RoomOkSpec.roomOk A n cap W ps hl hn h
  have hz0 : w.heap.size + 1 ≤ w0.heap.size := World.block_lt_of_cell? _ _ S0.1.1
  have hb0 := below1 w0 (Obj.cells #[] 61)
  have N0 : Nest.Nest (w0.alloc (Obj.cells #[] 61)) (w.heap.size + 1) (w0.alloc (Obj.cells #[] 61)).heap.size (.slice (some ⟨w.heap.size + 1, 0, none⟩) 0 0) [] := by
    have := (Nest.Nest.empty w0).low hz0
    rw [hz0_.out] at this
    exact this
  replace S0 := HO _ _ S0 hb0
  have hz1 := Nat.le_trans hz0 hb0.size
  generalize w0.alloc (Obj.cells #[] 61) = w1 at *
  have N0 := Lib.hid N0
  clear hb0 hz0
  obtain ⟨⟨_, _⟩, _, _⟩ := id S0
  cases hr : roomB ps
  · have E := Lib.hid (HE0.out hr)
    rw [hr] at QR
    clear HE0 HE1 hl
    go_loopw [3, 4] (fun v q wr => v = .slice (some ⟨w.heap.size + 1, 0, none⟩) 0 0 ∧ q = .int .i64 0 ∧ Hid (Nest.Nest wr (w.heap.size + 1) wr.heap.size (.slice (some ⟨w.heap.size + 1, 0, none⟩) 0 0) []) ∧ (Pts.BoxR wr (w.heap.size) (.slice A n cap) ∧ PtsAt wr w.heap.size A ps ∧ Below w.heap.size w wr)) (fun _ _ _ => 0)
    case atStart => exact ⟨rfl, rfl, N0, S0⟩
    case round =>
      clear N0 S0
      obtain ⟨rfl, rfl, N0, S0⟩ := hrel
      obtain ⟨⟨_, _⟩, _, _⟩ := id S0
      by_cases h0 : 0 < n
      · have h0i : (0 : Int) < (n : Int) := by omega
        go_wp2_with fail
        refine (QR.out _ (S0.2.1.wide S0.2.2.size)).mono ?_
        rintro e w3 ⟨rfl, hb_⟩
        replace N0 := Lib.hid ((N0.out.below (Nat.le_refl _) hb_).high hb_.size)
        replace S0 := HO _ _ S0 hb_
        clear hb_ QR
        go_wp2_with fail
        go_ret
        exact ⟨some ⟨w.heap.size + 1, 0, none⟩, 0, by rw [E.out]; rfl, by rw [E.out]; exact N0.out.low (Nat.le_succ _), S0.2.2⟩
      · have h0i : ¬ (0 : Int) < (n : Int) := by omega
        go_wp2_with fail
        go_ret
        exact ⟨some ⟨w.heap.size + 1, 0, none⟩, 0, by rw [E.out]; rfl, by rw [E.out]; exact N0.out.low (Nat.le_succ _), S0.2.2⟩
  have HE := Lib.hid (HE1.out hr)
  have hn10 : n ≤ 10 := by have := (roomB_yes hr).1.2; omega
  rw [hr] at QR
  clear HE0 HE1
  go_loopw [3, 4] (fun v q wr => ∃ i : Nat, i ≤ n ∧ q = .int .i64 i ∧ Hid (Nest.Nest wr (w.heap.size + 1) wr.heap.size v (edgesTo (diagM ps) n i)) ∧ w.heap.size + 1 ≤ wr.heap.size ∧ (Pts.BoxR wr (w.heap.size) (.slice A n cap) ∧ PtsAt wr w.heap.size A ps ∧ Below w.heap.size w wr))
    (fun _ q _ => n - (intOf q).toNat)
  case atStart => exact ⟨0, Nat.zero_le _, rfl, N0, hz1, S0⟩
  case round =>
    clear S0 hz1 N0
    obtain ⟨i, him, rfl, HN, hz, S0⟩ := hrel
    obtain ⟨⟨_, _⟩, _, _⟩ := id S0
    by_cases hlt : i < n
    rotate_left
    · obtain rfl : n = i := by omega
      rw [HE.out] at HN
      obtain ⟨A1, c1, rfl⟩ := HN.out.shape
      have h2 := Lib.hid (HN.out.low (Nat.le_succ w.heap.size))
      clear HE
      go_wp2_with fail
      go_ret
      exact ⟨A1, c1, rfl, h2.out, S0.2.2⟩
    have i0 : (0 : Int) ≤ (i : Int) := by omega
    have i1 : (i : Int) < (n : Int) := by omega
    have u1 : IntKind.i64.wrap ((i : Int) + 1) = (i : Int) + 1 := IntWalk.i64_in _ (by omega)
    have hlen := edgesTo_len (diagM ps) n i
    have him2 : i * n ≤ 100 := Nat.le_trans (Nat.mul_le_mul (show i ≤ 10 by omega) hn10) (by omega)
    have HS : Hid (edgesTo (diagM ps) n (i + 1) = edgesTo (diagM ps) n i ++ edgeRow (diagM ps i) i n) := Lib.hid rfl
    have HS0 : Hid (edgesTo (diagM ps) n i = edgesTo (diagM ps) n i ++ edgeRow (diagM ps i) i (i + 1)) := Lib.hid (by rw [edgeRow_low _ _ _ (Nat.le_refl _), List.append_nil])
    have QD : Hid (∀ (k : Nat) (hk : k < n) W h, _) := Lib.hid fun (k : Nat) (hk : k < n) W h => DiagSpec.diag A n cap i k W ps hl hr hlt hk h
    rw [HS0.out] at HN
    generalize diagM ps i = f at *
    generalize edgesTo (diagM ps) n i = pre at *
    clear HE HS0
    go_wp2_with fail
    refine (QR.out _ (S0.2.1.wide S0.2.2.size)).mono ?_
    rintro e w3 ⟨rfl, hb_⟩
    replace HN := Lib.hid ((HN.out.below (Nat.le_refl _) hb_).high hb_.size)
    replace S0 := HO _ _ S0 hb_
    replace hz := Nat.le_trans hz hb_.size
    clear hb_
    obtain ⟨⟨_, _⟩, _, _⟩ := id S0
    go_wp2_with fail
    go_loopw [3, 5] (fun v q wr => ∃ k : Nat, i + 1 ≤ k ∧ k ≤ n ∧ q = .int .i64 k ∧ Hid (Nest.Nest wr (w.heap.size + 1) wr.heap.size v (pre ++ edgeRow f i k)) ∧ w.heap.size + 1 ≤ wr.heap.size ∧ (Pts.BoxR wr (w.heap.size) (.slice A n cap) ∧ PtsAt wr w.heap.size A ps ∧ Below w.heap.size w wr))
      (fun _ q _ => n - (intOf q).toNat)
    case atStart => exact ⟨i + 1, Nat.le_refl _, by omega, by go_num, HN, hz, S0⟩
    case round =>
      clear HN hz S0
      obtain ⟨k, hik, hkn, rfl, HN, hz, S0⟩ := hrel
      obtain ⟨⟨_, _⟩, _, _⟩ := id S0
      by_cases hst : k < n
      rotate_left
      · obtain rfl : n = k := by omega
        rw [← HS.out] at HN
        clear HS
        go_wp2_with fail
        first
          | exact ⟨⟨i + 1, by omega, by go_num, HN, hz, S0⟩, by simp [intOf]; omega⟩
          | (go_roundw <;> first | exact ⟨i + 1, by omega, by go_num, HN, hz, S0⟩ | (simp [intOf]; omega))
      have k0 : (0 : Int) ≤ (k : Int) := by omega
      have k1 : (k : Int) < (n : Int) := by omega
      have hrl := edgeRow_len f i k
      have HR : Hid (edgeRow f i (k + 1) = if f k then edgeRow f i k ++ [((i : Int), (k : Int))] else edgeRow f i k) := Lib.hid (by
        conv => lhs; unfold edgeRow
        rw [decide_eq_true (show i < k by omega), Bool.true_and])
      have QK := Lib.hid (QD.out k hst)
      have hll : (pre ++ edgeRow f i k).length ≤ 1048575 := by rw [List.length_append]; omega
      generalize f k = b at *
      clear QD HS
      go_wp2_with fail
      refine (QK.out _ (S0.2.1.wide S0.2.2.size)).mono ?_
      rintro e w3 ⟨rfl, hb_⟩
      replace HN := Lib.hid ((HN.out.below (Nat.le_refl _) hb_).high hb_.size)
      replace S0 := HO _ _ S0 hb_
      replace hz := Nat.le_trans hz hb_.size
      clear hb_ QK
      obtain ⟨⟨_, _⟩, _, _⟩ := id S0
      cases b
      · rw [if_neg (by simp)] at HR
        rw [← HR.out] at HN
        clear HR
        go_wp2_with fail
        first
          | exact ⟨⟨k + 1, by omega, by omega, by go_num, HN, hz, S0⟩, by simp [intOf]; omega⟩
          | (go_roundw <;> first | exact ⟨k + 1, by omega, by omega, by go_num, HN, hz, S0⟩ | (simp [intOf]; omega))
      · rw [if_pos rfl] at HR
        have HP : Hid ((pre ++ edgeRow f i k) ++ [((i : Int), (k : Int))] = pre ++ edgeRow f i (k + 1)) := Lib.hid (by rw [HR.out, List.append_assoc])
        generalize pre ++ edgeRow f i k = cur at *
        clear HR
        obtain ⟨Av, cv, rfl⟩ := HN.out.shape
        go_wp2_with (at_builtin; refine Nest.append_pair _ (by rfl) _ _ (by rfl) (w.heap.size + 1) _ cur (by rfl) HN.out (i : Int) (k : Int) (by rfl) hll hz ?_)
        intro v5 w5 h5 hg5
        obtain ⟨gs, _, ho5, _⟩ := HN.out
        have hb5 : Below (w.heap.size + 1) w3 w5 := (Below.refl _ _).grown hg5 hz (fun g hg => (ho5.lt g hg).1)
        rw [HP.out] at h5
        have h5 := Lib.hid h5
        have S5 := HO2 _ _ S0 hb5
        have hz5 := Nat.le_trans hz hb5.size
        clear hg5 hb5 ho5 HN HP S0
        obtain ⟨⟨_, _⟩, _, _⟩ := id S5
        go_wp2_with fail
        first
          | exact ⟨⟨k + 1, by omega, by omega, by go_num, h5, hz5, S5⟩, by simp [intOf]; omega⟩
          | (go_roundw <;> first | exact ⟨k + 1, by omega, by omega, by go_num, h5, hz5, S5⟩ | (simp [intOf]; omega))
end Go.Proofs.Ytmmmnnncbpdinaa.DgsSpec

