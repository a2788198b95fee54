/-
  How many guards an order of halls needs, as the landed code says it: a contract.
-/
import Derived.Test.YtagokcbldkbdmaaHouYimpl
import Derived.Test.YtagokcbldkbdmaaHouGimpl
import Derived.Deep.RegionHeld3
namespace Go.Proofs.Ytagokcbldkbdmaa.HouBimpl
open Go.RowKit Pts Blk HouMath HouMathB HouMathC HouKeys HouGmath HouBox HouMem Ints JoinMath
open Go.Proofs.Ytagokcbldkbdmaa.Own (own_below GivesI)
open PointOk (ret_bool ret_i64 below1 below2 below3)

theorem ints_take {w : World} {b : Nat} {A : Option Addr} {zs : List Int} (h : IntsAt w b A zs) (k : Nat) : IntsAt w b A (zs.take k) := by
  intro j hj
  rw [List.length_take] at hj
  obtain ⟨ad, h1, h2, h3⟩ := h j (by omega)
  exact ⟨ad, h1, h2, by rw [List.getElem_take]; exact h3⟩
theorem halls_take {H : Int} {zs : List Int} (h : hallsB H zs = true) (k : Nat) : hallsB H (zs.take k) = true := by
  unfold hallsB at h ⊢
  rw [List.all_eq_true] at h ⊢
  exact fun x hx => h x (List.mem_of_mem_take hx)

set_option maxRecDepth 100000 in
set_option maxHeartbeats 3200000 in
theorem guardsFor (H : Int) (A : Option Addr) (n cap : Nat) (B : Option Addr) (m cb : Nat) (w : World) (ds : List (Int × Int)) (hl : ds.length = n) (hn : n ≤ 1048576) (hp : PtsAt w w.heap.size A ds) (zs : List Int) (hz : zs.length = m) (hm : m ≤ 1048576) (hq : IntsAt w w.heap.size B zs) (hcap : m ≤ cb) :
    Calls Try.prog 26 #[.agg #[.int .i64 H, .slice A n cap], .slice B m cb] w fun e w' => e = .returned (.int .i64 (needI H ds zs)) ∧ Below w.heap.size w w' := by
  obtain ⟨r, hr⟩ : ∃ r, needI H ds zs = r := ⟨_, rfl⟩
  have HR := Lib.hid hr
  rw [hr]
  clear hr
  have Q1 : Hid (∀ w hp hq, _) := Lib.hid fun w hp hq => HouYimpl.orderOk H A n cap B m cb w ds hl hn hp zs hz hm hq hcap
  obtain ⟨c, hc⟩ : ∃ c, orderB H ds zs = c := ⟨_, rfl⟩
  rw [hc] at Q1
  cases c
  · have E : Hid (r = -1) := Lib.hid (by rw [← HR.out]; unfold needI; rw [hc]; rfl)
    clear HR hc hl hz
    go_enter Try.func26, Try.ntmps26
    go_wp2_with fail
    have X0 := HouBox.boxH w H A n cap 30 (k := w.heap.size) (by simp)
    have b0 := PointOk.below1 w (Obj.cells #[.int .i64 H, .slice A n cap] 30)
    have HO : ∀ W W' : World, (HouBox.BoxH W (w.heap.size) H A n cap ∧ PtsAt W w.heap.size A ds ∧ IntsAt W w.heap.size B zs ∧ Below w.heap.size w W) → Below W.heap.size W W' → (HouBox.BoxH W' (w.heap.size) H A n cap ∧ PtsAt W' w.heap.size A ds ∧ IntsAt W' w.heap.size B zs ∧ Below w.heap.size w W') := fun W W' ⟨h0, x0, x1, hb⟩ h => ⟨h0.later h, x0.later (h.mono hb.size), x1.later (h.mono hb.size), hb.trans (h.mono hb.size)⟩
    have hz0_ : Hid (((w.alloc (Obj.cells #[.int .i64 H, .slice A n cap] 30))).heap.size = w.heap.size + 1) := Lib.hid (by simp)
    have Y0 : PtsAt ((w.alloc (Obj.cells #[.int .i64 H, .slice A n cap] 30))) w.heap.size A ds := hp.later b0
    have Y1 : IntsAt ((w.alloc (Obj.cells #[.int .i64 H, .slice A n cap] 30))) w.heap.size B zs := hq.later b0
    generalize (w.alloc (Obj.cells #[.int .i64 H, .slice A n cap] 30)) = w0 at X0 Y0 Y1 b0 hz0_ ⊢
    have S0 := (⟨X0, Y0, Y1, b0⟩ : HouBox.BoxH w0 (w.heap.size) H A n cap ∧ PtsAt w0 w.heap.size A ds ∧ IntsAt w0 w.heap.size B zs ∧ Below w.heap.size w w0)
    clear X0 Y0 Y1 b0
    obtain ⟨⟨_, _⟩, _, _, _⟩ := id S0
    refine (Q1.out _ (S0.2.1.wide S0.2.2.2.size) (S0.2.2.1.wide S0.2.2.2.size)).mono ?_
    rintro e w1 ⟨rfl, hb_⟩
    replace S0 := HO _ _ S0 hb_
    clear hb_
    obtain ⟨⟨_, _⟩, _, _, _⟩ := id S0
    go_wp2_with fail
    go_ret
    exact ⟨ret_i64 E.out.symm, S0.2.2.2⟩
  have hord := hc
  unfold orderB at hord
  simp only [Bool.and_eq_true, decide_eq_true_eq] at hord
  have hf := house_form hord.1
  obtain ⟨N, rfl⟩ := Int.eq_ofNat_of_zero_le (show 0 ≤ H by have := hf.h1; omega)
  have HE : Hid (r = needTo N ds zs m) := Lib.hid (by rw [← HR.out, ← hz]; unfold needI; rw [hc]; rfl)
  have QG := Lib.hid fun (k : Nat) (hk : k ≤ m) w hp hq => HouGimpl.guardsIn N A n cap B k cb w ds hl hf hp (zs.take k) (by rw [List.length_take]; omega) (by omega) (halls_take hord.2.2.1 k) hq
  unfold GivesI at QG
  have HNS : Hid (∀ k, needTo N ds zs (k + 1) = max (needTo N ds zs k) (((guardTo N ds (inZ (zs.take k)) N).length : Int) + 1)) := Lib.hid (fun k => rfl)
  have HGL : Hid (∀ f, (guardTo N ds f N).length ≤ N) := Lib.hid (fun f => guardTo_len N ds f N)
  have HNZ : needTo N ds zs 0 = 0 := rfl
  have hN7 : N ≤ 7 := by have := hf.h7; omega
  generalize needTo N ds zs = nd at *
  clear HR hc hl hord hf hz
  go_enter Try.func26, Try.ntmps26
  go_wp2_with fail
  have X0 := HouBox.boxH w N A n cap 30 (k := w.heap.size) (by simp)
  have b0 := PointOk.below1 w (Obj.cells #[.int .i64 N, .slice A n cap] 30)
  have HO : ∀ W W' : World, (HouBox.BoxH W (w.heap.size) N A n cap ∧ PtsAt W w.heap.size A ds ∧ IntsAt W w.heap.size B zs ∧ Below w.heap.size w W) → Below W.heap.size W W' → (HouBox.BoxH W' (w.heap.size) N A n cap ∧ PtsAt W' w.heap.size A ds ∧ IntsAt W' w.heap.size B zs ∧ Below w.heap.size w W') := fun W W' ⟨h0, x0, x1, hb⟩ h => ⟨h0.later h, x0.later (h.mono hb.size), x1.later (h.mono hb.size), hb.trans (h.mono hb.size)⟩
  have hz0_ : Hid (((w.alloc (Obj.cells #[.int .i64 N, .slice A n cap] 30))).heap.size = w.heap.size + 1) := Lib.hid (by simp)
  have Y0 : PtsAt ((w.alloc (Obj.cells #[.int .i64 N, .slice A n cap] 30))) w.heap.size A ds := hp.later b0
  have Y1 : IntsAt ((w.alloc (Obj.cells #[.int .i64 N, .slice A n cap] 30))) w.heap.size B zs := hq.later b0
  generalize (w.alloc (Obj.cells #[.int .i64 N, .slice A n cap] 30)) = w0 at X0 Y0 Y1 b0 hz0_ ⊢
  have S0 := (⟨X0, Y0, Y1, b0⟩ : HouBox.BoxH w0 (w.heap.size) N A n cap ∧ PtsAt w0 w.heap.size A ds ∧ IntsAt w0 w.heap.size B zs ∧ Below w.heap.size w w0)
  clear X0 Y0 Y1 b0
  obtain ⟨⟨_, _⟩, _, _, _⟩ := id S0
  refine (Q1.out _ (S0.2.1.wide S0.2.2.2.size) (S0.2.2.1.wide S0.2.2.2.size)).mono ?_
  rintro e w1 ⟨rfl, hb_⟩
  replace S0 := HO _ _ S0 hb_
  clear hb_
  obtain ⟨⟨_, _⟩, _, _, _⟩ := id S0
  go_wp2_with fail
  go_loopw [5, 13] (fun n0 i wr => ∃ k : Nat, k ≤ m ∧ i = .int .i64 k ∧ n0 = .int .i64 (nd k) ∧ (HouBox.BoxH wr (w.heap.size) N A n cap ∧ PtsAt wr w.heap.size A ds ∧ IntsAt wr w.heap.size B zs ∧ Below w.heap.size w wr))
    (fun _ i _ => m - (intOf i).toNat)
  case atStart => exact ⟨0, Nat.zero_le _, rfl, by rw [HNZ], S0⟩
  case round =>
    clear S0 HNZ Q1
    obtain ⟨k, hkm, rfl, rfl, S0⟩ := hrel
    obtain ⟨⟨_, _⟩, _, _, _⟩ := id S0
    by_cases hlt : k < m
    rotate_left
    · obtain rfl : m = k := by omega
      clear HNS HGL QG
      go_wp2_with fail
      go_ret
      exact ⟨ret_i64 HE.out.symm, S0.2.2.2⟩
    have hk1 : (k : Int) < (m : Int) := by omega
    have hk0 : (0 : Int) ≤ (k : Int) := by omega
    have hkc : (k : Int) ≤ (cb : Int) := by omega
    have hkc2 : k ≤ cb := by omega
    have HN1 := HNS.out k
    have hgl := HGL.out (inZ (zs.take k))
    have QK := Lib.hid (QG.out k hkm)
    generalize guardTo N ds (inZ (zs.take k)) N = gl at *
    obtain ⟨g, hg⟩ : ∃ g, gl.length = g := ⟨_, rfl⟩
    rw [hg] at QK HN1 hgl
    obtain ⟨n0, hn0⟩ : ∃ x, nd k = x := ⟨_, rfl⟩
    rw [hn0] at HN1 ⊢
    replace HN1 := Lib.hid HN1
    have u1 : IntKind.i64.wrap ((g : Int) + 1) = (g : Int) + 1 := IntWalk.i64_in _ (by omega)
    clear HNS HGL QG hg hn0 HE
    go_wp2_with fail
    have S0_ := HO _ _ S0 ((Below.refl _ _).drew)
    have HS0_ : wr.drew.cell? ⟨w.heap.size, 0, none⟩ = some (.int .i64 N) ∧ wr.drew.cell? ⟨w.heap.size, 1, none⟩ = some (.slice A n cap) := (by obtain ⟨⟨_, _⟩, _, _, _⟩ := id S0_; exact ⟨by assumption, by assumption⟩)
    go_region_held3 (fun W => W.cell? ⟨w.heap.size, 0, none⟩ = some (.int .i64 N) ∧ W.cell? ⟨w.heap.size, 1, none⟩ = some (.slice A n cap)) (first | exact HS0_ | assumption) (first | (go_at_call 70; refine (QK.out _ (S0_.2.1.wide S0_.2.2.2.size) (ints_take (S0_.2.2.1.wide S0_.2.2.2.size) k)).mono ?_; rintro e w2 ⟨A2, c2, rfl, HL, hb0_⟩; have S1_ := HO _ _ S0_ hb0_; have HL_1 := HL; have HS1_ : w2.cell? ⟨w.heap.size, 0, none⟩ = some (.int .i64 N) ∧ w2.cell? ⟨w.heap.size, 1, none⟩ = some (.slice A n cap) := (by obtain ⟨⟨_, _⟩, _, _, _⟩ := id S1_; exact ⟨by assumption, by assumption⟩)))
    replace S0 := S1_
    have HL := HL_1
    obtain ⟨⟨_, _⟩, _, _, _⟩ := id S0
    go_wp2_with fail
    first
      | exact ⟨⟨k + 1, by omega, by go_num, by rw [HN1.out], S0⟩, by simp [intOf]; omega⟩
      | (go_roundw <;> first | exact ⟨k + 1, by omega, by go_num, by rw [HN1.out], S0⟩ | (simp [intOf]; omega))
end Go.Proofs.Ytagokcbldkbdmaa.HouBimpl

