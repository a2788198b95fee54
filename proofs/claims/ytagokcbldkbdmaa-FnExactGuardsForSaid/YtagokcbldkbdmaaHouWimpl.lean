/-
  What the landed text says of distances of halls and of lists of halls, as contracts.
-/
import Derived.Test.YtagokcbldkbdmaaHouImpl
import Derived.Test.YtagokcbldkbdmaaHouMathB
namespace Go.Proofs.Ytagokcbldkbdmaa.HouWimpl
open Go.RowKit Pts Blk HouMath HouMathB HouBox HouMem Ints JoinMath
open Go.Proofs.Ytagokcbldkbdmaa.Own (icells icells_length icells_at)
open PointOk (ret_bool ret_i64 below1 below2 below3)

theorem hasHall (H : Int) (A : Option Addr) (n cap : Nat) (x : Int) (w : World) :
    Calls Try.prog 58 #[.agg #[.int .i64 H, .slice A n cap], .int .i64 x] w fun e w' => e = .returned (.bool (inH H x)) ∧ Below w.heap.size w w' := HouImpl.hasHall H A n cap x w

theorem notHall (k : Nat) (H : Int) (A : Option Addr) (n cap : Nat) (x : Int) (W : World) (hB : BoxH W k H A n cap) :
    Calls Try.prog 115 #[.int .i64 x, .pointer (some ⟨k, 0, none⟩)] W fun e w' => e = .returned (.bool (!inH H x)) ∧ Below W.heap.size W w' := by
  have Q := Lib.hid fun w => hasHall H A n cap x w
  generalize inH H x = b at *
  obtain ⟨_, _⟩ := id hB
  go_enter Try.func115, Try.ntmps115
  go_wp2_with fail
  refine (Q.out _).mono ?_
  rintro e w1 ⟨rfl, hb_⟩
  go_wp2_with fail
  go_ret
  exact ⟨rfl, hb_⟩

set_option maxRecDepth 100000 in
set_option maxHeartbeats 1600000 in
theorem areHalls (H : Int) (A : Option Addr) (n cap : Nat) (B : Option Addr) (m cb : Nat) (w : World) (zs : List Int) (hz : zs.length = m) (hm : m ≤ 1048576) (hq : IntsAt w w.heap.size B zs) :
    Calls Try.prog 69 #[.agg #[.int .i64 H, .slice A n cap], .slice B m cb] w fun e w' => e = .returned (.bool (hallsB H zs)) ∧ Below w.heap.size w w' := by
  obtain ⟨r, hr⟩ : ∃ r, hallsB H zs = r := ⟨_, rfl⟩
  have HR := Lib.hid hr
  rw [hr]
  clear hr
  have E : Hid (r = !((List.range m).any fun k => !inH H (zs.getD k 0))) := Lib.hid (by rw [← HR.out, halls_any, hz])
  clear HR
  go_enter Try.func69, Try.ntmps69
  go_wp2_with fail
  have X0 := HouBox.boxH w H A n cap 30 (k := w.heap.size) (by simp)
  have b0 := PointOk.below1 w (Obj.cells #[.int .i64 H, .slice A n cap] 30)
  have HO : ∀ W W' : World, (HouBox.BoxH W (w.heap.size) H A n cap ∧ IntsAt W w.heap.size B zs ∧ Below w.heap.size w W) → Below W.heap.size W W' → (HouBox.BoxH W' (w.heap.size) H A n cap ∧ IntsAt W' w.heap.size B zs ∧ Below w.heap.size w W') := fun W W' ⟨h0, x0, hb⟩ h => ⟨h0.later h, x0.later (h.mono hb.size), hb.trans (h.mono hb.size)⟩
  have hz0_ : Hid (((w.alloc (Obj.cells #[.int .i64 H, .slice A n cap] 30))).heap.size = w.heap.size + 1) := Lib.hid (by simp)
  have Y0 : IntsAt ((w.alloc (Obj.cells #[.int .i64 H, .slice A n cap] 30))) w.heap.size B zs := hq.later b0
  generalize (w.alloc (Obj.cells #[.int .i64 H, .slice A n cap] 30)) = w0 at X0 Y0 b0 hz0_ ⊢
  have S0 := (⟨X0, Y0, b0⟩ : HouBox.BoxH w0 (w.heap.size) H A n cap ∧ IntsAt w0 w.heap.size B zs ∧ Below w.heap.size w w0)
  clear X0 Y0 b0
  obtain ⟨⟨_, _⟩, _, _⟩ := id S0
  have QC := Lib.hid fun eF Q => InNumImpl.containsFunc 115 #[.pointer (some ⟨w.heap.size, 0, none⟩)] (fun k => !inH H (zs.getD k 0)) B m cb w0 zs hz hm (S0.2.1.wide S0.2.2.size) eF Q
  have S1 := S0
  generalize ((List.range m).any fun k => !inH H (zs.getD k 0)) = c at *
  go_wp2_with fail
  refine (QC.out Try.call115 (fun W k hk hb => notHall w.heap.size H A n cap (zs.getD k 0) W (S1.1.later hb))).mono ?_
  rintro e w1 ⟨rfl, hb_⟩
  replace S0 := HO _ _ S0 hb_
  clear QC S1 hb_
  go_wp2_with fail
  go_ret
  exact ⟨ret_bool E.out.symm, S0.2.2⟩

end Go.Proofs.Ytagokcbldkbdmaa.HouWimpl

