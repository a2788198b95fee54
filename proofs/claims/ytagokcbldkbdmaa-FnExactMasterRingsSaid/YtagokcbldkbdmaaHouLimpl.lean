/-
  What the landed text says of halls that are linked among themselves, as a contract.
-/
import Derived.Test.YtagokcbldkbdmaaHouFilt
import Derived.Test.YtagokcbldkbdmaaHouWimpl
import Derived.Deep.RegionHeld3
namespace Go.Proofs.Ytagokcbldkbdmaa.HouLimpl
open Go.RowKit Pts Blk HouMath HouMathB HouReach HouLink HouFilt HouBox HouMem Ints JoinMath
open Go.Proofs.Ytagokcbldkbdmaa.Own (icells icells_length icells_at icells_snoc own_shape own_cell own_below own_base own_empty GivesC)
open PointOk (ret_bool ret_i64 below1 below2 below3)

/-- The boxes of the call: the house and the list. -/
def LL (w : World) (H : Int) (A : Option Addr) (n cap : Nat) (ds : List (Int × Int)) (B : Option Addr) (m cb : Nat) (zs : List Int) (W : World) : Prop :=
  Holds W w.heap.size #[.int .i64 H, .slice A n cap] 30 ∧ Holds W (w.heap.size + 1) #[.slice B m cb] 26 ∧ PtsAt W w.heap.size A ds ∧ IntsAt W w.heap.size B zs ∧ Below w.heap.size w W
section
variable {w : World} {H : Int} {A : Option Addr} {n cap : Nat} {ds : List (Int × Int)} {B : Option Addr} {m cb : Nat} {zs : List Int}
theorem LL.later {W W' : World} (h : LL w H A n cap ds B m cb zs W) (hb : Below W.heap.size W W') : LL w H A n cap ds B m cb zs W' :=
  ⟨h.1.later hb, h.2.1.later hb, h.2.2.1.later (hb.mono h.2.2.2.2.size), h.2.2.2.1.later (hb.mono h.2.2.2.2.size), h.2.2.2.2.trans (hb.mono h.2.2.2.2.size)⟩
theorem LL.start (hp : PtsAt w w.heap.size A ds) (hq : IntsAt w w.heap.size B zs) : LL w H A n cap ds B m cb zs ((w.alloc (.cells #[.int .i64 H, .slice A n cap] 30)).alloc (.cells #[.slice B m cb] 26)) := by
  have hb := below2 w (.cells #[.int .i64 H, .slice A n cap] 30) (.cells #[.slice B m cb] 26)
  exact ⟨(Holds.new _ _ _).alloc _, Holds.box _ _ _ (by simp), hp.later hb, hq.later hb, hb⟩
theorem LL.cells {W : World} (h : LL w H A n cap ds B m cb zs W) :
    W.cell? ⟨w.heap.size, 0, none⟩ = some (.int .i64 H) ∧ W.cell? ⟨w.heap.size, 1, none⟩ = some (.slice A n cap) ∧ W.cell? ⟨w.heap.size + 1, 0, none⟩ = some (.slice B m cb) :=
  ⟨h.1.two.1.1, h.1.two.1.2, h.2.1.one.1⟩
theorem LL.pts {W : World} (h : LL w H A n cap ds B m cb zs W) : PtsAt W W.heap.size A ds := h.2.2.1.wide h.2.2.2.2.size
theorem LL.ints {W : World} (h : LL w H A n cap ds B m cb zs W) : IntsAt W W.heap.size B zs := h.2.2.2.1.wide h.2.2.2.2.size
theorem LL.lt {W : World} (h : LL w H A n cap ds B m cb zs W) : w.heap.size + 1 < W.heap.size := h.2.1.lt
end

/-- A row of the call's own stays when an elder block of two cells is filled. -/
theorem own_far {w : World} {b e sz n : Nat} {v : Value} {xs : List Value} (h : w.ownsRow b e sz v n xs) (k : Nat) (hk : k < b) (x y : Value) : ((w.setCell ⟨k, 0, none⟩ x).setCell ⟨k, 1, none⟩ y).ownsRow b e sz v n xs :=
  Own.kept_ne (Own.kept_ne h (grown_set w k 0 x) (fun j hj => by have := (h.lt j hj).1; omega)) (grown_set _ k 1 y) (fun j hj => by have := (h.lt j hj).1; omega)

end Go.Proofs.Ytagokcbldkbdmaa.HouLimpl
