/-
  What slices.AppendSeq and slices.Collect do over the halls behind a hall's doors.
-/
import Derived.Test.YtagokcbldkbdmaaHouDist
import Derived.RangeFuncBox
namespace Go.Proofs.Ytagokcbldkbdmaa.HouSeq
open Go.RowKit Go.Shelf PointOk Blk Pts HouMath HouIter HouMem HouDist
open Go.Proofs.Ytagokcbldkbdmaa.Own (icells icells_length icells_at icells_snoc own_base)
attribute [local go_sem] Oper.semAt_some

/-- Halls as numbers. -/
def ci (l : List Nat) : List Int := l.map fun (y : Nat) => (y : Int)
theorem ci_len (l : List Nat) : (ci l).length = l.length := by simp [ci]
theorem ci_snoc (l : List Nat) (x : Nat) : icells (ci (l ++ [x])) = icells (ci l) ++ [.int .i64 (x : Int)] := by simp [ci, icells]
/-- What an append to a slice in a box of one's own leaves. -/
theorem app_keep {base B b : Nat} {t e : TypeId} {W w1 : World} {v v' : Value} {k m : Nat} {xs ys : List Value} {cs : Array Value}
    (hB : Boxed W B t v) (hte : t ≠ e) (hbB : base ≤ B) (hb : base ≤ W.heap.size) (hrow : W.ownsRow base e 1 v k xs) (hb2 : b < base) (hT : t ≠ 134) (hE : e ≠ 134)
    (hown : w1.ownsRow base e 1 v' m ys) (hg : (W.alloc (.cells cs e)).grownBy w1 v.ownBlock) :
    KeepsOthers W (w1.setCell ⟨B, 0, none⟩ v') ∧ Kp base b W (w1.setCell ⟨B, 0, none⟩ v') := by
  have hA := Boxed.appended (tmp := .cells cs e) hB hte hrow hb hbB hown hg
  have k1 : Keep base b W (W.alloc (.cells cs e)) := (Keep.refl base b W).alloc hb _
  have k2 : Keep base b W w1 := by
    rcases (hrow.alloc (.cells cs e)).2 with ⟨hv, _⟩ | ⟨g, cap, cur, hv, hbg, hgb, _⟩
    · have hn : v.ownBlock = none := by rw [hv]; rfl
      rw [hn] at hg
      have hg2 : (W.alloc (.cells cs e)).grownBy w1 (some W.heap.size) := ⟨hg.os, hg.tape, hg.output, hg.size, fun i hi _ => hg.block i hi (by simp)⟩
      exact k1.grown hg2 (Holds.new W cs e) hE (by simp; omega) hb (by omega)
    · have hn : v.ownBlock = some g := by rw [hv]; rfl
      rw [hn] at hg
      exact k1.grown hg hgb hE (by simp; omega) hbg (by omega)
  have k3 : Keep base b W (w1.setCell ⟨B, 0, none⟩ v') := k2.set (k := 0) (cs := #[v]) hA.1 hT hbB (by omega) v'
  exact ⟨k3.others, k3.kp⟩
theorem infoS : (Try.prog.info? 3).map (fun i => (i.zero, i.size, i.bytes)) = some (some (.int .i64 0), 1, 8) := by kernel_rfl
theorem tyS : (26 : Nat) ≠ 3 ∧ (26 : Nat) ≠ 134 ∧ (3 : Nat) ≠ 134 := by decide

end Go.Proofs.Ytagokcbldkbdmaa.HouSeq
