/-
  What the rows of this seat that list errors.errorType lean on: the variable's one cell; and a world that meets such a row's list.
-/
import Derived.Test.YtdcekbhfbkiflaaDoorCards
import Derived.Test.YtdcekbhfbkiflaaDoorTie
import Derived.Test.YtdcekbhfbkiflaaDoorGoneImpl
import Derived.WalkKit
import Derived.ProofKit
import Derived.OpenShut
import Derived.LaidMore
import Derived.LaidHandle
import Derived.MakeChecks
import Derived.Stop.LaidErr
import Derived.Deep.DeepHandedRow
import Derived.Deep.DeepWitnessRowRef
import Derived.Lib.LaidTab
namespace Go.Proofs.YtdcekbhfbkiflaaDoor.RowDoor
open Go.ChangeShapes Go.WideShapes Go.ChangeAt Go.RowKit

theorem own : ownKnob Tryd.prog.godebug = none := by kernel_rfl
theorem laidOut : laidOutB Tryd.prog = true := by kernel_rfl
theorem et : Tryd.prog.globalNamed "errors.errorType" = some 1 := by kernel_rfl
theorem rt : (Tryd.prog.cutTypes.find? (·.1 == "internal/reflectlite.rtype")).map (·.2) = some 142 := by kernel_rfl
theorem oneRow : ((List.range Tryd.prog.types.size).filter fun t => Tryd.prog.rowNamed t [101, 114, 114, 111, 114]) = [92] := by kernel_rfl

/-- The list that the rows of this seat bear. -/
def listH : List (String × DataW Unit) := [("errors.errorType", Rows.laid_errors_errorType)]

/-- WHAT THE LIST GIVES: the variable's one cell. -/
theorem handle_of_met {W : World} (h : laidMetH Tryd.prog listH W) : GoneImpl.Laid W := by
  have h' : laidMet Tryd.prog [] W ∧ handlesMet Tryd.prog listH W := h
  obtain ⟨name, u, ty, e1, e2, e3, e4, e5⟩ := h'.2 _ (List.mem_singleton.2 rfl)
  have en : name = [101, 114, 114, 111, 114] := (Option.some.inj e1).symm
  subst en
  obtain rfl := Option.some.inj (rt.symm.trans e2)
  have hm : ty ∈ (List.range Tryd.prog.types.size).filter fun t => Tryd.prog.rowNamed t [101, 114, 114, 111, 114] := List.mem_filter.2 ⟨List.mem_range.2 e3, e4⟩
  rw [oneRow] at hm
  obtain rfl := List.mem_singleton.1 hm
  have hh : typeHandle Tryd.prog 92 = .pointer (some ⟨2, 92, none⟩) := by kernel_rfl
  rw [hh] at e5
  simpa [GoneImpl.Laid] using World.var?_cell et e5 0

noncomputable def doorStart (os : Os) : World := World.doorLaid Tryd.prog 35 os
theorem metH (os : Os) (args : Array Value) : laidMetH Tryd.prog listH ((doorStart os).forCall (fun _ _ => 0) ⟨#[], args, []⟩).memory :=
  laidMetH_of_parts (laidMet_nil _ _) (by kernel_rfl)
end Go.Proofs.YtdcekbhfbkiflaaDoor.RowDoor
