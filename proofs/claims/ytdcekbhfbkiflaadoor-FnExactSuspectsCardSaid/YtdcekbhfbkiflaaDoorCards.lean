/-
  DERIVED. GIVEN WITH THE SEED: THE CARDS: each row of YtdcekbhfbkiflaaDoorRows.lean that lists a variable, with what it lists TIED to the program's text (the seventh form; the later family's looks); each row that meets fmt, with fmt's text TOLD by the authors' own Lean function (tested against real Go, not proved from fmt's source: count such statements apart). THE CARD IS WHAT COUNTS. Prove the row's statement (the work); the ties are given (YtdcekbhfbkiflaaDoorTie.lean); close each card by the builder's one call (the guide's Derived/Test/ToyasCard.lean, 'card_holds'). Laid BY PROGRAM, IN A SANDBOX (cutbox-door.mjs). By AI agents, Wed Nov 11 2026. No macro, syntax, notation, axiom, sorry.
-/
import Derived.Test.YtdcekbhfbkiflaaDoorRows
import GoSem.ClaimSeven
namespace Go.Proofs.YtdcekbhfbkiflaaDoor
namespace Rows

/-- THE TIED CARD OF 'laws.FnExactFirstMissed'. -/
def fnExactFirstMissedCard : Claim7 := { stood := { row := fnExactFirstMissedRow, standIns := [], harness := (true, "9e981d23a042ebfdaa56d57baad0568cb7cd7e7dd3a32137e158141546e3e554"), looks := true }, kinds := [], alts := [], laidByText := true, laidKinds := [.handle], laidTests := true, laidLooks := .later }
def FnExactFirstMissedCardSaid : Prop := Claim7.holds Tryd.pinned (.plain (OpenSpec.ofChange fnExactFirstMissedSpec)) fnExactFirstMissedCard

/-- THE TIED CARD OF 'laws.FnExactIsMissing'. -/
def fnExactIsMissingCard : Claim7 := { stood := { row := fnExactIsMissingRow, standIns := [], harness := (true, "9e981d23a042ebfdaa56d57baad0568cb7cd7e7dd3a32137e158141546e3e554"), looks := true }, kinds := [], alts := [], laidByText := true, laidKinds := [.handle], laidTests := true, laidLooks := .later }
def FnExactIsMissingCardSaid : Prop := Claim7.holds Tryd.pinned (.plain (OpenSpec.ofChange fnExactIsMissingSpec)) fnExactIsMissingCard

/-- THE TIED CARD OF 'laws.FnExactMissingObjects'. -/
def fnExactMissingObjectsCard : Claim7 := { stood := { row := fnExactMissingObjectsRow, standIns := [], harness := (true, "9e981d23a042ebfdaa56d57baad0568cb7cd7e7dd3a32137e158141546e3e554"), looks := true }, kinds := [], alts := [], laidByText := true, laidKinds := [.handle], laidTests := true, laidLooks := .later }
def FnExactMissingObjectsCardSaid : Prop := Claim7.holds Tryd.pinned (.plain (OpenSpec.ofChange fnExactMissingObjectsSpec)) fnExactMissingObjectsCard

/-- THE TIED CARD OF 'laws.FnExactSuspects'. -/
def fnExactSuspectsCard : Claim7 := { stood := { row := fnExactSuspectsRow, standIns := [], harness := (true, "9e981d23a042ebfdaa56d57baad0568cb7cd7e7dd3a32137e158141546e3e554"), looks := true }, kinds := [], alts := [], laidByText := true, laidKinds := [.handle], laidTests := true, laidLooks := .later }
def FnExactSuspectsCardSaid : Prop := Claim7.holds Tryd.pinned (.plain (OpenSpec.ofChange fnExactSuspectsSpec)) fnExactSuspectsCard

/-- THE TIED CARD OF 'laws.FnExactCanMove'. -/
def fnExactCanMoveCard : Claim7 := { stood := { row := fnExactCanMoveRow, standIns := [], harness := (true, "9e981d23a042ebfdaa56d57baad0568cb7cd7e7dd3a32137e158141546e3e554"), looks := true }, kinds := [], alts := [], laidByText := true, laidKinds := [.sentinel], laidTests := true, laidLooks := .later }
def FnExactCanMoveCardSaid : Prop := Claim7.holds Tryd.pinned (.plain (OpenSpec.ofChange fnExactCanMoveSpec)) fnExactCanMoveCard

/-- THE TIED CARD OF 'laws.FnExactMoveObject'. -/
def fnExactMoveObjectCard : Claim7 := { stood := { row := fnExactMoveObjectRow, standIns := [], harness := (true, "9e981d23a042ebfdaa56d57baad0568cb7cd7e7dd3a32137e158141546e3e554"), looks := true }, kinds := [], alts := [], laidByText := true, laidKinds := [.sentinel], laidTests := true, laidLooks := .later }
def FnExactMoveObjectCardSaid : Prop := Claim7.holds Tryd.pinned (.plain (OpenSpec.ofChange fnExactMoveObjectSpec)) fnExactMoveObjectCard

/-- THE TIED CARD OF 'laws.FnExactReplayMoves'. -/
def fnExactReplayMovesCard : Claim7 := { stood := { row := fnExactReplayMovesRow, standIns := [], harness := (true, "9e981d23a042ebfdaa56d57baad0568cb7cd7e7dd3a32137e158141546e3e554"), looks := true }, kinds := [], alts := [], laidByText := true, laidKinds := [.sentinel], laidTests := true, laidLooks := .later }
def FnExactReplayMovesCardSaid : Prop := Claim7.holds Tryd.pinned (.plain (OpenSpec.ofChange fnExactReplayMovesSpec)) fnExactReplayMovesCard

/-- THE SECOND FORM's CARD OF 'laws.FnExactFirstMissed'. -/
def fnExactFirstMissedUptoCard : Claim7 := { stood := { row := fnExactFirstMissedUptoRow, standIns := [], harness := (true, "9e981d23a042ebfdaa56d57baad0568cb7cd7e7dd3a32137e158141546e3e554"), looks := true }, kinds := [], alts := [], laidByText := true, laidKinds := [.handle], laidTests := true, laidLooks := .later }
def FnExactFirstMissedUptoCardSaid : Prop := Claim7.holds Tryd.pinned (.plain (OpenSpec.upto fnExactFirstMissedSpec)) fnExactFirstMissedUptoCard

/-- THE SECOND FORM's CARD OF 'laws.FnExactIsMissing'. -/
def fnExactIsMissingUptoCard : Claim7 := { stood := { row := fnExactIsMissingUptoRow, standIns := [], harness := (true, "9e981d23a042ebfdaa56d57baad0568cb7cd7e7dd3a32137e158141546e3e554"), looks := true }, kinds := [], alts := [], laidByText := true, laidKinds := [.handle], laidTests := true, laidLooks := .later }
def FnExactIsMissingUptoCardSaid : Prop := Claim7.holds Tryd.pinned (.plain (OpenSpec.upto fnExactIsMissingSpec)) fnExactIsMissingUptoCard

/-- THE SECOND FORM's CARD OF 'laws.FnExactMissingObjects'. -/
def fnExactMissingObjectsUptoCard : Claim7 := { stood := { row := fnExactMissingObjectsUptoRow, standIns := [], harness := (true, "9e981d23a042ebfdaa56d57baad0568cb7cd7e7dd3a32137e158141546e3e554"), looks := true }, kinds := [], alts := [], laidByText := true, laidKinds := [.handle], laidTests := true, laidLooks := .later }
def FnExactMissingObjectsUptoCardSaid : Prop := Claim7.holds Tryd.pinned (.plain (OpenSpec.upto fnExactMissingObjectsSpec)) fnExactMissingObjectsUptoCard

/-- THE SECOND FORM's CARD OF 'laws.FnExactSuspects'. -/
def fnExactSuspectsUptoCard : Claim7 := { stood := { row := fnExactSuspectsUptoRow, standIns := [], harness := (true, "9e981d23a042ebfdaa56d57baad0568cb7cd7e7dd3a32137e158141546e3e554"), looks := true }, kinds := [], alts := [], laidByText := true, laidKinds := [.handle], laidTests := true, laidLooks := .later }
def FnExactSuspectsUptoCardSaid : Prop := Claim7.holds Tryd.pinned (.plain (OpenSpec.upto fnExactSuspectsSpec)) fnExactSuspectsUptoCard

/-- THE SECOND FORM's CARD OF 'laws.FnExactCanMove'. -/
def fnExactCanMoveUptoCard : Claim7 := { stood := { row := fnExactCanMoveUptoRow, standIns := [], harness := (true, "9e981d23a042ebfdaa56d57baad0568cb7cd7e7dd3a32137e158141546e3e554"), looks := true }, kinds := [], alts := [], laidByText := true, laidKinds := [.sentinel], laidTests := true, laidLooks := .later }
def FnExactCanMoveUptoCardSaid : Prop := Claim7.holds Tryd.pinned (.plain (OpenSpec.upto fnExactCanMoveSpec)) fnExactCanMoveUptoCard

/-- THE SECOND FORM's CARD OF 'laws.FnExactMoveObject'. -/
def fnExactMoveObjectUptoCard : Claim7 := { stood := { row := fnExactMoveObjectUptoRow, standIns := [], harness := (true, "9e981d23a042ebfdaa56d57baad0568cb7cd7e7dd3a32137e158141546e3e554"), looks := true }, kinds := [], alts := [], laidByText := true, laidKinds := [.sentinel], laidTests := true, laidLooks := .later }
def FnExactMoveObjectUptoCardSaid : Prop := Claim7.holds Tryd.pinned (.plain (OpenSpec.upto fnExactMoveObjectSpec)) fnExactMoveObjectUptoCard

/-- THE SECOND FORM's CARD OF 'laws.FnExactReplayMoves'. -/
def fnExactReplayMovesUptoCard : Claim7 := { stood := { row := fnExactReplayMovesUptoRow, standIns := [], harness := (true, "9e981d23a042ebfdaa56d57baad0568cb7cd7e7dd3a32137e158141546e3e554"), looks := true }, kinds := [], alts := [], laidByText := true, laidKinds := [.sentinel], laidTests := true, laidLooks := .later }
def FnExactReplayMovesUptoCardSaid : Prop := Claim7.holds Tryd.pinned (.plain (OpenSpec.upto fnExactReplayMovesSpec)) fnExactReplayMovesUptoCard
end Rows
end Go.Proofs.YtdcekbhfbkiflaaDoor
