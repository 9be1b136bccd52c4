/-
  DERIVED. GIVEN WITH THE SEED: THE CARDS: each row of YtmcoeafkbpeelaaDoorRows.lean that lists a variable, with what it lists TIED to the program's text (the seventh form; the later family's looks); each row that meets fmt, with fmt's text TOLD by the authors' own Lean function (tested against real Go, not proved from fmt's source: count such statements apart). THE CARD IS WHAT COUNTS. Prove the row's statement (the work); the ties are given (YtmcoeafkbpeelaaDoorTie.lean); close each card by the builder's one call (the guide's Derived/Test/ToyasCard.lean, 'card_holds'). Laid BY PROGRAM, IN A SANDBOX (cutbox-door.mjs). By AI agents, Wed Nov 11 2026. No macro, syntax, notation, axiom, sorry.
-/
import Derived.Test.YtmcoeafkbpeelaaDoorRows
import GoSem.ClaimSeven
namespace Go.Proofs.YtmcoeafkbpeelaaDoor
namespace Rows

/-- THE TIED CARD OF 'laws.FnExactCutFor'. -/
def fnExactCutForCard : Claim7 := { stood := { row := fnExactCutForRow, standIns := [], harness := (true, "c0d62dd3d0f890fa60c157120b3368819bf8971f455d482b8de7f98d8594d10e"), looks := false }, kinds := [], alts := [], laidByText := true, laidKinds := [.data, .data, .data], laidTests := true, laidLooks := .later }
def FnExactCutForCardSaid : Prop := Claim7.holds Tryd.pinned (.plain (OpenSpec.ofChange fnExactCutForSpec)) fnExactCutForCard

/-- THE TIED CARD OF 'laws.FnExactStepSiren'. -/
def fnExactStepSirenCard : Claim7 := { stood := { row := fnExactStepSirenRow, standIns := [], harness := (true, "c0d62dd3d0f890fa60c157120b3368819bf8971f455d482b8de7f98d8594d10e"), looks := false }, kinds := [], alts := [], laidByText := true, laidKinds := [.data, .data], laidTests := true, laidLooks := .later }
def FnExactStepSirenCardSaid : Prop := Claim7.holds Tryd.pinned (.plain (OpenSpec.ofChange fnExactStepSirenSpec)) fnExactStepSirenCard

/-- THE TIED CARD OF 'laws.FnExactSirenWait'. -/
def fnExactSirenWaitCard : Claim7 := { stood := { row := fnExactSirenWaitRow, standIns := [], harness := (true, "c0d62dd3d0f890fa60c157120b3368819bf8971f455d482b8de7f98d8594d10e"), looks := false }, kinds := [], alts := [], laidByText := true, laidKinds := [.data, .data], laidTests := true, laidLooks := .later }
def FnExactSirenWaitCardSaid : Prop := Claim7.holds Tryd.pinned (.plain (OpenSpec.ofChange fnExactSirenWaitSpec)) fnExactSirenWaitCard

/-- THE SECOND FORM's CARD OF 'laws.FnExactCutFor'. -/
def fnExactCutForUptoCard : Claim7 := { stood := { row := fnExactCutForUptoRow, standIns := [], harness := (true, "c0d62dd3d0f890fa60c157120b3368819bf8971f455d482b8de7f98d8594d10e"), looks := false }, kinds := [], alts := [], laidByText := true, laidKinds := [.data, .data, .data], laidTests := true, laidLooks := .later }
def FnExactCutForUptoCardSaid : Prop := Claim7.holds Tryd.pinned (.plain (OpenSpec.upto fnExactCutForSpec)) fnExactCutForUptoCard

/-- THE SECOND FORM's CARD OF 'laws.FnExactStepSiren'. -/
def fnExactStepSirenUptoCard : Claim7 := { stood := { row := fnExactStepSirenUptoRow, standIns := [], harness := (true, "c0d62dd3d0f890fa60c157120b3368819bf8971f455d482b8de7f98d8594d10e"), looks := false }, kinds := [], alts := [], laidByText := true, laidKinds := [.data, .data], laidTests := true, laidLooks := .later }
def FnExactStepSirenUptoCardSaid : Prop := Claim7.holds Tryd.pinned (.plain (OpenSpec.upto fnExactStepSirenSpec)) fnExactStepSirenUptoCard

/-- THE SECOND FORM's CARD OF 'laws.FnExactSirenWait'. -/
def fnExactSirenWaitUptoCard : Claim7 := { stood := { row := fnExactSirenWaitUptoRow, standIns := [], harness := (true, "c0d62dd3d0f890fa60c157120b3368819bf8971f455d482b8de7f98d8594d10e"), looks := false }, kinds := [], alts := [], laidByText := true, laidKinds := [.data, .data], laidTests := true, laidLooks := .later }
def FnExactSirenWaitUptoCardSaid : Prop := Claim7.holds Tryd.pinned (.plain (OpenSpec.upto fnExactSirenWaitSpec)) fnExactSirenWaitUptoCard
end Rows
end Go.Proofs.YtmcoeafkbpeelaaDoor
