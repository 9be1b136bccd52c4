/-
  DERIVED. GIVEN WITH THE SEED: THE CARDS: each row of YtgpffbnmdfichaaGreatDoorRows.lean that lists a variable, with what it lists TIED to the program's text (the seventh form; the later family's looks); each row that meets fmt, with fmt's text TOLD by the authors' own Lean function (tested against real Go, not proved from fmt's source: count such statements apart). THE CARD IS WHAT COUNTS. Prove the row's statement (the work); the ties are given (YtgpffbnmdfichaaGreatDoorTie.lean); close each card by the builder's one call (the guide's Derived/Test/ToyasCard.lean, 'card_holds'). Laid BY PROGRAM, IN A SANDBOX (cutbox-door.mjs). By AI agents, Wed Nov 11 2026. No macro, syntax, notation, axiom, sorry.
-/
import Derived.Test.YtgpffbnmdfichaaGreatDoorRows
import GoSem.ClaimSeven
namespace Go.Proofs.YtgpffbnmdfichaaGreatDoor
namespace Rows

/-- THE TIED CARD OF 'laws.FnExactStreamWait'. -/
def fnExactStreamWaitCard : Claim7 := { stood := { row := fnExactStreamWaitRow, standIns := [], harness := (true, "d6221b1fbc5899bb5b6657b06319640ab14dff3523df79748cf89c7775469341"), looks := false }, kinds := [], alts := [], laidByText := true, laidKinds := [.data, .data], laidTests := true, laidLooks := .later }
def FnExactStreamWaitCardSaid : Prop := Claim7.holds Tryz.pinned (.plain (OpenSpec.ofChange fnExactStreamWaitSpec)) fnExactStreamWaitCard

/-- THE TIED CARD OF 'laws.FnExactPlanWait'. -/
def fnExactPlanWaitCard : Claim7 := { stood := { row := fnExactPlanWaitRow, standIns := [], harness := (true, "d6221b1fbc5899bb5b6657b06319640ab14dff3523df79748cf89c7775469341"), looks := false }, kinds := [], alts := [], laidByText := true, laidKinds := [.data, .data], laidTests := true, laidLooks := .later }
def FnExactPlanWaitCardSaid : Prop := Claim7.holds Tryz.pinned (.plain (OpenSpec.ofChange fnExactPlanWaitSpec)) fnExactPlanWaitCard

/-- THE TIED CARD OF 'laws.FnExactWaitingAt'. -/
def fnExactWaitingAtCard : Claim7 := { stood := { row := fnExactWaitingAtRow, standIns := [], harness := (true, "d6221b1fbc5899bb5b6657b06319640ab14dff3523df79748cf89c7775469341"), looks := false }, kinds := [], alts := [], laidByText := true, laidKinds := [.data, .data], laidTests := true, laidLooks := .later }
def FnExactWaitingAtCardSaid : Prop := Claim7.holds Tryz.pinned (.plain (OpenSpec.ofChange fnExactWaitingAtSpec)) fnExactWaitingAtCard

/-- THE TIED CARD OF 'laws.FnExactAllServices'. -/
def fnExactAllServicesCard : Claim7 := { stood := { row := fnExactAllServicesRow, standIns := [], harness := (true, "d6221b1fbc5899bb5b6657b06319640ab14dff3523df79748cf89c7775469341"), looks := false }, kinds := [], alts := [], laidByText := true, laidKinds := [.data, .data], laidTests := true, laidLooks := .later }
def FnExactAllServicesCardSaid : Prop := Claim7.holds Tryz.pinned (.plain (OpenSpec.ofChange fnExactAllServicesSpec)) fnExactAllServicesCard

/-- THE TIED CARD OF 'laws.FnExactShareOfKind'. -/
def fnExactShareOfKindCard : Claim7 := { stood := { row := fnExactShareOfKindRow, standIns := [], harness := (true, "d6221b1fbc5899bb5b6657b06319640ab14dff3523df79748cf89c7775469341"), looks := false }, kinds := [], alts := [], laidByText := true, laidKinds := [.data, .data], laidTests := true, laidLooks := .later }
def FnExactShareOfKindCardSaid : Prop := Claim7.holds Tryz.pinned (.plain (OpenSpec.ofChange fnExactShareOfKindSpec)) fnExactShareOfKindCard

/-- THE TIED CARD OF 'laws.FnExactShareGreen'. -/
def fnExactShareGreenCard : Claim7 := { stood := { row := fnExactShareGreenRow, standIns := [], harness := (true, "d6221b1fbc5899bb5b6657b06319640ab14dff3523df79748cf89c7775469341"), looks := false }, kinds := [], alts := [], laidByText := true, laidKinds := [.data, .data], laidTests := true, laidLooks := .later }
def FnExactShareGreenCardSaid : Prop := Claim7.holds Tryz.pinned (.plain (OpenSpec.ofChange fnExactShareGreenSpec)) fnExactShareGreenCard

/-- THE TIED CARD OF 'laws.FnExactPlanHistory'. -/
def fnExactPlanHistoryCard : Claim7 := { stood := { row := fnExactPlanHistoryRow, standIns := [], harness := (true, "d6221b1fbc5899bb5b6657b06319640ab14dff3523df79748cf89c7775469341"), looks := false }, kinds := [], alts := [], laidByText := true, laidKinds := [.data, .data], laidTests := true, laidLooks := .later }
def FnExactPlanHistoryCardSaid : Prop := Claim7.holds Tryz.pinned (.plain (OpenSpec.ofChange fnExactPlanHistorySpec)) fnExactPlanHistoryCard

/-- THE SECOND FORM's CARD OF 'laws.FnExactStreamWait'. -/
def fnExactStreamWaitUptoCard : Claim7 := { stood := { row := fnExactStreamWaitUptoRow, standIns := [], harness := (true, "d6221b1fbc5899bb5b6657b06319640ab14dff3523df79748cf89c7775469341"), looks := false }, kinds := [], alts := [], laidByText := true, laidKinds := [.data, .data], laidTests := true, laidLooks := .later }
def FnExactStreamWaitUptoCardSaid : Prop := Claim7.holds Tryz.pinned (.plain (OpenSpec.upto fnExactStreamWaitSpec)) fnExactStreamWaitUptoCard

/-- THE SECOND FORM's CARD OF 'laws.FnExactPlanWait'. -/
def fnExactPlanWaitUptoCard : Claim7 := { stood := { row := fnExactPlanWaitUptoRow, standIns := [], harness := (true, "d6221b1fbc5899bb5b6657b06319640ab14dff3523df79748cf89c7775469341"), looks := false }, kinds := [], alts := [], laidByText := true, laidKinds := [.data, .data], laidTests := true, laidLooks := .later }
def FnExactPlanWaitUptoCardSaid : Prop := Claim7.holds Tryz.pinned (.plain (OpenSpec.upto fnExactPlanWaitSpec)) fnExactPlanWaitUptoCard

/-- THE SECOND FORM's CARD OF 'laws.FnExactWaitingAt'. -/
def fnExactWaitingAtUptoCard : Claim7 := { stood := { row := fnExactWaitingAtUptoRow, standIns := [], harness := (true, "d6221b1fbc5899bb5b6657b06319640ab14dff3523df79748cf89c7775469341"), looks := false }, kinds := [], alts := [], laidByText := true, laidKinds := [.data, .data], laidTests := true, laidLooks := .later }
def FnExactWaitingAtUptoCardSaid : Prop := Claim7.holds Tryz.pinned (.plain (OpenSpec.upto fnExactWaitingAtSpec)) fnExactWaitingAtUptoCard

/-- THE SECOND FORM's CARD OF 'laws.FnExactAllServices'. -/
def fnExactAllServicesUptoCard : Claim7 := { stood := { row := fnExactAllServicesUptoRow, standIns := [], harness := (true, "d6221b1fbc5899bb5b6657b06319640ab14dff3523df79748cf89c7775469341"), looks := false }, kinds := [], alts := [], laidByText := true, laidKinds := [.data, .data], laidTests := true, laidLooks := .later }
def FnExactAllServicesUptoCardSaid : Prop := Claim7.holds Tryz.pinned (.plain (OpenSpec.upto fnExactAllServicesSpec)) fnExactAllServicesUptoCard

/-- THE SECOND FORM's CARD OF 'laws.FnExactShareOfKind'. -/
def fnExactShareOfKindUptoCard : Claim7 := { stood := { row := fnExactShareOfKindUptoRow, standIns := [], harness := (true, "d6221b1fbc5899bb5b6657b06319640ab14dff3523df79748cf89c7775469341"), looks := false }, kinds := [], alts := [], laidByText := true, laidKinds := [.data, .data], laidTests := true, laidLooks := .later }
def FnExactShareOfKindUptoCardSaid : Prop := Claim7.holds Tryz.pinned (.plain (OpenSpec.upto fnExactShareOfKindSpec)) fnExactShareOfKindUptoCard

/-- THE SECOND FORM's CARD OF 'laws.FnExactShareGreen'. -/
def fnExactShareGreenUptoCard : Claim7 := { stood := { row := fnExactShareGreenUptoRow, standIns := [], harness := (true, "d6221b1fbc5899bb5b6657b06319640ab14dff3523df79748cf89c7775469341"), looks := false }, kinds := [], alts := [], laidByText := true, laidKinds := [.data, .data], laidTests := true, laidLooks := .later }
def FnExactShareGreenUptoCardSaid : Prop := Claim7.holds Tryz.pinned (.plain (OpenSpec.upto fnExactShareGreenSpec)) fnExactShareGreenUptoCard

/-- THE SECOND FORM's CARD OF 'laws.FnExactPlanHistory'. -/
def fnExactPlanHistoryUptoCard : Claim7 := { stood := { row := fnExactPlanHistoryUptoRow, standIns := [], harness := (true, "d6221b1fbc5899bb5b6657b06319640ab14dff3523df79748cf89c7775469341"), looks := false }, kinds := [], alts := [], laidByText := true, laidKinds := [.data, .data], laidTests := true, laidLooks := .later }
def FnExactPlanHistoryUptoCardSaid : Prop := Claim7.holds Tryz.pinned (.plain (OpenSpec.upto fnExactPlanHistorySpec)) fnExactPlanHistoryUptoCard
end Rows
end Go.Proofs.YtgpffbnmdfichaaGreatDoor
