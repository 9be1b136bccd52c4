/-
  DERIVED. GIVEN WITH THE SEED: THE CARDS: each row of YtlpkafhapmkkfaaGreatDoorRows.lean that lists a variable, with what it lists TIED to the program's text (the seventh form; the later family's looks); each row that meets fmt, with fmt's text TOLD by the authors' own Lean function (tested against real Go, not proved from fmt's source: count such statements apart). THE CARD IS WHAT COUNTS. Prove the row's statement (the work); the ties are given (YtlpkafhapmkkfaaGreatDoorTie.lean); close each card by the builder's one call (the guide's Derived/Test/ToyasCard.lean, 'card_holds'). Laid BY PROGRAM, IN A SANDBOX (cutbox-door.mjs). By AI agents, Wed Nov 11 2026. No macro, syntax, notation, axiom, sorry.
-/
import Derived.Test.YtlpkafhapmkkfaaGreatDoorRows
import GoSem.ClaimSeven
namespace Go.Proofs.YtlpkafhapmkkfaaGreatDoor
namespace Rows

/-- THE TIED CARD OF 'laws.FnExactAllServices'. -/
def fnExactAllServicesCard : Claim7 := { stood := { row := fnExactAllServicesRow, standIns := [], harness := (true, "c5134f41192238529e3e6175b89b06c0a1ceeada94de4c31d3578be6197d77d9"), looks := false }, kinds := [], alts := [], laidByText := true, laidKinds := [.data, .data], laidTests := true, laidLooks := .later }
def FnExactAllServicesCardSaid : Prop := Claim7.holds Tryz.pinned (.plain (OpenSpec.ofChange fnExactAllServicesSpec)) fnExactAllServicesCard

/-- THE TIED CARD OF 'laws.FnExactShareOfKind'. -/
def fnExactShareOfKindCard : Claim7 := { stood := { row := fnExactShareOfKindRow, standIns := [], harness := (true, "c5134f41192238529e3e6175b89b06c0a1ceeada94de4c31d3578be6197d77d9"), looks := false }, kinds := [], alts := [], laidByText := true, laidKinds := [.data, .data], laidTests := true, laidLooks := .later }
def FnExactShareOfKindCardSaid : Prop := Claim7.holds Tryz.pinned (.plain (OpenSpec.ofChange fnExactShareOfKindSpec)) fnExactShareOfKindCard

/-- THE TIED CARD OF 'laws.FnExactShareGreen'. -/
def fnExactShareGreenCard : Claim7 := { stood := { row := fnExactShareGreenRow, standIns := [], harness := (true, "c5134f41192238529e3e6175b89b06c0a1ceeada94de4c31d3578be6197d77d9"), looks := false }, kinds := [], alts := [], laidByText := true, laidKinds := [.data, .data], laidTests := true, laidLooks := .later }
def FnExactShareGreenCardSaid : Prop := Claim7.holds Tryz.pinned (.plain (OpenSpec.ofChange fnExactShareGreenSpec)) fnExactShareGreenCard

/-- THE TIED CARD OF 'laws.FnExactPlanHistory'. -/
def fnExactPlanHistoryCard : Claim7 := { stood := { row := fnExactPlanHistoryRow, standIns := [], harness := (true, "c5134f41192238529e3e6175b89b06c0a1ceeada94de4c31d3578be6197d77d9"), looks := false }, kinds := [], alts := [], laidByText := true, laidKinds := [.data, .data], laidTests := true, laidLooks := .later }
def FnExactPlanHistoryCardSaid : Prop := Claim7.holds Tryz.pinned (.plain (OpenSpec.ofChange fnExactPlanHistorySpec)) fnExactPlanHistoryCard

/-- THE TIED CARD OF 'laws.FnExactMakeSwitch'. -/
def fnExactMakeSwitchCard : Claim7 := { stood := { row := fnExactMakeSwitchRow, standIns := [], harness := (true, "c5134f41192238529e3e6175b89b06c0a1ceeada94de4c31d3578be6197d77d9"), looks := false }, kinds := [], alts := [], laidByText := true, laidKinds := [.data, .data], laidTests := true, laidLooks := .later }
def FnExactMakeSwitchCardSaid : Prop := Claim7.holds Tryz.pinned (.plain (OpenSpec.ofChange fnExactMakeSwitchSpec)) fnExactMakeSwitchCard

/-- THE SECOND FORM's CARD OF 'laws.FnExactAllServices'. -/
def fnExactAllServicesUptoCard : Claim7 := { stood := { row := fnExactAllServicesUptoRow, standIns := [], harness := (true, "c5134f41192238529e3e6175b89b06c0a1ceeada94de4c31d3578be6197d77d9"), looks := false }, kinds := [], alts := [], laidByText := true, laidKinds := [.data, .data], laidTests := true, laidLooks := .later }
def FnExactAllServicesUptoCardSaid : Prop := Claim7.holds Tryz.pinned (.plain (OpenSpec.upto fnExactAllServicesSpec)) fnExactAllServicesUptoCard

/-- THE SECOND FORM's CARD OF 'laws.FnExactShareOfKind'. -/
def fnExactShareOfKindUptoCard : Claim7 := { stood := { row := fnExactShareOfKindUptoRow, standIns := [], harness := (true, "c5134f41192238529e3e6175b89b06c0a1ceeada94de4c31d3578be6197d77d9"), looks := false }, kinds := [], alts := [], laidByText := true, laidKinds := [.data, .data], laidTests := true, laidLooks := .later }
def FnExactShareOfKindUptoCardSaid : Prop := Claim7.holds Tryz.pinned (.plain (OpenSpec.upto fnExactShareOfKindSpec)) fnExactShareOfKindUptoCard

/-- THE SECOND FORM's CARD OF 'laws.FnExactShareGreen'. -/
def fnExactShareGreenUptoCard : Claim7 := { stood := { row := fnExactShareGreenUptoRow, standIns := [], harness := (true, "c5134f41192238529e3e6175b89b06c0a1ceeada94de4c31d3578be6197d77d9"), looks := false }, kinds := [], alts := [], laidByText := true, laidKinds := [.data, .data], laidTests := true, laidLooks := .later }
def FnExactShareGreenUptoCardSaid : Prop := Claim7.holds Tryz.pinned (.plain (OpenSpec.upto fnExactShareGreenSpec)) fnExactShareGreenUptoCard

/-- THE SECOND FORM's CARD OF 'laws.FnExactPlanHistory'. -/
def fnExactPlanHistoryUptoCard : Claim7 := { stood := { row := fnExactPlanHistoryUptoRow, standIns := [], harness := (true, "c5134f41192238529e3e6175b89b06c0a1ceeada94de4c31d3578be6197d77d9"), looks := false }, kinds := [], alts := [], laidByText := true, laidKinds := [.data, .data], laidTests := true, laidLooks := .later }
def FnExactPlanHistoryUptoCardSaid : Prop := Claim7.holds Tryz.pinned (.plain (OpenSpec.upto fnExactPlanHistorySpec)) fnExactPlanHistoryUptoCard

/-- THE SECOND FORM's CARD OF 'laws.FnExactMakeSwitch'. -/
def fnExactMakeSwitchUptoCard : Claim7 := { stood := { row := fnExactMakeSwitchUptoRow, standIns := [], harness := (true, "c5134f41192238529e3e6175b89b06c0a1ceeada94de4c31d3578be6197d77d9"), looks := false }, kinds := [], alts := [], laidByText := true, laidKinds := [.data, .data], laidTests := true, laidLooks := .later }
def FnExactMakeSwitchUptoCardSaid : Prop := Claim7.holds Tryz.pinned (.plain (OpenSpec.upto fnExactMakeSwitchSpec)) fnExactMakeSwitchUptoCard
end Rows
end Go.Proofs.YtlpkafhapmkkfaaGreatDoor
