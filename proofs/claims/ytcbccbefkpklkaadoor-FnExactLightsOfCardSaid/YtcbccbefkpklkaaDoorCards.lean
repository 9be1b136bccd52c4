/-
  DERIVED. GIVEN WITH THE SEED: THE CARDS: each row of YtcbccbefkpklkaaDoorRows.lean that lists a variable, with what it lists TIED to the program's text (the seventh form; the later family's looks); each row that meets fmt, with fmt's text TOLD by the authors' own Lean function (tested against real Go, not proved from fmt's source: count such statements apart). THE CARD IS WHAT COUNTS. Prove the row's statement (the work); the ties are given (YtcbccbefkpklkaaDoorTie.lean); close each card by the builder's one call (the guide's Derived/Test/ToyasCard.lean, 'card_holds'). Laid BY PROGRAM, IN A SANDBOX (cutbox-door.mjs). By AI agents, Wed Nov 11 2026. No macro, syntax, notation, axiom, sorry.
-/
import Derived.Test.YtcbccbefkpklkaaDoorRows
import GoSem.ClaimSeven
namespace Go.Proofs.YtcbccbefkpklkaaDoor
namespace Rows

/-- THE TIED CARD OF 'laws.FnExactIsSafeLights'. -/
def fnExactIsSafeLightsCard : Claim7 := { stood := { row := fnExactIsSafeLightsRow, standIns := [], harness := (true, "903a4ef055e672325ea4e25a4887bd7adac1029bb99e689df986deb51a9d3a4f"), looks := false }, kinds := [], alts := [], laidByText := true, laidKinds := [.data], laidTests := true, laidLooks := .later }
def FnExactIsSafeLightsCardSaid : Prop := Claim7.holds Tryd.pinned (.plain (OpenSpec.ofChange fnExactIsSafeLightsSpec)) fnExactIsSafeLightsCard

/-- THE TIED CARD OF 'laws.FnExactWorstWait'. -/
def fnExactWorstWaitCard : Claim7 := { stood := { row := fnExactWorstWaitRow, standIns := [], harness := (true, "903a4ef055e672325ea4e25a4887bd7adac1029bb99e689df986deb51a9d3a4f"), looks := false }, kinds := [], alts := [], laidByText := true, laidKinds := [.data, .data], laidTests := true, laidLooks := .later }
def FnExactWorstWaitCardSaid : Prop := Claim7.holds Tryd.pinned (.plain (OpenSpec.ofChange fnExactWorstWaitSpec)) fnExactWorstWaitCard

/-- THE TIED CARD OF 'laws.FnExactNextGreen'. -/
def fnExactNextGreenCard : Claim7 := { stood := { row := fnExactNextGreenRow, standIns := [], harness := (true, "903a4ef055e672325ea4e25a4887bd7adac1029bb99e689df986deb51a9d3a4f"), looks := false }, kinds := [], alts := [], laidByText := true, laidKinds := [.data, .data], laidTests := true, laidLooks := .later }
def FnExactNextGreenCardSaid : Prop := Claim7.holds Tryd.pinned (.plain (OpenSpec.ofChange fnExactNextGreenSpec)) fnExactNextGreenCard

/-- THE TIED CARD OF 'laws.FnExactSwitchSeconds'. -/
def fnExactSwitchSecondsCard : Claim7 := { stood := { row := fnExactSwitchSecondsRow, standIns := [], harness := (true, "903a4ef055e672325ea4e25a4887bd7adac1029bb99e689df986deb51a9d3a4f"), looks := false }, kinds := [], alts := [], laidByText := true, laidKinds := [.data, .data], laidTests := true, laidLooks := .later }
def FnExactSwitchSecondsCardSaid : Prop := Claim7.holds Tryd.pinned (.plain (OpenSpec.ofChange fnExactSwitchSecondsSpec)) fnExactSwitchSecondsCard

/-- THE TIED CARD OF 'laws.FnExactSwitchAt'. -/
def fnExactSwitchAtCard : Claim7 := { stood := { row := fnExactSwitchAtRow, standIns := [], harness := (true, "903a4ef055e672325ea4e25a4887bd7adac1029bb99e689df986deb51a9d3a4f"), looks := false }, kinds := [], alts := [], laidByText := true, laidKinds := [.data, .data], laidTests := true, laidLooks := .later }
def FnExactSwitchAtCardSaid : Prop := Claim7.holds Tryd.pinned (.plain (OpenSpec.ofChange fnExactSwitchAtSpec)) fnExactSwitchAtCard

/-- THE TIED CARD OF 'laws.FnExactLightAfter'. -/
def fnExactLightAfterCard : Claim7 := { stood := { row := fnExactLightAfterRow, standIns := [], harness := (true, "903a4ef055e672325ea4e25a4887bd7adac1029bb99e689df986deb51a9d3a4f"), looks := false }, kinds := [], alts := [], laidByText := true, laidKinds := [.data, .data], laidTests := true, laidLooks := .later }
def FnExactLightAfterCardSaid : Prop := Claim7.holds Tryd.pinned (.plain (OpenSpec.ofChange fnExactLightAfterSpec)) fnExactLightAfterCard

/-- THE TIED CARD OF 'laws.FnExactCanSwitch'. -/
def fnExactCanSwitchCard : Claim7 := { stood := { row := fnExactCanSwitchRow, standIns := [], harness := (true, "903a4ef055e672325ea4e25a4887bd7adac1029bb99e689df986deb51a9d3a4f"), looks := false }, kinds := [], alts := [], laidByText := true, laidKinds := [.data, .data], laidTests := true, laidLooks := .later }
def FnExactCanSwitchCardSaid : Prop := Claim7.holds Tryd.pinned (.plain (OpenSpec.ofChange fnExactCanSwitchSpec)) fnExactCanSwitchCard

/-- THE TIED CARD OF 'laws.FnExactWindowOf'. -/
def fnExactWindowOfCard : Claim7 := { stood := { row := fnExactWindowOfRow, standIns := [], harness := (true, "903a4ef055e672325ea4e25a4887bd7adac1029bb99e689df986deb51a9d3a4f"), looks := false }, kinds := [], alts := [], laidByText := true, laidKinds := [.data, .data], laidTests := true, laidLooks := .later }
def FnExactWindowOfCardSaid : Prop := Claim7.holds Tryd.pinned (.plain (OpenSpec.ofChange fnExactWindowOfSpec)) fnExactWindowOfCard

/-- THE TIED CARD OF 'laws.FnExactIsControl'. -/
def fnExactIsControlCard : Claim7 := { stood := { row := fnExactIsControlRow, standIns := [], harness := (true, "903a4ef055e672325ea4e25a4887bd7adac1029bb99e689df986deb51a9d3a4f"), looks := false }, kinds := [], alts := [], laidByText := true, laidKinds := [.data, .data], laidTests := true, laidLooks := .later }
def FnExactIsControlCardSaid : Prop := Claim7.holds Tryd.pinned (.plain (OpenSpec.ofChange fnExactIsControlSpec)) fnExactIsControlCard

/-- THE TIED CARD OF 'laws.FnExactCanEnd'. -/
def fnExactCanEndCard : Claim7 := { stood := { row := fnExactCanEndRow, standIns := [], harness := (true, "903a4ef055e672325ea4e25a4887bd7adac1029bb99e689df986deb51a9d3a4f"), looks := false }, kinds := [], alts := [], laidByText := true, laidKinds := [.data, .data], laidTests := true, laidLooks := .later }
def FnExactCanEndCardSaid : Prop := Claim7.holds Tryd.pinned (.plain (OpenSpec.ofChange fnExactCanEndSpec)) fnExactCanEndCard

/-- THE TIED CARD OF 'laws.FnExactLightsOf'. -/
def fnExactLightsOfCard : Claim7 := { stood := { row := fnExactLightsOfRow, standIns := [], harness := (true, "903a4ef055e672325ea4e25a4887bd7adac1029bb99e689df986deb51a9d3a4f"), looks := false }, kinds := [], alts := [], laidByText := true, laidKinds := [.data, .data], laidTests := true, laidLooks := .later }
def FnExactLightsOfCardSaid : Prop := Claim7.holds Tryd.pinned (.plain (OpenSpec.ofChange fnExactLightsOfSpec)) fnExactLightsOfCard

/-- THE TIED CARD OF 'laws.FnExactTickControl'. -/
def fnExactTickControlCard : Claim7 := { stood := { row := fnExactTickControlRow, standIns := [], harness := (true, "903a4ef055e672325ea4e25a4887bd7adac1029bb99e689df986deb51a9d3a4f"), looks := false }, kinds := [], alts := [], laidByText := true, laidKinds := [.data, .data], laidTests := true, laidLooks := .later }
def FnExactTickControlCardSaid : Prop := Claim7.holds Tryd.pinned (.plain (OpenSpec.ofChange fnExactTickControlSpec)) fnExactTickControlCard

/-- THE SECOND FORM's CARD OF 'laws.FnExactIsSafeLights'. -/
def fnExactIsSafeLightsUptoCard : Claim7 := { stood := { row := fnExactIsSafeLightsUptoRow, standIns := [], harness := (true, "903a4ef055e672325ea4e25a4887bd7adac1029bb99e689df986deb51a9d3a4f"), looks := false }, kinds := [], alts := [], laidByText := true, laidKinds := [.data], laidTests := true, laidLooks := .later }
def FnExactIsSafeLightsUptoCardSaid : Prop := Claim7.holds Tryd.pinned (.plain (OpenSpec.upto fnExactIsSafeLightsSpec)) fnExactIsSafeLightsUptoCard

/-- THE SECOND FORM's CARD OF 'laws.FnExactWorstWait'. -/
def fnExactWorstWaitUptoCard : Claim7 := { stood := { row := fnExactWorstWaitUptoRow, standIns := [], harness := (true, "903a4ef055e672325ea4e25a4887bd7adac1029bb99e689df986deb51a9d3a4f"), looks := false }, kinds := [], alts := [], laidByText := true, laidKinds := [.data, .data], laidTests := true, laidLooks := .later }
def FnExactWorstWaitUptoCardSaid : Prop := Claim7.holds Tryd.pinned (.plain (OpenSpec.upto fnExactWorstWaitSpec)) fnExactWorstWaitUptoCard

/-- THE SECOND FORM's CARD OF 'laws.FnExactNextGreen'. -/
def fnExactNextGreenUptoCard : Claim7 := { stood := { row := fnExactNextGreenUptoRow, standIns := [], harness := (true, "903a4ef055e672325ea4e25a4887bd7adac1029bb99e689df986deb51a9d3a4f"), looks := false }, kinds := [], alts := [], laidByText := true, laidKinds := [.data, .data], laidTests := true, laidLooks := .later }
def FnExactNextGreenUptoCardSaid : Prop := Claim7.holds Tryd.pinned (.plain (OpenSpec.upto fnExactNextGreenSpec)) fnExactNextGreenUptoCard

/-- THE SECOND FORM's CARD OF 'laws.FnExactSwitchSeconds'. -/
def fnExactSwitchSecondsUptoCard : Claim7 := { stood := { row := fnExactSwitchSecondsUptoRow, standIns := [], harness := (true, "903a4ef055e672325ea4e25a4887bd7adac1029bb99e689df986deb51a9d3a4f"), looks := false }, kinds := [], alts := [], laidByText := true, laidKinds := [.data, .data], laidTests := true, laidLooks := .later }
def FnExactSwitchSecondsUptoCardSaid : Prop := Claim7.holds Tryd.pinned (.plain (OpenSpec.upto fnExactSwitchSecondsSpec)) fnExactSwitchSecondsUptoCard

/-- THE SECOND FORM's CARD OF 'laws.FnExactSwitchAt'. -/
def fnExactSwitchAtUptoCard : Claim7 := { stood := { row := fnExactSwitchAtUptoRow, standIns := [], harness := (true, "903a4ef055e672325ea4e25a4887bd7adac1029bb99e689df986deb51a9d3a4f"), looks := false }, kinds := [], alts := [], laidByText := true, laidKinds := [.data, .data], laidTests := true, laidLooks := .later }
def FnExactSwitchAtUptoCardSaid : Prop := Claim7.holds Tryd.pinned (.plain (OpenSpec.upto fnExactSwitchAtSpec)) fnExactSwitchAtUptoCard

/-- THE SECOND FORM's CARD OF 'laws.FnExactLightAfter'. -/
def fnExactLightAfterUptoCard : Claim7 := { stood := { row := fnExactLightAfterUptoRow, standIns := [], harness := (true, "903a4ef055e672325ea4e25a4887bd7adac1029bb99e689df986deb51a9d3a4f"), looks := false }, kinds := [], alts := [], laidByText := true, laidKinds := [.data, .data], laidTests := true, laidLooks := .later }
def FnExactLightAfterUptoCardSaid : Prop := Claim7.holds Tryd.pinned (.plain (OpenSpec.upto fnExactLightAfterSpec)) fnExactLightAfterUptoCard

/-- THE SECOND FORM's CARD OF 'laws.FnExactCanSwitch'. -/
def fnExactCanSwitchUptoCard : Claim7 := { stood := { row := fnExactCanSwitchUptoRow, standIns := [], harness := (true, "903a4ef055e672325ea4e25a4887bd7adac1029bb99e689df986deb51a9d3a4f"), looks := false }, kinds := [], alts := [], laidByText := true, laidKinds := [.data, .data], laidTests := true, laidLooks := .later }
def FnExactCanSwitchUptoCardSaid : Prop := Claim7.holds Tryd.pinned (.plain (OpenSpec.upto fnExactCanSwitchSpec)) fnExactCanSwitchUptoCard

/-- THE SECOND FORM's CARD OF 'laws.FnExactWindowOf'. -/
def fnExactWindowOfUptoCard : Claim7 := { stood := { row := fnExactWindowOfUptoRow, standIns := [], harness := (true, "903a4ef055e672325ea4e25a4887bd7adac1029bb99e689df986deb51a9d3a4f"), looks := false }, kinds := [], alts := [], laidByText := true, laidKinds := [.data, .data], laidTests := true, laidLooks := .later }
def FnExactWindowOfUptoCardSaid : Prop := Claim7.holds Tryd.pinned (.plain (OpenSpec.upto fnExactWindowOfSpec)) fnExactWindowOfUptoCard

/-- THE SECOND FORM's CARD OF 'laws.FnExactIsControl'. -/
def fnExactIsControlUptoCard : Claim7 := { stood := { row := fnExactIsControlUptoRow, standIns := [], harness := (true, "903a4ef055e672325ea4e25a4887bd7adac1029bb99e689df986deb51a9d3a4f"), looks := false }, kinds := [], alts := [], laidByText := true, laidKinds := [.data, .data], laidTests := true, laidLooks := .later }
def FnExactIsControlUptoCardSaid : Prop := Claim7.holds Tryd.pinned (.plain (OpenSpec.upto fnExactIsControlSpec)) fnExactIsControlUptoCard

/-- THE SECOND FORM's CARD OF 'laws.FnExactCanEnd'. -/
def fnExactCanEndUptoCard : Claim7 := { stood := { row := fnExactCanEndUptoRow, standIns := [], harness := (true, "903a4ef055e672325ea4e25a4887bd7adac1029bb99e689df986deb51a9d3a4f"), looks := false }, kinds := [], alts := [], laidByText := true, laidKinds := [.data, .data], laidTests := true, laidLooks := .later }
def FnExactCanEndUptoCardSaid : Prop := Claim7.holds Tryd.pinned (.plain (OpenSpec.upto fnExactCanEndSpec)) fnExactCanEndUptoCard

/-- THE SECOND FORM's CARD OF 'laws.FnExactLightsOf'. -/
def fnExactLightsOfUptoCard : Claim7 := { stood := { row := fnExactLightsOfUptoRow, standIns := [], harness := (true, "903a4ef055e672325ea4e25a4887bd7adac1029bb99e689df986deb51a9d3a4f"), looks := false }, kinds := [], alts := [], laidByText := true, laidKinds := [.data, .data], laidTests := true, laidLooks := .later }
def FnExactLightsOfUptoCardSaid : Prop := Claim7.holds Tryd.pinned (.plain (OpenSpec.upto fnExactLightsOfSpec)) fnExactLightsOfUptoCard

/-- THE SECOND FORM's CARD OF 'laws.FnExactTickControl'. -/
def fnExactTickControlUptoCard : Claim7 := { stood := { row := fnExactTickControlUptoRow, standIns := [], harness := (true, "903a4ef055e672325ea4e25a4887bd7adac1029bb99e689df986deb51a9d3a4f"), looks := false }, kinds := [], alts := [], laidByText := true, laidKinds := [.data, .data], laidTests := true, laidLooks := .later }
def FnExactTickControlUptoCardSaid : Prop := Claim7.holds Tryd.pinned (.plain (OpenSpec.upto fnExactTickControlSpec)) fnExactTickControlUptoCard
end Rows
end Go.Proofs.YtcbccbefkpklkaaDoor
