/-
  DERIVED. GIVEN WITH THE SEED: THE CARDS: each row of YtmbbmffoihhdfaaDoorRows.lean that lists a variable, with what it lists TIED to the program's text (the seventh form; the later family's looks); each row that meets fmt, with fmt's text TOLD by the authors' own Lean function (tested against real Go, not proved from fmt's source: count such statements apart). THE CARD IS WHAT COUNTS. Prove the row's statement (the work); the ties are given (YtmbbmffoihhdfaaDoorTie.lean); close each card by the builder's one call (the guide's Derived/Test/ToyasCard.lean, 'card_holds'). Laid BY PROGRAM, IN A SANDBOX (cutbox-door.mjs). By AI agents, Wed Nov 11 2026. No macro, syntax, notation, axiom, sorry.
-/
import Derived.Test.YtmbbmffoihhdfaaDoorRows
import GoSem.ClaimSeven
namespace Go.Proofs.YtmbbmffoihhdfaaDoor
namespace Rows

/-- THE TIED CARD OF 'laws.FnExactIsPlan'. -/
def fnExactIsPlanCard : Claim7 := { stood := { row := fnExactIsPlanRow, standIns := [], harness := (true, "9f221388cbfac386260b934ed3e7a1a8e6818598f0774d4fec4104022e70edea"), looks := false }, kinds := [], alts := [], laidByText := true, laidKinds := [.data, .data], laidTests := true, laidLooks := .later }
def FnExactIsPlanCardSaid : Prop := Claim7.holds Tryd.pinned (.plain (OpenSpec.ofChange fnExactIsPlanSpec)) fnExactIsPlanCard

/-- THE TIED CARD OF 'laws.FnExactCycle'. -/
def fnExactCycleCard : Claim7 := { stood := { row := fnExactCycleRow, standIns := [], harness := (true, "9f221388cbfac386260b934ed3e7a1a8e6818598f0774d4fec4104022e70edea"), looks := false }, kinds := [], alts := [], laidByText := true, laidKinds := [.data, .data], laidTests := true, laidLooks := .later }
def FnExactCycleCardSaid : Prop := Claim7.holds Tryd.pinned (.plain (OpenSpec.ofChange fnExactCycleSpec)) fnExactCycleCard

/-- THE TIED CARD OF 'laws.FnExactStartOf'. -/
def fnExactStartOfCard : Claim7 := { stood := { row := fnExactStartOfRow, standIns := [], harness := (true, "9f221388cbfac386260b934ed3e7a1a8e6818598f0774d4fec4104022e70edea"), looks := false }, kinds := [], alts := [], laidByText := true, laidKinds := [.data, .data], laidTests := true, laidLooks := .later }
def FnExactStartOfCardSaid : Prop := Claim7.holds Tryd.pinned (.plain (OpenSpec.ofChange fnExactStartOfSpec)) fnExactStartOfCard

/-- THE TIED CARD OF 'laws.FnExactPlanFor'. -/
def fnExactPlanForCard : Claim7 := { stood := { row := fnExactPlanForRow, standIns := [], harness := (true, "9f221388cbfac386260b934ed3e7a1a8e6818598f0774d4fec4104022e70edea"), looks := false }, kinds := [], alts := [], laidByText := true, laidKinds := [.data, .data], laidTests := true, laidLooks := .later }
def FnExactPlanForCardSaid : Prop := Claim7.holds Tryd.pinned (.plain (OpenSpec.ofChange fnExactPlanForSpec)) fnExactPlanForCard

/-- THE TIED CARD OF 'laws.FnExactPartAt'. -/
def fnExactPartAtCard : Claim7 := { stood := { row := fnExactPartAtRow, standIns := [], harness := (true, "9f221388cbfac386260b934ed3e7a1a8e6818598f0774d4fec4104022e70edea"), looks := false }, kinds := [], alts := [], laidByText := true, laidKinds := [.data, .data], laidTests := true, laidLooks := .later }
def FnExactPartAtCardSaid : Prop := Claim7.holds Tryd.pinned (.plain (OpenSpec.ofChange fnExactPartAtSpec)) fnExactPartAtCard

/-- THE TIED CARD OF 'laws.FnExactLightAt'. -/
def fnExactLightAtCard : Claim7 := { stood := { row := fnExactLightAtRow, standIns := [], harness := (true, "9f221388cbfac386260b934ed3e7a1a8e6818598f0774d4fec4104022e70edea"), looks := false }, kinds := [], alts := [], laidByText := true, laidKinds := [.data, .data], laidTests := true, laidLooks := .later }
def FnExactLightAtCardSaid : Prop := Claim7.holds Tryd.pinned (.plain (OpenSpec.ofChange fnExactLightAtSpec)) fnExactLightAtCard

/-- THE TIED CARD OF 'laws.FnExactLightsAt'. -/
def fnExactLightsAtCard : Claim7 := { stood := { row := fnExactLightsAtRow, standIns := [], harness := (true, "9f221388cbfac386260b934ed3e7a1a8e6818598f0774d4fec4104022e70edea"), looks := false }, kinds := [], alts := [], laidByText := true, laidKinds := [.data, .data], laidTests := true, laidLooks := .later }
def FnExactLightsAtCardSaid : Prop := Claim7.holds Tryd.pinned (.plain (OpenSpec.ofChange fnExactLightsAtSpec)) fnExactLightsAtCard

/-- THE TIED CARD OF 'laws.FnExactGreenOf'. -/
def fnExactGreenOfCard : Claim7 := { stood := { row := fnExactGreenOfRow, standIns := [], harness := (true, "9f221388cbfac386260b934ed3e7a1a8e6818598f0774d4fec4104022e70edea"), looks := false }, kinds := [], alts := [], laidByText := true, laidKinds := [.data, .data], laidTests := true, laidLooks := .later }
def FnExactGreenOfCardSaid : Prop := Claim7.holds Tryd.pinned (.plain (OpenSpec.ofChange fnExactGreenOfSpec)) fnExactGreenOfCard

/-- THE TIED CARD OF 'laws.FnExactWaitOf'. -/
def fnExactWaitOfCard : Claim7 := { stood := { row := fnExactWaitOfRow, standIns := [], harness := (true, "9f221388cbfac386260b934ed3e7a1a8e6818598f0774d4fec4104022e70edea"), looks := false }, kinds := [], alts := [], laidByText := true, laidKinds := [.data, .data], laidTests := true, laidLooks := .later }
def FnExactWaitOfCardSaid : Prop := Claim7.holds Tryd.pinned (.plain (OpenSpec.ofChange fnExactWaitOfSpec)) fnExactWaitOfCard

/-- THE TIED CARD OF 'laws.FnExactOpenIn'. -/
def fnExactOpenInCard : Claim7 := { stood := { row := fnExactOpenInRow, standIns := [], harness := (true, "9f221388cbfac386260b934ed3e7a1a8e6818598f0774d4fec4104022e70edea"), looks := false }, kinds := [], alts := [], laidByText := true, laidKinds := [.data, .data], laidTests := true, laidLooks := .later }
def FnExactOpenInCardSaid : Prop := Claim7.holds Tryd.pinned (.plain (OpenSpec.ofChange fnExactOpenInSpec)) fnExactOpenInCard

/-- THE TIED CARD OF 'laws.FnExactGreenShare'. -/
def fnExactGreenShareCard : Claim7 := { stood := { row := fnExactGreenShareRow, standIns := [], harness := (true, "9f221388cbfac386260b934ed3e7a1a8e6818598f0774d4fec4104022e70edea"), looks := false }, kinds := [], alts := [], laidByText := true, laidKinds := [.data, .data], laidTests := true, laidLooks := .later }
def FnExactGreenShareCardSaid : Prop := Claim7.holds Tryd.pinned (.plain (OpenSpec.ofChange fnExactGreenShareSpec)) fnExactGreenShareCard

/-- THE TIED CARD OF 'laws.FnExactSpareGreen'. -/
def fnExactSpareGreenCard : Claim7 := { stood := { row := fnExactSpareGreenRow, standIns := [], harness := (true, "9f221388cbfac386260b934ed3e7a1a8e6818598f0774d4fec4104022e70edea"), looks := false }, kinds := [], alts := [], laidByText := true, laidKinds := [.data, .data], laidTests := true, laidLooks := .later }
def FnExactSpareGreenCardSaid : Prop := Claim7.holds Tryd.pinned (.plain (OpenSpec.ofChange fnExactSpareGreenSpec)) fnExactSpareGreenCard

/-- THE SECOND FORM's CARD OF 'laws.FnExactIsPlan'. -/
def fnExactIsPlanUptoCard : Claim7 := { stood := { row := fnExactIsPlanUptoRow, standIns := [], harness := (true, "9f221388cbfac386260b934ed3e7a1a8e6818598f0774d4fec4104022e70edea"), looks := false }, kinds := [], alts := [], laidByText := true, laidKinds := [.data, .data], laidTests := true, laidLooks := .later }
def FnExactIsPlanUptoCardSaid : Prop := Claim7.holds Tryd.pinned (.plain (OpenSpec.upto fnExactIsPlanSpec)) fnExactIsPlanUptoCard

/-- THE SECOND FORM's CARD OF 'laws.FnExactCycle'. -/
def fnExactCycleUptoCard : Claim7 := { stood := { row := fnExactCycleUptoRow, standIns := [], harness := (true, "9f221388cbfac386260b934ed3e7a1a8e6818598f0774d4fec4104022e70edea"), looks := false }, kinds := [], alts := [], laidByText := true, laidKinds := [.data, .data], laidTests := true, laidLooks := .later }
def FnExactCycleUptoCardSaid : Prop := Claim7.holds Tryd.pinned (.plain (OpenSpec.upto fnExactCycleSpec)) fnExactCycleUptoCard

/-- THE SECOND FORM's CARD OF 'laws.FnExactStartOf'. -/
def fnExactStartOfUptoCard : Claim7 := { stood := { row := fnExactStartOfUptoRow, standIns := [], harness := (true, "9f221388cbfac386260b934ed3e7a1a8e6818598f0774d4fec4104022e70edea"), looks := false }, kinds := [], alts := [], laidByText := true, laidKinds := [.data, .data], laidTests := true, laidLooks := .later }
def FnExactStartOfUptoCardSaid : Prop := Claim7.holds Tryd.pinned (.plain (OpenSpec.upto fnExactStartOfSpec)) fnExactStartOfUptoCard

/-- THE SECOND FORM's CARD OF 'laws.FnExactPlanFor'. -/
def fnExactPlanForUptoCard : Claim7 := { stood := { row := fnExactPlanForUptoRow, standIns := [], harness := (true, "9f221388cbfac386260b934ed3e7a1a8e6818598f0774d4fec4104022e70edea"), looks := false }, kinds := [], alts := [], laidByText := true, laidKinds := [.data, .data], laidTests := true, laidLooks := .later }
def FnExactPlanForUptoCardSaid : Prop := Claim7.holds Tryd.pinned (.plain (OpenSpec.upto fnExactPlanForSpec)) fnExactPlanForUptoCard

/-- THE SECOND FORM's CARD OF 'laws.FnExactPartAt'. -/
def fnExactPartAtUptoCard : Claim7 := { stood := { row := fnExactPartAtUptoRow, standIns := [], harness := (true, "9f221388cbfac386260b934ed3e7a1a8e6818598f0774d4fec4104022e70edea"), looks := false }, kinds := [], alts := [], laidByText := true, laidKinds := [.data, .data], laidTests := true, laidLooks := .later }
def FnExactPartAtUptoCardSaid : Prop := Claim7.holds Tryd.pinned (.plain (OpenSpec.upto fnExactPartAtSpec)) fnExactPartAtUptoCard

/-- THE SECOND FORM's CARD OF 'laws.FnExactLightAt'. -/
def fnExactLightAtUptoCard : Claim7 := { stood := { row := fnExactLightAtUptoRow, standIns := [], harness := (true, "9f221388cbfac386260b934ed3e7a1a8e6818598f0774d4fec4104022e70edea"), looks := false }, kinds := [], alts := [], laidByText := true, laidKinds := [.data, .data], laidTests := true, laidLooks := .later }
def FnExactLightAtUptoCardSaid : Prop := Claim7.holds Tryd.pinned (.plain (OpenSpec.upto fnExactLightAtSpec)) fnExactLightAtUptoCard

/-- THE SECOND FORM's CARD OF 'laws.FnExactLightsAt'. -/
def fnExactLightsAtUptoCard : Claim7 := { stood := { row := fnExactLightsAtUptoRow, standIns := [], harness := (true, "9f221388cbfac386260b934ed3e7a1a8e6818598f0774d4fec4104022e70edea"), looks := false }, kinds := [], alts := [], laidByText := true, laidKinds := [.data, .data], laidTests := true, laidLooks := .later }
def FnExactLightsAtUptoCardSaid : Prop := Claim7.holds Tryd.pinned (.plain (OpenSpec.upto fnExactLightsAtSpec)) fnExactLightsAtUptoCard

/-- THE SECOND FORM's CARD OF 'laws.FnExactGreenOf'. -/
def fnExactGreenOfUptoCard : Claim7 := { stood := { row := fnExactGreenOfUptoRow, standIns := [], harness := (true, "9f221388cbfac386260b934ed3e7a1a8e6818598f0774d4fec4104022e70edea"), looks := false }, kinds := [], alts := [], laidByText := true, laidKinds := [.data, .data], laidTests := true, laidLooks := .later }
def FnExactGreenOfUptoCardSaid : Prop := Claim7.holds Tryd.pinned (.plain (OpenSpec.upto fnExactGreenOfSpec)) fnExactGreenOfUptoCard

/-- THE SECOND FORM's CARD OF 'laws.FnExactWaitOf'. -/
def fnExactWaitOfUptoCard : Claim7 := { stood := { row := fnExactWaitOfUptoRow, standIns := [], harness := (true, "9f221388cbfac386260b934ed3e7a1a8e6818598f0774d4fec4104022e70edea"), looks := false }, kinds := [], alts := [], laidByText := true, laidKinds := [.data, .data], laidTests := true, laidLooks := .later }
def FnExactWaitOfUptoCardSaid : Prop := Claim7.holds Tryd.pinned (.plain (OpenSpec.upto fnExactWaitOfSpec)) fnExactWaitOfUptoCard

/-- THE SECOND FORM's CARD OF 'laws.FnExactOpenIn'. -/
def fnExactOpenInUptoCard : Claim7 := { stood := { row := fnExactOpenInUptoRow, standIns := [], harness := (true, "9f221388cbfac386260b934ed3e7a1a8e6818598f0774d4fec4104022e70edea"), looks := false }, kinds := [], alts := [], laidByText := true, laidKinds := [.data, .data], laidTests := true, laidLooks := .later }
def FnExactOpenInUptoCardSaid : Prop := Claim7.holds Tryd.pinned (.plain (OpenSpec.upto fnExactOpenInSpec)) fnExactOpenInUptoCard

/-- THE SECOND FORM's CARD OF 'laws.FnExactGreenShare'. -/
def fnExactGreenShareUptoCard : Claim7 := { stood := { row := fnExactGreenShareUptoRow, standIns := [], harness := (true, "9f221388cbfac386260b934ed3e7a1a8e6818598f0774d4fec4104022e70edea"), looks := false }, kinds := [], alts := [], laidByText := true, laidKinds := [.data, .data], laidTests := true, laidLooks := .later }
def FnExactGreenShareUptoCardSaid : Prop := Claim7.holds Tryd.pinned (.plain (OpenSpec.upto fnExactGreenShareSpec)) fnExactGreenShareUptoCard

/-- THE SECOND FORM's CARD OF 'laws.FnExactSpareGreen'. -/
def fnExactSpareGreenUptoCard : Claim7 := { stood := { row := fnExactSpareGreenUptoRow, standIns := [], harness := (true, "9f221388cbfac386260b934ed3e7a1a8e6818598f0774d4fec4104022e70edea"), looks := false }, kinds := [], alts := [], laidByText := true, laidKinds := [.data, .data], laidTests := true, laidLooks := .later }
def FnExactSpareGreenUptoCardSaid : Prop := Claim7.holds Tryd.pinned (.plain (OpenSpec.upto fnExactSpareGreenSpec)) fnExactSpareGreenUptoCard
end Rows
end Go.Proofs.YtmbbmffoihhdfaaDoor
