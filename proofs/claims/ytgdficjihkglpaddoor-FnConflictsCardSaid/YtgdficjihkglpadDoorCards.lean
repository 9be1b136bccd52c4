/-
  DERIVED. GIVEN WITH THE SEED: THE CARDS: each row of YtgdficjihkglpadDoorRows.lean that lists a variable, with what it lists TIED to the program's text (the seventh form; the later family's looks); each row that meets fmt, with fmt's text TOLD by the authors' own Lean function (tested against real Go, not proved from fmt's source: count such statements apart). THE CARD IS WHAT COUNTS. Prove the row's statement (the work); the ties are given (YtgdficjihkglpadDoorTie.lean); close each card by the builder's one call (the guide's Derived/Test/ToyasCard.lean, 'card_holds'). Laid BY PROGRAM, IN A SANDBOX (cutbox-door.mjs). By AI agents, Wed Nov 11 2026. No macro, syntax, notation, axiom, sorry.
-/
import Derived.Test.YtgdficjihkglpadDoorRows
import GoSem.ClaimSeven
namespace Go.Proofs.YtgdficjihkglpadDoor
namespace Rows

/-- THE TIED CARD OF 'laws.FnExactIsSafeLights'. -/
def fnExactIsSafeLightsCard : Claim7 := { stood := { row := fnExactIsSafeLightsRow, standIns := [], harness := (true, "5370606733853a1095930014d20f46189f42bc26ac400d1c075c92a754e27ea9"), looks := false }, kinds := [], alts := [], laidByText := true, laidKinds := [.data], laidTests := true, laidLooks := .later }
def FnExactIsSafeLightsCardSaid : Prop := Claim7.holds Tryd.pinned (.plain (OpenSpec.ofChange fnExactIsSafeLightsSpec)) fnExactIsSafeLightsCard

/-- THE TIED CARD OF 'laws.FnStages'. -/
def fnStagesCard : Claim7 := { stood := { row := fnStagesRow, standIns := [], harness := (true, "5370606733853a1095930014d20f46189f42bc26ac400d1c075c92a754e27ea9"), looks := false }, kinds := [], alts := [], laidByText := true, laidKinds := [.data], laidTests := true, laidLooks := .later }
def FnStagesCardSaid : Prop := Claim7.holds Tryd.pinned (.plain (OpenSpec.ofChange fnStagesSpec)) fnStagesCard

/-- THE TIED CARD OF 'laws.FnConflicts'. -/
def fnConflictsCard : Claim7 := { stood := { row := fnConflictsRow, standIns := [], harness := (true, "5370606733853a1095930014d20f46189f42bc26ac400d1c075c92a754e27ea9"), looks := false }, kinds := [], alts := [], laidByText := true, laidKinds := [.data], laidTests := true, laidLooks := .later }
def FnConflictsCardSaid : Prop := Claim7.holds Tryd.pinned (.plain (OpenSpec.ofChange fnConflictsSpec)) fnConflictsCard

/-- THE TIED CARD OF 'laws.FnClearing'. -/
def fnClearingCard : Claim7 := { stood := { row := fnClearingRow, standIns := [], harness := (true, "5370606733853a1095930014d20f46189f42bc26ac400d1c075c92a754e27ea9"), looks := false }, kinds := [], alts := [], laidByText := true, laidKinds := [.data, .data], laidTests := true, laidLooks := .later }
def FnClearingCardSaid : Prop := Claim7.holds Tryd.pinned (.plain (OpenSpec.ofChange fnClearingSpec)) fnClearingCard

/-- THE SECOND FORM's CARD OF 'laws.FnExactIsSafeLights'. -/
def fnExactIsSafeLightsUptoCard : Claim7 := { stood := { row := fnExactIsSafeLightsUptoRow, standIns := [], harness := (true, "5370606733853a1095930014d20f46189f42bc26ac400d1c075c92a754e27ea9"), looks := false }, kinds := [], alts := [], laidByText := true, laidKinds := [.data], laidTests := true, laidLooks := .later }
def FnExactIsSafeLightsUptoCardSaid : Prop := Claim7.holds Tryd.pinned (.plain (OpenSpec.upto fnExactIsSafeLightsSpec)) fnExactIsSafeLightsUptoCard

/-- THE SECOND FORM's CARD OF 'laws.FnStages'. -/
def fnStagesUptoCard : Claim7 := { stood := { row := fnStagesUptoRow, standIns := [], harness := (true, "5370606733853a1095930014d20f46189f42bc26ac400d1c075c92a754e27ea9"), looks := false }, kinds := [], alts := [], laidByText := true, laidKinds := [.data], laidTests := true, laidLooks := .later }
def FnStagesUptoCardSaid : Prop := Claim7.holds Tryd.pinned (.plain (OpenSpec.upto fnStagesSpec)) fnStagesUptoCard

/-- THE SECOND FORM's CARD OF 'laws.FnConflicts'. -/
def fnConflictsUptoCard : Claim7 := { stood := { row := fnConflictsUptoRow, standIns := [], harness := (true, "5370606733853a1095930014d20f46189f42bc26ac400d1c075c92a754e27ea9"), looks := false }, kinds := [], alts := [], laidByText := true, laidKinds := [.data], laidTests := true, laidLooks := .later }
def FnConflictsUptoCardSaid : Prop := Claim7.holds Tryd.pinned (.plain (OpenSpec.upto fnConflictsSpec)) fnConflictsUptoCard

/-- THE SECOND FORM's CARD OF 'laws.FnClearing'. -/
def fnClearingUptoCard : Claim7 := { stood := { row := fnClearingUptoRow, standIns := [], harness := (true, "5370606733853a1095930014d20f46189f42bc26ac400d1c075c92a754e27ea9"), looks := false }, kinds := [], alts := [], laidByText := true, laidKinds := [.data, .data], laidTests := true, laidLooks := .later }
def FnClearingUptoCardSaid : Prop := Claim7.holds Tryd.pinned (.plain (OpenSpec.upto fnClearingSpec)) fnClearingUptoCard
end Rows
end Go.Proofs.YtgdficjihkglpadDoor
