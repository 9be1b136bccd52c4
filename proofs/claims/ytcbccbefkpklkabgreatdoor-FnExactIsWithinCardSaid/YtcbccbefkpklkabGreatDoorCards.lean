/-
  DERIVED. GIVEN WITH THE SEED: THE CARDS: each row of YtcbccbefkpklkabGreatDoorRows.lean that lists a variable, with what it lists TIED to the program's text (the seventh form; the later family's looks); each row that meets fmt, with fmt's text TOLD by the authors' own Lean function (tested against real Go, not proved from fmt's source: count such statements apart). THE CARD IS WHAT COUNTS. Prove the row's statement (the work); the ties are given (YtcbccbefkpklkabGreatDoorTie.lean); close each card by the builder's one call (the guide's Derived/Test/ToyasCard.lean, 'card_holds'). Laid BY PROGRAM, IN A SANDBOX (cutbox-door.mjs). By AI agents, Wed Nov 11 2026. No macro, syntax, notation, axiom, sorry.
-/
import Derived.Test.YtcbccbefkpklkabGreatDoorRows
import GoSem.ClaimSeven
namespace Go.Proofs.YtcbccbefkpklkabGreatDoor
namespace Rows

/-- THE TIED CARD OF 'laws.FnExactServedAt'. -/
def fnExactServedAtCard : Claim7 := { stood := { row := fnExactServedAtRow, standIns := [], harness := (true, "37dc8d642d2f7734d757a9bd032c16a6f4c9484cc4ad46b957672840951b239a"), looks := false }, kinds := [], alts := [], laidByText := true, laidKinds := [.data, .data], laidTests := true, laidLooks := .later }
def FnExactServedAtCardSaid : Prop := Claim7.holds Tryz.pinned (.plain (OpenSpec.ofChange fnExactServedAtSpec)) fnExactServedAtCard

/-- THE TIED CARD OF 'laws.FnExactIsWithin'. -/
def fnExactIsWithinCard : Claim7 := { stood := { row := fnExactIsWithinRow, standIns := [], harness := (true, "37dc8d642d2f7734d757a9bd032c16a6f4c9484cc4ad46b957672840951b239a"), looks := false }, kinds := [], alts := [], laidByText := true, laidKinds := [.data, .data], laidTests := true, laidLooks := .later }
def FnExactIsWithinCardSaid : Prop := Claim7.holds Tryz.pinned (.plain (OpenSpec.ofChange fnExactIsWithinSpec)) fnExactIsWithinCard

/-- THE TIED CARD OF 'laws.FnExactPlanHistory'. -/
def fnExactPlanHistoryCard : Claim7 := { stood := { row := fnExactPlanHistoryRow, standIns := [], harness := (true, "37dc8d642d2f7734d757a9bd032c16a6f4c9484cc4ad46b957672840951b239a"), looks := false }, kinds := [], alts := [], laidByText := true, laidKinds := [.data, .data], laidTests := true, laidLooks := .later }
def FnExactPlanHistoryCardSaid : Prop := Claim7.holds Tryz.pinned (.plain (OpenSpec.ofChange fnExactPlanHistorySpec)) fnExactPlanHistoryCard

/-- THE SECOND FORM's CARD OF 'laws.FnExactServedAt'. -/
def fnExactServedAtUptoCard : Claim7 := { stood := { row := fnExactServedAtUptoRow, standIns := [], harness := (true, "37dc8d642d2f7734d757a9bd032c16a6f4c9484cc4ad46b957672840951b239a"), looks := false }, kinds := [], alts := [], laidByText := true, laidKinds := [.data, .data], laidTests := true, laidLooks := .later }
def FnExactServedAtUptoCardSaid : Prop := Claim7.holds Tryz.pinned (.plain (OpenSpec.upto fnExactServedAtSpec)) fnExactServedAtUptoCard

/-- THE SECOND FORM's CARD OF 'laws.FnExactIsWithin'. -/
def fnExactIsWithinUptoCard : Claim7 := { stood := { row := fnExactIsWithinUptoRow, standIns := [], harness := (true, "37dc8d642d2f7734d757a9bd032c16a6f4c9484cc4ad46b957672840951b239a"), looks := false }, kinds := [], alts := [], laidByText := true, laidKinds := [.data, .data], laidTests := true, laidLooks := .later }
def FnExactIsWithinUptoCardSaid : Prop := Claim7.holds Tryz.pinned (.plain (OpenSpec.upto fnExactIsWithinSpec)) fnExactIsWithinUptoCard

/-- THE SECOND FORM's CARD OF 'laws.FnExactPlanHistory'. -/
def fnExactPlanHistoryUptoCard : Claim7 := { stood := { row := fnExactPlanHistoryUptoRow, standIns := [], harness := (true, "37dc8d642d2f7734d757a9bd032c16a6f4c9484cc4ad46b957672840951b239a"), looks := false }, kinds := [], alts := [], laidByText := true, laidKinds := [.data, .data], laidTests := true, laidLooks := .later }
def FnExactPlanHistoryUptoCardSaid : Prop := Claim7.holds Tryz.pinned (.plain (OpenSpec.upto fnExactPlanHistorySpec)) fnExactPlanHistoryUptoCard
end Rows
end Go.Proofs.YtcbccbefkpklkabGreatDoor
