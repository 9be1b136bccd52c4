/-
  DERIVED. GIVEN WITH THE SEED: THE CARDS: each row of YtgdficjihkglpabDoorRows.lean that lists a variable, with what it lists TIED to the program's text (the seventh form; the later family's looks); each row that meets fmt, with fmt's text TOLD by the authors' own Lean function (tested against real Go, not proved from fmt's source: count such statements apart). THE CARD IS WHAT COUNTS. Prove the row's statement (the work); the ties are given (YtgdficjihkglpabDoorTie.lean); close each card by the builder's one call (the guide's Derived/Test/ToyasCard.lean, 'card_holds'). Laid BY PROGRAM, IN A SANDBOX (cutbox-door.mjs). By AI agents, Wed Nov 11 2026. No macro, syntax, notation, axiom, sorry.
-/
import Derived.Test.YtgdficjihkglpabDoorRows
import GoSem.ClaimSeven
namespace Go.Proofs.YtgdficjihkglpabDoor
namespace Rows

/-- THE TIED CARD OF 'laws.FnExactStagesOf'. -/
def fnExactStagesOfCard : Claim7 := { stood := { row := fnExactStagesOfRow, standIns := [], harness := (true, "c20ac1e10f485780b167d40457be1548c8fa60fd53e0e7d2802aeca92c4252d6"), looks := false }, kinds := [], alts := [], laidByText := true, laidKinds := [.data], laidTests := true, laidLooks := .later }
def FnExactStagesOfCardSaid : Prop := Claim7.holds Tryd.pinned (.plain (OpenSpec.ofChange fnExactStagesOfSpec)) fnExactStagesOfCard

/-- THE TIED CARD OF 'laws.FnExactIsTogether'. -/
def fnExactIsTogetherCard : Claim7 := { stood := { row := fnExactIsTogetherRow, standIns := [], harness := (true, "c20ac1e10f485780b167d40457be1548c8fa60fd53e0e7d2802aeca92c4252d6"), looks := false }, kinds := [], alts := [], laidByText := true, laidKinds := [.data], laidTests := true, laidLooks := .later }
def FnExactIsTogetherCardSaid : Prop := Claim7.holds Tryd.pinned (.plain (OpenSpec.ofChange fnExactIsTogetherSpec)) fnExactIsTogetherCard

/-- THE TIED CARD OF 'laws.FnExactIsFullStage'. -/
def fnExactIsFullStageCard : Claim7 := { stood := { row := fnExactIsFullStageRow, standIns := [], harness := (true, "c20ac1e10f485780b167d40457be1548c8fa60fd53e0e7d2802aeca92c4252d6"), looks := false }, kinds := [], alts := [], laidByText := true, laidKinds := [.data], laidTests := true, laidLooks := .later }
def FnExactIsFullStageCardSaid : Prop := Claim7.holds Tryd.pinned (.plain (OpenSpec.ofChange fnExactIsFullStageSpec)) fnExactIsFullStageCard

/-- THE TIED CARD OF 'laws.FnExactAddToStage'. -/
def fnExactAddToStageCard : Claim7 := { stood := { row := fnExactAddToStageRow, standIns := [], harness := (true, "c20ac1e10f485780b167d40457be1548c8fa60fd53e0e7d2802aeca92c4252d6"), looks := false }, kinds := [], alts := [], laidByText := true, laidKinds := [.data], laidTests := true, laidLooks := .later }
def FnExactAddToStageCardSaid : Prop := Claim7.holds Tryd.pinned (.plain (OpenSpec.ofChange fnExactAddToStageSpec)) fnExactAddToStageCard

/-- THE TIED CARD OF 'laws.FnExactCovers'. -/
def fnExactCoversCard : Claim7 := { stood := { row := fnExactCoversRow, standIns := [], harness := (true, "c20ac1e10f485780b167d40457be1548c8fa60fd53e0e7d2802aeca92c4252d6"), looks := false }, kinds := [], alts := [], laidByText := true, laidKinds := [.data], laidTests := true, laidLooks := .later }
def FnExactCoversCardSaid : Prop := Claim7.holds Tryd.pinned (.plain (OpenSpec.ofChange fnExactCoversSpec)) fnExactCoversCard

/-- THE TIED CARD OF 'laws.FnExactClearBetween'. -/
def fnExactClearBetweenCard : Claim7 := { stood := { row := fnExactClearBetweenRow, standIns := [], harness := (true, "c20ac1e10f485780b167d40457be1548c8fa60fd53e0e7d2802aeca92c4252d6"), looks := false }, kinds := [], alts := [], laidByText := true, laidKinds := [.data, .data], laidTests := true, laidLooks := .later }
def FnExactClearBetweenCardSaid : Prop := Claim7.holds Tryd.pinned (.plain (OpenSpec.ofChange fnExactClearBetweenSpec)) fnExactClearBetweenCard

/-- THE SECOND FORM's CARD OF 'laws.FnExactStagesOf'. -/
def fnExactStagesOfUptoCard : Claim7 := { stood := { row := fnExactStagesOfUptoRow, standIns := [], harness := (true, "c20ac1e10f485780b167d40457be1548c8fa60fd53e0e7d2802aeca92c4252d6"), looks := false }, kinds := [], alts := [], laidByText := true, laidKinds := [.data], laidTests := true, laidLooks := .later }
def FnExactStagesOfUptoCardSaid : Prop := Claim7.holds Tryd.pinned (.plain (OpenSpec.upto fnExactStagesOfSpec)) fnExactStagesOfUptoCard

/-- THE SECOND FORM's CARD OF 'laws.FnExactIsTogether'. -/
def fnExactIsTogetherUptoCard : Claim7 := { stood := { row := fnExactIsTogetherUptoRow, standIns := [], harness := (true, "c20ac1e10f485780b167d40457be1548c8fa60fd53e0e7d2802aeca92c4252d6"), looks := false }, kinds := [], alts := [], laidByText := true, laidKinds := [.data], laidTests := true, laidLooks := .later }
def FnExactIsTogetherUptoCardSaid : Prop := Claim7.holds Tryd.pinned (.plain (OpenSpec.upto fnExactIsTogetherSpec)) fnExactIsTogetherUptoCard

/-- THE SECOND FORM's CARD OF 'laws.FnExactIsFullStage'. -/
def fnExactIsFullStageUptoCard : Claim7 := { stood := { row := fnExactIsFullStageUptoRow, standIns := [], harness := (true, "c20ac1e10f485780b167d40457be1548c8fa60fd53e0e7d2802aeca92c4252d6"), looks := false }, kinds := [], alts := [], laidByText := true, laidKinds := [.data], laidTests := true, laidLooks := .later }
def FnExactIsFullStageUptoCardSaid : Prop := Claim7.holds Tryd.pinned (.plain (OpenSpec.upto fnExactIsFullStageSpec)) fnExactIsFullStageUptoCard

/-- THE SECOND FORM's CARD OF 'laws.FnExactAddToStage'. -/
def fnExactAddToStageUptoCard : Claim7 := { stood := { row := fnExactAddToStageUptoRow, standIns := [], harness := (true, "c20ac1e10f485780b167d40457be1548c8fa60fd53e0e7d2802aeca92c4252d6"), looks := false }, kinds := [], alts := [], laidByText := true, laidKinds := [.data], laidTests := true, laidLooks := .later }
def FnExactAddToStageUptoCardSaid : Prop := Claim7.holds Tryd.pinned (.plain (OpenSpec.upto fnExactAddToStageSpec)) fnExactAddToStageUptoCard

/-- THE SECOND FORM's CARD OF 'laws.FnExactCovers'. -/
def fnExactCoversUptoCard : Claim7 := { stood := { row := fnExactCoversUptoRow, standIns := [], harness := (true, "c20ac1e10f485780b167d40457be1548c8fa60fd53e0e7d2802aeca92c4252d6"), looks := false }, kinds := [], alts := [], laidByText := true, laidKinds := [.data], laidTests := true, laidLooks := .later }
def FnExactCoversUptoCardSaid : Prop := Claim7.holds Tryd.pinned (.plain (OpenSpec.upto fnExactCoversSpec)) fnExactCoversUptoCard

/-- THE SECOND FORM's CARD OF 'laws.FnExactClearBetween'. -/
def fnExactClearBetweenUptoCard : Claim7 := { stood := { row := fnExactClearBetweenUptoRow, standIns := [], harness := (true, "c20ac1e10f485780b167d40457be1548c8fa60fd53e0e7d2802aeca92c4252d6"), looks := false }, kinds := [], alts := [], laidByText := true, laidKinds := [.data, .data], laidTests := true, laidLooks := .later }
def FnExactClearBetweenUptoCardSaid : Prop := Claim7.holds Tryd.pinned (.plain (OpenSpec.upto fnExactClearBetweenSpec)) fnExactClearBetweenUptoCard
end Rows
end Go.Proofs.YtgdficjihkglpabDoor
