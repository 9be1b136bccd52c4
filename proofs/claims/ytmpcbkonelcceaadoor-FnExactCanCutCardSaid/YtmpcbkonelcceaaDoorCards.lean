/-
  DERIVED. GIVEN WITH THE SEED: THE CARDS: each row of YtmpcbkonelcceaaDoorRows.lean that lists a variable, with what it lists TIED to the program's text (the seventh form; the later family's looks); each row that meets fmt, with fmt's text TOLD by the authors' own Lean function (tested against real Go, not proved from fmt's source: count such statements apart). THE CARD IS WHAT COUNTS. Prove the row's statement (the work); the ties are given (YtmpcbkonelcceaaDoorTie.lean); close each card by the builder's one call (the guide's Derived/Test/ToyasCard.lean, 'card_holds'). Laid BY PROGRAM, IN A SANDBOX (cutbox-door.mjs). By AI agents, Wed Nov 11 2026. No macro, syntax, notation, axiom, sorry.
-/
import Derived.Test.YtmpcbkonelcceaaDoorRows
import GoSem.ClaimSeven
namespace Go.Proofs.YtmpcbkonelcceaaDoor
namespace Rows

/-- THE TIED CARD OF 'laws.FnExactTickControl'. -/
def fnExactTickControlCard : Claim7 := { stood := { row := fnExactTickControlRow, standIns := [], harness := (true, "d4c8d0831d59293e8db9e19315c6084ffb5ffe02a0d3eff248a12d572fd4a698"), looks := false }, kinds := [], alts := [], laidByText := true, laidKinds := [.data, .data], laidTests := true, laidLooks := .later }
def FnExactTickControlCardSaid : Prop := Claim7.holds Tryd.pinned (.plain (OpenSpec.ofChange fnExactTickControlSpec)) fnExactTickControlCard

/-- THE TIED CARD OF 'laws.FnExactAskStage'. -/
def fnExactAskStageCard : Claim7 := { stood := { row := fnExactAskStageRow, standIns := [], harness := (true, "d4c8d0831d59293e8db9e19315c6084ffb5ffe02a0d3eff248a12d572fd4a698"), looks := false }, kinds := [], alts := [], laidByText := true, laidKinds := [.data, .data], laidTests := true, laidLooks := .later }
def FnExactAskStageCardSaid : Prop := Claim7.holds Tryd.pinned (.plain (OpenSpec.ofChange fnExactAskStageSpec)) fnExactAskStageCard

/-- THE TIED CARD OF 'laws.FnExactCanCut'. -/
def fnExactCanCutCard : Claim7 := { stood := { row := fnExactCanCutRow, standIns := [], harness := (true, "d4c8d0831d59293e8db9e19315c6084ffb5ffe02a0d3eff248a12d572fd4a698"), looks := false }, kinds := [], alts := [], laidByText := true, laidKinds := [.data, .data, .data], laidTests := true, laidLooks := .later }
def FnExactCanCutCardSaid : Prop := Claim7.holds Tryd.pinned (.plain (OpenSpec.ofChange fnExactCanCutSpec)) fnExactCanCutCard

/-- THE TIED CARD OF 'laws.FnExactLongestSiren'. -/
def fnExactLongestSirenCard : Claim7 := { stood := { row := fnExactLongestSirenRow, standIns := [], harness := (true, "d4c8d0831d59293e8db9e19315c6084ffb5ffe02a0d3eff248a12d572fd4a698"), looks := false }, kinds := [], alts := [], laidByText := true, laidKinds := [.data], laidTests := true, laidLooks := .later }
def FnExactLongestSirenCardSaid : Prop := Claim7.holds Tryd.pinned (.plain (OpenSpec.ofChange fnExactLongestSirenSpec)) fnExactLongestSirenCard

/-- THE SECOND FORM's CARD OF 'laws.FnExactTickControl'. -/
def fnExactTickControlUptoCard : Claim7 := { stood := { row := fnExactTickControlUptoRow, standIns := [], harness := (true, "d4c8d0831d59293e8db9e19315c6084ffb5ffe02a0d3eff248a12d572fd4a698"), looks := false }, kinds := [], alts := [], laidByText := true, laidKinds := [.data, .data], laidTests := true, laidLooks := .later }
def FnExactTickControlUptoCardSaid : Prop := Claim7.holds Tryd.pinned (.plain (OpenSpec.upto fnExactTickControlSpec)) fnExactTickControlUptoCard

/-- THE SECOND FORM's CARD OF 'laws.FnExactAskStage'. -/
def fnExactAskStageUptoCard : Claim7 := { stood := { row := fnExactAskStageUptoRow, standIns := [], harness := (true, "d4c8d0831d59293e8db9e19315c6084ffb5ffe02a0d3eff248a12d572fd4a698"), looks := false }, kinds := [], alts := [], laidByText := true, laidKinds := [.data, .data], laidTests := true, laidLooks := .later }
def FnExactAskStageUptoCardSaid : Prop := Claim7.holds Tryd.pinned (.plain (OpenSpec.upto fnExactAskStageSpec)) fnExactAskStageUptoCard

/-- THE SECOND FORM's CARD OF 'laws.FnExactCanCut'. -/
def fnExactCanCutUptoCard : Claim7 := { stood := { row := fnExactCanCutUptoRow, standIns := [], harness := (true, "d4c8d0831d59293e8db9e19315c6084ffb5ffe02a0d3eff248a12d572fd4a698"), looks := false }, kinds := [], alts := [], laidByText := true, laidKinds := [.data, .data, .data], laidTests := true, laidLooks := .later }
def FnExactCanCutUptoCardSaid : Prop := Claim7.holds Tryd.pinned (.plain (OpenSpec.upto fnExactCanCutSpec)) fnExactCanCutUptoCard

/-- THE SECOND FORM's CARD OF 'laws.FnExactLongestSiren'. -/
def fnExactLongestSirenUptoCard : Claim7 := { stood := { row := fnExactLongestSirenUptoRow, standIns := [], harness := (true, "d4c8d0831d59293e8db9e19315c6084ffb5ffe02a0d3eff248a12d572fd4a698"), looks := false }, kinds := [], alts := [], laidByText := true, laidKinds := [.data], laidTests := true, laidLooks := .later }
def FnExactLongestSirenUptoCardSaid : Prop := Claim7.holds Tryd.pinned (.plain (OpenSpec.upto fnExactLongestSirenSpec)) fnExactLongestSirenUptoCard
end Rows
end Go.Proofs.YtmpcbkonelcceaaDoor
