/-
  DERIVED. GIVEN WITH THE SEED: THE CARDS: each row of YtdgpodopkfnpeabDoorRows.lean that lists a variable, with what it lists TIED to the program's text (the seventh form; the later family's looks); each row that meets fmt, with fmt's text TOLD by the authors' own Lean function (tested against real Go, not proved from fmt's source: count such statements apart). THE CARD IS WHAT COUNTS. Prove the row's statement (the work); the ties are given (YtdgpodopkfnpeabDoorTie.lean); close each card by the builder's one call (the guide's Derived/Test/ToyasCard.lean, 'card_holds'). Laid BY PROGRAM, IN A SANDBOX (cutbox-door.mjs). By AI agents, Wed Nov 11 2026. No macro, syntax, notation, axiom, sorry.
-/
import Derived.Test.YtdgpodopkfnpeabDoorRows
import GoSem.ClaimSeven
namespace Go.Proofs.YtdgpodopkfnpeabDoor
namespace Rows

/-- THE TIED CARD OF 'laws.FnExactVerdict'. -/
def fnExactVerdictCard : Claim7 := { stood := { row := fnExactVerdictRow, standIns := [], harness := (true, "76396a697f32c9b40be98e118645d55f4ed15be2f90e434c84a20fee660bec8e"), looks := false }, kinds := [], alts := [], laidByText := true, laidKinds := [.data], laidTests := true, laidLooks := .later }
def FnExactVerdictCardSaid : Prop := Claim7.holds Tryd.pinned (.plain (OpenSpec.ofChange fnExactVerdictSpec)) fnExactVerdictCard

/-- THE TIED CARD OF 'laws.FnExactWaitBound'. -/
def fnExactWaitBoundCard : Claim7 := { stood := { row := fnExactWaitBoundRow, standIns := [], harness := (true, "76396a697f32c9b40be98e118645d55f4ed15be2f90e434c84a20fee660bec8e"), looks := false }, kinds := [], alts := [], laidByText := true, laidKinds := [.data], laidTests := true, laidLooks := .later }
def FnExactWaitBoundCardSaid : Prop := Claim7.holds Tryd.pinned (.plain (OpenSpec.ofChange fnExactWaitBoundSpec)) fnExactWaitBoundCard

/-- THE SECOND FORM's CARD OF 'laws.FnExactVerdict'. -/
def fnExactVerdictUptoCard : Claim7 := { stood := { row := fnExactVerdictUptoRow, standIns := [], harness := (true, "76396a697f32c9b40be98e118645d55f4ed15be2f90e434c84a20fee660bec8e"), looks := false }, kinds := [], alts := [], laidByText := true, laidKinds := [.data], laidTests := true, laidLooks := .later }
def FnExactVerdictUptoCardSaid : Prop := Claim7.holds Tryd.pinned (.plain (OpenSpec.upto fnExactVerdictSpec)) fnExactVerdictUptoCard

/-- THE SECOND FORM's CARD OF 'laws.FnExactWaitBound'. -/
def fnExactWaitBoundUptoCard : Claim7 := { stood := { row := fnExactWaitBoundUptoRow, standIns := [], harness := (true, "76396a697f32c9b40be98e118645d55f4ed15be2f90e434c84a20fee660bec8e"), looks := false }, kinds := [], alts := [], laidByText := true, laidKinds := [.data], laidTests := true, laidLooks := .later }
def FnExactWaitBoundUptoCardSaid : Prop := Claim7.holds Tryd.pinned (.plain (OpenSpec.upto fnExactWaitBoundSpec)) fnExactWaitBoundUptoCard
end Rows
end Go.Proofs.YtdgpodopkfnpeabDoor
