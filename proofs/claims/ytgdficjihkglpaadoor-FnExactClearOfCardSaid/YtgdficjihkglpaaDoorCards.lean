/-
  DERIVED. GIVEN WITH THE SEED: THE CARDS: each row of YtgdficjihkglpaaDoorRows.lean that lists a variable, with what it lists TIED to the program's text (the seventh form; the later family's looks); each row that meets fmt, with fmt's text TOLD by the authors' own Lean function (tested against real Go, not proved from fmt's source: count such statements apart). THE CARD IS WHAT COUNTS. Prove the row's statement (the work); the ties are given (YtgdficjihkglpaaDoorTie.lean); close each card by the builder's one call (the guide's Derived/Test/ToyasCard.lean, 'card_holds'). Laid BY PROGRAM, IN A SANDBOX (cutbox-door.mjs). By AI agents, Wed Nov 11 2026. No macro, syntax, notation, axiom, sorry.
-/
import Derived.Test.YtgdficjihkglpaaDoorRows
import GoSem.ClaimSeven
namespace Go.Proofs.YtgdficjihkglpaaDoor
namespace Rows

/-- THE TIED CARD OF 'laws.FnExactClearOf'. -/
def fnExactClearOfCard : Claim7 := { stood := { row := fnExactClearOfRow, standIns := [], harness := (true, "9bb9a8255864b2e5a8ed2e92bf53d172904c58bd4fcac13b43832637b73b7168"), looks := false }, kinds := [], alts := [], laidByText := true, laidKinds := [.data], laidTests := true, laidLooks := .later }
def FnExactClearOfCardSaid : Prop := Claim7.holds Tryd.pinned (.plain (OpenSpec.ofChange fnExactClearOfSpec)) fnExactClearOfCard

/-- THE TIED CARD OF 'laws.FnExactLongestClear'. -/
def fnExactLongestClearCard : Claim7 := { stood := { row := fnExactLongestClearRow, standIns := [], harness := (true, "9bb9a8255864b2e5a8ed2e92bf53d172904c58bd4fcac13b43832637b73b7168"), looks := false }, kinds := [], alts := [], laidByText := true, laidKinds := [.data], laidTests := true, laidLooks := .later }
def FnExactLongestClearCardSaid : Prop := Claim7.holds Tryd.pinned (.plain (OpenSpec.ofChange fnExactLongestClearSpec)) fnExactLongestClearCard

/-- THE SECOND FORM's CARD OF 'laws.FnExactClearOf'. -/
def fnExactClearOfUptoCard : Claim7 := { stood := { row := fnExactClearOfUptoRow, standIns := [], harness := (true, "9bb9a8255864b2e5a8ed2e92bf53d172904c58bd4fcac13b43832637b73b7168"), looks := false }, kinds := [], alts := [], laidByText := true, laidKinds := [.data], laidTests := true, laidLooks := .later }
def FnExactClearOfUptoCardSaid : Prop := Claim7.holds Tryd.pinned (.plain (OpenSpec.upto fnExactClearOfSpec)) fnExactClearOfUptoCard

/-- THE SECOND FORM's CARD OF 'laws.FnExactLongestClear'. -/
def fnExactLongestClearUptoCard : Claim7 := { stood := { row := fnExactLongestClearUptoRow, standIns := [], harness := (true, "9bb9a8255864b2e5a8ed2e92bf53d172904c58bd4fcac13b43832637b73b7168"), looks := false }, kinds := [], alts := [], laidByText := true, laidKinds := [.data], laidTests := true, laidLooks := .later }
def FnExactLongestClearUptoCardSaid : Prop := Claim7.holds Tryd.pinned (.plain (OpenSpec.upto fnExactLongestClearSpec)) fnExactLongestClearUptoCard
end Rows
end Go.Proofs.YtgdficjihkglpaaDoor
