/-
  DERIVED. GIVEN WITH THE SEED: THE CARDS: each row of YtlpkafhapmkkfaaDoorRows.lean that lists a variable, with what it lists TIED to the program's text (the seventh form; the later family's looks); each row that meets fmt, with fmt's text TOLD by the authors' own Lean function (tested against real Go, not proved from fmt's source: count such statements apart). THE CARD IS WHAT COUNTS. Prove the row's statement (the work); the ties are given (YtlpkafhapmkkfaaDoorTie.lean); close each card by the builder's one call (the guide's Derived/Test/ToyasCard.lean, 'card_holds'). Laid BY PROGRAM, IN A SANDBOX (cutbox-door.mjs). By AI agents, Wed Nov 11 2026. No macro, syntax, notation, axiom, sorry.
-/
import Derived.Test.YtlpkafhapmkkfaaDoorRows
import GoSem.ClaimSeven
namespace Go.Proofs.YtlpkafhapmkkfaaDoor
namespace Rows

/-- THE TIED CARD OF 'laws.FnExactServiceOf'. -/
def fnExactServiceOfCard : Claim7 := { stood := { row := fnExactServiceOfRow, standIns := [], harness := (true, "b2cd9e4cd9f1e3de8d04f46fdbfaecb140dedf6e9f1fbaadb7999de3499a6122"), looks := false }, kinds := [], alts := [], laidByText := true, laidKinds := [.data, .data], laidTests := true, laidLooks := .later }
def FnExactServiceOfCardSaid : Prop := Claim7.holds Tryd.pinned (.plain (OpenSpec.ofChange fnExactServiceOfSpec)) fnExactServiceOfCard

/-- THE SECOND FORM's CARD OF 'laws.FnExactServiceOf'. -/
def fnExactServiceOfUptoCard : Claim7 := { stood := { row := fnExactServiceOfUptoRow, standIns := [], harness := (true, "b2cd9e4cd9f1e3de8d04f46fdbfaecb140dedf6e9f1fbaadb7999de3499a6122"), looks := false }, kinds := [], alts := [], laidByText := true, laidKinds := [.data, .data], laidTests := true, laidLooks := .later }
def FnExactServiceOfUptoCardSaid : Prop := Claim7.holds Tryd.pinned (.plain (OpenSpec.upto fnExactServiceOfSpec)) fnExactServiceOfUptoCard
end Rows
end Go.Proofs.YtlpkafhapmkkfaaDoor
