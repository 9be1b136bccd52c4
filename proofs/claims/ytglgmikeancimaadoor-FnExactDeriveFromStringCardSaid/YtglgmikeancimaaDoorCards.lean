/-
  DERIVED. GIVEN WITH THE SEED: THE CARDS: each row of YtglgmikeancimaaDoorRows.lean that lists a variable, with what it lists TIED to the program's text (the seventh form; the later family's looks); each row that meets fmt, with fmt's text TOLD by the authors' own Lean function (tested against real Go, not proved from fmt's source: count such statements apart). THE CARD IS WHAT COUNTS. Prove the row's statement (the work); the ties are given (YtglgmikeancimaaDoorTie.lean); close each card by the builder's one call (the guide's Derived/Test/ToyasCard.lean, 'card_holds'). Laid BY PROGRAM, IN A SANDBOX (cutbox-door.mjs). By AI agents, Wed Nov 11 2026. No macro, syntax, notation, axiom, sorry.
-/
import Derived.Test.YtglgmikeancimaaDoorRows
import GoSem.ClaimSeven
namespace Go.Proofs.YtglgmikeancimaaDoor
namespace Rows

/-- THE TIED CARD OF 'laws.FnKeyedHash'. -/
def fnKeyedHashCard : Claim7 := { stood := { row := fnKeyedHashRow, standIns := [], harness := (true, "89160314f0b1f03aae7f2be76e553c4f9a234f836341897d71c70c17f8ced483"), looks := true }, kinds := [], alts := [], laidByText := true, laidKinds := [.sentinel, .sentinel], laidTests := true, laidLooks := .later }
def FnKeyedHashCardSaid : Prop := Claim7.holds Tryd.pinned (.plain (OpenSpec.ofChange fnKeyedHashSpec)) fnKeyedHashCard

/-- THE TIED CARD OF 'laws.FnExactIsValidKey'. -/
def fnExactIsValidKeyCard : Claim7 := { stood := { row := fnExactIsValidKeyRow, standIns := [], harness := (true, "89160314f0b1f03aae7f2be76e553c4f9a234f836341897d71c70c17f8ced483"), looks := true }, kinds := [], alts := [], laidByText := true, laidKinds := [.sentinel, .sentinel], laidTests := true, laidLooks := .later }
def FnExactIsValidKeyCardSaid : Prop := Claim7.holds Tryd.pinned (.plain (OpenSpec.ofChange fnExactIsValidKeySpec)) fnExactIsValidKeyCard

/-- THE TIED CARD OF 'laws.FnExactDeriveFromString'. -/
def fnExactDeriveFromStringCard : Claim7 := { stood := { row := fnExactDeriveFromStringRow, standIns := [], harness := (true, "89160314f0b1f03aae7f2be76e553c4f9a234f836341897d71c70c17f8ced483"), looks := true }, kinds := [], alts := [], laidByText := true, laidKinds := [.sentinel, .sentinel], laidTests := true, laidLooks := .later }
def FnExactDeriveFromStringCardSaid : Prop := Claim7.holds Tryd.pinned (.plain (OpenSpec.ofChange fnExactDeriveFromStringSpec)) fnExactDeriveFromStringCard

/-- THE SECOND FORM's CARD OF 'laws.FnKeyedHash'. -/
def fnKeyedHashUptoCard : Claim7 := { stood := { row := fnKeyedHashUptoRow, standIns := [], harness := (true, "89160314f0b1f03aae7f2be76e553c4f9a234f836341897d71c70c17f8ced483"), looks := true }, kinds := [], alts := [], laidByText := true, laidKinds := [.sentinel, .sentinel], laidTests := true, laidLooks := .later }
def FnKeyedHashUptoCardSaid : Prop := Claim7.holds Tryd.pinned (.plain (OpenSpec.upto fnKeyedHashSpec)) fnKeyedHashUptoCard

/-- THE SECOND FORM's CARD OF 'laws.FnExactIsValidKey'. -/
def fnExactIsValidKeyUptoCard : Claim7 := { stood := { row := fnExactIsValidKeyUptoRow, standIns := [], harness := (true, "89160314f0b1f03aae7f2be76e553c4f9a234f836341897d71c70c17f8ced483"), looks := true }, kinds := [], alts := [], laidByText := true, laidKinds := [.sentinel, .sentinel], laidTests := true, laidLooks := .later }
def FnExactIsValidKeyUptoCardSaid : Prop := Claim7.holds Tryd.pinned (.plain (OpenSpec.upto fnExactIsValidKeySpec)) fnExactIsValidKeyUptoCard

/-- THE SECOND FORM's CARD OF 'laws.FnExactDeriveFromString'. -/
def fnExactDeriveFromStringUptoCard : Claim7 := { stood := { row := fnExactDeriveFromStringUptoRow, standIns := [], harness := (true, "89160314f0b1f03aae7f2be76e553c4f9a234f836341897d71c70c17f8ced483"), looks := true }, kinds := [], alts := [], laidByText := true, laidKinds := [.sentinel, .sentinel], laidTests := true, laidLooks := .later }
def FnExactDeriveFromStringUptoCardSaid : Prop := Claim7.holds Tryd.pinned (.plain (OpenSpec.upto fnExactDeriveFromStringSpec)) fnExactDeriveFromStringUptoCard
end Rows
end Go.Proofs.YtglgmikeancimaaDoor
