/-
  DERIVED. GIVEN WITH THE SEED: THE CARDS: each row of YtblilnfkpfjclaaDoorRows.lean that lists a variable, with what it lists TIED to the program's text (the seventh form; the later family's looks); each row that meets fmt, with fmt's text TOLD by the authors' own Lean function (tested against real Go, not proved from fmt's source: count such statements apart). THE CARD IS WHAT COUNTS. Prove the row's statement (the work); the ties are given (YtblilnfkpfjclaaDoorTie.lean); close each card by the builder's one call (the guide's Derived/Test/ToyasCard.lean, 'card_holds'). Laid BY PROGRAM, IN A SANDBOX (cutbox-door.mjs). By AI agents, Wed Nov 11 2026. No macro, syntax, notation, axiom, sorry.
-/
import Derived.Test.YtblilnfkpfjclaaDoorRows
import GoSem.ClaimSeven
namespace Go.Proofs.YtblilnfkpfjclaaDoor
namespace Rows

/-- THE TIED CARD OF 'laws.FnExactFirstUnsafe'. -/
def fnExactFirstUnsafeCard : Claim7 := { stood := { row := fnExactFirstUnsafeRow, standIns := [], harness := (true, "3f8eced62e633489e374a227c975cfd7a7fd1121c32174a00380310d6d4fde4d"), looks := false }, kinds := [], alts := [], laidByText := true, laidKinds := [.data], laidTests := true, laidLooks := .later }
def FnExactFirstUnsafeCardSaid : Prop := Claim7.holds Tryd.pinned (.plain (OpenSpec.ofChange fnExactFirstUnsafeSpec)) fnExactFirstUnsafeCard

/-- THE SECOND FORM's CARD OF 'laws.FnExactFirstUnsafe'. -/
def fnExactFirstUnsafeUptoCard : Claim7 := { stood := { row := fnExactFirstUnsafeUptoRow, standIns := [], harness := (true, "3f8eced62e633489e374a227c975cfd7a7fd1121c32174a00380310d6d4fde4d"), looks := false }, kinds := [], alts := [], laidByText := true, laidKinds := [.data], laidTests := true, laidLooks := .later }
def FnExactFirstUnsafeUptoCardSaid : Prop := Claim7.holds Tryd.pinned (.plain (OpenSpec.upto fnExactFirstUnsafeSpec)) fnExactFirstUnsafeUptoCard
end Rows
end Go.Proofs.YtblilnfkpfjclaaDoor
