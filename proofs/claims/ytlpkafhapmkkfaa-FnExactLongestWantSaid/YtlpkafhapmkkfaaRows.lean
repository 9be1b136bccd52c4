/-
  No cell of these rows narrows 'for every input' (looked for: loops, veiled, ifaces, maps, wideKeys, modest, calm, conditions, laid).
  DERIVED. THE GIVEN ROWS OF THIS SEAT. 6 by the template 'for every input the law returns true; each argument reads behind the call as it read before'; 0 by the template 'total and deterministic' (their statements: YtlpkafhapmkkfaaTotals.lean).
  GIVEN WITH THE SEED: the statements are not yours to turn. If you find one false, say at which input.
  Laid BY PROGRAM, IN A SANDBOX (cutbox-rows.mjs): the forced cells as the released guide's own fill.sh prints them over the translation c34f009209850e77… (all of the seat's roots in one cut). By AI agents, Wed Nov 11 2026. No macro, syntax, notation, axiom, sorry.
-/
import Derived.Test.YtlpkafhapmkkfaaChecked
import GoSem.Claim
import GoSem.ClaimJoined
import GoSem.ClaimMapViews
import Derived.JoinedTies
import Derived.KernelRfl
namespace Go.Proofs.Ytlpkafhapmkkfaa
/- THE CELL 'sum', in the pinned program and in every row, IS THE sha256 OF THE DUMP (.gsa) THAT YtlpkafhapmkkfaaProg.lean LOADS. Nothing in Lean hashes anything: it is a label: what it is worth is what the hold of that sum in a sandbox is worth. -/
noncomputable def Try.pinned : Pinned := { name := "ytlpkafhapmkkfaa", sum := "c34f009209850e77ac300fd199be81ae701aca1c820a217bbbdd859d71e088d0", checked := Try.checked }
namespace Rows
def none {H : Type} : Left H := { results := [], args := [] }

/-- 'laws.FnExactVoteTurn': WHATEVER THE INPUT: true; the input reads as it did. -/
def fnExactVoteTurnSpec : ChangeSpec := { name := "fnExactVoteTurn", fn := fun _ => fun
  | [d1, d2, d3, d4] => { results := [.lit (.bool true)], args := [d1, d2, d3, d4] }
  | _ => none }
def fnExactVoteTurnRow : OpenClaim := { program := "ytlpkafhapmkkfaa", sum := "c34f009209850e77ac300fd199be81ae701aca1c820a217bbbdd859d71e088d0", func := "loop.example/g03006/laws.FnExactVoteTurn", spec := "fnExactVoteTurn", apart := false }
def FnExactVoteTurnSaid : Prop := fnExactVoteTurnRow.holds Try.pinned (OpenSpec.ofChange fnExactVoteTurnSpec)

/-- ITS FALSE NEIGHBOUR: 'it returns false'. Refute it at one input. -/
def fnExactVoteTurnWrong : ChangeSpec := { name := "fnExactVoteTurn", fn := fun _ => fun
  | [d1, d2, d3, d4] => { results := [.lit (.bool false)], args := [d1, d2, d3, d4] }
  | _ => none }
def FnExactVoteTurnWrongFalsely : Prop := fnExactVoteTurnRow.holds Try.pinned (OpenSpec.ofChange fnExactVoteTurnWrong)

/-- 'laws.FnExactAddEntry': WHATEVER THE INPUT: true; the input reads as it did. -/
def fnExactAddEntrySpec : ChangeSpec := { name := "fnExactAddEntry", fn := fun _ => fun
  | [d1, d2, d3] => { results := [.lit (.bool true)], args := [d1, d2, d3] }
  | _ => none }
def fnExactAddEntryRow : OpenClaim := { program := "ytlpkafhapmkkfaa", sum := "c34f009209850e77ac300fd199be81ae701aca1c820a217bbbdd859d71e088d0", func := "loop.example/g03006/laws.FnExactAddEntry", spec := "fnExactAddEntry", unfollowed := true, recurses := true, apart := false }
def FnExactAddEntrySaid : Prop := fnExactAddEntryRow.holds Try.pinned (OpenSpec.ofChange fnExactAddEntrySpec)

/-- ITS FALSE NEIGHBOUR: 'it returns false'. Refute it at one input. -/
def fnExactAddEntryWrong : ChangeSpec := { name := "fnExactAddEntry", fn := fun _ => fun
  | [d1, d2, d3] => { results := [.lit (.bool false)], args := [d1, d2, d3] }
  | _ => none }
def FnExactAddEntryWrongFalsely : Prop := fnExactAddEntryRow.holds Try.pinned (OpenSpec.ofChange fnExactAddEntryWrong)

/-- 'laws.FnExactNoteLights': WHATEVER THE INPUT: true; the input reads as it did. -/
def fnExactNoteLightsSpec : ChangeSpec := { name := "fnExactNoteLights", fn := fun _ => fun
  | [d1, d2, d3] => { results := [.lit (.bool true)], args := [d1, d2, d3] }
  | _ => none }
def fnExactNoteLightsRow : OpenClaim := { program := "ytlpkafhapmkkfaa", sum := "c34f009209850e77ac300fd199be81ae701aca1c820a217bbbdd859d71e088d0", func := "loop.example/g03006/laws.FnExactNoteLights", spec := "fnExactNoteLights", unfollowed := true, recurses := true, apart := false }
def FnExactNoteLightsSaid : Prop := fnExactNoteLightsRow.holds Try.pinned (OpenSpec.ofChange fnExactNoteLightsSpec)

/-- ITS FALSE NEIGHBOUR: 'it returns false'. Refute it at one input. -/
def fnExactNoteLightsWrong : ChangeSpec := { name := "fnExactNoteLights", fn := fun _ => fun
  | [d1, d2, d3] => { results := [.lit (.bool false)], args := [d1, d2, d3] }
  | _ => none }
def FnExactNoteLightsWrongFalsely : Prop := fnExactNoteLightsRow.holds Try.pinned (OpenSpec.ofChange fnExactNoteLightsWrong)

/-- 'laws.FnExactLongestWant': WHATEVER THE INPUT: true; the input reads as it did. -/
def fnExactLongestWantSpec : ChangeSpec := { name := "fnExactLongestWant", fn := fun _ => fun
  | [d1, d2] => { results := [.lit (.bool true)], args := [d1, d2] }
  | _ => none }
def fnExactLongestWantRow : OpenClaim := { program := "ytlpkafhapmkkfaa", sum := "c34f009209850e77ac300fd199be81ae701aca1c820a217bbbdd859d71e088d0", func := "loop.example/g03006/laws.FnExactLongestWant", spec := "fnExactLongestWant", unfollowed := true, recurses := true, apart := false }
def FnExactLongestWantSaid : Prop := fnExactLongestWantRow.holds Try.pinned (OpenSpec.ofChange fnExactLongestWantSpec)

/-- ITS FALSE NEIGHBOUR: 'it returns false'. Refute it at one input. -/
def fnExactLongestWantWrong : ChangeSpec := { name := "fnExactLongestWant", fn := fun _ => fun
  | [d1, d2] => { results := [.lit (.bool false)], args := [d1, d2] }
  | _ => none }
def FnExactLongestWantWrongFalsely : Prop := fnExactLongestWantRow.holds Try.pinned (OpenSpec.ofChange fnExactLongestWantWrong)

/-- 'laws.FnExactEnterCar': WHATEVER THE INPUT: true; the input reads as it did. -/
def fnExactEnterCarSpec : ChangeSpec := { name := "fnExactEnterCar", fn := fun _ => fun
  | [d1, d2, d3, d4, d5] => { results := [.lit (.bool true)], args := [d1, d2, d3, d4, d5] }
  | _ => none }
def fnExactEnterCarRow : OpenClaim := { program := "ytlpkafhapmkkfaa", sum := "c34f009209850e77ac300fd199be81ae701aca1c820a217bbbdd859d71e088d0", func := "loop.example/g03006/laws.FnExactEnterCar", spec := "fnExactEnterCar", unfollowed := true, recurses := true, apart := false }
def FnExactEnterCarSaid : Prop := fnExactEnterCarRow.holds Try.pinned (OpenSpec.ofChange fnExactEnterCarSpec)

/-- ITS FALSE NEIGHBOUR: 'it returns false'. Refute it at one input. -/
def fnExactEnterCarWrong : ChangeSpec := { name := "fnExactEnterCar", fn := fun _ => fun
  | [d1, d2, d3, d4, d5] => { results := [.lit (.bool false)], args := [d1, d2, d3, d4, d5] }
  | _ => none }
def FnExactEnterCarWrongFalsely : Prop := fnExactEnterCarRow.holds Try.pinned (OpenSpec.ofChange fnExactEnterCarWrong)

/-- 'laws.FnExactBusiestArm': WHATEVER THE INPUT: true; the input reads as it did. -/
def fnExactBusiestArmSpec : ChangeSpec := { name := "fnExactBusiestArm", fn := fun _ => fun
  | [d] => { results := [.lit (.bool true)], args := [d] }
  | _ => none }
def fnExactBusiestArmRow : OpenClaim := { program := "ytlpkafhapmkkfaa", sum := "c34f009209850e77ac300fd199be81ae701aca1c820a217bbbdd859d71e088d0", func := "loop.example/g03006/laws.FnExactBusiestArm", spec := "fnExactBusiestArm", unfollowed := true, recurses := true, apart := false }
def FnExactBusiestArmSaid : Prop := fnExactBusiestArmRow.holds Try.pinned (OpenSpec.ofChange fnExactBusiestArmSpec)

/-- ITS FALSE NEIGHBOUR: 'it returns false'. Refute it at one input. -/
def fnExactBusiestArmWrong : ChangeSpec := { name := "fnExactBusiestArm", fn := fun _ => fun
  | [d] => { results := [.lit (.bool false)], args := [d] }
  | _ => none }
def FnExactBusiestArmWrongFalsely : Prop := fnExactBusiestArmRow.holds Try.pinned (OpenSpec.ofChange fnExactBusiestArmWrong)

/- THE SECOND FORM. 'bulk': how many values and letters a reading holds, each counted each time it is reached (what is shared counts as often as it is met; a slice's spare places count too). A statement '..UptoSaid' is the law's where the arguments, and the package variables that the reading takes, are together of bulk at most 1048576: NARROWER than '..Said'. Prove '..Said' where nothing that the law and all that it calls make is longer than what came in: it says more and counts as full. Else prove '..UptoSaid'. A law counts once. -/
mutual
def uptoBulk {H : Type} : DataW H → Nat
  | .lit (.string bytes) => bytes.length + 1
  | .lit _ => 1
  | .nil => 1
  | .ptr d => uptoBulk d + 1
  | .slice elems spare => uptoBulkAll elems + uptoBulkAll spare + 1
  | .agg parts => uptoBulkAll parts + 1
  | .iface _ d => uptoBulk d + 1
  | .map entries => uptoBulkEntries entries + 1
  | .held _ => 1
def uptoBulkAll {H : Type} : List (DataW H) → Nat
  | [] => 0
  | d :: r => uptoBulk d + uptoBulkAll r
def uptoBulkEntries {H : Type} : List (Lit × DataW H) → Nat
  | [] => 0
  | x :: r => uptoBulkEntry x + uptoBulkEntries r
def uptoBulkEntry {H : Type} : Lit × DataW H → Nat
  | (.string bytes, d) => bytes.length + uptoBulk d + 1
  | (_, d) => uptoBulk d + 1
 end
def uptoSmall : (H : Type) → List (DataW H) → Bool := fun _ ds => decide (uptoBulkAll ds ≤ 1048576)
def OpenSpec.upto (s : _root_.Go.ChangeSpec) : _root_.Go.OpenSpec := { _root_.Go.OpenSpec.ofChange s with cond := some uptoSmall }

/-- 'laws.FnExactVoteTurn', WHERE WHAT IT READS IS OF BULK AT MOST 1048576: true; the input reads as it did. -/
def fnExactVoteTurnUptoRow : OpenClaim := { program := "ytlpkafhapmkkfaa", sum := "c34f009209850e77ac300fd199be81ae701aca1c820a217bbbdd859d71e088d0", func := "loop.example/g03006/laws.FnExactVoteTurn", spec := "fnExactVoteTurn", apart := false, narrowed := true }
def FnExactVoteTurnUptoSaid : Prop := fnExactVoteTurnUptoRow.holds Try.pinned (OpenSpec.upto fnExactVoteTurnSpec)

/-- 'laws.FnExactAddEntry', WHERE WHAT IT READS IS OF BULK AT MOST 1048576: true; the input reads as it did. -/
def fnExactAddEntryUptoRow : OpenClaim := { program := "ytlpkafhapmkkfaa", sum := "c34f009209850e77ac300fd199be81ae701aca1c820a217bbbdd859d71e088d0", func := "loop.example/g03006/laws.FnExactAddEntry", spec := "fnExactAddEntry", unfollowed := true, recurses := true, apart := false, narrowed := true }
def FnExactAddEntryUptoSaid : Prop := fnExactAddEntryUptoRow.holds Try.pinned (OpenSpec.upto fnExactAddEntrySpec)

/-- 'laws.FnExactNoteLights', WHERE WHAT IT READS IS OF BULK AT MOST 1048576: true; the input reads as it did. -/
def fnExactNoteLightsUptoRow : OpenClaim := { program := "ytlpkafhapmkkfaa", sum := "c34f009209850e77ac300fd199be81ae701aca1c820a217bbbdd859d71e088d0", func := "loop.example/g03006/laws.FnExactNoteLights", spec := "fnExactNoteLights", unfollowed := true, recurses := true, apart := false, narrowed := true }
def FnExactNoteLightsUptoSaid : Prop := fnExactNoteLightsUptoRow.holds Try.pinned (OpenSpec.upto fnExactNoteLightsSpec)

/-- 'laws.FnExactLongestWant', WHERE WHAT IT READS IS OF BULK AT MOST 1048576: true; the input reads as it did. -/
def fnExactLongestWantUptoRow : OpenClaim := { program := "ytlpkafhapmkkfaa", sum := "c34f009209850e77ac300fd199be81ae701aca1c820a217bbbdd859d71e088d0", func := "loop.example/g03006/laws.FnExactLongestWant", spec := "fnExactLongestWant", unfollowed := true, recurses := true, apart := false, narrowed := true }
def FnExactLongestWantUptoSaid : Prop := fnExactLongestWantUptoRow.holds Try.pinned (OpenSpec.upto fnExactLongestWantSpec)

/-- 'laws.FnExactEnterCar', WHERE WHAT IT READS IS OF BULK AT MOST 1048576: true; the input reads as it did. -/
def fnExactEnterCarUptoRow : OpenClaim := { program := "ytlpkafhapmkkfaa", sum := "c34f009209850e77ac300fd199be81ae701aca1c820a217bbbdd859d71e088d0", func := "loop.example/g03006/laws.FnExactEnterCar", spec := "fnExactEnterCar", unfollowed := true, recurses := true, apart := false, narrowed := true }
def FnExactEnterCarUptoSaid : Prop := fnExactEnterCarUptoRow.holds Try.pinned (OpenSpec.upto fnExactEnterCarSpec)

/-- 'laws.FnExactBusiestArm', WHERE WHAT IT READS IS OF BULK AT MOST 1048576: true; the input reads as it did. -/
def fnExactBusiestArmUptoRow : OpenClaim := { program := "ytlpkafhapmkkfaa", sum := "c34f009209850e77ac300fd199be81ae701aca1c820a217bbbdd859d71e088d0", func := "loop.example/g03006/laws.FnExactBusiestArm", spec := "fnExactBusiestArm", unfollowed := true, recurses := true, apart := false, narrowed := true }
def FnExactBusiestArmUptoSaid : Prop := fnExactBusiestArmUptoRow.holds Try.pinned (OpenSpec.upto fnExactBusiestArmSpec)

end Rows
end Go.Proofs.Ytlpkafhapmkkfaa
