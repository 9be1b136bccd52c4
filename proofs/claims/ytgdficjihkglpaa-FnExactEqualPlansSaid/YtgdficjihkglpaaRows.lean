/-
  No cell of these rows narrows 'for every input' (looked for: loops, veiled, ifaces, maps, wideKeys, modest, calm, conditions, laid).
  DERIVED. THE GIVEN ROWS OF THIS SEAT. 10 by the template 'for every input the law returns true; each argument reads behind the call as it read before'; 0 by the template 'total and deterministic' (their statements: YtgdficjihkglpaaTotals.lean).
  GIVEN WITH THE SEED: the statements are not yours to turn. If you find one false, say at which input.
  Laid BY PROGRAM, IN A SANDBOX (cutbox-rows.mjs): the forced cells as the released guide's own fill.sh prints them over the translation a3bf7dd31e99c21a… (all of the seat's roots in one cut). By AI agents, Wed Nov 11 2026. No macro, syntax, notation, axiom, sorry.
-/
import Derived.Test.YtgdficjihkglpaaChecked
import GoSem.Claim
import GoSem.ClaimJoined
import GoSem.ClaimMapViews
import Derived.JoinedTies
import Derived.KernelRfl
namespace Go.Proofs.Ytgdficjihkglpaa
/- THE CELL 'sum', in the pinned program and in every row, IS THE sha256 OF THE DUMP (.gsa) THAT YtgdficjihkglpaaProg.lean LOADS. Nothing in Lean hashes anything: it is a label: what it is worth is what the hold of that sum in a sandbox is worth. -/
noncomputable def Try.pinned : Pinned := { name := "ytgdficjihkglpaa", sum := "a3bf7dd31e99c21ab59edbee2590eff0cd51d05a7a339ff6ae131bc7979a19c0", checked := Try.checked }
namespace Rows
def none {H : Type} : Left H := { results := [], args := [] }

/-- 'laws.FnExactStaysOpen': WHATEVER THE INPUT: true; the input reads as it did. -/
def fnExactStaysOpenSpec : ChangeSpec := { name := "fnExactStaysOpen", fn := fun _ => fun
  | [d1, d2] => { results := [.lit (.bool true)], args := [d1, d2] }
  | _ => none }
def fnExactStaysOpenRow : OpenClaim := { program := "ytgdficjihkglpaa", sum := "a3bf7dd31e99c21ab59edbee2590eff0cd51d05a7a339ff6ae131bc7979a19c0", func := "loop.example/g03006/laws.FnExactStaysOpen", spec := "fnExactStaysOpen", apart := false }
def FnExactStaysOpenSaid : Prop := fnExactStaysOpenRow.holds Try.pinned (OpenSpec.ofChange fnExactStaysOpenSpec)

/-- ITS FALSE NEIGHBOUR: 'it returns false'. Refute it at one input. -/
def fnExactStaysOpenWrong : ChangeSpec := { name := "fnExactStaysOpen", fn := fun _ => fun
  | [d1, d2] => { results := [.lit (.bool false)], args := [d1, d2] }
  | _ => none }
def FnExactStaysOpenWrongFalsely : Prop := fnExactStaysOpenRow.holds Try.pinned (OpenSpec.ofChange fnExactStaysOpenWrong)

/-- 'laws.FnExactCloses': WHATEVER THE INPUT: true; the input reads as it did. -/
def fnExactClosesSpec : ChangeSpec := { name := "fnExactCloses", fn := fun _ => fun
  | [d1, d2] => { results := [.lit (.bool true)], args := [d1, d2] }
  | _ => none }
def fnExactClosesRow : OpenClaim := { program := "ytgdficjihkglpaa", sum := "a3bf7dd31e99c21ab59edbee2590eff0cd51d05a7a339ff6ae131bc7979a19c0", func := "loop.example/g03006/laws.FnExactCloses", spec := "fnExactCloses", apart := false }
def FnExactClosesSaid : Prop := fnExactClosesRow.holds Try.pinned (OpenSpec.ofChange fnExactClosesSpec)

/-- ITS FALSE NEIGHBOUR: 'it returns false'. Refute it at one input. -/
def fnExactClosesWrong : ChangeSpec := { name := "fnExactCloses", fn := fun _ => fun
  | [d1, d2] => { results := [.lit (.bool false)], args := [d1, d2] }
  | _ => none }
def FnExactClosesWrongFalsely : Prop := fnExactClosesRow.holds Try.pinned (OpenSpec.ofChange fnExactClosesWrong)

/-- 'laws.FnExactLeastGreen': WHATEVER THE INPUT: true; the input reads as it did. -/
def fnExactLeastGreenSpec : ChangeSpec := { name := "fnExactLeastGreen", fn := fun _ => fun
  | [d1, d2] => { results := [.lit (.bool true)], args := [d1, d2] }
  | _ => none }
def fnExactLeastGreenRow : OpenClaim := { program := "ytgdficjihkglpaa", sum := "a3bf7dd31e99c21ab59edbee2590eff0cd51d05a7a339ff6ae131bc7979a19c0", func := "loop.example/g03006/laws.FnExactLeastGreen", spec := "fnExactLeastGreen", unfollowed := true, recurses := true, apart := false }
def FnExactLeastGreenSaid : Prop := fnExactLeastGreenRow.holds Try.pinned (OpenSpec.ofChange fnExactLeastGreenSpec)

/-- ITS FALSE NEIGHBOUR: 'it returns false'. Refute it at one input. -/
def fnExactLeastGreenWrong : ChangeSpec := { name := "fnExactLeastGreen", fn := fun _ => fun
  | [d1, d2] => { results := [.lit (.bool false)], args := [d1, d2] }
  | _ => none }
def FnExactLeastGreenWrongFalsely : Prop := fnExactLeastGreenRow.holds Try.pinned (OpenSpec.ofChange fnExactLeastGreenWrong)

/-- 'laws.FnExactAreDetectors': WHATEVER THE INPUT: true; the input reads as it did. -/
def fnExactAreDetectorsSpec : ChangeSpec := { name := "fnExactAreDetectors", fn := fun _ => fun
  | [d1, d2] => { results := [.lit (.bool true)], args := [d1, d2] }
  | _ => none }
def fnExactAreDetectorsRow : OpenClaim := { program := "ytgdficjihkglpaa", sum := "a3bf7dd31e99c21ab59edbee2590eff0cd51d05a7a339ff6ae131bc7979a19c0", func := "loop.example/g03006/laws.FnExactAreDetectors", spec := "fnExactAreDetectors", unfollowed := true, recurses := true, apart := false }
def FnExactAreDetectorsSaid : Prop := fnExactAreDetectorsRow.holds Try.pinned (OpenSpec.ofChange fnExactAreDetectorsSpec)

/-- ITS FALSE NEIGHBOUR: 'it returns false'. Refute it at one input. -/
def fnExactAreDetectorsWrong : ChangeSpec := { name := "fnExactAreDetectors", fn := fun _ => fun
  | [d1, d2] => { results := [.lit (.bool false)], args := [d1, d2] }
  | _ => none }
def FnExactAreDetectorsWrongFalsely : Prop := fnExactAreDetectorsRow.holds Try.pinned (OpenSpec.ofChange fnExactAreDetectorsWrong)

/-- 'laws.FnExactIsTrusted': WHATEVER THE INPUT: true; the input reads as it did. -/
def fnExactIsTrustedSpec : ChangeSpec := { name := "fnExactIsTrusted", fn := fun _ => fun
  | [d] => { results := [.lit (.bool true)], args := [d] }
  | _ => none }
def fnExactIsTrustedRow : OpenClaim := { program := "ytgdficjihkglpaa", sum := "a3bf7dd31e99c21ab59edbee2590eff0cd51d05a7a339ff6ae131bc7979a19c0", func := "loop.example/g03006/laws.FnExactIsTrusted", spec := "fnExactIsTrusted", apart := false }
def FnExactIsTrustedSaid : Prop := fnExactIsTrustedRow.holds Try.pinned (OpenSpec.ofChange fnExactIsTrustedSpec)

/-- ITS FALSE NEIGHBOUR: 'it returns false'. Refute it at one input. -/
def fnExactIsTrustedWrong : ChangeSpec := { name := "fnExactIsTrusted", fn := fun _ => fun
  | [d] => { results := [.lit (.bool false)], args := [d] }
  | _ => none }
def FnExactIsTrustedWrongFalsely : Prop := fnExactIsTrustedRow.holds Try.pinned (OpenSpec.ofChange fnExactIsTrustedWrong)

/-- 'laws.FnExactLowDemand': WHATEVER THE INPUT: true; the input reads as it did. -/
def fnExactLowDemandSpec : ChangeSpec := { name := "fnExactLowDemand", fn := fun _ => fun
  | [d1, d2] => { results := [.lit (.bool true)], args := [d1, d2] }
  | _ => none }
def fnExactLowDemandRow : OpenClaim := { program := "ytgdficjihkglpaa", sum := "a3bf7dd31e99c21ab59edbee2590eff0cd51d05a7a339ff6ae131bc7979a19c0", func := "loop.example/g03006/laws.FnExactLowDemand", spec := "fnExactLowDemand", unfollowed := true, recurses := true, apart := false }
def FnExactLowDemandSaid : Prop := fnExactLowDemandRow.holds Try.pinned (OpenSpec.ofChange fnExactLowDemandSpec)

/-- ITS FALSE NEIGHBOUR: 'it returns false'. Refute it at one input. -/
def fnExactLowDemandWrong : ChangeSpec := { name := "fnExactLowDemand", fn := fun _ => fun
  | [d1, d2] => { results := [.lit (.bool false)], args := [d1, d2] }
  | _ => none }
def FnExactLowDemandWrongFalsely : Prop := fnExactLowDemandRow.holds Try.pinned (OpenSpec.ofChange fnExactLowDemandWrong)

/-- 'laws.FnExactHighDemand': WHATEVER THE INPUT: true; the input reads as it did. -/
def fnExactHighDemandSpec : ChangeSpec := { name := "fnExactHighDemand", fn := fun _ => fun
  | [d1, d2] => { results := [.lit (.bool true)], args := [d1, d2] }
  | _ => none }
def fnExactHighDemandRow : OpenClaim := { program := "ytgdficjihkglpaa", sum := "a3bf7dd31e99c21ab59edbee2590eff0cd51d05a7a339ff6ae131bc7979a19c0", func := "loop.example/g03006/laws.FnExactHighDemand", spec := "fnExactHighDemand", unfollowed := true, recurses := true, apart := false }
def FnExactHighDemandSaid : Prop := fnExactHighDemandRow.holds Try.pinned (OpenSpec.ofChange fnExactHighDemandSpec)

/-- ITS FALSE NEIGHBOUR: 'it returns false'. Refute it at one input. -/
def fnExactHighDemandWrong : ChangeSpec := { name := "fnExactHighDemand", fn := fun _ => fun
  | [d1, d2] => { results := [.lit (.bool false)], args := [d1, d2] }
  | _ => none }
def FnExactHighDemandWrongFalsely : Prop := fnExactHighDemandRow.holds Try.pinned (OpenSpec.ofChange fnExactHighDemandWrong)

/-- 'laws.FnExactStageDemand': WHATEVER THE INPUT: true; the input reads as it did. -/
def fnExactStageDemandSpec : ChangeSpec := { name := "fnExactStageDemand", fn := fun _ => fun
  | [d1, d2] => { results := [.lit (.bool true)], args := [d1, d2] }
  | _ => none }
def fnExactStageDemandRow : OpenClaim := { program := "ytgdficjihkglpaa", sum := "a3bf7dd31e99c21ab59edbee2590eff0cd51d05a7a339ff6ae131bc7979a19c0", func := "loop.example/g03006/laws.FnExactStageDemand", spec := "fnExactStageDemand", unfollowed := true, recurses := true, apart := false }
def FnExactStageDemandSaid : Prop := fnExactStageDemandRow.holds Try.pinned (OpenSpec.ofChange fnExactStageDemandSpec)

/-- ITS FALSE NEIGHBOUR: 'it returns false'. Refute it at one input. -/
def fnExactStageDemandWrong : ChangeSpec := { name := "fnExactStageDemand", fn := fun _ => fun
  | [d1, d2] => { results := [.lit (.bool false)], args := [d1, d2] }
  | _ => none }
def FnExactStageDemandWrongFalsely : Prop := fnExactStageDemandRow.holds Try.pinned (OpenSpec.ofChange fnExactStageDemandWrong)

/-- 'laws.FnExactBlindPaths': WHATEVER THE INPUT: true; the input reads as it did. -/
def fnExactBlindPathsSpec : ChangeSpec := { name := "fnExactBlindPaths", fn := fun _ => fun
  | [d1, d2] => { results := [.lit (.bool true)], args := [d1, d2] }
  | _ => none }
def fnExactBlindPathsRow : OpenClaim := { program := "ytgdficjihkglpaa", sum := "a3bf7dd31e99c21ab59edbee2590eff0cd51d05a7a339ff6ae131bc7979a19c0", func := "loop.example/g03006/laws.FnExactBlindPaths", spec := "fnExactBlindPaths", unfollowed := true, recurses := true, apart := false }
def FnExactBlindPathsSaid : Prop := fnExactBlindPathsRow.holds Try.pinned (OpenSpec.ofChange fnExactBlindPathsSpec)

/-- ITS FALSE NEIGHBOUR: 'it returns false'. Refute it at one input. -/
def fnExactBlindPathsWrong : ChangeSpec := { name := "fnExactBlindPaths", fn := fun _ => fun
  | [d1, d2] => { results := [.lit (.bool false)], args := [d1, d2] }
  | _ => none }
def FnExactBlindPathsWrongFalsely : Prop := fnExactBlindPathsRow.holds Try.pinned (OpenSpec.ofChange fnExactBlindPathsWrong)

/-- 'laws.FnExactEqualPlans': WHATEVER THE INPUT: true; the input reads as it did. -/
def fnExactEqualPlansSpec : ChangeSpec := { name := "fnExactEqualPlans", fn := fun _ => fun
  | [d1, d2] => { results := [.lit (.bool true)], args := [d1, d2] }
  | _ => none }
def fnExactEqualPlansRow : OpenClaim := { program := "ytgdficjihkglpaa", sum := "a3bf7dd31e99c21ab59edbee2590eff0cd51d05a7a339ff6ae131bc7979a19c0", func := "loop.example/g03006/laws.FnExactEqualPlans", spec := "fnExactEqualPlans", unfollowed := true, recurses := true, apart := false }
def FnExactEqualPlansSaid : Prop := fnExactEqualPlansRow.holds Try.pinned (OpenSpec.ofChange fnExactEqualPlansSpec)

/-- ITS FALSE NEIGHBOUR: 'it returns false'. Refute it at one input. -/
def fnExactEqualPlansWrong : ChangeSpec := { name := "fnExactEqualPlans", fn := fun _ => fun
  | [d1, d2] => { results := [.lit (.bool false)], args := [d1, d2] }
  | _ => none }
def FnExactEqualPlansWrongFalsely : Prop := fnExactEqualPlansRow.holds Try.pinned (OpenSpec.ofChange fnExactEqualPlansWrong)

/- THE SECOND FORM. 'bulk': how many values and letters a reading holds, each counted each time it is reached (what is shared counts as often as it is met; a slice's spare places count too). A statement '..UptoSaid' is the law's where the arguments, and the package variables that the reading takes, are together of bulk at most 1048576: NARROWER than '..Said'. Prove '..Said' where nothing that the law and all that it calls make is longer than what came in: it says more and counts as full. Else prove '..UptoSaid'. A law counts once. -/
mutual
def uptoBulk {H : Type} : DataW H → Nat
  | .lit (.string bytes) => bytes.length + 1
  | .lit _ => 1
  | .nil => 1
  | .ptr d => uptoBulk d + 1
  | .slice elems spare => uptoBulkAll elems + uptoBulkAll spare + 1
  | .agg parts => uptoBulkAll parts + 1
  | .iface _ d => uptoBulk d + 1
  | .map entries => uptoBulkEntries entries + 1
  | .held _ => 1
def uptoBulkAll {H : Type} : List (DataW H) → Nat
  | [] => 0
  | d :: r => uptoBulk d + uptoBulkAll r
def uptoBulkEntries {H : Type} : List (Lit × DataW H) → Nat
  | [] => 0
  | x :: r => uptoBulkEntry x + uptoBulkEntries r
def uptoBulkEntry {H : Type} : Lit × DataW H → Nat
  | (.string bytes, d) => bytes.length + uptoBulk d + 1
  | (_, d) => uptoBulk d + 1
 end
def uptoSmall : (H : Type) → List (DataW H) → Bool := fun _ ds => decide (uptoBulkAll ds ≤ 1048576)
def OpenSpec.upto (s : _root_.Go.ChangeSpec) : _root_.Go.OpenSpec := { _root_.Go.OpenSpec.ofChange s with cond := some uptoSmall }

/-- 'laws.FnExactStaysOpen', WHERE WHAT IT READS IS OF BULK AT MOST 1048576: true; the input reads as it did. -/
def fnExactStaysOpenUptoRow : OpenClaim := { program := "ytgdficjihkglpaa", sum := "a3bf7dd31e99c21ab59edbee2590eff0cd51d05a7a339ff6ae131bc7979a19c0", func := "loop.example/g03006/laws.FnExactStaysOpen", spec := "fnExactStaysOpen", apart := false, narrowed := true }
def FnExactStaysOpenUptoSaid : Prop := fnExactStaysOpenUptoRow.holds Try.pinned (OpenSpec.upto fnExactStaysOpenSpec)

/-- 'laws.FnExactCloses', WHERE WHAT IT READS IS OF BULK AT MOST 1048576: true; the input reads as it did. -/
def fnExactClosesUptoRow : OpenClaim := { program := "ytgdficjihkglpaa", sum := "a3bf7dd31e99c21ab59edbee2590eff0cd51d05a7a339ff6ae131bc7979a19c0", func := "loop.example/g03006/laws.FnExactCloses", spec := "fnExactCloses", apart := false, narrowed := true }
def FnExactClosesUptoSaid : Prop := fnExactClosesUptoRow.holds Try.pinned (OpenSpec.upto fnExactClosesSpec)

/-- 'laws.FnExactLeastGreen', WHERE WHAT IT READS IS OF BULK AT MOST 1048576: true; the input reads as it did. -/
def fnExactLeastGreenUptoRow : OpenClaim := { program := "ytgdficjihkglpaa", sum := "a3bf7dd31e99c21ab59edbee2590eff0cd51d05a7a339ff6ae131bc7979a19c0", func := "loop.example/g03006/laws.FnExactLeastGreen", spec := "fnExactLeastGreen", unfollowed := true, recurses := true, apart := false, narrowed := true }
def FnExactLeastGreenUptoSaid : Prop := fnExactLeastGreenUptoRow.holds Try.pinned (OpenSpec.upto fnExactLeastGreenSpec)

/-- 'laws.FnExactAreDetectors', WHERE WHAT IT READS IS OF BULK AT MOST 1048576: true; the input reads as it did. -/
def fnExactAreDetectorsUptoRow : OpenClaim := { program := "ytgdficjihkglpaa", sum := "a3bf7dd31e99c21ab59edbee2590eff0cd51d05a7a339ff6ae131bc7979a19c0", func := "loop.example/g03006/laws.FnExactAreDetectors", spec := "fnExactAreDetectors", unfollowed := true, recurses := true, apart := false, narrowed := true }
def FnExactAreDetectorsUptoSaid : Prop := fnExactAreDetectorsUptoRow.holds Try.pinned (OpenSpec.upto fnExactAreDetectorsSpec)

/-- 'laws.FnExactIsTrusted', WHERE WHAT IT READS IS OF BULK AT MOST 1048576: true; the input reads as it did. -/
def fnExactIsTrustedUptoRow : OpenClaim := { program := "ytgdficjihkglpaa", sum := "a3bf7dd31e99c21ab59edbee2590eff0cd51d05a7a339ff6ae131bc7979a19c0", func := "loop.example/g03006/laws.FnExactIsTrusted", spec := "fnExactIsTrusted", apart := false, narrowed := true }
def FnExactIsTrustedUptoSaid : Prop := fnExactIsTrustedUptoRow.holds Try.pinned (OpenSpec.upto fnExactIsTrustedSpec)

/-- 'laws.FnExactLowDemand', WHERE WHAT IT READS IS OF BULK AT MOST 1048576: true; the input reads as it did. -/
def fnExactLowDemandUptoRow : OpenClaim := { program := "ytgdficjihkglpaa", sum := "a3bf7dd31e99c21ab59edbee2590eff0cd51d05a7a339ff6ae131bc7979a19c0", func := "loop.example/g03006/laws.FnExactLowDemand", spec := "fnExactLowDemand", unfollowed := true, recurses := true, apart := false, narrowed := true }
def FnExactLowDemandUptoSaid : Prop := fnExactLowDemandUptoRow.holds Try.pinned (OpenSpec.upto fnExactLowDemandSpec)

/-- 'laws.FnExactHighDemand', WHERE WHAT IT READS IS OF BULK AT MOST 1048576: true; the input reads as it did. -/
def fnExactHighDemandUptoRow : OpenClaim := { program := "ytgdficjihkglpaa", sum := "a3bf7dd31e99c21ab59edbee2590eff0cd51d05a7a339ff6ae131bc7979a19c0", func := "loop.example/g03006/laws.FnExactHighDemand", spec := "fnExactHighDemand", unfollowed := true, recurses := true, apart := false, narrowed := true }
def FnExactHighDemandUptoSaid : Prop := fnExactHighDemandUptoRow.holds Try.pinned (OpenSpec.upto fnExactHighDemandSpec)

/-- 'laws.FnExactStageDemand', WHERE WHAT IT READS IS OF BULK AT MOST 1048576: true; the input reads as it did. -/
def fnExactStageDemandUptoRow : OpenClaim := { program := "ytgdficjihkglpaa", sum := "a3bf7dd31e99c21ab59edbee2590eff0cd51d05a7a339ff6ae131bc7979a19c0", func := "loop.example/g03006/laws.FnExactStageDemand", spec := "fnExactStageDemand", unfollowed := true, recurses := true, apart := false, narrowed := true }
def FnExactStageDemandUptoSaid : Prop := fnExactStageDemandUptoRow.holds Try.pinned (OpenSpec.upto fnExactStageDemandSpec)

/-- 'laws.FnExactBlindPaths', WHERE WHAT IT READS IS OF BULK AT MOST 1048576: true; the input reads as it did. -/
def fnExactBlindPathsUptoRow : OpenClaim := { program := "ytgdficjihkglpaa", sum := "a3bf7dd31e99c21ab59edbee2590eff0cd51d05a7a339ff6ae131bc7979a19c0", func := "loop.example/g03006/laws.FnExactBlindPaths", spec := "fnExactBlindPaths", unfollowed := true, recurses := true, apart := false, narrowed := true }
def FnExactBlindPathsUptoSaid : Prop := fnExactBlindPathsUptoRow.holds Try.pinned (OpenSpec.upto fnExactBlindPathsSpec)

/-- 'laws.FnExactEqualPlans', WHERE WHAT IT READS IS OF BULK AT MOST 1048576: true; the input reads as it did. -/
def fnExactEqualPlansUptoRow : OpenClaim := { program := "ytgdficjihkglpaa", sum := "a3bf7dd31e99c21ab59edbee2590eff0cd51d05a7a339ff6ae131bc7979a19c0", func := "loop.example/g03006/laws.FnExactEqualPlans", spec := "fnExactEqualPlans", unfollowed := true, recurses := true, apart := false, narrowed := true }
def FnExactEqualPlansUptoSaid : Prop := fnExactEqualPlansUptoRow.holds Try.pinned (OpenSpec.upto fnExactEqualPlansSpec)

end Rows
end Go.Proofs.Ytgdficjihkglpaa
