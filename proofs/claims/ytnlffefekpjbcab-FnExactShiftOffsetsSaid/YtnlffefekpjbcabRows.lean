/-
  No cell of these rows narrows 'for every input' (looked for: loops, veiled, ifaces, maps, wideKeys, modest, calm, conditions, laid).
  DERIVED. THE GIVEN ROWS OF THIS SEAT. 12 by the template 'for every input the law returns true; each argument reads behind the call as it read before'; 0 by the template 'total and deterministic' (their statements: YtnlffefekpjbcabTotals.lean).
  GIVEN WITH THE SEED: the statements are not yours to turn. If you find one false, say at which input.
  Laid BY PROGRAM, IN A SANDBOX (cutbox-rows.mjs): the forced cells as the released guide's own fill.sh prints them over the translation 155088f11791fb26… (all of the seat's roots in one cut). By AI agents, Wed Nov 11 2026. No macro, syntax, notation, axiom, sorry.
-/
import Derived.Test.YtnlffefekpjbcabChecked
import GoSem.Claim
import GoSem.ClaimJoined
import GoSem.ClaimMapViews
import Derived.JoinedTies
import Derived.KernelRfl
namespace Go.Proofs.Ytnlffefekpjbcab
/- THE CELL 'sum', in the pinned program and in every row, IS THE sha256 OF THE DUMP (.gsa) THAT YtnlffefekpjbcabProg.lean LOADS. Nothing in Lean hashes anything: it is a label: what it is worth is what the hold of that sum in a sandbox is worth. -/
noncomputable def Try.pinned : Pinned := { name := "ytnlffefekpjbcab", sum := "155088f11791fb268ed34d2c510db56e775becb2e789eee882a5c7ca1c8c8a00", checked := Try.checked }
namespace Rows
def none {H : Type} : Left H := { results := [], args := [] }

/-- 'laws.FnExactTotalInside': WHATEVER THE INPUT: true; the input reads as it did. -/
def fnExactTotalInsideSpec : ChangeSpec := { name := "fnExactTotalInside", fn := fun _ => fun
  | [d] => { results := [.lit (.bool true)], args := [d] }
  | _ => none }
def fnExactTotalInsideRow : OpenClaim := { program := "ytnlffefekpjbcab", sum := "155088f11791fb268ed34d2c510db56e775becb2e789eee882a5c7ca1c8c8a00", func := "loop.example/g03006/laws.FnExactTotalInside", spec := "fnExactTotalInside", apart := false }
def FnExactTotalInsideSaid : Prop := fnExactTotalInsideRow.holds Try.pinned (OpenSpec.ofChange fnExactTotalInsideSpec)

/-- ITS FALSE NEIGHBOUR: 'it returns false'. Refute it at one input. -/
def fnExactTotalInsideWrong : ChangeSpec := { name := "fnExactTotalInside", fn := fun _ => fun
  | [d] => { results := [.lit (.bool false)], args := [d] }
  | _ => none }
def FnExactTotalInsideWrongFalsely : Prop := fnExactTotalInsideRow.holds Try.pinned (OpenSpec.ofChange fnExactTotalInsideWrong)

/-- 'laws.FnTallies': WHATEVER THE INPUT: true; the input reads as it did. -/
def fnTalliesSpec : ChangeSpec := { name := "fnTallies", fn := fun _ => fun
  | [d] => { results := [.lit (.bool true)], args := [d] }
  | _ => none }
def fnTalliesRow : OpenClaim := { program := "ytnlffefekpjbcab", sum := "155088f11791fb268ed34d2c510db56e775becb2e789eee882a5c7ca1c8c8a00", func := "loop.example/g03006/laws.FnTallies", spec := "fnTallies", apart := false }
def FnTalliesSaid : Prop := fnTalliesRow.holds Try.pinned (OpenSpec.ofChange fnTalliesSpec)

/-- ITS FALSE NEIGHBOUR: 'it returns false'. Refute it at one input. -/
def fnTalliesWrong : ChangeSpec := { name := "fnTallies", fn := fun _ => fun
  | [d] => { results := [.lit (.bool false)], args := [d] }
  | _ => none }
def FnTalliesWrongFalsely : Prop := fnTalliesRow.holds Try.pinned (OpenSpec.ofChange fnTalliesWrong)

/-- 'laws.FnExactModeName': WHATEVER THE INPUT: true; the input reads as it did. -/
def fnExactModeNameSpec : ChangeSpec := { name := "fnExactModeName", fn := fun _ => fun
  | [d] => { results := [.lit (.bool true)], args := [d] }
  | _ => none }
def fnExactModeNameRow : OpenClaim := { program := "ytnlffefekpjbcab", sum := "155088f11791fb268ed34d2c510db56e775becb2e789eee882a5c7ca1c8c8a00", func := "loop.example/g03006/laws.FnExactModeName", spec := "fnExactModeName", apart := false }
def FnExactModeNameSaid : Prop := fnExactModeNameRow.holds Try.pinned (OpenSpec.ofChange fnExactModeNameSpec)

/-- ITS FALSE NEIGHBOUR: 'it returns false'. Refute it at one input. -/
def fnExactModeNameWrong : ChangeSpec := { name := "fnExactModeName", fn := fun _ => fun
  | [d] => { results := [.lit (.bool false)], args := [d] }
  | _ => none }
def FnExactModeNameWrongFalsely : Prop := fnExactModeNameRow.holds Try.pinned (OpenSpec.ofChange fnExactModeNameWrong)

/-- 'laws.FnExactIsWindow': WHATEVER THE INPUT: true; the input reads as it did. -/
def fnExactIsWindowSpec : ChangeSpec := { name := "fnExactIsWindow", fn := fun _ => fun
  | [d1, d2] => { results := [.lit (.bool true)], args := [d1, d2] }
  | _ => none }
def fnExactIsWindowRow : OpenClaim := { program := "ytnlffefekpjbcab", sum := "155088f11791fb268ed34d2c510db56e775becb2e789eee882a5c7ca1c8c8a00", func := "loop.example/g03006/laws.FnExactIsWindow", spec := "fnExactIsWindow", apart := false }
def FnExactIsWindowSaid : Prop := fnExactIsWindowRow.holds Try.pinned (OpenSpec.ofChange fnExactIsWindowSpec)

/-- ITS FALSE NEIGHBOUR: 'it returns false'. Refute it at one input. -/
def fnExactIsWindowWrong : ChangeSpec := { name := "fnExactIsWindow", fn := fun _ => fun
  | [d1, d2] => { results := [.lit (.bool false)], args := [d1, d2] }
  | _ => none }
def FnExactIsWindowWrongFalsely : Prop := fnExactIsWindowRow.holds Try.pinned (OpenSpec.ofChange fnExactIsWindowWrong)

/-- 'laws.FnExactInWindow': WHATEVER THE INPUT: true; the input reads as it did. -/
def fnExactInWindowSpec : ChangeSpec := { name := "fnExactInWindow", fn := fun _ => fun
  | [d1, d2, d3, d4] => { results := [.lit (.bool true)], args := [d1, d2, d3, d4] }
  | _ => none }
def fnExactInWindowRow : OpenClaim := { program := "ytnlffefekpjbcab", sum := "155088f11791fb268ed34d2c510db56e775becb2e789eee882a5c7ca1c8c8a00", func := "loop.example/g03006/laws.FnExactInWindow", spec := "fnExactInWindow", apart := false }
def FnExactInWindowSaid : Prop := fnExactInWindowRow.holds Try.pinned (OpenSpec.ofChange fnExactInWindowSpec)

/-- ITS FALSE NEIGHBOUR: 'it returns false'. Refute it at one input. -/
def fnExactInWindowWrong : ChangeSpec := { name := "fnExactInWindow", fn := fun _ => fun
  | [d1, d2, d3, d4] => { results := [.lit (.bool false)], args := [d1, d2, d3, d4] }
  | _ => none }
def FnExactInWindowWrongFalsely : Prop := fnExactInWindowRow.holds Try.pinned (OpenSpec.ofChange fnExactInWindowWrong)

/-- 'laws.FnExactGreatestBand': WHATEVER THE INPUT: true; the input reads as it did. -/
def fnExactGreatestBandSpec : ChangeSpec := { name := "fnExactGreatestBand", fn := fun _ => fun
  | [d1, d2, d3] => { results := [.lit (.bool true)], args := [d1, d2, d3] }
  | _ => none }
def fnExactGreatestBandRow : OpenClaim := { program := "ytnlffefekpjbcab", sum := "155088f11791fb268ed34d2c510db56e775becb2e789eee882a5c7ca1c8c8a00", func := "loop.example/g03006/laws.FnExactGreatestBand", spec := "fnExactGreatestBand", apart := false }
def FnExactGreatestBandSaid : Prop := fnExactGreatestBandRow.holds Try.pinned (OpenSpec.ofChange fnExactGreatestBandSpec)

/-- ITS FALSE NEIGHBOUR: 'it returns false'. Refute it at one input. -/
def fnExactGreatestBandWrong : ChangeSpec := { name := "fnExactGreatestBand", fn := fun _ => fun
  | [d1, d2, d3] => { results := [.lit (.bool false)], args := [d1, d2, d3] }
  | _ => none }
def FnExactGreatestBandWrongFalsely : Prop := fnExactGreatestBandRow.holds Try.pinned (OpenSpec.ofChange fnExactGreatestBandWrong)

/-- 'laws.FnExactLeastWindow': WHATEVER THE INPUT: true; the input reads as it did. -/
def fnExactLeastWindowSpec : ChangeSpec := { name := "fnExactLeastWindow", fn := fun _ => fun
  | [d] => { results := [.lit (.bool true)], args := [d] }
  | _ => none }
def fnExactLeastWindowRow : OpenClaim := { program := "ytnlffefekpjbcab", sum := "155088f11791fb268ed34d2c510db56e775becb2e789eee882a5c7ca1c8c8a00", func := "loop.example/g03006/laws.FnExactLeastWindow", spec := "fnExactLeastWindow", unfollowed := true, recurses := true, apart := false }
def FnExactLeastWindowSaid : Prop := fnExactLeastWindowRow.holds Try.pinned (OpenSpec.ofChange fnExactLeastWindowSpec)

/-- ITS FALSE NEIGHBOUR: 'it returns false'. Refute it at one input. -/
def fnExactLeastWindowWrong : ChangeSpec := { name := "fnExactLeastWindow", fn := fun _ => fun
  | [d] => { results := [.lit (.bool false)], args := [d] }
  | _ => none }
def FnExactLeastWindowWrongFalsely : Prop := fnExactLeastWindowRow.holds Try.pinned (OpenSpec.ofChange fnExactLeastWindowWrong)

/-- 'laws.FnExactShiftOffsets': WHATEVER THE INPUT: true; the input reads as it did. -/
def fnExactShiftOffsetsSpec : ChangeSpec := { name := "fnExactShiftOffsets", fn := fun _ => fun
  | [d1, d2, d3] => { results := [.lit (.bool true)], args := [d1, d2, d3] }
  | _ => none }
def fnExactShiftOffsetsRow : OpenClaim := { program := "ytnlffefekpjbcab", sum := "155088f11791fb268ed34d2c510db56e775becb2e789eee882a5c7ca1c8c8a00", func := "loop.example/g03006/laws.FnExactShiftOffsets", spec := "fnExactShiftOffsets", apart := false }
def FnExactShiftOffsetsSaid : Prop := fnExactShiftOffsetsRow.holds Try.pinned (OpenSpec.ofChange fnExactShiftOffsetsSpec)

/-- ITS FALSE NEIGHBOUR: 'it returns false'. Refute it at one input. -/
def fnExactShiftOffsetsWrong : ChangeSpec := { name := "fnExactShiftOffsets", fn := fun _ => fun
  | [d1, d2, d3] => { results := [.lit (.bool false)], args := [d1, d2, d3] }
  | _ => none }
def FnExactShiftOffsetsWrongFalsely : Prop := fnExactShiftOffsetsRow.holds Try.pinned (OpenSpec.ofChange fnExactShiftOffsetsWrong)

/-- 'laws.FnExactPrioEnds': WHATEVER THE INPUT: true; the input reads as it did. -/
def fnExactPrioEndsSpec : ChangeSpec := { name := "fnExactPrioEnds", fn := fun _ => fun
  | [d] => { results := [.lit (.bool true)], args := [d] }
  | _ => none }
def fnExactPrioEndsRow : OpenClaim := { program := "ytnlffefekpjbcab", sum := "155088f11791fb268ed34d2c510db56e775becb2e789eee882a5c7ca1c8c8a00", func := "loop.example/g03006/laws.FnExactPrioEnds", spec := "fnExactPrioEnds", apart := false }
def FnExactPrioEndsSaid : Prop := fnExactPrioEndsRow.holds Try.pinned (OpenSpec.ofChange fnExactPrioEndsSpec)

/-- ITS FALSE NEIGHBOUR: 'it returns false'. Refute it at one input. -/
def fnExactPrioEndsWrong : ChangeSpec := { name := "fnExactPrioEnds", fn := fun _ => fun
  | [d] => { results := [.lit (.bool false)], args := [d] }
  | _ => none }
def FnExactPrioEndsWrongFalsely : Prop := fnExactPrioEndsRow.holds Try.pinned (OpenSpec.ofChange fnExactPrioEndsWrong)

/-- 'laws.FnExactIsPrio': WHATEVER THE INPUT: true; the input reads as it did. -/
def fnExactIsPrioSpec : ChangeSpec := { name := "fnExactIsPrio", fn := fun _ => fun
  | [d1, d2] => { results := [.lit (.bool true)], args := [d1, d2] }
  | _ => none }
def fnExactIsPrioRow : OpenClaim := { program := "ytnlffefekpjbcab", sum := "155088f11791fb268ed34d2c510db56e775becb2e789eee882a5c7ca1c8c8a00", func := "loop.example/g03006/laws.FnExactIsPrio", spec := "fnExactIsPrio", unfollowed := true, recurses := true, apart := false }
def FnExactIsPrioSaid : Prop := fnExactIsPrioRow.holds Try.pinned (OpenSpec.ofChange fnExactIsPrioSpec)

/-- ITS FALSE NEIGHBOUR: 'it returns false'. Refute it at one input. -/
def fnExactIsPrioWrong : ChangeSpec := { name := "fnExactIsPrio", fn := fun _ => fun
  | [d1, d2] => { results := [.lit (.bool false)], args := [d1, d2] }
  | _ => none }
def FnExactIsPrioWrongFalsely : Prop := fnExactIsPrioRow.holds Try.pinned (OpenSpec.ofChange fnExactIsPrioWrong)

/-- 'laws.FnExactAskPrio': WHATEVER THE INPUT: true; the input reads as it did. -/
def fnExactAskPrioSpec : ChangeSpec := { name := "fnExactAskPrio", fn := fun _ => fun
  | [d1, d2, d3] => { results := [.lit (.bool true)], args := [d1, d2, d3] }
  | _ => none }
def fnExactAskPrioRow : OpenClaim := { program := "ytnlffefekpjbcab", sum := "155088f11791fb268ed34d2c510db56e775becb2e789eee882a5c7ca1c8c8a00", func := "loop.example/g03006/laws.FnExactAskPrio", spec := "fnExactAskPrio", unfollowed := true, recurses := true, apart := false }
def FnExactAskPrioSaid : Prop := fnExactAskPrioRow.holds Try.pinned (OpenSpec.ofChange fnExactAskPrioSpec)

/-- ITS FALSE NEIGHBOUR: 'it returns false'. Refute it at one input. -/
def fnExactAskPrioWrong : ChangeSpec := { name := "fnExactAskPrio", fn := fun _ => fun
  | [d1, d2, d3] => { results := [.lit (.bool false)], args := [d1, d2, d3] }
  | _ => none }
def FnExactAskPrioWrongFalsely : Prop := fnExactAskPrioRow.holds Try.pinned (OpenSpec.ofChange fnExactAskPrioWrong)

/-- 'laws.FnExactEqualControls': WHATEVER THE INPUT: true; the input reads as it did. -/
def fnExactEqualControlsSpec : ChangeSpec := { name := "fnExactEqualControls", fn := fun _ => fun
  | [d1, d2] => { results := [.lit (.bool true)], args := [d1, d2] }
  | _ => none }
def fnExactEqualControlsRow : OpenClaim := { program := "ytnlffefekpjbcab", sum := "155088f11791fb268ed34d2c510db56e775becb2e789eee882a5c7ca1c8c8a00", func := "loop.example/g03006/laws.FnExactEqualControls", spec := "fnExactEqualControls", apart := false }
def FnExactEqualControlsSaid : Prop := fnExactEqualControlsRow.holds Try.pinned (OpenSpec.ofChange fnExactEqualControlsSpec)

/-- ITS FALSE NEIGHBOUR: 'it returns false'. Refute it at one input. -/
def fnExactEqualControlsWrong : ChangeSpec := { name := "fnExactEqualControls", fn := fun _ => fun
  | [d1, d2] => { results := [.lit (.bool false)], args := [d1, d2] }
  | _ => none }
def FnExactEqualControlsWrongFalsely : Prop := fnExactEqualControlsRow.holds Try.pinned (OpenSpec.ofChange fnExactEqualControlsWrong)

/- THE SECOND FORM. 'bulk': how many values and letters a reading holds, each counted each time it is reached (what is shared counts as often as it is met; a slice's spare places count too). A statement '..UptoSaid' is the law's where the arguments, and the package variables that the reading takes, are together of bulk at most 1048576: NARROWER than '..Said'. Prove '..Said' where nothing that the law and all that it calls make is longer than what came in: it says more and counts as full. Else prove '..UptoSaid'. A law counts once. -/
mutual
def uptoBulk {H : Type} : DataW H → Nat
  | .lit (.string bytes) => bytes.length + 1
  | .lit _ => 1
  | .nil => 1
  | .ptr d => uptoBulk d + 1
  | .slice elems spare => uptoBulkAll elems + uptoBulkAll spare + 1
  | .agg parts => uptoBulkAll parts + 1
  | .iface _ d => uptoBulk d + 1
  | .map entries => uptoBulkEntries entries + 1
  | .held _ => 1
def uptoBulkAll {H : Type} : List (DataW H) → Nat
  | [] => 0
  | d :: r => uptoBulk d + uptoBulkAll r
def uptoBulkEntries {H : Type} : List (Lit × DataW H) → Nat
  | [] => 0
  | x :: r => uptoBulkEntry x + uptoBulkEntries r
def uptoBulkEntry {H : Type} : Lit × DataW H → Nat
  | (.string bytes, d) => bytes.length + uptoBulk d + 1
  | (_, d) => uptoBulk d + 1
 end
def uptoSmall : (H : Type) → List (DataW H) → Bool := fun _ ds => decide (uptoBulkAll ds ≤ 1048576)
def OpenSpec.upto (s : _root_.Go.ChangeSpec) : _root_.Go.OpenSpec := { _root_.Go.OpenSpec.ofChange s with cond := some uptoSmall }

/-- 'laws.FnExactTotalInside', WHERE WHAT IT READS IS OF BULK AT MOST 1048576: true; the input reads as it did. -/
def fnExactTotalInsideUptoRow : OpenClaim := { program := "ytnlffefekpjbcab", sum := "155088f11791fb268ed34d2c510db56e775becb2e789eee882a5c7ca1c8c8a00", func := "loop.example/g03006/laws.FnExactTotalInside", spec := "fnExactTotalInside", apart := false, narrowed := true }
def FnExactTotalInsideUptoSaid : Prop := fnExactTotalInsideUptoRow.holds Try.pinned (OpenSpec.upto fnExactTotalInsideSpec)

/-- 'laws.FnTallies', WHERE WHAT IT READS IS OF BULK AT MOST 1048576: true; the input reads as it did. -/
def fnTalliesUptoRow : OpenClaim := { program := "ytnlffefekpjbcab", sum := "155088f11791fb268ed34d2c510db56e775becb2e789eee882a5c7ca1c8c8a00", func := "loop.example/g03006/laws.FnTallies", spec := "fnTallies", apart := false, narrowed := true }
def FnTalliesUptoSaid : Prop := fnTalliesUptoRow.holds Try.pinned (OpenSpec.upto fnTalliesSpec)

/-- 'laws.FnExactModeName', WHERE WHAT IT READS IS OF BULK AT MOST 1048576: true; the input reads as it did. -/
def fnExactModeNameUptoRow : OpenClaim := { program := "ytnlffefekpjbcab", sum := "155088f11791fb268ed34d2c510db56e775becb2e789eee882a5c7ca1c8c8a00", func := "loop.example/g03006/laws.FnExactModeName", spec := "fnExactModeName", apart := false, narrowed := true }
def FnExactModeNameUptoSaid : Prop := fnExactModeNameUptoRow.holds Try.pinned (OpenSpec.upto fnExactModeNameSpec)

/-- 'laws.FnExactIsWindow', WHERE WHAT IT READS IS OF BULK AT MOST 1048576: true; the input reads as it did. -/
def fnExactIsWindowUptoRow : OpenClaim := { program := "ytnlffefekpjbcab", sum := "155088f11791fb268ed34d2c510db56e775becb2e789eee882a5c7ca1c8c8a00", func := "loop.example/g03006/laws.FnExactIsWindow", spec := "fnExactIsWindow", apart := false, narrowed := true }
def FnExactIsWindowUptoSaid : Prop := fnExactIsWindowUptoRow.holds Try.pinned (OpenSpec.upto fnExactIsWindowSpec)

/-- 'laws.FnExactInWindow', WHERE WHAT IT READS IS OF BULK AT MOST 1048576: true; the input reads as it did. -/
def fnExactInWindowUptoRow : OpenClaim := { program := "ytnlffefekpjbcab", sum := "155088f11791fb268ed34d2c510db56e775becb2e789eee882a5c7ca1c8c8a00", func := "loop.example/g03006/laws.FnExactInWindow", spec := "fnExactInWindow", apart := false, narrowed := true }
def FnExactInWindowUptoSaid : Prop := fnExactInWindowUptoRow.holds Try.pinned (OpenSpec.upto fnExactInWindowSpec)

/-- 'laws.FnExactGreatestBand', WHERE WHAT IT READS IS OF BULK AT MOST 1048576: true; the input reads as it did. -/
def fnExactGreatestBandUptoRow : OpenClaim := { program := "ytnlffefekpjbcab", sum := "155088f11791fb268ed34d2c510db56e775becb2e789eee882a5c7ca1c8c8a00", func := "loop.example/g03006/laws.FnExactGreatestBand", spec := "fnExactGreatestBand", apart := false, narrowed := true }
def FnExactGreatestBandUptoSaid : Prop := fnExactGreatestBandUptoRow.holds Try.pinned (OpenSpec.upto fnExactGreatestBandSpec)

/-- 'laws.FnExactLeastWindow', WHERE WHAT IT READS IS OF BULK AT MOST 1048576: true; the input reads as it did. -/
def fnExactLeastWindowUptoRow : OpenClaim := { program := "ytnlffefekpjbcab", sum := "155088f11791fb268ed34d2c510db56e775becb2e789eee882a5c7ca1c8c8a00", func := "loop.example/g03006/laws.FnExactLeastWindow", spec := "fnExactLeastWindow", unfollowed := true, recurses := true, apart := false, narrowed := true }
def FnExactLeastWindowUptoSaid : Prop := fnExactLeastWindowUptoRow.holds Try.pinned (OpenSpec.upto fnExactLeastWindowSpec)

/-- 'laws.FnExactShiftOffsets', WHERE WHAT IT READS IS OF BULK AT MOST 1048576: true; the input reads as it did. -/
def fnExactShiftOffsetsUptoRow : OpenClaim := { program := "ytnlffefekpjbcab", sum := "155088f11791fb268ed34d2c510db56e775becb2e789eee882a5c7ca1c8c8a00", func := "loop.example/g03006/laws.FnExactShiftOffsets", spec := "fnExactShiftOffsets", apart := false, narrowed := true }
def FnExactShiftOffsetsUptoSaid : Prop := fnExactShiftOffsetsUptoRow.holds Try.pinned (OpenSpec.upto fnExactShiftOffsetsSpec)

/-- 'laws.FnExactPrioEnds', WHERE WHAT IT READS IS OF BULK AT MOST 1048576: true; the input reads as it did. -/
def fnExactPrioEndsUptoRow : OpenClaim := { program := "ytnlffefekpjbcab", sum := "155088f11791fb268ed34d2c510db56e775becb2e789eee882a5c7ca1c8c8a00", func := "loop.example/g03006/laws.FnExactPrioEnds", spec := "fnExactPrioEnds", apart := false, narrowed := true }
def FnExactPrioEndsUptoSaid : Prop := fnExactPrioEndsUptoRow.holds Try.pinned (OpenSpec.upto fnExactPrioEndsSpec)

/-- 'laws.FnExactIsPrio', WHERE WHAT IT READS IS OF BULK AT MOST 1048576: true; the input reads as it did. -/
def fnExactIsPrioUptoRow : OpenClaim := { program := "ytnlffefekpjbcab", sum := "155088f11791fb268ed34d2c510db56e775becb2e789eee882a5c7ca1c8c8a00", func := "loop.example/g03006/laws.FnExactIsPrio", spec := "fnExactIsPrio", unfollowed := true, recurses := true, apart := false, narrowed := true }
def FnExactIsPrioUptoSaid : Prop := fnExactIsPrioUptoRow.holds Try.pinned (OpenSpec.upto fnExactIsPrioSpec)

/-- 'laws.FnExactAskPrio', WHERE WHAT IT READS IS OF BULK AT MOST 1048576: true; the input reads as it did. -/
def fnExactAskPrioUptoRow : OpenClaim := { program := "ytnlffefekpjbcab", sum := "155088f11791fb268ed34d2c510db56e775becb2e789eee882a5c7ca1c8c8a00", func := "loop.example/g03006/laws.FnExactAskPrio", spec := "fnExactAskPrio", unfollowed := true, recurses := true, apart := false, narrowed := true }
def FnExactAskPrioUptoSaid : Prop := fnExactAskPrioUptoRow.holds Try.pinned (OpenSpec.upto fnExactAskPrioSpec)

/-- 'laws.FnExactEqualControls', WHERE WHAT IT READS IS OF BULK AT MOST 1048576: true; the input reads as it did. -/
def fnExactEqualControlsUptoRow : OpenClaim := { program := "ytnlffefekpjbcab", sum := "155088f11791fb268ed34d2c510db56e775becb2e789eee882a5c7ca1c8c8a00", func := "loop.example/g03006/laws.FnExactEqualControls", spec := "fnExactEqualControls", apart := false, narrowed := true }
def FnExactEqualControlsUptoSaid : Prop := fnExactEqualControlsUptoRow.holds Try.pinned (OpenSpec.upto fnExactEqualControlsSpec)

end Rows
end Go.Proofs.Ytnlffefekpjbcab
