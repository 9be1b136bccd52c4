/-
  No cell of these rows narrows 'for every input' (looked for: loops, veiled, ifaces, maps, wideKeys, modest, calm, conditions, laid).
  DERIVED. THE GIVEN ROWS OF THIS SEAT. 11 by the template 'for every input the law returns true; each argument reads behind the call as it read before'; 0 by the template 'total and deterministic' (their statements: YtblilnfkpfjclaaTotals.lean).
  GIVEN WITH THE SEED: the statements are not yours to turn. If you find one false, say at which input.
  Laid BY PROGRAM, IN A SANDBOX (cutbox-rows.mjs): the forced cells as the released guide's own fill.sh prints them over the translation 58923b97aacfd57c… (all of the seat's roots in one cut). By AI agents, Wed Nov 11 2026. No macro, syntax, notation, axiom, sorry.
-/
import Derived.Test.YtblilnfkpfjclaaChecked
import GoSem.Claim
import GoSem.ClaimJoined
import GoSem.ClaimMapViews
import Derived.JoinedTies
import Derived.KernelRfl
namespace Go.Proofs.Ytblilnfkpfjclaa
/- THE CELL 'sum', in the pinned program and in every row, IS THE sha256 OF THE DUMP (.gsa) THAT YtblilnfkpfjclaaProg.lean LOADS. Nothing in Lean hashes anything: it is a label: what it is worth is what the hold of that sum in a sandbox is worth. -/
noncomputable def Try.pinned : Pinned := { name := "ytblilnfkpfjclaa", sum := "58923b97aacfd57c9a04d1c0a68045e8ec0663991dc7dad9f5a147a64fc67c23", checked := Try.checked }
namespace Rows
def none {H : Type} : Left H := { results := [], args := [] }

/-- 'laws.FnExactAskPrio': WHATEVER THE INPUT: true; the input reads as it did. -/
def fnExactAskPrioSpec : ChangeSpec := { name := "fnExactAskPrio", fn := fun _ => fun
  | [d1, d2, d3] => { results := [.lit (.bool true)], args := [d1, d2, d3] }
  | _ => none }
def fnExactAskPrioRow : OpenClaim := { program := "ytblilnfkpfjclaa", sum := "58923b97aacfd57c9a04d1c0a68045e8ec0663991dc7dad9f5a147a64fc67c23", func := "loop.example/g03006/laws.FnExactAskPrio", spec := "fnExactAskPrio", unfollowed := true, recurses := true, apart := false }
def FnExactAskPrioSaid : Prop := fnExactAskPrioRow.holds Try.pinned (OpenSpec.ofChange fnExactAskPrioSpec)

/-- ITS FALSE NEIGHBOUR: 'it returns false'. Refute it at one input. -/
def fnExactAskPrioWrong : ChangeSpec := { name := "fnExactAskPrio", fn := fun _ => fun
  | [d1, d2, d3] => { results := [.lit (.bool false)], args := [d1, d2, d3] }
  | _ => none }
def FnExactAskPrioWrongFalsely : Prop := fnExactAskPrioRow.holds Try.pinned (OpenSpec.ofChange fnExactAskPrioWrong)

/-- 'laws.FnExactOpenShare': WHATEVER THE INPUT: true; the input reads as it did. -/
def fnExactOpenShareSpec : ChangeSpec := { name := "fnExactOpenShare", fn := fun _ => fun
  | [d1, d2, d3] => { results := [.lit (.bool true)], args := [d1, d2, d3] }
  | _ => none }
def fnExactOpenShareRow : OpenClaim := { program := "ytblilnfkpfjclaa", sum := "58923b97aacfd57c9a04d1c0a68045e8ec0663991dc7dad9f5a147a64fc67c23", func := "loop.example/g03006/laws.FnExactOpenShare", spec := "fnExactOpenShare", unfollowed := true, recurses := true, apart := false }
def FnExactOpenShareSaid : Prop := fnExactOpenShareRow.holds Try.pinned (OpenSpec.ofChange fnExactOpenShareSpec)

/-- ITS FALSE NEIGHBOUR: 'it returns false'. Refute it at one input. -/
def fnExactOpenShareWrong : ChangeSpec := { name := "fnExactOpenShare", fn := fun _ => fun
  | [d1, d2, d3] => { results := [.lit (.bool false)], args := [d1, d2, d3] }
  | _ => none }
def FnExactOpenShareWrongFalsely : Prop := fnExactOpenShareRow.holds Try.pinned (OpenSpec.ofChange fnExactOpenShareWrong)

/-- 'laws.FnExactShownBetween': WHATEVER THE INPUT: true; the input reads as it did. -/
def fnExactShownBetweenSpec : ChangeSpec := { name := "fnExactShownBetween", fn := fun _ => fun
  | [d1, d2, d3, d4] => { results := [.lit (.bool true)], args := [d1, d2, d3, d4] }
  | _ => none }
def fnExactShownBetweenRow : OpenClaim := { program := "ytblilnfkpfjclaa", sum := "58923b97aacfd57c9a04d1c0a68045e8ec0663991dc7dad9f5a147a64fc67c23", func := "loop.example/g03006/laws.FnExactShownBetween", spec := "fnExactShownBetween", unfollowed := true, recurses := true, apart := false }
def FnExactShownBetweenSaid : Prop := fnExactShownBetweenRow.holds Try.pinned (OpenSpec.ofChange fnExactShownBetweenSpec)

/-- ITS FALSE NEIGHBOUR: 'it returns false'. Refute it at one input. -/
def fnExactShownBetweenWrong : ChangeSpec := { name := "fnExactShownBetween", fn := fun _ => fun
  | [d1, d2, d3, d4] => { results := [.lit (.bool false)], args := [d1, d2, d3, d4] }
  | _ => none }
def FnExactShownBetweenWrongFalsely : Prop := fnExactShownBetweenRow.holds Try.pinned (OpenSpec.ofChange fnExactShownBetweenWrong)

/-- 'laws.FnExactAddEntry': WHATEVER THE INPUT: true; the input reads as it did. -/
def fnExactAddEntrySpec : ChangeSpec := { name := "fnExactAddEntry", fn := fun _ => fun
  | [d1, d2, d3] => { results := [.lit (.bool true)], args := [d1, d2, d3] }
  | _ => none }
def fnExactAddEntryRow : OpenClaim := { program := "ytblilnfkpfjclaa", sum := "58923b97aacfd57c9a04d1c0a68045e8ec0663991dc7dad9f5a147a64fc67c23", func := "loop.example/g03006/laws.FnExactAddEntry", spec := "fnExactAddEntry", unfollowed := true, recurses := true, apart := false }
def FnExactAddEntrySaid : Prop := fnExactAddEntryRow.holds Try.pinned (OpenSpec.ofChange fnExactAddEntrySpec)

/-- ITS FALSE NEIGHBOUR: 'it returns false'. Refute it at one input. -/
def fnExactAddEntryWrong : ChangeSpec := { name := "fnExactAddEntry", fn := fun _ => fun
  | [d1, d2, d3] => { results := [.lit (.bool false)], args := [d1, d2, d3] }
  | _ => none }
def FnExactAddEntryWrongFalsely : Prop := fnExactAddEntryRow.holds Try.pinned (OpenSpec.ofChange fnExactAddEntryWrong)

/-- 'laws.FnExactNoteLights': WHATEVER THE INPUT: true; the input reads as it did. -/
def fnExactNoteLightsSpec : ChangeSpec := { name := "fnExactNoteLights", fn := fun _ => fun
  | [d1, d2, d3] => { results := [.lit (.bool true)], args := [d1, d2, d3] }
  | _ => none }
def fnExactNoteLightsRow : OpenClaim := { program := "ytblilnfkpfjclaa", sum := "58923b97aacfd57c9a04d1c0a68045e8ec0663991dc7dad9f5a147a64fc67c23", func := "loop.example/g03006/laws.FnExactNoteLights", spec := "fnExactNoteLights", unfollowed := true, recurses := true, apart := false }
def FnExactNoteLightsSaid : Prop := fnExactNoteLightsRow.holds Try.pinned (OpenSpec.ofChange fnExactNoteLightsSpec)

/-- ITS FALSE NEIGHBOUR: 'it returns false'. Refute it at one input. -/
def fnExactNoteLightsWrong : ChangeSpec := { name := "fnExactNoteLights", fn := fun _ => fun
  | [d1, d2, d3] => { results := [.lit (.bool false)], args := [d1, d2, d3] }
  | _ => none }
def FnExactNoteLightsWrongFalsely : Prop := fnExactNoteLightsRow.holds Try.pinned (OpenSpec.ofChange fnExactNoteLightsWrong)

/-- 'laws.FnExactBand': WHATEVER THE INPUT: true; the input reads as it did. -/
def fnExactBandSpec : ChangeSpec := { name := "fnExactBand", fn := fun _ => fun
  | [d1, d2, d3, d4, d5] => { results := [.lit (.bool true)], args := [d1, d2, d3, d4, d5] }
  | _ => none }
def fnExactBandRow : OpenClaim := { program := "ytblilnfkpfjclaa", sum := "58923b97aacfd57c9a04d1c0a68045e8ec0663991dc7dad9f5a147a64fc67c23", func := "loop.example/g03006/laws.FnExactBand", spec := "fnExactBand", apart := false }
def FnExactBandSaid : Prop := fnExactBandRow.holds Try.pinned (OpenSpec.ofChange fnExactBandSpec)

/-- ITS FALSE NEIGHBOUR: 'it returns false'. Refute it at one input. -/
def fnExactBandWrong : ChangeSpec := { name := "fnExactBand", fn := fun _ => fun
  | [d1, d2, d3, d4, d5] => { results := [.lit (.bool false)], args := [d1, d2, d3, d4, d5] }
  | _ => none }
def FnExactBandWrongFalsely : Prop := fnExactBandRow.holds Try.pinned (OpenSpec.ofChange fnExactBandWrong)

/-- 'laws.FnExactBestOffset': WHATEVER THE INPUT: true; the input reads as it did. -/
def fnExactBestOffsetSpec : ChangeSpec := { name := "fnExactBestOffset", fn := fun _ => fun
  | [d1, d2, d3, d4] => { results := [.lit (.bool true)], args := [d1, d2, d3, d4] }
  | _ => none }
def fnExactBestOffsetRow : OpenClaim := { program := "ytblilnfkpfjclaa", sum := "58923b97aacfd57c9a04d1c0a68045e8ec0663991dc7dad9f5a147a64fc67c23", func := "loop.example/g03006/laws.FnExactBestOffset", spec := "fnExactBestOffset", apart := false }
def FnExactBestOffsetSaid : Prop := fnExactBestOffsetRow.holds Try.pinned (OpenSpec.ofChange fnExactBestOffsetSpec)

/-- ITS FALSE NEIGHBOUR: 'it returns false'. Refute it at one input. -/
def fnExactBestOffsetWrong : ChangeSpec := { name := "fnExactBestOffset", fn := fun _ => fun
  | [d1, d2, d3, d4] => { results := [.lit (.bool false)], args := [d1, d2, d3, d4] }
  | _ => none }
def FnExactBestOffsetWrongFalsely : Prop := fnExactBestOffsetRow.holds Try.pinned (OpenSpec.ofChange fnExactBestOffsetWrong)

/-- 'laws.FnExactThroughBand': WHATEVER THE INPUT: true; the input reads as it did. -/
def fnExactThroughBandSpec : ChangeSpec := { name := "fnExactThroughBand", fn := fun _ => fun
  | [d1, d2, d3, d4] => { results := [.lit (.bool true)], args := [d1, d2, d3, d4] }
  | _ => none }
def fnExactThroughBandRow : OpenClaim := { program := "ytblilnfkpfjclaa", sum := "58923b97aacfd57c9a04d1c0a68045e8ec0663991dc7dad9f5a147a64fc67c23", func := "loop.example/g03006/laws.FnExactThroughBand", spec := "fnExactThroughBand", unfollowed := true, recurses := true, apart := false }
def FnExactThroughBandSaid : Prop := fnExactThroughBandRow.holds Try.pinned (OpenSpec.ofChange fnExactThroughBandSpec)

/-- ITS FALSE NEIGHBOUR: 'it returns false'. Refute it at one input. -/
def fnExactThroughBandWrong : ChangeSpec := { name := "fnExactThroughBand", fn := fun _ => fun
  | [d1, d2, d3, d4] => { results := [.lit (.bool false)], args := [d1, d2, d3, d4] }
  | _ => none }
def FnExactThroughBandWrongFalsely : Prop := fnExactThroughBandRow.holds Try.pinned (OpenSpec.ofChange fnExactThroughBandWrong)

/-- 'laws.FnExactPairBands': WHATEVER THE INPUT: true; the input reads as it did. -/
def fnExactPairBandsSpec : ChangeSpec := { name := "fnExactPairBands", fn := fun _ => fun
  | [d1, d2, d3, d4] => { results := [.lit (.bool true)], args := [d1, d2, d3, d4] }
  | _ => none }
def fnExactPairBandsRow : OpenClaim := { program := "ytblilnfkpfjclaa", sum := "58923b97aacfd57c9a04d1c0a68045e8ec0663991dc7dad9f5a147a64fc67c23", func := "loop.example/g03006/laws.FnExactPairBands", spec := "fnExactPairBands", unfollowed := true, recurses := true, apart := false }
def FnExactPairBandsSaid : Prop := fnExactPairBandsRow.holds Try.pinned (OpenSpec.ofChange fnExactPairBandsSpec)

/-- ITS FALSE NEIGHBOUR: 'it returns false'. Refute it at one input. -/
def fnExactPairBandsWrong : ChangeSpec := { name := "fnExactPairBands", fn := fun _ => fun
  | [d1, d2, d3, d4] => { results := [.lit (.bool false)], args := [d1, d2, d3, d4] }
  | _ => none }
def FnExactPairBandsWrongFalsely : Prop := fnExactPairBandsRow.holds Try.pinned (OpenSpec.ofChange fnExactPairBandsWrong)

/-- 'laws.FnExactLongestWant': WHATEVER THE INPUT: true; the input reads as it did. -/
def fnExactLongestWantSpec : ChangeSpec := { name := "fnExactLongestWant", fn := fun _ => fun
  | [d1, d2] => { results := [.lit (.bool true)], args := [d1, d2] }
  | _ => none }
def fnExactLongestWantRow : OpenClaim := { program := "ytblilnfkpfjclaa", sum := "58923b97aacfd57c9a04d1c0a68045e8ec0663991dc7dad9f5a147a64fc67c23", func := "loop.example/g03006/laws.FnExactLongestWant", spec := "fnExactLongestWant", unfollowed := true, recurses := true, apart := false }
def FnExactLongestWantSaid : Prop := fnExactLongestWantRow.holds Try.pinned (OpenSpec.ofChange fnExactLongestWantSpec)

/-- ITS FALSE NEIGHBOUR: 'it returns false'. Refute it at one input. -/
def fnExactLongestWantWrong : ChangeSpec := { name := "fnExactLongestWant", fn := fun _ => fun
  | [d1, d2] => { results := [.lit (.bool false)], args := [d1, d2] }
  | _ => none }
def FnExactLongestWantWrongFalsely : Prop := fnExactLongestWantRow.holds Try.pinned (OpenSpec.ofChange fnExactLongestWantWrong)

/-- 'laws.FnExactShownAt': WHATEVER THE INPUT: true; the input reads as it did. -/
def fnExactShownAtSpec : ChangeSpec := { name := "fnExactShownAt", fn := fun _ => fun
  | [d1, d2] => { results := [.lit (.bool true)], args := [d1, d2] }
  | _ => none }
def fnExactShownAtRow : OpenClaim := { program := "ytblilnfkpfjclaa", sum := "58923b97aacfd57c9a04d1c0a68045e8ec0663991dc7dad9f5a147a64fc67c23", func := "loop.example/g03006/laws.FnExactShownAt", spec := "fnExactShownAt", apart := false }
def FnExactShownAtSaid : Prop := fnExactShownAtRow.holds Try.pinned (OpenSpec.ofChange fnExactShownAtSpec)

/-- ITS FALSE NEIGHBOUR: 'it returns false'. Refute it at one input. -/
def fnExactShownAtWrong : ChangeSpec := { name := "fnExactShownAt", fn := fun _ => fun
  | [d1, d2] => { results := [.lit (.bool false)], args := [d1, d2] }
  | _ => none }
def FnExactShownAtWrongFalsely : Prop := fnExactShownAtRow.holds Try.pinned (OpenSpec.ofChange fnExactShownAtWrong)

/- THE SECOND FORM. 'bulk': how many values and letters a reading holds, each counted each time it is reached (what is shared counts as often as it is met; a slice's spare places count too). A statement '..UptoSaid' is the law's where the arguments, and the package variables that the reading takes, are together of bulk at most 1048576: NARROWER than '..Said'. Prove '..Said' where nothing that the law and all that it calls make is longer than what came in: it says more and counts as full. Else prove '..UptoSaid'. A law counts once. -/
mutual
def uptoBulk {H : Type} : DataW H → Nat
  | .lit (.string bytes) => bytes.length + 1
  | .lit _ => 1
  | .nil => 1
  | .ptr d => uptoBulk d + 1
  | .slice elems spare => uptoBulkAll elems + uptoBulkAll spare + 1
  | .agg parts => uptoBulkAll parts + 1
  | .iface _ d => uptoBulk d + 1
  | .map entries => uptoBulkEntries entries + 1
  | .held _ => 1
def uptoBulkAll {H : Type} : List (DataW H) → Nat
  | [] => 0
  | d :: r => uptoBulk d + uptoBulkAll r
def uptoBulkEntries {H : Type} : List (Lit × DataW H) → Nat
  | [] => 0
  | x :: r => uptoBulkEntry x + uptoBulkEntries r
def uptoBulkEntry {H : Type} : Lit × DataW H → Nat
  | (.string bytes, d) => bytes.length + uptoBulk d + 1
  | (_, d) => uptoBulk d + 1
 end
def uptoSmall : (H : Type) → List (DataW H) → Bool := fun _ ds => decide (uptoBulkAll ds ≤ 1048576)
def OpenSpec.upto (s : _root_.Go.ChangeSpec) : _root_.Go.OpenSpec := { _root_.Go.OpenSpec.ofChange s with cond := some uptoSmall }

/-- 'laws.FnExactAskPrio', WHERE WHAT IT READS IS OF BULK AT MOST 1048576: true; the input reads as it did. -/
def fnExactAskPrioUptoRow : OpenClaim := { program := "ytblilnfkpfjclaa", sum := "58923b97aacfd57c9a04d1c0a68045e8ec0663991dc7dad9f5a147a64fc67c23", func := "loop.example/g03006/laws.FnExactAskPrio", spec := "fnExactAskPrio", unfollowed := true, recurses := true, apart := false, narrowed := true }
def FnExactAskPrioUptoSaid : Prop := fnExactAskPrioUptoRow.holds Try.pinned (OpenSpec.upto fnExactAskPrioSpec)

/-- 'laws.FnExactOpenShare', WHERE WHAT IT READS IS OF BULK AT MOST 1048576: true; the input reads as it did. -/
def fnExactOpenShareUptoRow : OpenClaim := { program := "ytblilnfkpfjclaa", sum := "58923b97aacfd57c9a04d1c0a68045e8ec0663991dc7dad9f5a147a64fc67c23", func := "loop.example/g03006/laws.FnExactOpenShare", spec := "fnExactOpenShare", unfollowed := true, recurses := true, apart := false, narrowed := true }
def FnExactOpenShareUptoSaid : Prop := fnExactOpenShareUptoRow.holds Try.pinned (OpenSpec.upto fnExactOpenShareSpec)

/-- 'laws.FnExactShownBetween', WHERE WHAT IT READS IS OF BULK AT MOST 1048576: true; the input reads as it did. -/
def fnExactShownBetweenUptoRow : OpenClaim := { program := "ytblilnfkpfjclaa", sum := "58923b97aacfd57c9a04d1c0a68045e8ec0663991dc7dad9f5a147a64fc67c23", func := "loop.example/g03006/laws.FnExactShownBetween", spec := "fnExactShownBetween", unfollowed := true, recurses := true, apart := false, narrowed := true }
def FnExactShownBetweenUptoSaid : Prop := fnExactShownBetweenUptoRow.holds Try.pinned (OpenSpec.upto fnExactShownBetweenSpec)

/-- 'laws.FnExactAddEntry', WHERE WHAT IT READS IS OF BULK AT MOST 1048576: true; the input reads as it did. -/
def fnExactAddEntryUptoRow : OpenClaim := { program := "ytblilnfkpfjclaa", sum := "58923b97aacfd57c9a04d1c0a68045e8ec0663991dc7dad9f5a147a64fc67c23", func := "loop.example/g03006/laws.FnExactAddEntry", spec := "fnExactAddEntry", unfollowed := true, recurses := true, apart := false, narrowed := true }
def FnExactAddEntryUptoSaid : Prop := fnExactAddEntryUptoRow.holds Try.pinned (OpenSpec.upto fnExactAddEntrySpec)

/-- 'laws.FnExactNoteLights', WHERE WHAT IT READS IS OF BULK AT MOST 1048576: true; the input reads as it did. -/
def fnExactNoteLightsUptoRow : OpenClaim := { program := "ytblilnfkpfjclaa", sum := "58923b97aacfd57c9a04d1c0a68045e8ec0663991dc7dad9f5a147a64fc67c23", func := "loop.example/g03006/laws.FnExactNoteLights", spec := "fnExactNoteLights", unfollowed := true, recurses := true, apart := false, narrowed := true }
def FnExactNoteLightsUptoSaid : Prop := fnExactNoteLightsUptoRow.holds Try.pinned (OpenSpec.upto fnExactNoteLightsSpec)

/-- 'laws.FnExactBand', WHERE WHAT IT READS IS OF BULK AT MOST 1048576: true; the input reads as it did. -/
def fnExactBandUptoRow : OpenClaim := { program := "ytblilnfkpfjclaa", sum := "58923b97aacfd57c9a04d1c0a68045e8ec0663991dc7dad9f5a147a64fc67c23", func := "loop.example/g03006/laws.FnExactBand", spec := "fnExactBand", apart := false, narrowed := true }
def FnExactBandUptoSaid : Prop := fnExactBandUptoRow.holds Try.pinned (OpenSpec.upto fnExactBandSpec)

/-- 'laws.FnExactBestOffset', WHERE WHAT IT READS IS OF BULK AT MOST 1048576: true; the input reads as it did. -/
def fnExactBestOffsetUptoRow : OpenClaim := { program := "ytblilnfkpfjclaa", sum := "58923b97aacfd57c9a04d1c0a68045e8ec0663991dc7dad9f5a147a64fc67c23", func := "loop.example/g03006/laws.FnExactBestOffset", spec := "fnExactBestOffset", apart := false, narrowed := true }
def FnExactBestOffsetUptoSaid : Prop := fnExactBestOffsetUptoRow.holds Try.pinned (OpenSpec.upto fnExactBestOffsetSpec)

/-- 'laws.FnExactThroughBand', WHERE WHAT IT READS IS OF BULK AT MOST 1048576: true; the input reads as it did. -/
def fnExactThroughBandUptoRow : OpenClaim := { program := "ytblilnfkpfjclaa", sum := "58923b97aacfd57c9a04d1c0a68045e8ec0663991dc7dad9f5a147a64fc67c23", func := "loop.example/g03006/laws.FnExactThroughBand", spec := "fnExactThroughBand", unfollowed := true, recurses := true, apart := false, narrowed := true }
def FnExactThroughBandUptoSaid : Prop := fnExactThroughBandUptoRow.holds Try.pinned (OpenSpec.upto fnExactThroughBandSpec)

/-- 'laws.FnExactPairBands', WHERE WHAT IT READS IS OF BULK AT MOST 1048576: true; the input reads as it did. -/
def fnExactPairBandsUptoRow : OpenClaim := { program := "ytblilnfkpfjclaa", sum := "58923b97aacfd57c9a04d1c0a68045e8ec0663991dc7dad9f5a147a64fc67c23", func := "loop.example/g03006/laws.FnExactPairBands", spec := "fnExactPairBands", unfollowed := true, recurses := true, apart := false, narrowed := true }
def FnExactPairBandsUptoSaid : Prop := fnExactPairBandsUptoRow.holds Try.pinned (OpenSpec.upto fnExactPairBandsSpec)

/-- 'laws.FnExactLongestWant', WHERE WHAT IT READS IS OF BULK AT MOST 1048576: true; the input reads as it did. -/
def fnExactLongestWantUptoRow : OpenClaim := { program := "ytblilnfkpfjclaa", sum := "58923b97aacfd57c9a04d1c0a68045e8ec0663991dc7dad9f5a147a64fc67c23", func := "loop.example/g03006/laws.FnExactLongestWant", spec := "fnExactLongestWant", unfollowed := true, recurses := true, apart := false, narrowed := true }
def FnExactLongestWantUptoSaid : Prop := fnExactLongestWantUptoRow.holds Try.pinned (OpenSpec.upto fnExactLongestWantSpec)

/-- 'laws.FnExactShownAt', WHERE WHAT IT READS IS OF BULK AT MOST 1048576: true; the input reads as it did. -/
def fnExactShownAtUptoRow : OpenClaim := { program := "ytblilnfkpfjclaa", sum := "58923b97aacfd57c9a04d1c0a68045e8ec0663991dc7dad9f5a147a64fc67c23", func := "loop.example/g03006/laws.FnExactShownAt", spec := "fnExactShownAt", apart := false, narrowed := true }
def FnExactShownAtUptoSaid : Prop := fnExactShownAtUptoRow.holds Try.pinned (OpenSpec.upto fnExactShownAtSpec)

end Rows
end Go.Proofs.Ytblilnfkpfjclaa
