/-
  No cell of these rows narrows 'for every input' (looked for: loops, veiled, ifaces, maps, wideKeys, modest, calm, conditions, laid).
  DERIVED. THE GIVEN ROWS OF THIS SEAT. 12 by the template 'for every input the law returns true; each argument reads behind the call as it read before'; 0 by the template 'total and deterministic' (their statements: YtdlcjmdkafebpaaTotals.lean).
  GIVEN WITH THE SEED: the statements are not yours to turn. If you find one false, say at which input.
  Laid BY PROGRAM, IN A SANDBOX (cutbox-rows.mjs): the forced cells as the released guide's own fill.sh prints them over the translation e60610aadb8bb241… (all of the seat's roots in one cut). By AI agents, Wed Nov 11 2026. No macro, syntax, notation, axiom, sorry.
-/
import Derived.Test.YtdlcjmdkafebpaaChecked
import GoSem.Claim
import GoSem.ClaimJoined
import GoSem.ClaimMapViews
import Derived.JoinedTies
import Derived.KernelRfl
namespace Go.Proofs.Ytdlcjmdkafebpaa
/- THE CELL 'sum', in the pinned program and in every row, IS THE sha256 OF THE DUMP (.gsa) THAT YtdlcjmdkafebpaaProg.lean LOADS. Nothing in Lean hashes anything: it is a label: what it is worth is what the hold of that sum in a sandbox is worth. -/
noncomputable def Try.pinned : Pinned := { name := "ytdlcjmdkafebpaa", sum := "e60610aadb8bb241b08b96b0554ecf821666d906241c8cf03d3f4ed8775b1577", checked := Try.checked }
namespace Rows
def none {H : Type} : Left H := { results := [], args := [] }

/-- 'laws.FnExactIsAgreed': WHATEVER THE INPUT: true; the input reads as it did. -/
def fnExactIsAgreedSpec : ChangeSpec := { name := "fnExactIsAgreed", fn := fun _ => fun
  | [d] => { results := [.lit (.bool true)], args := [d] }
  | _ => none }
def fnExactIsAgreedRow : OpenClaim := { program := "ytdlcjmdkafebpaa", sum := "e60610aadb8bb241b08b96b0554ecf821666d906241c8cf03d3f4ed8775b1577", func := "loop.example/g03006/laws.FnExactIsAgreed", spec := "fnExactIsAgreed", plainKeys := false, apart := false }
def FnExactIsAgreedSaid : Prop := fnExactIsAgreedRow.holds Try.pinned (OpenSpec.ofChange fnExactIsAgreedSpec)

/-- ITS FALSE NEIGHBOUR: 'it returns false'. Refute it at one input. -/
def fnExactIsAgreedWrong : ChangeSpec := { name := "fnExactIsAgreed", fn := fun _ => fun
  | [d] => { results := [.lit (.bool false)], args := [d] }
  | _ => none }
def FnExactIsAgreedWrongFalsely : Prop := fnExactIsAgreedRow.holds Try.pinned (OpenSpec.ofChange fnExactIsAgreedWrong)

/-- 'laws.FnExactPlanAfter': WHATEVER THE INPUT: true; the input reads as it did. -/
def fnExactPlanAfterSpec : ChangeSpec := { name := "fnExactPlanAfter", fn := fun _ => fun
  | [d1, d2, d3] => { results := [.lit (.bool true)], args := [d1, d2, d3] }
  | _ => none }
def fnExactPlanAfterRow : OpenClaim := { program := "ytdlcjmdkafebpaa", sum := "e60610aadb8bb241b08b96b0554ecf821666d906241c8cf03d3f4ed8775b1577", func := "loop.example/g03006/laws.FnExactPlanAfter", spec := "fnExactPlanAfter", plainKeys := false, apart := false }
def FnExactPlanAfterSaid : Prop := fnExactPlanAfterRow.holds Try.pinned (OpenSpec.ofChange fnExactPlanAfterSpec)

/-- ITS FALSE NEIGHBOUR: 'it returns false'. Refute it at one input. -/
def fnExactPlanAfterWrong : ChangeSpec := { name := "fnExactPlanAfter", fn := fun _ => fun
  | [d1, d2, d3] => { results := [.lit (.bool false)], args := [d1, d2, d3] }
  | _ => none }
def FnExactPlanAfterWrongFalsely : Prop := fnExactPlanAfterRow.holds Try.pinned (OpenSpec.ofChange fnExactPlanAfterWrong)

/-- 'laws.FnExactIsBroken': WHATEVER THE INPUT: true; the input reads as it did. -/
def fnExactIsBrokenSpec : ChangeSpec := { name := "fnExactIsBroken", fn := fun _ => fun
  | [d1, d2, d3] => { results := [.lit (.bool true)], args := [d1, d2, d3] }
  | _ => none }
def fnExactIsBrokenRow : OpenClaim := { program := "ytdlcjmdkafebpaa", sum := "e60610aadb8bb241b08b96b0554ecf821666d906241c8cf03d3f4ed8775b1577", func := "loop.example/g03006/laws.FnExactIsBroken", spec := "fnExactIsBroken", plainKeys := false, apart := false }
def FnExactIsBrokenSaid : Prop := fnExactIsBrokenRow.holds Try.pinned (OpenSpec.ofChange fnExactIsBrokenSpec)

/-- ITS FALSE NEIGHBOUR: 'it returns false'. Refute it at one input. -/
def fnExactIsBrokenWrong : ChangeSpec := { name := "fnExactIsBroken", fn := fun _ => fun
  | [d1, d2, d3] => { results := [.lit (.bool false)], args := [d1, d2, d3] }
  | _ => none }
def FnExactIsBrokenWrongFalsely : Prop := fnExactIsBrokenRow.holds Try.pinned (OpenSpec.ofChange fnExactIsBrokenWrong)

/-- 'laws.FnExactAreLamps': WHATEVER THE INPUT: true; the input reads as it did. -/
def fnExactAreLampsSpec : ChangeSpec := { name := "fnExactAreLamps", fn := fun _ => fun
  | [d1, d2] => { results := [.lit (.bool true)], args := [d1, d2] }
  | _ => none }
def fnExactAreLampsRow : OpenClaim := { program := "ytdlcjmdkafebpaa", sum := "e60610aadb8bb241b08b96b0554ecf821666d906241c8cf03d3f4ed8775b1577", func := "loop.example/g03006/laws.FnExactAreLamps", spec := "fnExactAreLamps", unfollowed := true, recurses := true, plainKeys := false, apart := false }
def FnExactAreLampsSaid : Prop := fnExactAreLampsRow.holds Try.pinned (OpenSpec.ofChange fnExactAreLampsSpec)

/-- ITS FALSE NEIGHBOUR: 'it returns false'. Refute it at one input. -/
def fnExactAreLampsWrong : ChangeSpec := { name := "fnExactAreLamps", fn := fun _ => fun
  | [d1, d2] => { results := [.lit (.bool false)], args := [d1, d2] }
  | _ => none }
def FnExactAreLampsWrongFalsely : Prop := fnExactAreLampsRow.holds Try.pinned (OpenSpec.ofChange fnExactAreLampsWrong)

/-- 'laws.FnExactModeFor': WHATEVER THE INPUT: true; the input reads as it did. -/
def fnExactModeForSpec : ChangeSpec := { name := "fnExactModeFor", fn := fun _ => fun
  | [d1, d2, d3] => { results := [.lit (.bool true)], args := [d1, d2, d3] }
  | _ => none }
def fnExactModeForRow : OpenClaim := { program := "ytdlcjmdkafebpaa", sum := "e60610aadb8bb241b08b96b0554ecf821666d906241c8cf03d3f4ed8775b1577", func := "loop.example/g03006/laws.FnExactModeFor", spec := "fnExactModeFor", unfollowed := true, recurses := true, plainKeys := false, apart := false }
def FnExactModeForSaid : Prop := fnExactModeForRow.holds Try.pinned (OpenSpec.ofChange fnExactModeForSpec)

/-- ITS FALSE NEIGHBOUR: 'it returns false'. Refute it at one input. -/
def fnExactModeForWrong : ChangeSpec := { name := "fnExactModeFor", fn := fun _ => fun
  | [d1, d2, d3] => { results := [.lit (.bool false)], args := [d1, d2, d3] }
  | _ => none }
def FnExactModeForWrongFalsely : Prop := fnExactModeForRow.holds Try.pinned (OpenSpec.ofChange fnExactModeForWrong)

/-- 'laws.FnExactVisible': WHATEVER THE INPUT: true; the input reads as it did. -/
def fnExactVisibleSpec : ChangeSpec := { name := "fnExactVisible", fn := fun _ => fun
  | [d1, d2, d3] => { results := [.lit (.bool true)], args := [d1, d2, d3] }
  | _ => none }
def fnExactVisibleRow : OpenClaim := { program := "ytdlcjmdkafebpaa", sum := "e60610aadb8bb241b08b96b0554ecf821666d906241c8cf03d3f4ed8775b1577", func := "loop.example/g03006/laws.FnExactVisible", spec := "fnExactVisible", unfollowed := true, recurses := true, plainKeys := false, apart := false }
def FnExactVisibleSaid : Prop := fnExactVisibleRow.holds Try.pinned (OpenSpec.ofChange fnExactVisibleSpec)

/-- ITS FALSE NEIGHBOUR: 'it returns false'. Refute it at one input. -/
def fnExactVisibleWrong : ChangeSpec := { name := "fnExactVisible", fn := fun _ => fun
  | [d1, d2, d3] => { results := [.lit (.bool false)], args := [d1, d2, d3] }
  | _ => none }
def FnExactVisibleWrongFalsely : Prop := fnExactVisibleRow.holds Try.pinned (OpenSpec.ofChange fnExactVisibleWrong)

/-- 'laws.FnExactMendLamp': WHATEVER THE INPUT: true; the input reads as it did. -/
def fnExactMendLampSpec : ChangeSpec := { name := "fnExactMendLamp", fn := fun _ => fun
  | [d1, d2, d3] => { results := [.lit (.bool true)], args := [d1, d2, d3] }
  | _ => none }
def fnExactMendLampRow : OpenClaim := { program := "ytdlcjmdkafebpaa", sum := "e60610aadb8bb241b08b96b0554ecf821666d906241c8cf03d3f4ed8775b1577", func := "loop.example/g03006/laws.FnExactMendLamp", spec := "fnExactMendLamp", plainKeys := false, apart := false }
def FnExactMendLampSaid : Prop := fnExactMendLampRow.holds Try.pinned (OpenSpec.ofChange fnExactMendLampSpec)

/-- ITS FALSE NEIGHBOUR: 'it returns false'. Refute it at one input. -/
def fnExactMendLampWrong : ChangeSpec := { name := "fnExactMendLamp", fn := fun _ => fun
  | [d1, d2, d3] => { results := [.lit (.bool false)], args := [d1, d2, d3] }
  | _ => none }
def FnExactMendLampWrongFalsely : Prop := fnExactMendLampRow.holds Try.pinned (OpenSpec.ofChange fnExactMendLampWrong)

/-- 'laws.FnExactAreStreams': WHATEVER THE INPUT: true; the input reads as it did. -/
def fnExactAreStreamsSpec : ChangeSpec := { name := "fnExactAreStreams", fn := fun _ => fun
  | [d1, d2] => { results := [.lit (.bool true)], args := [d1, d2] }
  | _ => none }
def fnExactAreStreamsRow : OpenClaim := { program := "ytdlcjmdkafebpaa", sum := "e60610aadb8bb241b08b96b0554ecf821666d906241c8cf03d3f4ed8775b1577", func := "loop.example/g03006/laws.FnExactAreStreams", spec := "fnExactAreStreams", unfollowed := true, recurses := true, plainKeys := false, apart := false }
def FnExactAreStreamsSaid : Prop := fnExactAreStreamsRow.holds Try.pinned (OpenSpec.ofChange fnExactAreStreamsSpec)

/-- ITS FALSE NEIGHBOUR: 'it returns false'. Refute it at one input. -/
def fnExactAreStreamsWrong : ChangeSpec := { name := "fnExactAreStreams", fn := fun _ => fun
  | [d1, d2] => { results := [.lit (.bool false)], args := [d1, d2] }
  | _ => none }
def FnExactAreStreamsWrongFalsely : Prop := fnExactAreStreamsRow.holds Try.pinned (OpenSpec.ofChange fnExactAreStreamsWrong)

/-- 'laws.FnExactSameUntil': WHATEVER THE INPUT: true; the input reads as it did. -/
def fnExactSameUntilSpec : ChangeSpec := { name := "fnExactSameUntil", fn := fun _ => fun
  | [d1, d2] => { results := [.lit (.bool true)], args := [d1, d2] }
  | _ => none }
def fnExactSameUntilRow : OpenClaim := { program := "ytdlcjmdkafebpaa", sum := "e60610aadb8bb241b08b96b0554ecf821666d906241c8cf03d3f4ed8775b1577", func := "loop.example/g03006/laws.FnExactSameUntil", spec := "fnExactSameUntil", plainKeys := false, apart := false }
def FnExactSameUntilSaid : Prop := fnExactSameUntilRow.holds Try.pinned (OpenSpec.ofChange fnExactSameUntilSpec)

/-- ITS FALSE NEIGHBOUR: 'it returns false'. Refute it at one input. -/
def fnExactSameUntilWrong : ChangeSpec := { name := "fnExactSameUntil", fn := fun _ => fun
  | [d1, d2] => { results := [.lit (.bool false)], args := [d1, d2] }
  | _ => none }
def FnExactSameUntilWrongFalsely : Prop := fnExactSameUntilRow.holds Try.pinned (OpenSpec.ofChange fnExactSameUntilWrong)

/-- 'laws.FnLinks': WHATEVER THE INPUT: true; the input reads as it did. -/
def fnLinksSpec : ChangeSpec := { name := "fnLinks", fn := fun _ => fun
  | [d] => { results := [.lit (.bool true)], args := [d] }
  | _ => none }
def fnLinksRow : OpenClaim := { program := "ytdlcjmdkafebpaa", sum := "e60610aadb8bb241b08b96b0554ecf821666d906241c8cf03d3f4ed8775b1577", func := "loop.example/g03006/laws.FnLinks", spec := "fnLinks", unfollowed := true, recurses := true, plainKeys := false, apart := false }
def FnLinksSaid : Prop := fnLinksRow.holds Try.pinned (OpenSpec.ofChange fnLinksSpec)

/-- ITS FALSE NEIGHBOUR: 'it returns false'. Refute it at one input. -/
def fnLinksWrong : ChangeSpec := { name := "fnLinks", fn := fun _ => fun
  | [d] => { results := [.lit (.bool false)], args := [d] }
  | _ => none }
def FnLinksWrongFalsely : Prop := fnLinksRow.holds Try.pinned (OpenSpec.ofChange fnLinksWrong)

/-- 'laws.FnTallies': WHATEVER THE INPUT: true; the input reads as it did. -/
def fnTalliesSpec : ChangeSpec := { name := "fnTallies", fn := fun _ => fun
  | [d] => { results := [.lit (.bool true)], args := [d] }
  | _ => none }
def fnTalliesRow : OpenClaim := { program := "ytdlcjmdkafebpaa", sum := "e60610aadb8bb241b08b96b0554ecf821666d906241c8cf03d3f4ed8775b1577", func := "loop.example/g03006/laws.FnTallies", spec := "fnTallies", plainKeys := false, apart := false }
def FnTalliesSaid : Prop := fnTalliesRow.holds Try.pinned (OpenSpec.ofChange fnTalliesSpec)

/-- ITS FALSE NEIGHBOUR: 'it returns false'. Refute it at one input. -/
def fnTalliesWrong : ChangeSpec := { name := "fnTallies", fn := fun _ => fun
  | [d] => { results := [.lit (.bool false)], args := [d] }
  | _ => none }
def FnTalliesWrongFalsely : Prop := fnTalliesRow.holds Try.pinned (OpenSpec.ofChange fnTalliesWrong)

/-- 'laws.FnExactFormatLights': WHATEVER THE INPUT: true; the input reads as it did. -/
def fnExactFormatLightsSpec : ChangeSpec := { name := "fnExactFormatLights", fn := fun _ => fun
  | [d] => { results := [.lit (.bool true)], args := [d] }
  | _ => none }
def fnExactFormatLightsRow : OpenClaim := { program := "ytdlcjmdkafebpaa", sum := "e60610aadb8bb241b08b96b0554ecf821666d906241c8cf03d3f4ed8775b1577", func := "loop.example/g03006/laws.FnExactFormatLights", spec := "fnExactFormatLights", unfollowed := true, recurses := true, plainKeys := false, apart := false }
def FnExactFormatLightsSaid : Prop := fnExactFormatLightsRow.holds Try.pinned (OpenSpec.ofChange fnExactFormatLightsSpec)

/-- ITS FALSE NEIGHBOUR: 'it returns false'. Refute it at one input. -/
def fnExactFormatLightsWrong : ChangeSpec := { name := "fnExactFormatLights", fn := fun _ => fun
  | [d] => { results := [.lit (.bool false)], args := [d] }
  | _ => none }
def FnExactFormatLightsWrongFalsely : Prop := fnExactFormatLightsRow.holds Try.pinned (OpenSpec.ofChange fnExactFormatLightsWrong)

/- THE SECOND FORM. 'bulk': how many values and letters a reading holds, each counted each time it is reached (what is shared counts as often as it is met; a slice's spare places count too). A statement '..UptoSaid' is the law's where the arguments, and the package variables that the reading takes, are together of bulk at most 1048576: NARROWER than '..Said'. Prove '..Said' where nothing that the law and all that it calls make is longer than what came in: it says more and counts as full. Else prove '..UptoSaid'. A law counts once. -/
mutual
def uptoBulk {H : Type} : DataW H → Nat
  | .lit (.string bytes) => bytes.length + 1
  | .lit _ => 1
  | .nil => 1
  | .ptr d => uptoBulk d + 1
  | .slice elems spare => uptoBulkAll elems + uptoBulkAll spare + 1
  | .agg parts => uptoBulkAll parts + 1
  | .iface _ d => uptoBulk d + 1
  | .map entries => uptoBulkEntries entries + 1
  | .held _ => 1
def uptoBulkAll {H : Type} : List (DataW H) → Nat
  | [] => 0
  | d :: r => uptoBulk d + uptoBulkAll r
def uptoBulkEntries {H : Type} : List (Lit × DataW H) → Nat
  | [] => 0
  | x :: r => uptoBulkEntry x + uptoBulkEntries r
def uptoBulkEntry {H : Type} : Lit × DataW H → Nat
  | (.string bytes, d) => bytes.length + uptoBulk d + 1
  | (_, d) => uptoBulk d + 1
 end
def uptoSmall : (H : Type) → List (DataW H) → Bool := fun _ ds => decide (uptoBulkAll ds ≤ 1048576)
def OpenSpec.upto (s : _root_.Go.ChangeSpec) : _root_.Go.OpenSpec := { _root_.Go.OpenSpec.ofChange s with cond := some uptoSmall }

/-- 'laws.FnExactIsAgreed', WHERE WHAT IT READS IS OF BULK AT MOST 1048576: true; the input reads as it did. -/
def fnExactIsAgreedUptoRow : OpenClaim := { program := "ytdlcjmdkafebpaa", sum := "e60610aadb8bb241b08b96b0554ecf821666d906241c8cf03d3f4ed8775b1577", func := "loop.example/g03006/laws.FnExactIsAgreed", spec := "fnExactIsAgreed", plainKeys := false, apart := false, narrowed := true }
def FnExactIsAgreedUptoSaid : Prop := fnExactIsAgreedUptoRow.holds Try.pinned (OpenSpec.upto fnExactIsAgreedSpec)

/-- 'laws.FnExactPlanAfter', WHERE WHAT IT READS IS OF BULK AT MOST 1048576: true; the input reads as it did. -/
def fnExactPlanAfterUptoRow : OpenClaim := { program := "ytdlcjmdkafebpaa", sum := "e60610aadb8bb241b08b96b0554ecf821666d906241c8cf03d3f4ed8775b1577", func := "loop.example/g03006/laws.FnExactPlanAfter", spec := "fnExactPlanAfter", plainKeys := false, apart := false, narrowed := true }
def FnExactPlanAfterUptoSaid : Prop := fnExactPlanAfterUptoRow.holds Try.pinned (OpenSpec.upto fnExactPlanAfterSpec)

/-- 'laws.FnExactIsBroken', WHERE WHAT IT READS IS OF BULK AT MOST 1048576: true; the input reads as it did. -/
def fnExactIsBrokenUptoRow : OpenClaim := { program := "ytdlcjmdkafebpaa", sum := "e60610aadb8bb241b08b96b0554ecf821666d906241c8cf03d3f4ed8775b1577", func := "loop.example/g03006/laws.FnExactIsBroken", spec := "fnExactIsBroken", plainKeys := false, apart := false, narrowed := true }
def FnExactIsBrokenUptoSaid : Prop := fnExactIsBrokenUptoRow.holds Try.pinned (OpenSpec.upto fnExactIsBrokenSpec)

/-- 'laws.FnExactAreLamps', WHERE WHAT IT READS IS OF BULK AT MOST 1048576: true; the input reads as it did. -/
def fnExactAreLampsUptoRow : OpenClaim := { program := "ytdlcjmdkafebpaa", sum := "e60610aadb8bb241b08b96b0554ecf821666d906241c8cf03d3f4ed8775b1577", func := "loop.example/g03006/laws.FnExactAreLamps", spec := "fnExactAreLamps", unfollowed := true, recurses := true, plainKeys := false, apart := false, narrowed := true }
def FnExactAreLampsUptoSaid : Prop := fnExactAreLampsUptoRow.holds Try.pinned (OpenSpec.upto fnExactAreLampsSpec)

/-- 'laws.FnExactModeFor', WHERE WHAT IT READS IS OF BULK AT MOST 1048576: true; the input reads as it did. -/
def fnExactModeForUptoRow : OpenClaim := { program := "ytdlcjmdkafebpaa", sum := "e60610aadb8bb241b08b96b0554ecf821666d906241c8cf03d3f4ed8775b1577", func := "loop.example/g03006/laws.FnExactModeFor", spec := "fnExactModeFor", unfollowed := true, recurses := true, plainKeys := false, apart := false, narrowed := true }
def FnExactModeForUptoSaid : Prop := fnExactModeForUptoRow.holds Try.pinned (OpenSpec.upto fnExactModeForSpec)

/-- 'laws.FnExactVisible', WHERE WHAT IT READS IS OF BULK AT MOST 1048576: true; the input reads as it did. -/
def fnExactVisibleUptoRow : OpenClaim := { program := "ytdlcjmdkafebpaa", sum := "e60610aadb8bb241b08b96b0554ecf821666d906241c8cf03d3f4ed8775b1577", func := "loop.example/g03006/laws.FnExactVisible", spec := "fnExactVisible", unfollowed := true, recurses := true, plainKeys := false, apart := false, narrowed := true }
def FnExactVisibleUptoSaid : Prop := fnExactVisibleUptoRow.holds Try.pinned (OpenSpec.upto fnExactVisibleSpec)

/-- 'laws.FnExactMendLamp', WHERE WHAT IT READS IS OF BULK AT MOST 1048576: true; the input reads as it did. -/
def fnExactMendLampUptoRow : OpenClaim := { program := "ytdlcjmdkafebpaa", sum := "e60610aadb8bb241b08b96b0554ecf821666d906241c8cf03d3f4ed8775b1577", func := "loop.example/g03006/laws.FnExactMendLamp", spec := "fnExactMendLamp", plainKeys := false, apart := false, narrowed := true }
def FnExactMendLampUptoSaid : Prop := fnExactMendLampUptoRow.holds Try.pinned (OpenSpec.upto fnExactMendLampSpec)

/-- 'laws.FnExactAreStreams', WHERE WHAT IT READS IS OF BULK AT MOST 1048576: true; the input reads as it did. -/
def fnExactAreStreamsUptoRow : OpenClaim := { program := "ytdlcjmdkafebpaa", sum := "e60610aadb8bb241b08b96b0554ecf821666d906241c8cf03d3f4ed8775b1577", func := "loop.example/g03006/laws.FnExactAreStreams", spec := "fnExactAreStreams", unfollowed := true, recurses := true, plainKeys := false, apart := false, narrowed := true }
def FnExactAreStreamsUptoSaid : Prop := fnExactAreStreamsUptoRow.holds Try.pinned (OpenSpec.upto fnExactAreStreamsSpec)

/-- 'laws.FnExactSameUntil', WHERE WHAT IT READS IS OF BULK AT MOST 1048576: true; the input reads as it did. -/
def fnExactSameUntilUptoRow : OpenClaim := { program := "ytdlcjmdkafebpaa", sum := "e60610aadb8bb241b08b96b0554ecf821666d906241c8cf03d3f4ed8775b1577", func := "loop.example/g03006/laws.FnExactSameUntil", spec := "fnExactSameUntil", plainKeys := false, apart := false, narrowed := true }
def FnExactSameUntilUptoSaid : Prop := fnExactSameUntilUptoRow.holds Try.pinned (OpenSpec.upto fnExactSameUntilSpec)

/-- 'laws.FnLinks', WHERE WHAT IT READS IS OF BULK AT MOST 1048576: true; the input reads as it did. -/
def fnLinksUptoRow : OpenClaim := { program := "ytdlcjmdkafebpaa", sum := "e60610aadb8bb241b08b96b0554ecf821666d906241c8cf03d3f4ed8775b1577", func := "loop.example/g03006/laws.FnLinks", spec := "fnLinks", unfollowed := true, recurses := true, plainKeys := false, apart := false, narrowed := true }
def FnLinksUptoSaid : Prop := fnLinksUptoRow.holds Try.pinned (OpenSpec.upto fnLinksSpec)

/-- 'laws.FnTallies', WHERE WHAT IT READS IS OF BULK AT MOST 1048576: true; the input reads as it did. -/
def fnTalliesUptoRow : OpenClaim := { program := "ytdlcjmdkafebpaa", sum := "e60610aadb8bb241b08b96b0554ecf821666d906241c8cf03d3f4ed8775b1577", func := "loop.example/g03006/laws.FnTallies", spec := "fnTallies", plainKeys := false, apart := false, narrowed := true }
def FnTalliesUptoSaid : Prop := fnTalliesUptoRow.holds Try.pinned (OpenSpec.upto fnTalliesSpec)

/-- 'laws.FnExactFormatLights', WHERE WHAT IT READS IS OF BULK AT MOST 1048576: true; the input reads as it did. -/
def fnExactFormatLightsUptoRow : OpenClaim := { program := "ytdlcjmdkafebpaa", sum := "e60610aadb8bb241b08b96b0554ecf821666d906241c8cf03d3f4ed8775b1577", func := "loop.example/g03006/laws.FnExactFormatLights", spec := "fnExactFormatLights", unfollowed := true, recurses := true, plainKeys := false, apart := false, narrowed := true }
def FnExactFormatLightsUptoSaid : Prop := fnExactFormatLightsUptoRow.holds Try.pinned (OpenSpec.upto fnExactFormatLightsSpec)

end Rows
end Go.Proofs.Ytdlcjmdkafebpaa
