/-
  No cell of these rows narrows 'for every input' (looked for: loops, veiled, ifaces, maps, wideKeys, modest, calm, conditions, laid).
  DERIVED. THE GIVEN ROWS OF THIS SEAT. 12 by the template 'for every input the law returns true; each argument reads behind the call as it read before'; 0 by the template 'total and deterministic' (their statements: YtdgpodopkfnpeaaTotals.lean).
  GIVEN WITH THE SEED: the statements are not yours to turn. If you find one false, say at which input.
  Laid BY PROGRAM, IN A SANDBOX (cutbox-rows.mjs): the forced cells as the released guide's own fill.sh prints them over the translation 1b72429bd8496ac1… (all of the seat's roots in one cut). By AI agents, Wed Nov 11 2026. No macro, syntax, notation, axiom, sorry.
-/
import Derived.Test.YtdgpodopkfnpeaaChecked
import GoSem.Claim
import GoSem.ClaimJoined
import GoSem.ClaimMapViews
import Derived.JoinedTies
import Derived.KernelRfl
namespace Go.Proofs.Ytdgpodopkfnpeaa
/- THE CELL 'sum', in the pinned program and in every row, IS THE sha256 OF THE DUMP (.gsa) THAT YtdgpodopkfnpeaaProg.lean LOADS. Nothing in Lean hashes anything: it is a label: what it is worth is what the hold of that sum in a sandbox is worth. -/
noncomputable def Try.pinned : Pinned := { name := "ytdgpodopkfnpeaa", sum := "1b72429bd8496ac13cf060552a23cbe074e7a6260b1d9d3e90cbd973664b8b1b", checked := Try.checked }
namespace Rows
def none {H : Type} : Left H := { results := [], args := [] }

/-- 'laws.FnExactEventName': WHATEVER THE INPUT: true; the input reads as it did. -/
def fnExactEventNameSpec : ChangeSpec := { name := "fnExactEventName", fn := fun _ => fun
  | [d] => { results := [.lit (.bool true)], args := [d] }
  | _ => none }
def fnExactEventNameRow : OpenClaim := { program := "ytdgpodopkfnpeaa", sum := "1b72429bd8496ac13cf060552a23cbe074e7a6260b1d9d3e90cbd973664b8b1b", func := "loop.example/g03006/laws.FnExactEventName", spec := "fnExactEventName", apart := false }
def FnExactEventNameSaid : Prop := fnExactEventNameRow.holds Try.pinned (OpenSpec.ofChange fnExactEventNameSpec)

/-- ITS FALSE NEIGHBOUR: 'it returns false'. Refute it at one input. -/
def fnExactEventNameWrong : ChangeSpec := { name := "fnExactEventName", fn := fun _ => fun
  | [d] => { results := [.lit (.bool false)], args := [d] }
  | _ => none }
def FnExactEventNameWrongFalsely : Prop := fnExactEventNameRow.holds Try.pinned (OpenSpec.ofChange fnExactEventNameWrong)

/-- 'laws.FnExactCountKind': WHATEVER THE INPUT: true; the input reads as it did. -/
def fnExactCountKindSpec : ChangeSpec := { name := "fnExactCountKind", fn := fun _ => fun
  | [d1, d2] => { results := [.lit (.bool true)], args := [d1, d2] }
  | _ => none }
def fnExactCountKindRow : OpenClaim := { program := "ytdgpodopkfnpeaa", sum := "1b72429bd8496ac13cf060552a23cbe074e7a6260b1d9d3e90cbd973664b8b1b", func := "loop.example/g03006/laws.FnExactCountKind", spec := "fnExactCountKind", unfollowed := true, recurses := true, apart := false }
def FnExactCountKindSaid : Prop := fnExactCountKindRow.holds Try.pinned (OpenSpec.ofChange fnExactCountKindSpec)

/-- ITS FALSE NEIGHBOUR: 'it returns false'. Refute it at one input. -/
def fnExactCountKindWrong : ChangeSpec := { name := "fnExactCountKind", fn := fun _ => fun
  | [d1, d2] => { results := [.lit (.bool false)], args := [d1, d2] }
  | _ => none }
def FnExactCountKindWrongFalsely : Prop := fnExactCountKindRow.holds Try.pinned (OpenSpec.ofChange fnExactCountKindWrong)

/-- 'laws.FnExactCountBroken': WHATEVER THE INPUT: true; the input reads as it did. -/
def fnExactCountBrokenSpec : ChangeSpec := { name := "fnExactCountBroken", fn := fun _ => fun
  | [d] => { results := [.lit (.bool true)], args := [d] }
  | _ => none }
def fnExactCountBrokenRow : OpenClaim := { program := "ytdgpodopkfnpeaa", sum := "1b72429bd8496ac13cf060552a23cbe074e7a6260b1d9d3e90cbd973664b8b1b", func := "loop.example/g03006/laws.FnExactCountBroken", spec := "fnExactCountBroken", unfollowed := true, recurses := true, apart := false }
def FnExactCountBrokenSaid : Prop := fnExactCountBrokenRow.holds Try.pinned (OpenSpec.ofChange fnExactCountBrokenSpec)

/-- ITS FALSE NEIGHBOUR: 'it returns false'. Refute it at one input. -/
def fnExactCountBrokenWrong : ChangeSpec := { name := "fnExactCountBroken", fn := fun _ => fun
  | [d] => { results := [.lit (.bool false)], args := [d] }
  | _ => none }
def FnExactCountBrokenWrongFalsely : Prop := fnExactCountBrokenRow.holds Try.pinned (OpenSpec.ofChange fnExactCountBrokenWrong)

/-- 'laws.FnExactCountEvents': WHATEVER THE INPUT: true; the input reads as it did. -/
def fnExactCountEventsSpec : ChangeSpec := { name := "fnExactCountEvents", fn := fun _ => fun
  | [d1, d2] => { results := [.lit (.bool true)], args := [d1, d2] }
  | _ => none }
def fnExactCountEventsRow : OpenClaim := { program := "ytdgpodopkfnpeaa", sum := "1b72429bd8496ac13cf060552a23cbe074e7a6260b1d9d3e90cbd973664b8b1b", func := "loop.example/g03006/laws.FnExactCountEvents", spec := "fnExactCountEvents", unfollowed := true, recurses := true, apart := false }
def FnExactCountEventsSaid : Prop := fnExactCountEventsRow.holds Try.pinned (OpenSpec.ofChange fnExactCountEventsSpec)

/-- ITS FALSE NEIGHBOUR: 'it returns false'. Refute it at one input. -/
def fnExactCountEventsWrong : ChangeSpec := { name := "fnExactCountEvents", fn := fun _ => fun
  | [d1, d2] => { results := [.lit (.bool false)], args := [d1, d2] }
  | _ => none }
def FnExactCountEventsWrongFalsely : Prop := fnExactCountEventsRow.holds Try.pinned (OpenSpec.ofChange fnExactCountEventsWrong)

/-- 'laws.FnExactCountLights': WHATEVER THE INPUT: true; the input reads as it did. -/
def fnExactCountLightsSpec : ChangeSpec := { name := "fnExactCountLights", fn := fun _ => fun
  | [d1, d2] => { results := [.lit (.bool true)], args := [d1, d2] }
  | _ => none }
def fnExactCountLightsRow : OpenClaim := { program := "ytdgpodopkfnpeaa", sum := "1b72429bd8496ac13cf060552a23cbe074e7a6260b1d9d3e90cbd973664b8b1b", func := "loop.example/g03006/laws.FnExactCountLights", spec := "fnExactCountLights", unfollowed := true, recurses := true, apart := false }
def FnExactCountLightsSaid : Prop := fnExactCountLightsRow.holds Try.pinned (OpenSpec.ofChange fnExactCountLightsSpec)

/-- ITS FALSE NEIGHBOUR: 'it returns false'. Refute it at one input. -/
def fnExactCountLightsWrong : ChangeSpec := { name := "fnExactCountLights", fn := fun _ => fun
  | [d1, d2] => { results := [.lit (.bool false)], args := [d1, d2] }
  | _ => none }
def FnExactCountLightsWrongFalsely : Prop := fnExactCountLightsRow.holds Try.pinned (OpenSpec.ofChange fnExactCountLightsWrong)

/-- 'laws.FnExactPromises': WHATEVER THE INPUT: true; the input reads as it did. -/
def fnExactPromisesSpec : ChangeSpec := { name := "fnExactPromises", fn := fun _ => fun
  | [d1, d2] => { results := [.lit (.bool true)], args := [d1, d2] }
  | _ => none }
def fnExactPromisesRow : OpenClaim := { program := "ytdgpodopkfnpeaa", sum := "1b72429bd8496ac13cf060552a23cbe074e7a6260b1d9d3e90cbd973664b8b1b", func := "loop.example/g03006/laws.FnExactPromises", spec := "fnExactPromises", unfollowed := true, recurses := true, apart := false }
def FnExactPromisesSaid : Prop := fnExactPromisesRow.holds Try.pinned (OpenSpec.ofChange fnExactPromisesSpec)

/-- ITS FALSE NEIGHBOUR: 'it returns false'. Refute it at one input. -/
def fnExactPromisesWrong : ChangeSpec := { name := "fnExactPromises", fn := fun _ => fun
  | [d1, d2] => { results := [.lit (.bool false)], args := [d1, d2] }
  | _ => none }
def FnExactPromisesWrongFalsely : Prop := fnExactPromisesRow.holds Try.pinned (OpenSpec.ofChange fnExactPromisesWrong)

/-- 'laws.FnExactWorstService': WHATEVER THE INPUT: true; the input reads as it did. -/
def fnExactWorstServiceSpec : ChangeSpec := { name := "fnExactWorstService", fn := fun _ => fun
  | [d] => { results := [.lit (.bool true)], args := [d] }
  | _ => none }
def fnExactWorstServiceRow : OpenClaim := { program := "ytdgpodopkfnpeaa", sum := "1b72429bd8496ac13cf060552a23cbe074e7a6260b1d9d3e90cbd973664b8b1b", func := "loop.example/g03006/laws.FnExactWorstService", spec := "fnExactWorstService", unfollowed := true, recurses := true, apart := false }
def FnExactWorstServiceSaid : Prop := fnExactWorstServiceRow.holds Try.pinned (OpenSpec.ofChange fnExactWorstServiceSpec)

/-- ITS FALSE NEIGHBOUR: 'it returns false'. Refute it at one input. -/
def fnExactWorstServiceWrong : ChangeSpec := { name := "fnExactWorstService", fn := fun _ => fun
  | [d] => { results := [.lit (.bool false)], args := [d] }
  | _ => none }
def FnExactWorstServiceWrongFalsely : Prop := fnExactWorstServiceRow.holds Try.pinned (OpenSpec.ofChange fnExactWorstServiceWrong)

/-- 'laws.FnExactLongestWait': WHATEVER THE INPUT: true; the input reads as it did. -/
def fnExactLongestWaitSpec : ChangeSpec := { name := "fnExactLongestWait", fn := fun _ => fun
  | [d] => { results := [.lit (.bool true)], args := [d] }
  | _ => none }
def fnExactLongestWaitRow : OpenClaim := { program := "ytdgpodopkfnpeaa", sum := "1b72429bd8496ac13cf060552a23cbe074e7a6260b1d9d3e90cbd973664b8b1b", func := "loop.example/g03006/laws.FnExactLongestWait", spec := "fnExactLongestWait", unfollowed := true, recurses := true, apart := false }
def FnExactLongestWaitSaid : Prop := fnExactLongestWaitRow.holds Try.pinned (OpenSpec.ofChange fnExactLongestWaitSpec)

/-- ITS FALSE NEIGHBOUR: 'it returns false'. Refute it at one input. -/
def fnExactLongestWaitWrong : ChangeSpec := { name := "fnExactLongestWait", fn := fun _ => fun
  | [d] => { results := [.lit (.bool false)], args := [d] }
  | _ => none }
def FnExactLongestWaitWrongFalsely : Prop := fnExactLongestWaitRow.holds Try.pinned (OpenSpec.ofChange fnExactLongestWaitWrong)

/-- 'laws.FnExactLastGreen': WHATEVER THE INPUT: true; the input reads as it did. -/
def fnExactLastGreenSpec : ChangeSpec := { name := "fnExactLastGreen", fn := fun _ => fun
  | [d1, d2] => { results := [.lit (.bool true)], args := [d1, d2] }
  | _ => none }
def fnExactLastGreenRow : OpenClaim := { program := "ytdgpodopkfnpeaa", sum := "1b72429bd8496ac13cf060552a23cbe074e7a6260b1d9d3e90cbd973664b8b1b", func := "loop.example/g03006/laws.FnExactLastGreen", spec := "fnExactLastGreen", apart := false }
def FnExactLastGreenSaid : Prop := fnExactLastGreenRow.holds Try.pinned (OpenSpec.ofChange fnExactLastGreenSpec)

/-- ITS FALSE NEIGHBOUR: 'it returns false'. Refute it at one input. -/
def fnExactLastGreenWrong : ChangeSpec := { name := "fnExactLastGreen", fn := fun _ => fun
  | [d1, d2] => { results := [.lit (.bool false)], args := [d1, d2] }
  | _ => none }
def FnExactLastGreenWrongFalsely : Prop := fnExactLastGreenRow.holds Try.pinned (OpenSpec.ofChange fnExactLastGreenWrong)

/-- 'laws.FnExactWaitedFor': WHATEVER THE INPUT: true; the input reads as it did. -/
def fnExactWaitedForSpec : ChangeSpec := { name := "fnExactWaitedFor", fn := fun _ => fun
  | [d1, d2] => { results := [.lit (.bool true)], args := [d1, d2] }
  | _ => none }
def fnExactWaitedForRow : OpenClaim := { program := "ytdgpodopkfnpeaa", sum := "1b72429bd8496ac13cf060552a23cbe074e7a6260b1d9d3e90cbd973664b8b1b", func := "loop.example/g03006/laws.FnExactWaitedFor", spec := "fnExactWaitedFor", unfollowed := true, recurses := true, apart := false }
def FnExactWaitedForSaid : Prop := fnExactWaitedForRow.holds Try.pinned (OpenSpec.ofChange fnExactWaitedForSpec)

/-- ITS FALSE NEIGHBOUR: 'it returns false'. Refute it at one input. -/
def fnExactWaitedForWrong : ChangeSpec := { name := "fnExactWaitedFor", fn := fun _ => fun
  | [d1, d2] => { results := [.lit (.bool false)], args := [d1, d2] }
  | _ => none }
def FnExactWaitedForWrongFalsely : Prop := fnExactWaitedForRow.holds Try.pinned (OpenSpec.ofChange fnExactWaitedForWrong)

/-- 'laws.FnExactCallAll': WHATEVER THE INPUT: true; the input reads as it did. -/
def fnExactCallAllSpec : ChangeSpec := { name := "fnExactCallAll", fn := fun _ => fun
  | [d] => { results := [.lit (.bool true)], args := [d] }
  | _ => none }
def fnExactCallAllRow : OpenClaim := { program := "ytdgpodopkfnpeaa", sum := "1b72429bd8496ac13cf060552a23cbe074e7a6260b1d9d3e90cbd973664b8b1b", func := "loop.example/g03006/laws.FnExactCallAll", spec := "fnExactCallAll", unfollowed := true, recurses := true, apart := false }
def FnExactCallAllSaid : Prop := fnExactCallAllRow.holds Try.pinned (OpenSpec.ofChange fnExactCallAllSpec)

/-- ITS FALSE NEIGHBOUR: 'it returns false'. Refute it at one input. -/
def fnExactCallAllWrong : ChangeSpec := { name := "fnExactCallAll", fn := fun _ => fun
  | [d] => { results := [.lit (.bool false)], args := [d] }
  | _ => none }
def FnExactCallAllWrongFalsely : Prop := fnExactCallAllRow.holds Try.pinned (OpenSpec.ofChange fnExactCallAllWrong)

/-- 'laws.FnExactTotalArrivals': WHATEVER THE INPUT: true; the input reads as it did. -/
def fnExactTotalArrivalsSpec : ChangeSpec := { name := "fnExactTotalArrivals", fn := fun _ => fun
  | [d] => { results := [.lit (.bool true)], args := [d] }
  | _ => none }
def fnExactTotalArrivalsRow : OpenClaim := { program := "ytdgpodopkfnpeaa", sum := "1b72429bd8496ac13cf060552a23cbe074e7a6260b1d9d3e90cbd973664b8b1b", func := "loop.example/g03006/laws.FnExactTotalArrivals", spec := "fnExactTotalArrivals", apart := false }
def FnExactTotalArrivalsSaid : Prop := fnExactTotalArrivalsRow.holds Try.pinned (OpenSpec.ofChange fnExactTotalArrivalsSpec)

/-- ITS FALSE NEIGHBOUR: 'it returns false'. Refute it at one input. -/
def fnExactTotalArrivalsWrong : ChangeSpec := { name := "fnExactTotalArrivals", fn := fun _ => fun
  | [d] => { results := [.lit (.bool false)], args := [d] }
  | _ => none }
def FnExactTotalArrivalsWrongFalsely : Prop := fnExactTotalArrivalsRow.holds Try.pinned (OpenSpec.ofChange fnExactTotalArrivalsWrong)

/- THE SECOND FORM. 'bulk': how many values and letters a reading holds, each counted each time it is reached (what is shared counts as often as it is met; a slice's spare places count too). A statement '..UptoSaid' is the law's where the arguments, and the package variables that the reading takes, are together of bulk at most 1048576: NARROWER than '..Said'. Prove '..Said' where nothing that the law and all that it calls make is longer than what came in: it says more and counts as full. Else prove '..UptoSaid'. A law counts once. -/
mutual
def uptoBulk {H : Type} : DataW H → Nat
  | .lit (.string bytes) => bytes.length + 1
  | .lit _ => 1
  | .nil => 1
  | .ptr d => uptoBulk d + 1
  | .slice elems spare => uptoBulkAll elems + uptoBulkAll spare + 1
  | .agg parts => uptoBulkAll parts + 1
  | .iface _ d => uptoBulk d + 1
  | .map entries => uptoBulkEntries entries + 1
  | .held _ => 1
def uptoBulkAll {H : Type} : List (DataW H) → Nat
  | [] => 0
  | d :: r => uptoBulk d + uptoBulkAll r
def uptoBulkEntries {H : Type} : List (Lit × DataW H) → Nat
  | [] => 0
  | x :: r => uptoBulkEntry x + uptoBulkEntries r
def uptoBulkEntry {H : Type} : Lit × DataW H → Nat
  | (.string bytes, d) => bytes.length + uptoBulk d + 1
  | (_, d) => uptoBulk d + 1
 end
def uptoSmall : (H : Type) → List (DataW H) → Bool := fun _ ds => decide (uptoBulkAll ds ≤ 1048576)
def OpenSpec.upto (s : _root_.Go.ChangeSpec) : _root_.Go.OpenSpec := { _root_.Go.OpenSpec.ofChange s with cond := some uptoSmall }

/-- 'laws.FnExactEventName', WHERE WHAT IT READS IS OF BULK AT MOST 1048576: true; the input reads as it did. -/
def fnExactEventNameUptoRow : OpenClaim := { program := "ytdgpodopkfnpeaa", sum := "1b72429bd8496ac13cf060552a23cbe074e7a6260b1d9d3e90cbd973664b8b1b", func := "loop.example/g03006/laws.FnExactEventName", spec := "fnExactEventName", apart := false, narrowed := true }
def FnExactEventNameUptoSaid : Prop := fnExactEventNameUptoRow.holds Try.pinned (OpenSpec.upto fnExactEventNameSpec)

/-- 'laws.FnExactCountKind', WHERE WHAT IT READS IS OF BULK AT MOST 1048576: true; the input reads as it did. -/
def fnExactCountKindUptoRow : OpenClaim := { program := "ytdgpodopkfnpeaa", sum := "1b72429bd8496ac13cf060552a23cbe074e7a6260b1d9d3e90cbd973664b8b1b", func := "loop.example/g03006/laws.FnExactCountKind", spec := "fnExactCountKind", unfollowed := true, recurses := true, apart := false, narrowed := true }
def FnExactCountKindUptoSaid : Prop := fnExactCountKindUptoRow.holds Try.pinned (OpenSpec.upto fnExactCountKindSpec)

/-- 'laws.FnExactCountBroken', WHERE WHAT IT READS IS OF BULK AT MOST 1048576: true; the input reads as it did. -/
def fnExactCountBrokenUptoRow : OpenClaim := { program := "ytdgpodopkfnpeaa", sum := "1b72429bd8496ac13cf060552a23cbe074e7a6260b1d9d3e90cbd973664b8b1b", func := "loop.example/g03006/laws.FnExactCountBroken", spec := "fnExactCountBroken", unfollowed := true, recurses := true, apart := false, narrowed := true }
def FnExactCountBrokenUptoSaid : Prop := fnExactCountBrokenUptoRow.holds Try.pinned (OpenSpec.upto fnExactCountBrokenSpec)

/-- 'laws.FnExactCountEvents', WHERE WHAT IT READS IS OF BULK AT MOST 1048576: true; the input reads as it did. -/
def fnExactCountEventsUptoRow : OpenClaim := { program := "ytdgpodopkfnpeaa", sum := "1b72429bd8496ac13cf060552a23cbe074e7a6260b1d9d3e90cbd973664b8b1b", func := "loop.example/g03006/laws.FnExactCountEvents", spec := "fnExactCountEvents", unfollowed := true, recurses := true, apart := false, narrowed := true }
def FnExactCountEventsUptoSaid : Prop := fnExactCountEventsUptoRow.holds Try.pinned (OpenSpec.upto fnExactCountEventsSpec)

/-- 'laws.FnExactCountLights', WHERE WHAT IT READS IS OF BULK AT MOST 1048576: true; the input reads as it did. -/
def fnExactCountLightsUptoRow : OpenClaim := { program := "ytdgpodopkfnpeaa", sum := "1b72429bd8496ac13cf060552a23cbe074e7a6260b1d9d3e90cbd973664b8b1b", func := "loop.example/g03006/laws.FnExactCountLights", spec := "fnExactCountLights", unfollowed := true, recurses := true, apart := false, narrowed := true }
def FnExactCountLightsUptoSaid : Prop := fnExactCountLightsUptoRow.holds Try.pinned (OpenSpec.upto fnExactCountLightsSpec)

/-- 'laws.FnExactPromises', WHERE WHAT IT READS IS OF BULK AT MOST 1048576: true; the input reads as it did. -/
def fnExactPromisesUptoRow : OpenClaim := { program := "ytdgpodopkfnpeaa", sum := "1b72429bd8496ac13cf060552a23cbe074e7a6260b1d9d3e90cbd973664b8b1b", func := "loop.example/g03006/laws.FnExactPromises", spec := "fnExactPromises", unfollowed := true, recurses := true, apart := false, narrowed := true }
def FnExactPromisesUptoSaid : Prop := fnExactPromisesUptoRow.holds Try.pinned (OpenSpec.upto fnExactPromisesSpec)

/-- 'laws.FnExactWorstService', WHERE WHAT IT READS IS OF BULK AT MOST 1048576: true; the input reads as it did. -/
def fnExactWorstServiceUptoRow : OpenClaim := { program := "ytdgpodopkfnpeaa", sum := "1b72429bd8496ac13cf060552a23cbe074e7a6260b1d9d3e90cbd973664b8b1b", func := "loop.example/g03006/laws.FnExactWorstService", spec := "fnExactWorstService", unfollowed := true, recurses := true, apart := false, narrowed := true }
def FnExactWorstServiceUptoSaid : Prop := fnExactWorstServiceUptoRow.holds Try.pinned (OpenSpec.upto fnExactWorstServiceSpec)

/-- 'laws.FnExactLongestWait', WHERE WHAT IT READS IS OF BULK AT MOST 1048576: true; the input reads as it did. -/
def fnExactLongestWaitUptoRow : OpenClaim := { program := "ytdgpodopkfnpeaa", sum := "1b72429bd8496ac13cf060552a23cbe074e7a6260b1d9d3e90cbd973664b8b1b", func := "loop.example/g03006/laws.FnExactLongestWait", spec := "fnExactLongestWait", unfollowed := true, recurses := true, apart := false, narrowed := true }
def FnExactLongestWaitUptoSaid : Prop := fnExactLongestWaitUptoRow.holds Try.pinned (OpenSpec.upto fnExactLongestWaitSpec)

/-- 'laws.FnExactLastGreen', WHERE WHAT IT READS IS OF BULK AT MOST 1048576: true; the input reads as it did. -/
def fnExactLastGreenUptoRow : OpenClaim := { program := "ytdgpodopkfnpeaa", sum := "1b72429bd8496ac13cf060552a23cbe074e7a6260b1d9d3e90cbd973664b8b1b", func := "loop.example/g03006/laws.FnExactLastGreen", spec := "fnExactLastGreen", apart := false, narrowed := true }
def FnExactLastGreenUptoSaid : Prop := fnExactLastGreenUptoRow.holds Try.pinned (OpenSpec.upto fnExactLastGreenSpec)

/-- 'laws.FnExactWaitedFor', WHERE WHAT IT READS IS OF BULK AT MOST 1048576: true; the input reads as it did. -/
def fnExactWaitedForUptoRow : OpenClaim := { program := "ytdgpodopkfnpeaa", sum := "1b72429bd8496ac13cf060552a23cbe074e7a6260b1d9d3e90cbd973664b8b1b", func := "loop.example/g03006/laws.FnExactWaitedFor", spec := "fnExactWaitedFor", unfollowed := true, recurses := true, apart := false, narrowed := true }
def FnExactWaitedForUptoSaid : Prop := fnExactWaitedForUptoRow.holds Try.pinned (OpenSpec.upto fnExactWaitedForSpec)

/-- 'laws.FnExactCallAll', WHERE WHAT IT READS IS OF BULK AT MOST 1048576: true; the input reads as it did. -/
def fnExactCallAllUptoRow : OpenClaim := { program := "ytdgpodopkfnpeaa", sum := "1b72429bd8496ac13cf060552a23cbe074e7a6260b1d9d3e90cbd973664b8b1b", func := "loop.example/g03006/laws.FnExactCallAll", spec := "fnExactCallAll", unfollowed := true, recurses := true, apart := false, narrowed := true }
def FnExactCallAllUptoSaid : Prop := fnExactCallAllUptoRow.holds Try.pinned (OpenSpec.upto fnExactCallAllSpec)

/-- 'laws.FnExactTotalArrivals', WHERE WHAT IT READS IS OF BULK AT MOST 1048576: true; the input reads as it did. -/
def fnExactTotalArrivalsUptoRow : OpenClaim := { program := "ytdgpodopkfnpeaa", sum := "1b72429bd8496ac13cf060552a23cbe074e7a6260b1d9d3e90cbd973664b8b1b", func := "loop.example/g03006/laws.FnExactTotalArrivals", spec := "fnExactTotalArrivals", apart := false, narrowed := true }
def FnExactTotalArrivalsUptoSaid : Prop := fnExactTotalArrivalsUptoRow.holds Try.pinned (OpenSpec.upto fnExactTotalArrivalsSpec)

end Rows
end Go.Proofs.Ytdgpodopkfnpeaa
