/-
  NARROWER THAN 'FOR EVERY INPUT', by the rows' own cells (each row's printed sentence says how): FnExactIsSafeLights: laid · FnExactWorstWait: laid · FnExactNextGreen: laid · FnExactSwitchSeconds: laid · FnExactSwitchAt: laid · FnExactLightAfter: laid · FnExactCanSwitch: laid · FnExactWindowOf: laid · FnExactIsControl: laid · FnExactCanEnd: laid · FnExactLightsOf: laid · FnExactTickControl: laid.
  DERIVED. THE GIVEN ROWS OF THIS SEAT. 12 by the template 'for every input the law returns true; each argument reads behind the call as it read before'; 0 by the template 'total and deterministic' (their statements: YtcbccbefkpklkaaDoorTotals.lean).
  GIVEN WITH THE SEED: the statements are not yours to turn. If you find one false, say at which input.
  Laid BY PROGRAM, IN A SANDBOX (cutbox-rows.mjs): the forced cells as the released guide's own fill.sh prints them over the translation fcca0187f8676c67… (all of the seat's roots in one cut). By AI agents, Wed Nov 11 2026. No macro, syntax, notation, axiom, sorry.
-/
import Derived.Test.YtcbccbefkpklkaaDoorChecked
import GoSem.Claim
import GoSem.ClaimJoined
import GoSem.ClaimMapViews
import Derived.JoinedTies
import Derived.KernelRfl
namespace Go.Proofs.YtcbccbefkpklkaaDoor
/- THE CELL 'sum', in the pinned program and in every row, IS THE sha256 OF THE DUMP (.gsa) THAT YtcbccbefkpklkaaDoorProg.lean LOADS. Nothing in Lean hashes anything: it is a label: what it is worth is what the hold of that sum in a sandbox is worth. -/
noncomputable def Tryd.pinned : Pinned := { name := "ytcbccbefkpklkaadoor", sum := "fcca0187f8676c676bbcf4869b84ca9f1766c5c508753df9b10411371a2502f9", checked := Tryd.checked }
namespace Rows
def none {H : Type} : Left H := { results := [], args := [] }

/- WHAT THE LISTED PACKAGE-LEVEL VARIABLES READ AS WHEN THE CALL BEGINS. Each datum BY PROGRAM (the guide's laid-datum.mjs) off the statement by which the dump's own 'gosem.cut.vars' lays the variable. In a bare row this is a premise. The card (YtcbccbefkpklkaaDoorCards.lean) ties it to the program's text. -/
def laid_math_bits_deBruijn32tab {H : Type} : DataW H := .agg [.lit (.int .u8 0), .lit (.int .u8 1), .lit (.int .u8 28), .lit (.int .u8 2), .lit (.int .u8 29), .lit (.int .u8 14), .lit (.int .u8 24), .lit (.int .u8 3), .lit (.int .u8 30), .lit (.int .u8 22), .lit (.int .u8 20), .lit (.int .u8 15), .lit (.int .u8 25), .lit (.int .u8 17), .lit (.int .u8 4), .lit (.int .u8 8), .lit (.int .u8 31), .lit (.int .u8 27), .lit (.int .u8 13), .lit (.int .u8 23), .lit (.int .u8 21), .lit (.int .u8 19), .lit (.int .u8 16), .lit (.int .u8 7), .lit (.int .u8 26), .lit (.int .u8 12), .lit (.int .u8 18), .lit (.int .u8 6), .lit (.int .u8 11), .lit (.int .u8 5), .lit (.int .u8 10), .lit (.int .u8 9)]
def laid_loop_example_g03006_impl_clearTimes {H : Type} : DataW H := .agg [.lit (.int .i64 0), .lit (.int .i64 2), .lit (.int .i64 5), .lit (.int .i64 3)]

/-- 'laws.FnExactIsSafeLights': WHATEVER THE INPUT: true; the input reads as it did. -/
def fnExactIsSafeLightsSpec : ChangeSpec := { name := "fnExactIsSafeLights", fn := fun _ => fun
  | [d1, d2] => { results := [.lit (.bool true)], args := [d1, d2] }
  | _ => none }
def fnExactIsSafeLightsRow : OpenClaim := { program := "ytcbccbefkpklkaadoor", sum := "fcca0187f8676c676bbcf4869b84ca9f1766c5c508753df9b10411371a2502f9", func := "loop.example/g03006/laws.FnExactIsSafeLights", spec := "fnExactIsSafeLights", unfollowed := true, recurses := true, named := ["math/bits.deBruijn32tab"], apart := false, laid := [("math/bits.deBruijn32tab", laid_math_bits_deBruijn32tab)] }
def FnExactIsSafeLightsSaid : Prop := fnExactIsSafeLightsRow.holds Tryd.pinned (OpenSpec.ofChange fnExactIsSafeLightsSpec)

/-- ITS FALSE NEIGHBOUR: 'it returns false'. Refute it at one input. -/
def fnExactIsSafeLightsWrong : ChangeSpec := { name := "fnExactIsSafeLights", fn := fun _ => fun
  | [d1, d2] => { results := [.lit (.bool false)], args := [d1, d2] }
  | _ => none }
def FnExactIsSafeLightsWrongFalsely : Prop := fnExactIsSafeLightsRow.holds Tryd.pinned (OpenSpec.ofChange fnExactIsSafeLightsWrong)

/-- 'laws.FnExactWorstWait': WHATEVER THE INPUT: true; the input reads as it did. -/
def fnExactWorstWaitSpec : ChangeSpec := { name := "fnExactWorstWait", vars := ["loop.example/g03006/impl.clearTimes"], fn := fun _ => fun
  | [d1, d2, g1] => { results := [.lit (.bool true)], args := [d1, d2], vars := [g1] }
  | _ => none }
def fnExactWorstWaitRow : OpenClaim := { program := "ytcbccbefkpklkaadoor", sum := "fcca0187f8676c676bbcf4869b84ca9f1766c5c508753df9b10411371a2502f9", func := "loop.example/g03006/laws.FnExactWorstWait", spec := "fnExactWorstWait", unfollowed := true, recurses := true, named := ["math/bits.deBruijn32tab", "loop.example/g03006/impl.clearTimes"], apart := false, laid := [("math/bits.deBruijn32tab", laid_math_bits_deBruijn32tab), ("loop.example/g03006/impl.clearTimes", laid_loop_example_g03006_impl_clearTimes)] }
def FnExactWorstWaitSaid : Prop := fnExactWorstWaitRow.holds Tryd.pinned (OpenSpec.ofChange fnExactWorstWaitSpec)

/-- ITS FALSE NEIGHBOUR: 'it returns false'. Refute it at one input. -/
def fnExactWorstWaitWrong : ChangeSpec := { name := "fnExactWorstWait", vars := ["loop.example/g03006/impl.clearTimes"], fn := fun _ => fun
  | [d1, d2, g1] => { results := [.lit (.bool false)], args := [d1, d2], vars := [g1] }
  | _ => none }
def FnExactWorstWaitWrongFalsely : Prop := fnExactWorstWaitRow.holds Tryd.pinned (OpenSpec.ofChange fnExactWorstWaitWrong)

/-- 'laws.FnExactNextGreen': WHATEVER THE INPUT: true; the input reads as it did. -/
def fnExactNextGreenSpec : ChangeSpec := { name := "fnExactNextGreen", vars := ["loop.example/g03006/impl.clearTimes"], fn := fun _ => fun
  | [d1, d2, d3, d4, g1] => { results := [.lit (.bool true)], args := [d1, d2, d3, d4], vars := [g1] }
  | _ => none }
def fnExactNextGreenRow : OpenClaim := { program := "ytcbccbefkpklkaadoor", sum := "fcca0187f8676c676bbcf4869b84ca9f1766c5c508753df9b10411371a2502f9", func := "loop.example/g03006/laws.FnExactNextGreen", spec := "fnExactNextGreen", unfollowed := true, recurses := true, named := ["math/bits.deBruijn32tab", "loop.example/g03006/impl.clearTimes"], apart := false, laid := [("math/bits.deBruijn32tab", laid_math_bits_deBruijn32tab), ("loop.example/g03006/impl.clearTimes", laid_loop_example_g03006_impl_clearTimes)] }
def FnExactNextGreenSaid : Prop := fnExactNextGreenRow.holds Tryd.pinned (OpenSpec.ofChange fnExactNextGreenSpec)

/-- ITS FALSE NEIGHBOUR: 'it returns false'. Refute it at one input. -/
def fnExactNextGreenWrong : ChangeSpec := { name := "fnExactNextGreen", vars := ["loop.example/g03006/impl.clearTimes"], fn := fun _ => fun
  | [d1, d2, d3, d4, g1] => { results := [.lit (.bool false)], args := [d1, d2, d3, d4], vars := [g1] }
  | _ => none }
def FnExactNextGreenWrongFalsely : Prop := fnExactNextGreenRow.holds Tryd.pinned (OpenSpec.ofChange fnExactNextGreenWrong)

/-- 'laws.FnExactSwitchSeconds': WHATEVER THE INPUT: true; the input reads as it did. -/
def fnExactSwitchSecondsSpec : ChangeSpec := { name := "fnExactSwitchSeconds", vars := ["loop.example/g03006/impl.clearTimes"], fn := fun _ => fun
  | [d1, d2, d3, g1] => { results := [.lit (.bool true)], args := [d1, d2, d3], vars := [g1] }
  | _ => none }
def fnExactSwitchSecondsRow : OpenClaim := { program := "ytcbccbefkpklkaadoor", sum := "fcca0187f8676c676bbcf4869b84ca9f1766c5c508753df9b10411371a2502f9", func := "loop.example/g03006/laws.FnExactSwitchSeconds", spec := "fnExactSwitchSeconds", unfollowed := true, recurses := true, named := ["math/bits.deBruijn32tab", "loop.example/g03006/impl.clearTimes"], apart := false, laid := [("math/bits.deBruijn32tab", laid_math_bits_deBruijn32tab), ("loop.example/g03006/impl.clearTimes", laid_loop_example_g03006_impl_clearTimes)] }
def FnExactSwitchSecondsSaid : Prop := fnExactSwitchSecondsRow.holds Tryd.pinned (OpenSpec.ofChange fnExactSwitchSecondsSpec)

/-- ITS FALSE NEIGHBOUR: 'it returns false'. Refute it at one input. -/
def fnExactSwitchSecondsWrong : ChangeSpec := { name := "fnExactSwitchSeconds", vars := ["loop.example/g03006/impl.clearTimes"], fn := fun _ => fun
  | [d1, d2, d3, g1] => { results := [.lit (.bool false)], args := [d1, d2, d3], vars := [g1] }
  | _ => none }
def FnExactSwitchSecondsWrongFalsely : Prop := fnExactSwitchSecondsRow.holds Tryd.pinned (OpenSpec.ofChange fnExactSwitchSecondsWrong)

/-- 'laws.FnExactSwitchAt': WHATEVER THE INPUT: true; the input reads as it did. -/
def fnExactSwitchAtSpec : ChangeSpec := { name := "fnExactSwitchAt", vars := ["loop.example/g03006/impl.clearTimes"], fn := fun _ => fun
  | [d1, d2, d3, d4, g1] => { results := [.lit (.bool true)], args := [d1, d2, d3, d4], vars := [g1] }
  | _ => none }
def fnExactSwitchAtRow : OpenClaim := { program := "ytcbccbefkpklkaadoor", sum := "fcca0187f8676c676bbcf4869b84ca9f1766c5c508753df9b10411371a2502f9", func := "loop.example/g03006/laws.FnExactSwitchAt", spec := "fnExactSwitchAt", unfollowed := true, recurses := true, named := ["math/bits.deBruijn32tab", "loop.example/g03006/impl.clearTimes"], apart := false, laid := [("math/bits.deBruijn32tab", laid_math_bits_deBruijn32tab), ("loop.example/g03006/impl.clearTimes", laid_loop_example_g03006_impl_clearTimes)] }
def FnExactSwitchAtSaid : Prop := fnExactSwitchAtRow.holds Tryd.pinned (OpenSpec.ofChange fnExactSwitchAtSpec)

/-- ITS FALSE NEIGHBOUR: 'it returns false'. Refute it at one input. -/
def fnExactSwitchAtWrong : ChangeSpec := { name := "fnExactSwitchAt", vars := ["loop.example/g03006/impl.clearTimes"], fn := fun _ => fun
  | [d1, d2, d3, d4, g1] => { results := [.lit (.bool false)], args := [d1, d2, d3, d4], vars := [g1] }
  | _ => none }
def FnExactSwitchAtWrongFalsely : Prop := fnExactSwitchAtRow.holds Tryd.pinned (OpenSpec.ofChange fnExactSwitchAtWrong)

/-- 'laws.FnExactLightAfter': WHATEVER THE INPUT: true; the input reads as it did. -/
def fnExactLightAfterSpec : ChangeSpec := { name := "fnExactLightAfter", vars := ["loop.example/g03006/impl.clearTimes"], fn := fun _ => fun
  | [d1, d2, d3, d4, d5, d6, g1] => { results := [.lit (.bool true)], args := [d1, d2, d3, d4, d5, d6], vars := [g1] }
  | _ => none }
def fnExactLightAfterRow : OpenClaim := { program := "ytcbccbefkpklkaadoor", sum := "fcca0187f8676c676bbcf4869b84ca9f1766c5c508753df9b10411371a2502f9", func := "loop.example/g03006/laws.FnExactLightAfter", spec := "fnExactLightAfter", unfollowed := true, recurses := true, named := ["math/bits.deBruijn32tab", "loop.example/g03006/impl.clearTimes"], apart := false, laid := [("math/bits.deBruijn32tab", laid_math_bits_deBruijn32tab), ("loop.example/g03006/impl.clearTimes", laid_loop_example_g03006_impl_clearTimes)] }
def FnExactLightAfterSaid : Prop := fnExactLightAfterRow.holds Tryd.pinned (OpenSpec.ofChange fnExactLightAfterSpec)

/-- ITS FALSE NEIGHBOUR: 'it returns false'. Refute it at one input. -/
def fnExactLightAfterWrong : ChangeSpec := { name := "fnExactLightAfter", vars := ["loop.example/g03006/impl.clearTimes"], fn := fun _ => fun
  | [d1, d2, d3, d4, d5, d6, g1] => { results := [.lit (.bool false)], args := [d1, d2, d3, d4, d5, d6], vars := [g1] }
  | _ => none }
def FnExactLightAfterWrongFalsely : Prop := fnExactLightAfterRow.holds Tryd.pinned (OpenSpec.ofChange fnExactLightAfterWrong)

/-- 'laws.FnExactCanSwitch': WHATEVER THE INPUT: true; the input reads as it did. -/
def fnExactCanSwitchSpec : ChangeSpec := { name := "fnExactCanSwitch", vars := ["loop.example/g03006/impl.clearTimes"], fn := fun _ => fun
  | [d1, d2, d3, g1] => { results := [.lit (.bool true)], args := [d1, d2, d3], vars := [g1] }
  | _ => none }
def fnExactCanSwitchRow : OpenClaim := { program := "ytcbccbefkpklkaadoor", sum := "fcca0187f8676c676bbcf4869b84ca9f1766c5c508753df9b10411371a2502f9", func := "loop.example/g03006/laws.FnExactCanSwitch", spec := "fnExactCanSwitch", unfollowed := true, recurses := true, named := ["math/bits.deBruijn32tab", "loop.example/g03006/impl.clearTimes"], apart := false, laid := [("math/bits.deBruijn32tab", laid_math_bits_deBruijn32tab), ("loop.example/g03006/impl.clearTimes", laid_loop_example_g03006_impl_clearTimes)] }
def FnExactCanSwitchSaid : Prop := fnExactCanSwitchRow.holds Tryd.pinned (OpenSpec.ofChange fnExactCanSwitchSpec)

/-- ITS FALSE NEIGHBOUR: 'it returns false'. Refute it at one input. -/
def fnExactCanSwitchWrong : ChangeSpec := { name := "fnExactCanSwitch", vars := ["loop.example/g03006/impl.clearTimes"], fn := fun _ => fun
  | [d1, d2, d3, g1] => { results := [.lit (.bool false)], args := [d1, d2, d3], vars := [g1] }
  | _ => none }
def FnExactCanSwitchWrongFalsely : Prop := fnExactCanSwitchRow.holds Tryd.pinned (OpenSpec.ofChange fnExactCanSwitchWrong)

/-- 'laws.FnExactWindowOf': WHATEVER THE INPUT: true; the input reads as it did. -/
def fnExactWindowOfSpec : ChangeSpec := { name := "fnExactWindowOf", vars := ["loop.example/g03006/impl.clearTimes"], fn := fun _ => fun
  | [d1, d2, d3, g1] => { results := [.lit (.bool true)], args := [d1, d2, d3], vars := [g1] }
  | _ => none }
def fnExactWindowOfRow : OpenClaim := { program := "ytcbccbefkpklkaadoor", sum := "fcca0187f8676c676bbcf4869b84ca9f1766c5c508753df9b10411371a2502f9", func := "loop.example/g03006/laws.FnExactWindowOf", spec := "fnExactWindowOf", unfollowed := true, recurses := true, named := ["math/bits.deBruijn32tab", "loop.example/g03006/impl.clearTimes"], apart := false, laid := [("math/bits.deBruijn32tab", laid_math_bits_deBruijn32tab), ("loop.example/g03006/impl.clearTimes", laid_loop_example_g03006_impl_clearTimes)] }
def FnExactWindowOfSaid : Prop := fnExactWindowOfRow.holds Tryd.pinned (OpenSpec.ofChange fnExactWindowOfSpec)

/-- ITS FALSE NEIGHBOUR: 'it returns false'. Refute it at one input. -/
def fnExactWindowOfWrong : ChangeSpec := { name := "fnExactWindowOf", vars := ["loop.example/g03006/impl.clearTimes"], fn := fun _ => fun
  | [d1, d2, d3, g1] => { results := [.lit (.bool false)], args := [d1, d2, d3], vars := [g1] }
  | _ => none }
def FnExactWindowOfWrongFalsely : Prop := fnExactWindowOfRow.holds Tryd.pinned (OpenSpec.ofChange fnExactWindowOfWrong)

/-- 'laws.FnExactIsControl': WHATEVER THE INPUT: true; the input reads as it did. -/
def fnExactIsControlSpec : ChangeSpec := { name := "fnExactIsControl", vars := ["loop.example/g03006/impl.clearTimes"], fn := fun _ => fun
  | [d1, d2, g1] => { results := [.lit (.bool true)], args := [d1, d2], vars := [g1] }
  | _ => none }
def fnExactIsControlRow : OpenClaim := { program := "ytcbccbefkpklkaadoor", sum := "fcca0187f8676c676bbcf4869b84ca9f1766c5c508753df9b10411371a2502f9", func := "loop.example/g03006/laws.FnExactIsControl", spec := "fnExactIsControl", unfollowed := true, recurses := true, named := ["math/bits.deBruijn32tab", "loop.example/g03006/impl.clearTimes"], apart := false, laid := [("math/bits.deBruijn32tab", laid_math_bits_deBruijn32tab), ("loop.example/g03006/impl.clearTimes", laid_loop_example_g03006_impl_clearTimes)] }
def FnExactIsControlSaid : Prop := fnExactIsControlRow.holds Tryd.pinned (OpenSpec.ofChange fnExactIsControlSpec)

/-- ITS FALSE NEIGHBOUR: 'it returns false'. Refute it at one input. -/
def fnExactIsControlWrong : ChangeSpec := { name := "fnExactIsControl", vars := ["loop.example/g03006/impl.clearTimes"], fn := fun _ => fun
  | [d1, d2, g1] => { results := [.lit (.bool false)], args := [d1, d2], vars := [g1] }
  | _ => none }
def FnExactIsControlWrongFalsely : Prop := fnExactIsControlRow.holds Tryd.pinned (OpenSpec.ofChange fnExactIsControlWrong)

/-- 'laws.FnExactCanEnd': WHATEVER THE INPUT: true; the input reads as it did. -/
def fnExactCanEndSpec : ChangeSpec := { name := "fnExactCanEnd", vars := ["loop.example/g03006/impl.clearTimes"], fn := fun _ => fun
  | [d1, d2, g1] => { results := [.lit (.bool true)], args := [d1, d2], vars := [g1] }
  | _ => none }
def fnExactCanEndRow : OpenClaim := { program := "ytcbccbefkpklkaadoor", sum := "fcca0187f8676c676bbcf4869b84ca9f1766c5c508753df9b10411371a2502f9", func := "loop.example/g03006/laws.FnExactCanEnd", spec := "fnExactCanEnd", unfollowed := true, recurses := true, named := ["math/bits.deBruijn32tab", "loop.example/g03006/impl.clearTimes"], apart := false, laid := [("math/bits.deBruijn32tab", laid_math_bits_deBruijn32tab), ("loop.example/g03006/impl.clearTimes", laid_loop_example_g03006_impl_clearTimes)] }
def FnExactCanEndSaid : Prop := fnExactCanEndRow.holds Tryd.pinned (OpenSpec.ofChange fnExactCanEndSpec)

/-- ITS FALSE NEIGHBOUR: 'it returns false'. Refute it at one input. -/
def fnExactCanEndWrong : ChangeSpec := { name := "fnExactCanEnd", vars := ["loop.example/g03006/impl.clearTimes"], fn := fun _ => fun
  | [d1, d2, g1] => { results := [.lit (.bool false)], args := [d1, d2], vars := [g1] }
  | _ => none }
def FnExactCanEndWrongFalsely : Prop := fnExactCanEndRow.holds Tryd.pinned (OpenSpec.ofChange fnExactCanEndWrong)

/-- 'laws.FnExactLightsOf': WHATEVER THE INPUT: true; the input reads as it did. -/
def fnExactLightsOfSpec : ChangeSpec := { name := "fnExactLightsOf", vars := ["loop.example/g03006/impl.clearTimes"], fn := fun _ => fun
  | [d1, d2, g1] => { results := [.lit (.bool true)], args := [d1, d2], vars := [g1] }
  | _ => none }
def fnExactLightsOfRow : OpenClaim := { program := "ytcbccbefkpklkaadoor", sum := "fcca0187f8676c676bbcf4869b84ca9f1766c5c508753df9b10411371a2502f9", func := "loop.example/g03006/laws.FnExactLightsOf", spec := "fnExactLightsOf", unfollowed := true, recurses := true, named := ["math/bits.deBruijn32tab", "loop.example/g03006/impl.clearTimes"], apart := false, laid := [("math/bits.deBruijn32tab", laid_math_bits_deBruijn32tab), ("loop.example/g03006/impl.clearTimes", laid_loop_example_g03006_impl_clearTimes)] }
def FnExactLightsOfSaid : Prop := fnExactLightsOfRow.holds Tryd.pinned (OpenSpec.ofChange fnExactLightsOfSpec)

/-- ITS FALSE NEIGHBOUR: 'it returns false'. Refute it at one input. -/
def fnExactLightsOfWrong : ChangeSpec := { name := "fnExactLightsOf", vars := ["loop.example/g03006/impl.clearTimes"], fn := fun _ => fun
  | [d1, d2, g1] => { results := [.lit (.bool false)], args := [d1, d2], vars := [g1] }
  | _ => none }
def FnExactLightsOfWrongFalsely : Prop := fnExactLightsOfRow.holds Tryd.pinned (OpenSpec.ofChange fnExactLightsOfWrong)

/-- 'laws.FnExactTickControl': WHATEVER THE INPUT: true; the input reads as it did. -/
def fnExactTickControlSpec : ChangeSpec := { name := "fnExactTickControl", vars := ["loop.example/g03006/impl.clearTimes"], fn := fun _ => fun
  | [d1, d2, g1] => { results := [.lit (.bool true)], args := [d1, d2], vars := [g1] }
  | _ => none }
def fnExactTickControlRow : OpenClaim := { program := "ytcbccbefkpklkaadoor", sum := "fcca0187f8676c676bbcf4869b84ca9f1766c5c508753df9b10411371a2502f9", func := "loop.example/g03006/laws.FnExactTickControl", spec := "fnExactTickControl", unfollowed := true, recurses := true, named := ["math/bits.deBruijn32tab", "loop.example/g03006/impl.clearTimes"], apart := false, laid := [("math/bits.deBruijn32tab", laid_math_bits_deBruijn32tab), ("loop.example/g03006/impl.clearTimes", laid_loop_example_g03006_impl_clearTimes)] }
def FnExactTickControlSaid : Prop := fnExactTickControlRow.holds Tryd.pinned (OpenSpec.ofChange fnExactTickControlSpec)

/-- ITS FALSE NEIGHBOUR: 'it returns false'. Refute it at one input. -/
def fnExactTickControlWrong : ChangeSpec := { name := "fnExactTickControl", vars := ["loop.example/g03006/impl.clearTimes"], fn := fun _ => fun
  | [d1, d2, g1] => { results := [.lit (.bool false)], args := [d1, d2], vars := [g1] }
  | _ => none }
def FnExactTickControlWrongFalsely : Prop := fnExactTickControlRow.holds Tryd.pinned (OpenSpec.ofChange fnExactTickControlWrong)

/- THE SECOND FORM. 'bulk': how many values and letters a reading holds, each counted each time it is reached (what is shared counts as often as it is met; a slice's spare places count too). A statement '..UptoSaid' is the law's where the arguments, and the package variables that the reading takes, are together of bulk at most 1048576: NARROWER than '..Said'. Prove '..Said' where nothing that the law and all that it calls make is longer than what came in: it says more and counts as full. Else prove '..UptoSaid'. A law counts once. -/
mutual
def uptoBulk {H : Type} : DataW H → Nat
  | .lit (.string bytes) => bytes.length + 1
  | .lit _ => 1
  | .nil => 1
  | .ptr d => uptoBulk d + 1
  | .slice elems spare => uptoBulkAll elems + uptoBulkAll spare + 1
  | .agg parts => uptoBulkAll parts + 1
  | .iface _ d => uptoBulk d + 1
  | .map entries => uptoBulkEntries entries + 1
  | .held _ => 1
def uptoBulkAll {H : Type} : List (DataW H) → Nat
  | [] => 0
  | d :: r => uptoBulk d + uptoBulkAll r
def uptoBulkEntries {H : Type} : List (Lit × DataW H) → Nat
  | [] => 0
  | x :: r => uptoBulkEntry x + uptoBulkEntries r
def uptoBulkEntry {H : Type} : Lit × DataW H → Nat
  | (.string bytes, d) => bytes.length + uptoBulk d + 1
  | (_, d) => uptoBulk d + 1
 end
def uptoSmall : (H : Type) → List (DataW H) → Bool := fun _ ds => decide (uptoBulkAll ds ≤ 1048576)
def OpenSpec.upto (s : _root_.Go.ChangeSpec) : _root_.Go.OpenSpec := { _root_.Go.OpenSpec.ofChange s with cond := some uptoSmall }

/-- 'laws.FnExactIsSafeLights', WHERE WHAT IT READS IS OF BULK AT MOST 1048576: true; the input reads as it did. -/
def fnExactIsSafeLightsUptoRow : OpenClaim := { program := "ytcbccbefkpklkaadoor", sum := "fcca0187f8676c676bbcf4869b84ca9f1766c5c508753df9b10411371a2502f9", func := "loop.example/g03006/laws.FnExactIsSafeLights", spec := "fnExactIsSafeLights", unfollowed := true, recurses := true, named := ["math/bits.deBruijn32tab"], apart := false, laid := [("math/bits.deBruijn32tab", laid_math_bits_deBruijn32tab)], narrowed := true }
def FnExactIsSafeLightsUptoSaid : Prop := fnExactIsSafeLightsUptoRow.holds Tryd.pinned (OpenSpec.upto fnExactIsSafeLightsSpec)

/-- 'laws.FnExactWorstWait', WHERE WHAT IT READS IS OF BULK AT MOST 1048576: true; the input reads as it did. -/
def fnExactWorstWaitUptoRow : OpenClaim := { program := "ytcbccbefkpklkaadoor", sum := "fcca0187f8676c676bbcf4869b84ca9f1766c5c508753df9b10411371a2502f9", func := "loop.example/g03006/laws.FnExactWorstWait", spec := "fnExactWorstWait", unfollowed := true, recurses := true, named := ["math/bits.deBruijn32tab", "loop.example/g03006/impl.clearTimes"], apart := false, laid := [("math/bits.deBruijn32tab", laid_math_bits_deBruijn32tab), ("loop.example/g03006/impl.clearTimes", laid_loop_example_g03006_impl_clearTimes)], narrowed := true }
def FnExactWorstWaitUptoSaid : Prop := fnExactWorstWaitUptoRow.holds Tryd.pinned (OpenSpec.upto fnExactWorstWaitSpec)

/-- 'laws.FnExactNextGreen', WHERE WHAT IT READS IS OF BULK AT MOST 1048576: true; the input reads as it did. -/
def fnExactNextGreenUptoRow : OpenClaim := { program := "ytcbccbefkpklkaadoor", sum := "fcca0187f8676c676bbcf4869b84ca9f1766c5c508753df9b10411371a2502f9", func := "loop.example/g03006/laws.FnExactNextGreen", spec := "fnExactNextGreen", unfollowed := true, recurses := true, named := ["math/bits.deBruijn32tab", "loop.example/g03006/impl.clearTimes"], apart := false, laid := [("math/bits.deBruijn32tab", laid_math_bits_deBruijn32tab), ("loop.example/g03006/impl.clearTimes", laid_loop_example_g03006_impl_clearTimes)], narrowed := true }
def FnExactNextGreenUptoSaid : Prop := fnExactNextGreenUptoRow.holds Tryd.pinned (OpenSpec.upto fnExactNextGreenSpec)

/-- 'laws.FnExactSwitchSeconds', WHERE WHAT IT READS IS OF BULK AT MOST 1048576: true; the input reads as it did. -/
def fnExactSwitchSecondsUptoRow : OpenClaim := { program := "ytcbccbefkpklkaadoor", sum := "fcca0187f8676c676bbcf4869b84ca9f1766c5c508753df9b10411371a2502f9", func := "loop.example/g03006/laws.FnExactSwitchSeconds", spec := "fnExactSwitchSeconds", unfollowed := true, recurses := true, named := ["math/bits.deBruijn32tab", "loop.example/g03006/impl.clearTimes"], apart := false, laid := [("math/bits.deBruijn32tab", laid_math_bits_deBruijn32tab), ("loop.example/g03006/impl.clearTimes", laid_loop_example_g03006_impl_clearTimes)], narrowed := true }
def FnExactSwitchSecondsUptoSaid : Prop := fnExactSwitchSecondsUptoRow.holds Tryd.pinned (OpenSpec.upto fnExactSwitchSecondsSpec)

/-- 'laws.FnExactSwitchAt', WHERE WHAT IT READS IS OF BULK AT MOST 1048576: true; the input reads as it did. -/
def fnExactSwitchAtUptoRow : OpenClaim := { program := "ytcbccbefkpklkaadoor", sum := "fcca0187f8676c676bbcf4869b84ca9f1766c5c508753df9b10411371a2502f9", func := "loop.example/g03006/laws.FnExactSwitchAt", spec := "fnExactSwitchAt", unfollowed := true, recurses := true, named := ["math/bits.deBruijn32tab", "loop.example/g03006/impl.clearTimes"], apart := false, laid := [("math/bits.deBruijn32tab", laid_math_bits_deBruijn32tab), ("loop.example/g03006/impl.clearTimes", laid_loop_example_g03006_impl_clearTimes)], narrowed := true }
def FnExactSwitchAtUptoSaid : Prop := fnExactSwitchAtUptoRow.holds Tryd.pinned (OpenSpec.upto fnExactSwitchAtSpec)

/-- 'laws.FnExactLightAfter', WHERE WHAT IT READS IS OF BULK AT MOST 1048576: true; the input reads as it did. -/
def fnExactLightAfterUptoRow : OpenClaim := { program := "ytcbccbefkpklkaadoor", sum := "fcca0187f8676c676bbcf4869b84ca9f1766c5c508753df9b10411371a2502f9", func := "loop.example/g03006/laws.FnExactLightAfter", spec := "fnExactLightAfter", unfollowed := true, recurses := true, named := ["math/bits.deBruijn32tab", "loop.example/g03006/impl.clearTimes"], apart := false, laid := [("math/bits.deBruijn32tab", laid_math_bits_deBruijn32tab), ("loop.example/g03006/impl.clearTimes", laid_loop_example_g03006_impl_clearTimes)], narrowed := true }
def FnExactLightAfterUptoSaid : Prop := fnExactLightAfterUptoRow.holds Tryd.pinned (OpenSpec.upto fnExactLightAfterSpec)

/-- 'laws.FnExactCanSwitch', WHERE WHAT IT READS IS OF BULK AT MOST 1048576: true; the input reads as it did. -/
def fnExactCanSwitchUptoRow : OpenClaim := { program := "ytcbccbefkpklkaadoor", sum := "fcca0187f8676c676bbcf4869b84ca9f1766c5c508753df9b10411371a2502f9", func := "loop.example/g03006/laws.FnExactCanSwitch", spec := "fnExactCanSwitch", unfollowed := true, recurses := true, named := ["math/bits.deBruijn32tab", "loop.example/g03006/impl.clearTimes"], apart := false, laid := [("math/bits.deBruijn32tab", laid_math_bits_deBruijn32tab), ("loop.example/g03006/impl.clearTimes", laid_loop_example_g03006_impl_clearTimes)], narrowed := true }
def FnExactCanSwitchUptoSaid : Prop := fnExactCanSwitchUptoRow.holds Tryd.pinned (OpenSpec.upto fnExactCanSwitchSpec)

/-- 'laws.FnExactWindowOf', WHERE WHAT IT READS IS OF BULK AT MOST 1048576: true; the input reads as it did. -/
def fnExactWindowOfUptoRow : OpenClaim := { program := "ytcbccbefkpklkaadoor", sum := "fcca0187f8676c676bbcf4869b84ca9f1766c5c508753df9b10411371a2502f9", func := "loop.example/g03006/laws.FnExactWindowOf", spec := "fnExactWindowOf", unfollowed := true, recurses := true, named := ["math/bits.deBruijn32tab", "loop.example/g03006/impl.clearTimes"], apart := false, laid := [("math/bits.deBruijn32tab", laid_math_bits_deBruijn32tab), ("loop.example/g03006/impl.clearTimes", laid_loop_example_g03006_impl_clearTimes)], narrowed := true }
def FnExactWindowOfUptoSaid : Prop := fnExactWindowOfUptoRow.holds Tryd.pinned (OpenSpec.upto fnExactWindowOfSpec)

/-- 'laws.FnExactIsControl', WHERE WHAT IT READS IS OF BULK AT MOST 1048576: true; the input reads as it did. -/
def fnExactIsControlUptoRow : OpenClaim := { program := "ytcbccbefkpklkaadoor", sum := "fcca0187f8676c676bbcf4869b84ca9f1766c5c508753df9b10411371a2502f9", func := "loop.example/g03006/laws.FnExactIsControl", spec := "fnExactIsControl", unfollowed := true, recurses := true, named := ["math/bits.deBruijn32tab", "loop.example/g03006/impl.clearTimes"], apart := false, laid := [("math/bits.deBruijn32tab", laid_math_bits_deBruijn32tab), ("loop.example/g03006/impl.clearTimes", laid_loop_example_g03006_impl_clearTimes)], narrowed := true }
def FnExactIsControlUptoSaid : Prop := fnExactIsControlUptoRow.holds Tryd.pinned (OpenSpec.upto fnExactIsControlSpec)

/-- 'laws.FnExactCanEnd', WHERE WHAT IT READS IS OF BULK AT MOST 1048576: true; the input reads as it did. -/
def fnExactCanEndUptoRow : OpenClaim := { program := "ytcbccbefkpklkaadoor", sum := "fcca0187f8676c676bbcf4869b84ca9f1766c5c508753df9b10411371a2502f9", func := "loop.example/g03006/laws.FnExactCanEnd", spec := "fnExactCanEnd", unfollowed := true, recurses := true, named := ["math/bits.deBruijn32tab", "loop.example/g03006/impl.clearTimes"], apart := false, laid := [("math/bits.deBruijn32tab", laid_math_bits_deBruijn32tab), ("loop.example/g03006/impl.clearTimes", laid_loop_example_g03006_impl_clearTimes)], narrowed := true }
def FnExactCanEndUptoSaid : Prop := fnExactCanEndUptoRow.holds Tryd.pinned (OpenSpec.upto fnExactCanEndSpec)

/-- 'laws.FnExactLightsOf', WHERE WHAT IT READS IS OF BULK AT MOST 1048576: true; the input reads as it did. -/
def fnExactLightsOfUptoRow : OpenClaim := { program := "ytcbccbefkpklkaadoor", sum := "fcca0187f8676c676bbcf4869b84ca9f1766c5c508753df9b10411371a2502f9", func := "loop.example/g03006/laws.FnExactLightsOf", spec := "fnExactLightsOf", unfollowed := true, recurses := true, named := ["math/bits.deBruijn32tab", "loop.example/g03006/impl.clearTimes"], apart := false, laid := [("math/bits.deBruijn32tab", laid_math_bits_deBruijn32tab), ("loop.example/g03006/impl.clearTimes", laid_loop_example_g03006_impl_clearTimes)], narrowed := true }
def FnExactLightsOfUptoSaid : Prop := fnExactLightsOfUptoRow.holds Tryd.pinned (OpenSpec.upto fnExactLightsOfSpec)

/-- 'laws.FnExactTickControl', WHERE WHAT IT READS IS OF BULK AT MOST 1048576: true; the input reads as it did. -/
def fnExactTickControlUptoRow : OpenClaim := { program := "ytcbccbefkpklkaadoor", sum := "fcca0187f8676c676bbcf4869b84ca9f1766c5c508753df9b10411371a2502f9", func := "loop.example/g03006/laws.FnExactTickControl", spec := "fnExactTickControl", unfollowed := true, recurses := true, named := ["math/bits.deBruijn32tab", "loop.example/g03006/impl.clearTimes"], apart := false, laid := [("math/bits.deBruijn32tab", laid_math_bits_deBruijn32tab), ("loop.example/g03006/impl.clearTimes", laid_loop_example_g03006_impl_clearTimes)], narrowed := true }
def FnExactTickControlUptoSaid : Prop := fnExactTickControlUptoRow.holds Tryd.pinned (OpenSpec.upto fnExactTickControlSpec)

end Rows
end Go.Proofs.YtcbccbefkpklkaaDoor
