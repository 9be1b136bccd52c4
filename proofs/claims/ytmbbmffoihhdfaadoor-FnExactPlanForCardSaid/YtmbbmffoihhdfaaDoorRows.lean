/-
  NARROWER THAN 'FOR EVERY INPUT', by the rows' own cells (each row's printed sentence says how): FnExactIsPlan: laid · FnExactCycle: laid · FnExactStartOf: laid · FnExactPlanFor: laid · FnExactPartAt: laid · FnExactLightAt: laid · FnExactLightsAt: laid · FnExactGreenOf: laid · FnExactWaitOf: laid · FnExactOpenIn: laid · FnExactGreenShare: laid · FnExactSpareGreen: laid.
  DERIVED. THE GIVEN ROWS OF THIS SEAT. 12 by the template 'for every input the law returns true; each argument reads behind the call as it read before'; 0 by the template 'total and deterministic' (their statements: YtmbbmffoihhdfaaDoorTotals.lean).
  GIVEN WITH THE SEED: the statements are not yours to turn. If you find one false, say at which input.
  Laid BY PROGRAM, IN A SANDBOX (cutbox-rows.mjs): the forced cells as the released guide's own fill.sh prints them over the translation e1129157d6cd62de… (all of the seat's roots in one cut). By AI agents, Wed Nov 11 2026. No macro, syntax, notation, axiom, sorry.
-/
import Derived.Test.YtmbbmffoihhdfaaDoorChecked
import GoSem.Claim
import GoSem.ClaimJoined
import GoSem.ClaimMapViews
import Derived.JoinedTies
import Derived.KernelRfl
namespace Go.Proofs.YtmbbmffoihhdfaaDoor
/- THE CELL 'sum', in the pinned program and in every row, IS THE sha256 OF THE DUMP (.gsa) THAT YtmbbmffoihhdfaaDoorProg.lean LOADS. Nothing in Lean hashes anything: it is a label: what it is worth is what the hold of that sum in a sandbox is worth. -/
noncomputable def Tryd.pinned : Pinned := { name := "ytmbbmffoihhdfaadoor", sum := "e1129157d6cd62decbcfe9fd852ca2d9e07654c85c9d37f8b84e6cd11e342b5e", checked := Tryd.checked }
namespace Rows
def none {H : Type} : Left H := { results := [], args := [] }

/- WHAT THE LISTED PACKAGE-LEVEL VARIABLES READ AS WHEN THE CALL BEGINS. Each datum BY PROGRAM (the guide's laid-datum.mjs) off the statement by which the dump's own 'gosem.cut.vars' lays the variable. In a bare row this is a premise. The card (YtmbbmffoihhdfaaDoorCards.lean) ties it to the program's text. -/
def laid_math_bits_deBruijn32tab {H : Type} : DataW H := .agg [.lit (.int .u8 0), .lit (.int .u8 1), .lit (.int .u8 28), .lit (.int .u8 2), .lit (.int .u8 29), .lit (.int .u8 14), .lit (.int .u8 24), .lit (.int .u8 3), .lit (.int .u8 30), .lit (.int .u8 22), .lit (.int .u8 20), .lit (.int .u8 15), .lit (.int .u8 25), .lit (.int .u8 17), .lit (.int .u8 4), .lit (.int .u8 8), .lit (.int .u8 31), .lit (.int .u8 27), .lit (.int .u8 13), .lit (.int .u8 23), .lit (.int .u8 21), .lit (.int .u8 19), .lit (.int .u8 16), .lit (.int .u8 7), .lit (.int .u8 26), .lit (.int .u8 12), .lit (.int .u8 18), .lit (.int .u8 6), .lit (.int .u8 11), .lit (.int .u8 5), .lit (.int .u8 10), .lit (.int .u8 9)]
def laid_loop_example_g03006_impl_clearTimes {H : Type} : DataW H := .agg [.lit (.int .i64 0), .lit (.int .i64 2), .lit (.int .i64 5), .lit (.int .i64 3)]

/-- 'laws.FnExactIsPlan': WHATEVER THE INPUT: true; the input reads as it did. -/
def fnExactIsPlanSpec : ChangeSpec := { name := "fnExactIsPlan", vars := ["loop.example/g03006/impl.clearTimes"], fn := fun _ => fun
  | [d1, d2, g1] => { results := [.lit (.bool true)], args := [d1, d2], vars := [g1] }
  | _ => none }
def fnExactIsPlanRow : OpenClaim := { program := "ytmbbmffoihhdfaadoor", sum := "e1129157d6cd62decbcfe9fd852ca2d9e07654c85c9d37f8b84e6cd11e342b5e", func := "loop.example/g03006/laws.FnExactIsPlan", spec := "fnExactIsPlan", unfollowed := true, recurses := true, named := ["math/bits.deBruijn32tab", "loop.example/g03006/impl.clearTimes"], apart := false, laid := [("math/bits.deBruijn32tab", laid_math_bits_deBruijn32tab), ("loop.example/g03006/impl.clearTimes", laid_loop_example_g03006_impl_clearTimes)] }
def FnExactIsPlanSaid : Prop := fnExactIsPlanRow.holds Tryd.pinned (OpenSpec.ofChange fnExactIsPlanSpec)

/-- ITS FALSE NEIGHBOUR: 'it returns false'. Refute it at one input. -/
def fnExactIsPlanWrong : ChangeSpec := { name := "fnExactIsPlan", vars := ["loop.example/g03006/impl.clearTimes"], fn := fun _ => fun
  | [d1, d2, g1] => { results := [.lit (.bool false)], args := [d1, d2], vars := [g1] }
  | _ => none }
def FnExactIsPlanWrongFalsely : Prop := fnExactIsPlanRow.holds Tryd.pinned (OpenSpec.ofChange fnExactIsPlanWrong)

/-- 'laws.FnExactCycle': WHATEVER THE INPUT: true; the input reads as it did. -/
def fnExactCycleSpec : ChangeSpec := { name := "fnExactCycle", vars := ["loop.example/g03006/impl.clearTimes"], fn := fun _ => fun
  | [d1, d2, g1] => { results := [.lit (.bool true)], args := [d1, d2], vars := [g1] }
  | _ => none }
def fnExactCycleRow : OpenClaim := { program := "ytmbbmffoihhdfaadoor", sum := "e1129157d6cd62decbcfe9fd852ca2d9e07654c85c9d37f8b84e6cd11e342b5e", func := "loop.example/g03006/laws.FnExactCycle", spec := "fnExactCycle", unfollowed := true, recurses := true, named := ["math/bits.deBruijn32tab", "loop.example/g03006/impl.clearTimes"], apart := false, laid := [("math/bits.deBruijn32tab", laid_math_bits_deBruijn32tab), ("loop.example/g03006/impl.clearTimes", laid_loop_example_g03006_impl_clearTimes)] }
def FnExactCycleSaid : Prop := fnExactCycleRow.holds Tryd.pinned (OpenSpec.ofChange fnExactCycleSpec)

/-- ITS FALSE NEIGHBOUR: 'it returns false'. Refute it at one input. -/
def fnExactCycleWrong : ChangeSpec := { name := "fnExactCycle", vars := ["loop.example/g03006/impl.clearTimes"], fn := fun _ => fun
  | [d1, d2, g1] => { results := [.lit (.bool false)], args := [d1, d2], vars := [g1] }
  | _ => none }
def FnExactCycleWrongFalsely : Prop := fnExactCycleRow.holds Tryd.pinned (OpenSpec.ofChange fnExactCycleWrong)

/-- 'laws.FnExactStartOf': WHATEVER THE INPUT: true; the input reads as it did. -/
def fnExactStartOfSpec : ChangeSpec := { name := "fnExactStartOf", vars := ["loop.example/g03006/impl.clearTimes"], fn := fun _ => fun
  | [d1, d2, d3, g1] => { results := [.lit (.bool true)], args := [d1, d2, d3], vars := [g1] }
  | _ => none }
def fnExactStartOfRow : OpenClaim := { program := "ytmbbmffoihhdfaadoor", sum := "e1129157d6cd62decbcfe9fd852ca2d9e07654c85c9d37f8b84e6cd11e342b5e", func := "loop.example/g03006/laws.FnExactStartOf", spec := "fnExactStartOf", unfollowed := true, recurses := true, named := ["math/bits.deBruijn32tab", "loop.example/g03006/impl.clearTimes"], apart := false, laid := [("math/bits.deBruijn32tab", laid_math_bits_deBruijn32tab), ("loop.example/g03006/impl.clearTimes", laid_loop_example_g03006_impl_clearTimes)] }
def FnExactStartOfSaid : Prop := fnExactStartOfRow.holds Tryd.pinned (OpenSpec.ofChange fnExactStartOfSpec)

/-- ITS FALSE NEIGHBOUR: 'it returns false'. Refute it at one input. -/
def fnExactStartOfWrong : ChangeSpec := { name := "fnExactStartOf", vars := ["loop.example/g03006/impl.clearTimes"], fn := fun _ => fun
  | [d1, d2, d3, g1] => { results := [.lit (.bool false)], args := [d1, d2, d3], vars := [g1] }
  | _ => none }
def FnExactStartOfWrongFalsely : Prop := fnExactStartOfRow.holds Tryd.pinned (OpenSpec.ofChange fnExactStartOfWrong)

/-- 'laws.FnExactPlanFor': WHATEVER THE INPUT: true; the input reads as it did. -/
def fnExactPlanForSpec : ChangeSpec := { name := "fnExactPlanFor", vars := ["loop.example/g03006/impl.clearTimes"], fn := fun _ => fun
  | [d, g1] => { results := [.lit (.bool true)], args := [d], vars := [g1] }
  | _ => none }
def fnExactPlanForRow : OpenClaim := { program := "ytmbbmffoihhdfaadoor", sum := "e1129157d6cd62decbcfe9fd852ca2d9e07654c85c9d37f8b84e6cd11e342b5e", func := "loop.example/g03006/laws.FnExactPlanFor", spec := "fnExactPlanFor", unfollowed := true, recurses := true, named := ["math/bits.deBruijn32tab", "loop.example/g03006/impl.clearTimes"], apart := false, laid := [("math/bits.deBruijn32tab", laid_math_bits_deBruijn32tab), ("loop.example/g03006/impl.clearTimes", laid_loop_example_g03006_impl_clearTimes)] }
def FnExactPlanForSaid : Prop := fnExactPlanForRow.holds Tryd.pinned (OpenSpec.ofChange fnExactPlanForSpec)

/-- ITS FALSE NEIGHBOUR: 'it returns false'. Refute it at one input. -/
def fnExactPlanForWrong : ChangeSpec := { name := "fnExactPlanFor", vars := ["loop.example/g03006/impl.clearTimes"], fn := fun _ => fun
  | [d, g1] => { results := [.lit (.bool false)], args := [d], vars := [g1] }
  | _ => none }
def FnExactPlanForWrongFalsely : Prop := fnExactPlanForRow.holds Tryd.pinned (OpenSpec.ofChange fnExactPlanForWrong)

/-- 'laws.FnExactPartAt': WHATEVER THE INPUT: true; the input reads as it did. -/
def fnExactPartAtSpec : ChangeSpec := { name := "fnExactPartAt", vars := ["loop.example/g03006/impl.clearTimes"], fn := fun _ => fun
  | [d1, d2, d3, g1] => { results := [.lit (.bool true)], args := [d1, d2, d3], vars := [g1] }
  | _ => none }
def fnExactPartAtRow : OpenClaim := { program := "ytmbbmffoihhdfaadoor", sum := "e1129157d6cd62decbcfe9fd852ca2d9e07654c85c9d37f8b84e6cd11e342b5e", func := "loop.example/g03006/laws.FnExactPartAt", spec := "fnExactPartAt", unfollowed := true, recurses := true, named := ["math/bits.deBruijn32tab", "loop.example/g03006/impl.clearTimes"], apart := false, laid := [("math/bits.deBruijn32tab", laid_math_bits_deBruijn32tab), ("loop.example/g03006/impl.clearTimes", laid_loop_example_g03006_impl_clearTimes)] }
def FnExactPartAtSaid : Prop := fnExactPartAtRow.holds Tryd.pinned (OpenSpec.ofChange fnExactPartAtSpec)

/-- ITS FALSE NEIGHBOUR: 'it returns false'. Refute it at one input. -/
def fnExactPartAtWrong : ChangeSpec := { name := "fnExactPartAt", vars := ["loop.example/g03006/impl.clearTimes"], fn := fun _ => fun
  | [d1, d2, d3, g1] => { results := [.lit (.bool false)], args := [d1, d2, d3], vars := [g1] }
  | _ => none }
def FnExactPartAtWrongFalsely : Prop := fnExactPartAtRow.holds Tryd.pinned (OpenSpec.ofChange fnExactPartAtWrong)

/-- 'laws.FnExactLightAt': WHATEVER THE INPUT: true; the input reads as it did. -/
def fnExactLightAtSpec : ChangeSpec := { name := "fnExactLightAt", vars := ["loop.example/g03006/impl.clearTimes"], fn := fun _ => fun
  | [d1, d2, d3, d4, g1] => { results := [.lit (.bool true)], args := [d1, d2, d3, d4], vars := [g1] }
  | _ => none }
def fnExactLightAtRow : OpenClaim := { program := "ytmbbmffoihhdfaadoor", sum := "e1129157d6cd62decbcfe9fd852ca2d9e07654c85c9d37f8b84e6cd11e342b5e", func := "loop.example/g03006/laws.FnExactLightAt", spec := "fnExactLightAt", unfollowed := true, recurses := true, named := ["math/bits.deBruijn32tab", "loop.example/g03006/impl.clearTimes"], apart := false, laid := [("math/bits.deBruijn32tab", laid_math_bits_deBruijn32tab), ("loop.example/g03006/impl.clearTimes", laid_loop_example_g03006_impl_clearTimes)] }
def FnExactLightAtSaid : Prop := fnExactLightAtRow.holds Tryd.pinned (OpenSpec.ofChange fnExactLightAtSpec)

/-- ITS FALSE NEIGHBOUR: 'it returns false'. Refute it at one input. -/
def fnExactLightAtWrong : ChangeSpec := { name := "fnExactLightAt", vars := ["loop.example/g03006/impl.clearTimes"], fn := fun _ => fun
  | [d1, d2, d3, d4, g1] => { results := [.lit (.bool false)], args := [d1, d2, d3, d4], vars := [g1] }
  | _ => none }
def FnExactLightAtWrongFalsely : Prop := fnExactLightAtRow.holds Tryd.pinned (OpenSpec.ofChange fnExactLightAtWrong)

/-- 'laws.FnExactLightsAt': WHATEVER THE INPUT: true; the input reads as it did. -/
def fnExactLightsAtSpec : ChangeSpec := { name := "fnExactLightsAt", vars := ["loop.example/g03006/impl.clearTimes"], fn := fun _ => fun
  | [d1, d2, d3, g1] => { results := [.lit (.bool true)], args := [d1, d2, d3], vars := [g1] }
  | _ => none }
def fnExactLightsAtRow : OpenClaim := { program := "ytmbbmffoihhdfaadoor", sum := "e1129157d6cd62decbcfe9fd852ca2d9e07654c85c9d37f8b84e6cd11e342b5e", func := "loop.example/g03006/laws.FnExactLightsAt", spec := "fnExactLightsAt", unfollowed := true, recurses := true, named := ["math/bits.deBruijn32tab", "loop.example/g03006/impl.clearTimes"], apart := false, laid := [("math/bits.deBruijn32tab", laid_math_bits_deBruijn32tab), ("loop.example/g03006/impl.clearTimes", laid_loop_example_g03006_impl_clearTimes)] }
def FnExactLightsAtSaid : Prop := fnExactLightsAtRow.holds Tryd.pinned (OpenSpec.ofChange fnExactLightsAtSpec)

/-- ITS FALSE NEIGHBOUR: 'it returns false'. Refute it at one input. -/
def fnExactLightsAtWrong : ChangeSpec := { name := "fnExactLightsAt", vars := ["loop.example/g03006/impl.clearTimes"], fn := fun _ => fun
  | [d1, d2, d3, g1] => { results := [.lit (.bool false)], args := [d1, d2, d3], vars := [g1] }
  | _ => none }
def FnExactLightsAtWrongFalsely : Prop := fnExactLightsAtRow.holds Tryd.pinned (OpenSpec.ofChange fnExactLightsAtWrong)

/-- 'laws.FnExactGreenOf': WHATEVER THE INPUT: true; the input reads as it did. -/
def fnExactGreenOfSpec : ChangeSpec := { name := "fnExactGreenOf", vars := ["loop.example/g03006/impl.clearTimes"], fn := fun _ => fun
  | [d1, d2, d3, g1] => { results := [.lit (.bool true)], args := [d1, d2, d3], vars := [g1] }
  | _ => none }
def fnExactGreenOfRow : OpenClaim := { program := "ytmbbmffoihhdfaadoor", sum := "e1129157d6cd62decbcfe9fd852ca2d9e07654c85c9d37f8b84e6cd11e342b5e", func := "loop.example/g03006/laws.FnExactGreenOf", spec := "fnExactGreenOf", unfollowed := true, recurses := true, named := ["math/bits.deBruijn32tab", "loop.example/g03006/impl.clearTimes"], apart := false, laid := [("math/bits.deBruijn32tab", laid_math_bits_deBruijn32tab), ("loop.example/g03006/impl.clearTimes", laid_loop_example_g03006_impl_clearTimes)] }
def FnExactGreenOfSaid : Prop := fnExactGreenOfRow.holds Tryd.pinned (OpenSpec.ofChange fnExactGreenOfSpec)

/-- ITS FALSE NEIGHBOUR: 'it returns false'. Refute it at one input. -/
def fnExactGreenOfWrong : ChangeSpec := { name := "fnExactGreenOf", vars := ["loop.example/g03006/impl.clearTimes"], fn := fun _ => fun
  | [d1, d2, d3, g1] => { results := [.lit (.bool false)], args := [d1, d2, d3], vars := [g1] }
  | _ => none }
def FnExactGreenOfWrongFalsely : Prop := fnExactGreenOfRow.holds Tryd.pinned (OpenSpec.ofChange fnExactGreenOfWrong)

/-- 'laws.FnExactWaitOf': WHATEVER THE INPUT: true; the input reads as it did. -/
def fnExactWaitOfSpec : ChangeSpec := { name := "fnExactWaitOf", vars := ["loop.example/g03006/impl.clearTimes"], fn := fun _ => fun
  | [d1, d2, d3, g1] => { results := [.lit (.bool true)], args := [d1, d2, d3], vars := [g1] }
  | _ => none }
def fnExactWaitOfRow : OpenClaim := { program := "ytmbbmffoihhdfaadoor", sum := "e1129157d6cd62decbcfe9fd852ca2d9e07654c85c9d37f8b84e6cd11e342b5e", func := "loop.example/g03006/laws.FnExactWaitOf", spec := "fnExactWaitOf", unfollowed := true, recurses := true, named := ["math/bits.deBruijn32tab", "loop.example/g03006/impl.clearTimes"], apart := false, laid := [("math/bits.deBruijn32tab", laid_math_bits_deBruijn32tab), ("loop.example/g03006/impl.clearTimes", laid_loop_example_g03006_impl_clearTimes)] }
def FnExactWaitOfSaid : Prop := fnExactWaitOfRow.holds Tryd.pinned (OpenSpec.ofChange fnExactWaitOfSpec)

/-- ITS FALSE NEIGHBOUR: 'it returns false'. Refute it at one input. -/
def fnExactWaitOfWrong : ChangeSpec := { name := "fnExactWaitOf", vars := ["loop.example/g03006/impl.clearTimes"], fn := fun _ => fun
  | [d1, d2, d3, g1] => { results := [.lit (.bool false)], args := [d1, d2, d3], vars := [g1] }
  | _ => none }
def FnExactWaitOfWrongFalsely : Prop := fnExactWaitOfRow.holds Tryd.pinned (OpenSpec.ofChange fnExactWaitOfWrong)

/-- 'laws.FnExactOpenIn': WHATEVER THE INPUT: true; the input reads as it did. -/
def fnExactOpenInSpec : ChangeSpec := { name := "fnExactOpenIn", vars := ["loop.example/g03006/impl.clearTimes"], fn := fun _ => fun
  | [d1, d2, d3, d4, d5, g1] => { results := [.lit (.bool true)], args := [d1, d2, d3, d4, d5], vars := [g1] }
  | _ => none }
def fnExactOpenInRow : OpenClaim := { program := "ytmbbmffoihhdfaadoor", sum := "e1129157d6cd62decbcfe9fd852ca2d9e07654c85c9d37f8b84e6cd11e342b5e", func := "loop.example/g03006/laws.FnExactOpenIn", spec := "fnExactOpenIn", unfollowed := true, recurses := true, named := ["math/bits.deBruijn32tab", "loop.example/g03006/impl.clearTimes"], apart := false, laid := [("math/bits.deBruijn32tab", laid_math_bits_deBruijn32tab), ("loop.example/g03006/impl.clearTimes", laid_loop_example_g03006_impl_clearTimes)] }
def FnExactOpenInSaid : Prop := fnExactOpenInRow.holds Tryd.pinned (OpenSpec.ofChange fnExactOpenInSpec)

/-- ITS FALSE NEIGHBOUR: 'it returns false'. Refute it at one input. -/
def fnExactOpenInWrong : ChangeSpec := { name := "fnExactOpenIn", vars := ["loop.example/g03006/impl.clearTimes"], fn := fun _ => fun
  | [d1, d2, d3, d4, d5, g1] => { results := [.lit (.bool false)], args := [d1, d2, d3, d4, d5], vars := [g1] }
  | _ => none }
def FnExactOpenInWrongFalsely : Prop := fnExactOpenInRow.holds Tryd.pinned (OpenSpec.ofChange fnExactOpenInWrong)

/-- 'laws.FnExactGreenShare': WHATEVER THE INPUT: true; the input reads as it did. -/
def fnExactGreenShareSpec : ChangeSpec := { name := "fnExactGreenShare", vars := ["loop.example/g03006/impl.clearTimes"], fn := fun _ => fun
  | [d1, d2, d3, g1] => { results := [.lit (.bool true)], args := [d1, d2, d3], vars := [g1] }
  | _ => none }
def fnExactGreenShareRow : OpenClaim := { program := "ytmbbmffoihhdfaadoor", sum := "e1129157d6cd62decbcfe9fd852ca2d9e07654c85c9d37f8b84e6cd11e342b5e", func := "loop.example/g03006/laws.FnExactGreenShare", spec := "fnExactGreenShare", unfollowed := true, recurses := true, named := ["math/bits.deBruijn32tab", "loop.example/g03006/impl.clearTimes"], apart := false, laid := [("math/bits.deBruijn32tab", laid_math_bits_deBruijn32tab), ("loop.example/g03006/impl.clearTimes", laid_loop_example_g03006_impl_clearTimes)] }
def FnExactGreenShareSaid : Prop := fnExactGreenShareRow.holds Tryd.pinned (OpenSpec.ofChange fnExactGreenShareSpec)

/-- ITS FALSE NEIGHBOUR: 'it returns false'. Refute it at one input. -/
def fnExactGreenShareWrong : ChangeSpec := { name := "fnExactGreenShare", vars := ["loop.example/g03006/impl.clearTimes"], fn := fun _ => fun
  | [d1, d2, d3, g1] => { results := [.lit (.bool false)], args := [d1, d2, d3], vars := [g1] }
  | _ => none }
def FnExactGreenShareWrongFalsely : Prop := fnExactGreenShareRow.holds Tryd.pinned (OpenSpec.ofChange fnExactGreenShareWrong)

/-- 'laws.FnExactSpareGreen': WHATEVER THE INPUT: true; the input reads as it did. -/
def fnExactSpareGreenSpec : ChangeSpec := { name := "fnExactSpareGreen", vars := ["loop.example/g03006/impl.clearTimes"], fn := fun _ => fun
  | [d1, d2, d3, g1] => { results := [.lit (.bool true)], args := [d1, d2, d3], vars := [g1] }
  | _ => none }
def fnExactSpareGreenRow : OpenClaim := { program := "ytmbbmffoihhdfaadoor", sum := "e1129157d6cd62decbcfe9fd852ca2d9e07654c85c9d37f8b84e6cd11e342b5e", func := "loop.example/g03006/laws.FnExactSpareGreen", spec := "fnExactSpareGreen", unfollowed := true, recurses := true, named := ["math/bits.deBruijn32tab", "loop.example/g03006/impl.clearTimes"], apart := false, laid := [("math/bits.deBruijn32tab", laid_math_bits_deBruijn32tab), ("loop.example/g03006/impl.clearTimes", laid_loop_example_g03006_impl_clearTimes)] }
def FnExactSpareGreenSaid : Prop := fnExactSpareGreenRow.holds Tryd.pinned (OpenSpec.ofChange fnExactSpareGreenSpec)

/-- ITS FALSE NEIGHBOUR: 'it returns false'. Refute it at one input. -/
def fnExactSpareGreenWrong : ChangeSpec := { name := "fnExactSpareGreen", vars := ["loop.example/g03006/impl.clearTimes"], fn := fun _ => fun
  | [d1, d2, d3, g1] => { results := [.lit (.bool false)], args := [d1, d2, d3], vars := [g1] }
  | _ => none }
def FnExactSpareGreenWrongFalsely : Prop := fnExactSpareGreenRow.holds Tryd.pinned (OpenSpec.ofChange fnExactSpareGreenWrong)

/- THE SECOND FORM. 'bulk': how many values and letters a reading holds, each counted each time it is reached (what is shared counts as often as it is met; a slice's spare places count too). A statement '..UptoSaid' is the law's where the arguments, and the package variables that the reading takes, are together of bulk at most 1048576: NARROWER than '..Said'. Prove '..Said' where nothing that the law and all that it calls make is longer than what came in: it says more and counts as full. Else prove '..UptoSaid'. A law counts once. -/
mutual
def uptoBulk {H : Type} : DataW H → Nat
  | .lit (.string bytes) => bytes.length + 1
  | .lit _ => 1
  | .nil => 1
  | .ptr d => uptoBulk d + 1
  | .slice elems spare => uptoBulkAll elems + uptoBulkAll spare + 1
  | .agg parts => uptoBulkAll parts + 1
  | .iface _ d => uptoBulk d + 1
  | .map entries => uptoBulkEntries entries + 1
  | .held _ => 1
def uptoBulkAll {H : Type} : List (DataW H) → Nat
  | [] => 0
  | d :: r => uptoBulk d + uptoBulkAll r
def uptoBulkEntries {H : Type} : List (Lit × DataW H) → Nat
  | [] => 0
  | x :: r => uptoBulkEntry x + uptoBulkEntries r
def uptoBulkEntry {H : Type} : Lit × DataW H → Nat
  | (.string bytes, d) => bytes.length + uptoBulk d + 1
  | (_, d) => uptoBulk d + 1
 end
def uptoSmall : (H : Type) → List (DataW H) → Bool := fun _ ds => decide (uptoBulkAll ds ≤ 1048576)
def OpenSpec.upto (s : _root_.Go.ChangeSpec) : _root_.Go.OpenSpec := { _root_.Go.OpenSpec.ofChange s with cond := some uptoSmall }

/-- 'laws.FnExactIsPlan', WHERE WHAT IT READS IS OF BULK AT MOST 1048576: true; the input reads as it did. -/
def fnExactIsPlanUptoRow : OpenClaim := { program := "ytmbbmffoihhdfaadoor", sum := "e1129157d6cd62decbcfe9fd852ca2d9e07654c85c9d37f8b84e6cd11e342b5e", func := "loop.example/g03006/laws.FnExactIsPlan", spec := "fnExactIsPlan", unfollowed := true, recurses := true, named := ["math/bits.deBruijn32tab", "loop.example/g03006/impl.clearTimes"], apart := false, laid := [("math/bits.deBruijn32tab", laid_math_bits_deBruijn32tab), ("loop.example/g03006/impl.clearTimes", laid_loop_example_g03006_impl_clearTimes)], narrowed := true }
def FnExactIsPlanUptoSaid : Prop := fnExactIsPlanUptoRow.holds Tryd.pinned (OpenSpec.upto fnExactIsPlanSpec)

/-- 'laws.FnExactCycle', WHERE WHAT IT READS IS OF BULK AT MOST 1048576: true; the input reads as it did. -/
def fnExactCycleUptoRow : OpenClaim := { program := "ytmbbmffoihhdfaadoor", sum := "e1129157d6cd62decbcfe9fd852ca2d9e07654c85c9d37f8b84e6cd11e342b5e", func := "loop.example/g03006/laws.FnExactCycle", spec := "fnExactCycle", unfollowed := true, recurses := true, named := ["math/bits.deBruijn32tab", "loop.example/g03006/impl.clearTimes"], apart := false, laid := [("math/bits.deBruijn32tab", laid_math_bits_deBruijn32tab), ("loop.example/g03006/impl.clearTimes", laid_loop_example_g03006_impl_clearTimes)], narrowed := true }
def FnExactCycleUptoSaid : Prop := fnExactCycleUptoRow.holds Tryd.pinned (OpenSpec.upto fnExactCycleSpec)

/-- 'laws.FnExactStartOf', WHERE WHAT IT READS IS OF BULK AT MOST 1048576: true; the input reads as it did. -/
def fnExactStartOfUptoRow : OpenClaim := { program := "ytmbbmffoihhdfaadoor", sum := "e1129157d6cd62decbcfe9fd852ca2d9e07654c85c9d37f8b84e6cd11e342b5e", func := "loop.example/g03006/laws.FnExactStartOf", spec := "fnExactStartOf", unfollowed := true, recurses := true, named := ["math/bits.deBruijn32tab", "loop.example/g03006/impl.clearTimes"], apart := false, laid := [("math/bits.deBruijn32tab", laid_math_bits_deBruijn32tab), ("loop.example/g03006/impl.clearTimes", laid_loop_example_g03006_impl_clearTimes)], narrowed := true }
def FnExactStartOfUptoSaid : Prop := fnExactStartOfUptoRow.holds Tryd.pinned (OpenSpec.upto fnExactStartOfSpec)

/-- 'laws.FnExactPlanFor', WHERE WHAT IT READS IS OF BULK AT MOST 1048576: true; the input reads as it did. -/
def fnExactPlanForUptoRow : OpenClaim := { program := "ytmbbmffoihhdfaadoor", sum := "e1129157d6cd62decbcfe9fd852ca2d9e07654c85c9d37f8b84e6cd11e342b5e", func := "loop.example/g03006/laws.FnExactPlanFor", spec := "fnExactPlanFor", unfollowed := true, recurses := true, named := ["math/bits.deBruijn32tab", "loop.example/g03006/impl.clearTimes"], apart := false, laid := [("math/bits.deBruijn32tab", laid_math_bits_deBruijn32tab), ("loop.example/g03006/impl.clearTimes", laid_loop_example_g03006_impl_clearTimes)], narrowed := true }
def FnExactPlanForUptoSaid : Prop := fnExactPlanForUptoRow.holds Tryd.pinned (OpenSpec.upto fnExactPlanForSpec)

/-- 'laws.FnExactPartAt', WHERE WHAT IT READS IS OF BULK AT MOST 1048576: true; the input reads as it did. -/
def fnExactPartAtUptoRow : OpenClaim := { program := "ytmbbmffoihhdfaadoor", sum := "e1129157d6cd62decbcfe9fd852ca2d9e07654c85c9d37f8b84e6cd11e342b5e", func := "loop.example/g03006/laws.FnExactPartAt", spec := "fnExactPartAt", unfollowed := true, recurses := true, named := ["math/bits.deBruijn32tab", "loop.example/g03006/impl.clearTimes"], apart := false, laid := [("math/bits.deBruijn32tab", laid_math_bits_deBruijn32tab), ("loop.example/g03006/impl.clearTimes", laid_loop_example_g03006_impl_clearTimes)], narrowed := true }
def FnExactPartAtUptoSaid : Prop := fnExactPartAtUptoRow.holds Tryd.pinned (OpenSpec.upto fnExactPartAtSpec)

/-- 'laws.FnExactLightAt', WHERE WHAT IT READS IS OF BULK AT MOST 1048576: true; the input reads as it did. -/
def fnExactLightAtUptoRow : OpenClaim := { program := "ytmbbmffoihhdfaadoor", sum := "e1129157d6cd62decbcfe9fd852ca2d9e07654c85c9d37f8b84e6cd11e342b5e", func := "loop.example/g03006/laws.FnExactLightAt", spec := "fnExactLightAt", unfollowed := true, recurses := true, named := ["math/bits.deBruijn32tab", "loop.example/g03006/impl.clearTimes"], apart := false, laid := [("math/bits.deBruijn32tab", laid_math_bits_deBruijn32tab), ("loop.example/g03006/impl.clearTimes", laid_loop_example_g03006_impl_clearTimes)], narrowed := true }
def FnExactLightAtUptoSaid : Prop := fnExactLightAtUptoRow.holds Tryd.pinned (OpenSpec.upto fnExactLightAtSpec)

/-- 'laws.FnExactLightsAt', WHERE WHAT IT READS IS OF BULK AT MOST 1048576: true; the input reads as it did. -/
def fnExactLightsAtUptoRow : OpenClaim := { program := "ytmbbmffoihhdfaadoor", sum := "e1129157d6cd62decbcfe9fd852ca2d9e07654c85c9d37f8b84e6cd11e342b5e", func := "loop.example/g03006/laws.FnExactLightsAt", spec := "fnExactLightsAt", unfollowed := true, recurses := true, named := ["math/bits.deBruijn32tab", "loop.example/g03006/impl.clearTimes"], apart := false, laid := [("math/bits.deBruijn32tab", laid_math_bits_deBruijn32tab), ("loop.example/g03006/impl.clearTimes", laid_loop_example_g03006_impl_clearTimes)], narrowed := true }
def FnExactLightsAtUptoSaid : Prop := fnExactLightsAtUptoRow.holds Tryd.pinned (OpenSpec.upto fnExactLightsAtSpec)

/-- 'laws.FnExactGreenOf', WHERE WHAT IT READS IS OF BULK AT MOST 1048576: true; the input reads as it did. -/
def fnExactGreenOfUptoRow : OpenClaim := { program := "ytmbbmffoihhdfaadoor", sum := "e1129157d6cd62decbcfe9fd852ca2d9e07654c85c9d37f8b84e6cd11e342b5e", func := "loop.example/g03006/laws.FnExactGreenOf", spec := "fnExactGreenOf", unfollowed := true, recurses := true, named := ["math/bits.deBruijn32tab", "loop.example/g03006/impl.clearTimes"], apart := false, laid := [("math/bits.deBruijn32tab", laid_math_bits_deBruijn32tab), ("loop.example/g03006/impl.clearTimes", laid_loop_example_g03006_impl_clearTimes)], narrowed := true }
def FnExactGreenOfUptoSaid : Prop := fnExactGreenOfUptoRow.holds Tryd.pinned (OpenSpec.upto fnExactGreenOfSpec)

/-- 'laws.FnExactWaitOf', WHERE WHAT IT READS IS OF BULK AT MOST 1048576: true; the input reads as it did. -/
def fnExactWaitOfUptoRow : OpenClaim := { program := "ytmbbmffoihhdfaadoor", sum := "e1129157d6cd62decbcfe9fd852ca2d9e07654c85c9d37f8b84e6cd11e342b5e", func := "loop.example/g03006/laws.FnExactWaitOf", spec := "fnExactWaitOf", unfollowed := true, recurses := true, named := ["math/bits.deBruijn32tab", "loop.example/g03006/impl.clearTimes"], apart := false, laid := [("math/bits.deBruijn32tab", laid_math_bits_deBruijn32tab), ("loop.example/g03006/impl.clearTimes", laid_loop_example_g03006_impl_clearTimes)], narrowed := true }
def FnExactWaitOfUptoSaid : Prop := fnExactWaitOfUptoRow.holds Tryd.pinned (OpenSpec.upto fnExactWaitOfSpec)

/-- 'laws.FnExactOpenIn', WHERE WHAT IT READS IS OF BULK AT MOST 1048576: true; the input reads as it did. -/
def fnExactOpenInUptoRow : OpenClaim := { program := "ytmbbmffoihhdfaadoor", sum := "e1129157d6cd62decbcfe9fd852ca2d9e07654c85c9d37f8b84e6cd11e342b5e", func := "loop.example/g03006/laws.FnExactOpenIn", spec := "fnExactOpenIn", unfollowed := true, recurses := true, named := ["math/bits.deBruijn32tab", "loop.example/g03006/impl.clearTimes"], apart := false, laid := [("math/bits.deBruijn32tab", laid_math_bits_deBruijn32tab), ("loop.example/g03006/impl.clearTimes", laid_loop_example_g03006_impl_clearTimes)], narrowed := true }
def FnExactOpenInUptoSaid : Prop := fnExactOpenInUptoRow.holds Tryd.pinned (OpenSpec.upto fnExactOpenInSpec)

/-- 'laws.FnExactGreenShare', WHERE WHAT IT READS IS OF BULK AT MOST 1048576: true; the input reads as it did. -/
def fnExactGreenShareUptoRow : OpenClaim := { program := "ytmbbmffoihhdfaadoor", sum := "e1129157d6cd62decbcfe9fd852ca2d9e07654c85c9d37f8b84e6cd11e342b5e", func := "loop.example/g03006/laws.FnExactGreenShare", spec := "fnExactGreenShare", unfollowed := true, recurses := true, named := ["math/bits.deBruijn32tab", "loop.example/g03006/impl.clearTimes"], apart := false, laid := [("math/bits.deBruijn32tab", laid_math_bits_deBruijn32tab), ("loop.example/g03006/impl.clearTimes", laid_loop_example_g03006_impl_clearTimes)], narrowed := true }
def FnExactGreenShareUptoSaid : Prop := fnExactGreenShareUptoRow.holds Tryd.pinned (OpenSpec.upto fnExactGreenShareSpec)

/-- 'laws.FnExactSpareGreen', WHERE WHAT IT READS IS OF BULK AT MOST 1048576: true; the input reads as it did. -/
def fnExactSpareGreenUptoRow : OpenClaim := { program := "ytmbbmffoihhdfaadoor", sum := "e1129157d6cd62decbcfe9fd852ca2d9e07654c85c9d37f8b84e6cd11e342b5e", func := "loop.example/g03006/laws.FnExactSpareGreen", spec := "fnExactSpareGreen", unfollowed := true, recurses := true, named := ["math/bits.deBruijn32tab", "loop.example/g03006/impl.clearTimes"], apart := false, laid := [("math/bits.deBruijn32tab", laid_math_bits_deBruijn32tab), ("loop.example/g03006/impl.clearTimes", laid_loop_example_g03006_impl_clearTimes)], narrowed := true }
def FnExactSpareGreenUptoSaid : Prop := fnExactSpareGreenUptoRow.holds Tryd.pinned (OpenSpec.upto fnExactSpareGreenSpec)

end Rows
end Go.Proofs.YtmbbmffoihhdfaaDoor
