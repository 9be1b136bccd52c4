/-
  NARROWER THAN 'FOR EVERY INPUT', by the rows' own cells (each row's printed sentence says how): FnExactAllServices: laid · FnExactShareOfKind: laid · FnExactShareGreen: laid · FnExactPlanHistory: laid · FnExactMakeSwitch: laid.
  DERIVED. THE GIVEN ROWS OF THIS SEAT. 5 by the template 'for every input the law returns true; each argument reads behind the call as it read before'; 0 by the template 'total and deterministic' (their statements: YtlpkafhapmkkfaaGreatDoorTotals.lean).
  GIVEN WITH THE SEED: the statements are not yours to turn. If you find one false, say at which input.
  Laid BY PROGRAM, IN A SANDBOX (cutbox-rows.mjs): the forced cells as the released guide's own fill.sh prints them over the translation 69161922fbaeb63d… (all of the seat's roots in one cut). By AI agents, Wed Nov 11 2026. No macro, syntax, notation, axiom, sorry.
-/
import Derived.Test.YtlpkafhapmkkfaaGreatDoorChecked
import GoSem.Claim
import GoSem.ClaimJoined
import GoSem.ClaimMapViews
import Derived.JoinedTies
import Derived.KernelRfl
namespace Go.Proofs.YtlpkafhapmkkfaaGreatDoor
/- THE CELL 'sum', in the pinned program and in every row, IS THE sha256 OF THE DUMP (.gsa) THAT YtlpkafhapmkkfaaGreatDoorProg.lean LOADS. Nothing in Lean hashes anything: it is a label: what it is worth is what the hold of that sum in a sandbox is worth. -/
noncomputable def Tryz.pinned : Pinned := { name := "ytlpkafhapmkkfaagreatdoor", sum := "69161922fbaeb63d00a8f1894b3ed6798a816f0214f650196ab2198df4b503ed", checked := Tryz.checked }
namespace Rows
def none {H : Type} : Left H := { results := [], args := [] }

/- WHAT THE LISTED PACKAGE-LEVEL VARIABLES READ AS WHEN THE CALL BEGINS. Each datum BY PROGRAM (the guide's laid-datum.mjs) off the statement by which the dump's own 'gosem.cut.vars' lays the variable. In a bare row this is a premise. The card (YtlpkafhapmkkfaaGreatDoorCards.lean) ties it to the program's text. -/
def laid_math_bits_deBruijn32tab {H : Type} : DataW H := .agg [.lit (.int .u8 0), .lit (.int .u8 1), .lit (.int .u8 28), .lit (.int .u8 2), .lit (.int .u8 29), .lit (.int .u8 14), .lit (.int .u8 24), .lit (.int .u8 3), .lit (.int .u8 30), .lit (.int .u8 22), .lit (.int .u8 20), .lit (.int .u8 15), .lit (.int .u8 25), .lit (.int .u8 17), .lit (.int .u8 4), .lit (.int .u8 8), .lit (.int .u8 31), .lit (.int .u8 27), .lit (.int .u8 13), .lit (.int .u8 23), .lit (.int .u8 21), .lit (.int .u8 19), .lit (.int .u8 16), .lit (.int .u8 7), .lit (.int .u8 26), .lit (.int .u8 12), .lit (.int .u8 18), .lit (.int .u8 6), .lit (.int .u8 11), .lit (.int .u8 5), .lit (.int .u8 10), .lit (.int .u8 9)]
def laid_loop_example_g03006_impl_clearTimes {H : Type} : DataW H := .agg [.lit (.int .i64 0), .lit (.int .i64 2), .lit (.int .i64 5), .lit (.int .i64 3)]

/-- 'laws.FnExactAllServices': WHATEVER THE INPUT: true; the input reads as it did. -/
def fnExactAllServicesSpec : ChangeSpec := { name := "fnExactAllServices", vars := ["loop.example/g03006/impl.clearTimes"], fn := fun _ => fun
  | [d1, d2, g1] => { results := [.lit (.bool true)], args := [d1, d2], vars := [g1] }
  | _ => none }
def fnExactAllServicesRow : OpenClaim := { program := "ytlpkafhapmkkfaagreatdoor", sum := "69161922fbaeb63d00a8f1894b3ed6798a816f0214f650196ab2198df4b503ed", func := "loop.example/g03006/laws.FnExactAllServices", spec := "fnExactAllServices", unfollowed := true, recurses := true, named := ["math/bits.deBruijn32tab", "loop.example/g03006/impl.clearTimes"], apart := false, laid := [("math/bits.deBruijn32tab", laid_math_bits_deBruijn32tab), ("loop.example/g03006/impl.clearTimes", laid_loop_example_g03006_impl_clearTimes)] }
def FnExactAllServicesSaid : Prop := fnExactAllServicesRow.holds Tryz.pinned (OpenSpec.ofChange fnExactAllServicesSpec)

/-- ITS FALSE NEIGHBOUR: 'it returns false'. Refute it at one input. -/
def fnExactAllServicesWrong : ChangeSpec := { name := "fnExactAllServices", vars := ["loop.example/g03006/impl.clearTimes"], fn := fun _ => fun
  | [d1, d2, g1] => { results := [.lit (.bool false)], args := [d1, d2], vars := [g1] }
  | _ => none }
def FnExactAllServicesWrongFalsely : Prop := fnExactAllServicesRow.holds Tryz.pinned (OpenSpec.ofChange fnExactAllServicesWrong)

/-- 'laws.FnExactShareOfKind': WHATEVER THE INPUT: true; the input reads as it did. -/
def fnExactShareOfKindSpec : ChangeSpec := { name := "fnExactShareOfKind", vars := ["loop.example/g03006/impl.clearTimes"], fn := fun _ => fun
  | [d1, d2, d3, g1] => { results := [.lit (.bool true)], args := [d1, d2, d3], vars := [g1] }
  | _ => none }
def fnExactShareOfKindRow : OpenClaim := { program := "ytlpkafhapmkkfaagreatdoor", sum := "69161922fbaeb63d00a8f1894b3ed6798a816f0214f650196ab2198df4b503ed", func := "loop.example/g03006/laws.FnExactShareOfKind", spec := "fnExactShareOfKind", unfollowed := true, recurses := true, named := ["math/bits.deBruijn32tab", "loop.example/g03006/impl.clearTimes"], apart := false, laid := [("math/bits.deBruijn32tab", laid_math_bits_deBruijn32tab), ("loop.example/g03006/impl.clearTimes", laid_loop_example_g03006_impl_clearTimes)] }
def FnExactShareOfKindSaid : Prop := fnExactShareOfKindRow.holds Tryz.pinned (OpenSpec.ofChange fnExactShareOfKindSpec)

/-- ITS FALSE NEIGHBOUR: 'it returns false'. Refute it at one input. -/
def fnExactShareOfKindWrong : ChangeSpec := { name := "fnExactShareOfKind", vars := ["loop.example/g03006/impl.clearTimes"], fn := fun _ => fun
  | [d1, d2, d3, g1] => { results := [.lit (.bool false)], args := [d1, d2, d3], vars := [g1] }
  | _ => none }
def FnExactShareOfKindWrongFalsely : Prop := fnExactShareOfKindRow.holds Tryz.pinned (OpenSpec.ofChange fnExactShareOfKindWrong)

/-- 'laws.FnExactShareGreen': WHATEVER THE INPUT: true; the input reads as it did. -/
def fnExactShareGreenSpec : ChangeSpec := { name := "fnExactShareGreen", vars := ["loop.example/g03006/impl.clearTimes"], fn := fun _ => fun
  | [d1, d2, d3, d4, g1] => { results := [.lit (.bool true)], args := [d1, d2, d3, d4], vars := [g1] }
  | _ => none }
def fnExactShareGreenRow : OpenClaim := { program := "ytlpkafhapmkkfaagreatdoor", sum := "69161922fbaeb63d00a8f1894b3ed6798a816f0214f650196ab2198df4b503ed", func := "loop.example/g03006/laws.FnExactShareGreen", spec := "fnExactShareGreen", unfollowed := true, recurses := true, named := ["math/bits.deBruijn32tab", "loop.example/g03006/impl.clearTimes"], apart := false, laid := [("math/bits.deBruijn32tab", laid_math_bits_deBruijn32tab), ("loop.example/g03006/impl.clearTimes", laid_loop_example_g03006_impl_clearTimes)] }
def FnExactShareGreenSaid : Prop := fnExactShareGreenRow.holds Tryz.pinned (OpenSpec.ofChange fnExactShareGreenSpec)

/-- ITS FALSE NEIGHBOUR: 'it returns false'. Refute it at one input. -/
def fnExactShareGreenWrong : ChangeSpec := { name := "fnExactShareGreen", vars := ["loop.example/g03006/impl.clearTimes"], fn := fun _ => fun
  | [d1, d2, d3, d4, g1] => { results := [.lit (.bool false)], args := [d1, d2, d3, d4], vars := [g1] }
  | _ => none }
def FnExactShareGreenWrongFalsely : Prop := fnExactShareGreenRow.holds Tryz.pinned (OpenSpec.ofChange fnExactShareGreenWrong)

/-- 'laws.FnExactPlanHistory': WHATEVER THE INPUT: true; the input reads as it did. -/
def fnExactPlanHistorySpec : ChangeSpec := { name := "fnExactPlanHistory", vars := ["loop.example/g03006/impl.clearTimes"], fn := fun _ => fun
  | [d1, d2, d3, d4, g1] => { results := [.lit (.bool true)], args := [d1, d2, d3, d4], vars := [g1] }
  | _ => none }
def fnExactPlanHistoryRow : OpenClaim := { program := "ytlpkafhapmkkfaagreatdoor", sum := "69161922fbaeb63d00a8f1894b3ed6798a816f0214f650196ab2198df4b503ed", func := "loop.example/g03006/laws.FnExactPlanHistory", spec := "fnExactPlanHistory", unfollowed := true, recurses := true, named := ["math/bits.deBruijn32tab", "loop.example/g03006/impl.clearTimes"], apart := false, laid := [("math/bits.deBruijn32tab", laid_math_bits_deBruijn32tab), ("loop.example/g03006/impl.clearTimes", laid_loop_example_g03006_impl_clearTimes)] }
def FnExactPlanHistorySaid : Prop := fnExactPlanHistoryRow.holds Tryz.pinned (OpenSpec.ofChange fnExactPlanHistorySpec)

/-- ITS FALSE NEIGHBOUR: 'it returns false'. Refute it at one input. -/
def fnExactPlanHistoryWrong : ChangeSpec := { name := "fnExactPlanHistory", vars := ["loop.example/g03006/impl.clearTimes"], fn := fun _ => fun
  | [d1, d2, d3, d4, g1] => { results := [.lit (.bool false)], args := [d1, d2, d3, d4], vars := [g1] }
  | _ => none }
def FnExactPlanHistoryWrongFalsely : Prop := fnExactPlanHistoryRow.holds Tryz.pinned (OpenSpec.ofChange fnExactPlanHistoryWrong)

/-- 'laws.FnExactMakeSwitch': WHATEVER THE INPUT: true; the input reads as it did. -/
def fnExactMakeSwitchSpec : ChangeSpec := { name := "fnExactMakeSwitch", vars := ["loop.example/g03006/impl.clearTimes"], fn := fun _ => fun
  | [d1, d2, d3, g1] => { results := [.lit (.bool true)], args := [d1, d2, d3], vars := [g1] }
  | _ => none }
def fnExactMakeSwitchRow : OpenClaim := { program := "ytlpkafhapmkkfaagreatdoor", sum := "69161922fbaeb63d00a8f1894b3ed6798a816f0214f650196ab2198df4b503ed", func := "loop.example/g03006/laws.FnExactMakeSwitch", spec := "fnExactMakeSwitch", unfollowed := true, recurses := true, named := ["math/bits.deBruijn32tab", "loop.example/g03006/impl.clearTimes"], apart := false, laid := [("math/bits.deBruijn32tab", laid_math_bits_deBruijn32tab), ("loop.example/g03006/impl.clearTimes", laid_loop_example_g03006_impl_clearTimes)] }
def FnExactMakeSwitchSaid : Prop := fnExactMakeSwitchRow.holds Tryz.pinned (OpenSpec.ofChange fnExactMakeSwitchSpec)

/-- ITS FALSE NEIGHBOUR: 'it returns false'. Refute it at one input. -/
def fnExactMakeSwitchWrong : ChangeSpec := { name := "fnExactMakeSwitch", vars := ["loop.example/g03006/impl.clearTimes"], fn := fun _ => fun
  | [d1, d2, d3, g1] => { results := [.lit (.bool false)], args := [d1, d2, d3], vars := [g1] }
  | _ => none }
def FnExactMakeSwitchWrongFalsely : Prop := fnExactMakeSwitchRow.holds Tryz.pinned (OpenSpec.ofChange fnExactMakeSwitchWrong)

/- THE SECOND FORM. 'bulk': how many values and letters a reading holds, each counted each time it is reached (what is shared counts as often as it is met; a slice's spare places count too). A statement '..UptoSaid' is the law's where the arguments, and the package variables that the reading takes, are together of bulk at most 1048576: NARROWER than '..Said'. Prove '..Said' where nothing that the law and all that it calls make is longer than what came in: it says more and counts as full. Else prove '..UptoSaid'. A law counts once. -/
mutual
def uptoBulk {H : Type} : DataW H → Nat
  | .lit (.string bytes) => bytes.length + 1
  | .lit _ => 1
  | .nil => 1
  | .ptr d => uptoBulk d + 1
  | .slice elems spare => uptoBulkAll elems + uptoBulkAll spare + 1
  | .agg parts => uptoBulkAll parts + 1
  | .iface _ d => uptoBulk d + 1
  | .map entries => uptoBulkEntries entries + 1
  | .held _ => 1
def uptoBulkAll {H : Type} : List (DataW H) → Nat
  | [] => 0
  | d :: r => uptoBulk d + uptoBulkAll r
def uptoBulkEntries {H : Type} : List (Lit × DataW H) → Nat
  | [] => 0
  | x :: r => uptoBulkEntry x + uptoBulkEntries r
def uptoBulkEntry {H : Type} : Lit × DataW H → Nat
  | (.string bytes, d) => bytes.length + uptoBulk d + 1
  | (_, d) => uptoBulk d + 1
 end
def uptoSmall : (H : Type) → List (DataW H) → Bool := fun _ ds => decide (uptoBulkAll ds ≤ 1048576)
def OpenSpec.upto (s : _root_.Go.ChangeSpec) : _root_.Go.OpenSpec := { _root_.Go.OpenSpec.ofChange s with cond := some uptoSmall }

/-- 'laws.FnExactAllServices', WHERE WHAT IT READS IS OF BULK AT MOST 1048576: true; the input reads as it did. -/
def fnExactAllServicesUptoRow : OpenClaim := { program := "ytlpkafhapmkkfaagreatdoor", sum := "69161922fbaeb63d00a8f1894b3ed6798a816f0214f650196ab2198df4b503ed", func := "loop.example/g03006/laws.FnExactAllServices", spec := "fnExactAllServices", unfollowed := true, recurses := true, named := ["math/bits.deBruijn32tab", "loop.example/g03006/impl.clearTimes"], apart := false, laid := [("math/bits.deBruijn32tab", laid_math_bits_deBruijn32tab), ("loop.example/g03006/impl.clearTimes", laid_loop_example_g03006_impl_clearTimes)], narrowed := true }
def FnExactAllServicesUptoSaid : Prop := fnExactAllServicesUptoRow.holds Tryz.pinned (OpenSpec.upto fnExactAllServicesSpec)

/-- 'laws.FnExactShareOfKind', WHERE WHAT IT READS IS OF BULK AT MOST 1048576: true; the input reads as it did. -/
def fnExactShareOfKindUptoRow : OpenClaim := { program := "ytlpkafhapmkkfaagreatdoor", sum := "69161922fbaeb63d00a8f1894b3ed6798a816f0214f650196ab2198df4b503ed", func := "loop.example/g03006/laws.FnExactShareOfKind", spec := "fnExactShareOfKind", unfollowed := true, recurses := true, named := ["math/bits.deBruijn32tab", "loop.example/g03006/impl.clearTimes"], apart := false, laid := [("math/bits.deBruijn32tab", laid_math_bits_deBruijn32tab), ("loop.example/g03006/impl.clearTimes", laid_loop_example_g03006_impl_clearTimes)], narrowed := true }
def FnExactShareOfKindUptoSaid : Prop := fnExactShareOfKindUptoRow.holds Tryz.pinned (OpenSpec.upto fnExactShareOfKindSpec)

/-- 'laws.FnExactShareGreen', WHERE WHAT IT READS IS OF BULK AT MOST 1048576: true; the input reads as it did. -/
def fnExactShareGreenUptoRow : OpenClaim := { program := "ytlpkafhapmkkfaagreatdoor", sum := "69161922fbaeb63d00a8f1894b3ed6798a816f0214f650196ab2198df4b503ed", func := "loop.example/g03006/laws.FnExactShareGreen", spec := "fnExactShareGreen", unfollowed := true, recurses := true, named := ["math/bits.deBruijn32tab", "loop.example/g03006/impl.clearTimes"], apart := false, laid := [("math/bits.deBruijn32tab", laid_math_bits_deBruijn32tab), ("loop.example/g03006/impl.clearTimes", laid_loop_example_g03006_impl_clearTimes)], narrowed := true }
def FnExactShareGreenUptoSaid : Prop := fnExactShareGreenUptoRow.holds Tryz.pinned (OpenSpec.upto fnExactShareGreenSpec)

/-- 'laws.FnExactPlanHistory', WHERE WHAT IT READS IS OF BULK AT MOST 1048576: true; the input reads as it did. -/
def fnExactPlanHistoryUptoRow : OpenClaim := { program := "ytlpkafhapmkkfaagreatdoor", sum := "69161922fbaeb63d00a8f1894b3ed6798a816f0214f650196ab2198df4b503ed", func := "loop.example/g03006/laws.FnExactPlanHistory", spec := "fnExactPlanHistory", unfollowed := true, recurses := true, named := ["math/bits.deBruijn32tab", "loop.example/g03006/impl.clearTimes"], apart := false, laid := [("math/bits.deBruijn32tab", laid_math_bits_deBruijn32tab), ("loop.example/g03006/impl.clearTimes", laid_loop_example_g03006_impl_clearTimes)], narrowed := true }
def FnExactPlanHistoryUptoSaid : Prop := fnExactPlanHistoryUptoRow.holds Tryz.pinned (OpenSpec.upto fnExactPlanHistorySpec)

/-- 'laws.FnExactMakeSwitch', WHERE WHAT IT READS IS OF BULK AT MOST 1048576: true; the input reads as it did. -/
def fnExactMakeSwitchUptoRow : OpenClaim := { program := "ytlpkafhapmkkfaagreatdoor", sum := "69161922fbaeb63d00a8f1894b3ed6798a816f0214f650196ab2198df4b503ed", func := "loop.example/g03006/laws.FnExactMakeSwitch", spec := "fnExactMakeSwitch", unfollowed := true, recurses := true, named := ["math/bits.deBruijn32tab", "loop.example/g03006/impl.clearTimes"], apart := false, laid := [("math/bits.deBruijn32tab", laid_math_bits_deBruijn32tab), ("loop.example/g03006/impl.clearTimes", laid_loop_example_g03006_impl_clearTimes)], narrowed := true }
def FnExactMakeSwitchUptoSaid : Prop := fnExactMakeSwitchUptoRow.holds Tryz.pinned (OpenSpec.upto fnExactMakeSwitchSpec)

end Rows
end Go.Proofs.YtlpkafhapmkkfaaGreatDoor
