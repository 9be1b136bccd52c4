/-
  NARROWER THAN 'FOR EVERY INPUT', by the rows' own cells (each row's printed sentence says how): FnExactServedAt: laid · FnExactIsWithin: laid · FnExactPlanHistory: laid.
  DERIVED. THE GIVEN ROWS OF THIS SEAT. 3 by the template 'for every input the law returns true; each argument reads behind the call as it read before'; 0 by the template 'total and deterministic' (their statements: YtcbccbefkpklkabGreatDoorTotals.lean).
  GIVEN WITH THE SEED: the statements are not yours to turn. If you find one false, say at which input.
  Laid BY PROGRAM, IN A SANDBOX (cutbox-rows.mjs): the forced cells as the released guide's own fill.sh prints them over the translation da03b20d44689565… (all of the seat's roots in one cut). By AI agents, Wed Nov 11 2026. No macro, syntax, notation, axiom, sorry.
-/
import Derived.Test.YtcbccbefkpklkabGreatDoorChecked
import GoSem.Claim
import GoSem.ClaimJoined
import GoSem.ClaimMapViews
import Derived.JoinedTies
import Derived.KernelRfl
namespace Go.Proofs.YtcbccbefkpklkabGreatDoor
/- THE CELL 'sum', in the pinned program and in every row, IS THE sha256 OF THE DUMP (.gsa) THAT YtcbccbefkpklkabGreatDoorProg.lean LOADS. Nothing in Lean hashes anything: it is a label: what it is worth is what the hold of that sum in a sandbox is worth. -/
noncomputable def Tryz.pinned : Pinned := { name := "ytcbccbefkpklkabgreatdoor", sum := "da03b20d44689565979c396c16790c02331546bbdea418576f0355ed09c17fb1", checked := Tryz.checked }
namespace Rows
def none {H : Type} : Left H := { results := [], args := [] }

/- WHAT THE LISTED PACKAGE-LEVEL VARIABLES READ AS WHEN THE CALL BEGINS. Each datum BY PROGRAM (the guide's laid-datum.mjs) off the statement by which the dump's own 'gosem.cut.vars' lays the variable. In a bare row this is a premise. The card (YtcbccbefkpklkabGreatDoorCards.lean) ties it to the program's text. -/
def laid_math_bits_deBruijn32tab {H : Type} : DataW H := .agg [.lit (.int .u8 0), .lit (.int .u8 1), .lit (.int .u8 28), .lit (.int .u8 2), .lit (.int .u8 29), .lit (.int .u8 14), .lit (.int .u8 24), .lit (.int .u8 3), .lit (.int .u8 30), .lit (.int .u8 22), .lit (.int .u8 20), .lit (.int .u8 15), .lit (.int .u8 25), .lit (.int .u8 17), .lit (.int .u8 4), .lit (.int .u8 8), .lit (.int .u8 31), .lit (.int .u8 27), .lit (.int .u8 13), .lit (.int .u8 23), .lit (.int .u8 21), .lit (.int .u8 19), .lit (.int .u8 16), .lit (.int .u8 7), .lit (.int .u8 26), .lit (.int .u8 12), .lit (.int .u8 18), .lit (.int .u8 6), .lit (.int .u8 11), .lit (.int .u8 5), .lit (.int .u8 10), .lit (.int .u8 9)]
def laid_loop_example_g03006_impl_clearTimes {H : Type} : DataW H := .agg [.lit (.int .i64 0), .lit (.int .i64 2), .lit (.int .i64 5), .lit (.int .i64 3)]

/-- 'laws.FnExactServedAt': WHATEVER THE INPUT: true; the input reads as it did. -/
def fnExactServedAtSpec : ChangeSpec := { name := "fnExactServedAt", vars := ["loop.example/g03006/impl.clearTimes"], fn := fun _ => fun
  | [d1, d2, d3, g1] => { results := [.lit (.bool true)], args := [d1, d2, d3], vars := [g1] }
  | _ => none }
def fnExactServedAtRow : OpenClaim := { program := "ytcbccbefkpklkabgreatdoor", sum := "da03b20d44689565979c396c16790c02331546bbdea418576f0355ed09c17fb1", func := "loop.example/g03006/laws.FnExactServedAt", spec := "fnExactServedAt", unfollowed := true, recurses := true, named := ["math/bits.deBruijn32tab", "loop.example/g03006/impl.clearTimes"], apart := false, laid := [("math/bits.deBruijn32tab", laid_math_bits_deBruijn32tab), ("loop.example/g03006/impl.clearTimes", laid_loop_example_g03006_impl_clearTimes)] }
def FnExactServedAtSaid : Prop := fnExactServedAtRow.holds Tryz.pinned (OpenSpec.ofChange fnExactServedAtSpec)

/-- ITS FALSE NEIGHBOUR: 'it returns false'. Refute it at one input. -/
def fnExactServedAtWrong : ChangeSpec := { name := "fnExactServedAt", vars := ["loop.example/g03006/impl.clearTimes"], fn := fun _ => fun
  | [d1, d2, d3, g1] => { results := [.lit (.bool false)], args := [d1, d2, d3], vars := [g1] }
  | _ => none }
def FnExactServedAtWrongFalsely : Prop := fnExactServedAtRow.holds Tryz.pinned (OpenSpec.ofChange fnExactServedAtWrong)

/-- 'laws.FnExactIsWithin': WHATEVER THE INPUT: true; the input reads as it did. -/
def fnExactIsWithinSpec : ChangeSpec := { name := "fnExactIsWithin", vars := ["loop.example/g03006/impl.clearTimes"], fn := fun _ => fun
  | [d1, d2, d3, d4, g1] => { results := [.lit (.bool true)], args := [d1, d2, d3, d4], vars := [g1] }
  | _ => none }
def fnExactIsWithinRow : OpenClaim := { program := "ytcbccbefkpklkabgreatdoor", sum := "da03b20d44689565979c396c16790c02331546bbdea418576f0355ed09c17fb1", func := "loop.example/g03006/laws.FnExactIsWithin", spec := "fnExactIsWithin", unfollowed := true, recurses := true, named := ["math/bits.deBruijn32tab", "loop.example/g03006/impl.clearTimes"], apart := false, laid := [("math/bits.deBruijn32tab", laid_math_bits_deBruijn32tab), ("loop.example/g03006/impl.clearTimes", laid_loop_example_g03006_impl_clearTimes)] }
def FnExactIsWithinSaid : Prop := fnExactIsWithinRow.holds Tryz.pinned (OpenSpec.ofChange fnExactIsWithinSpec)

/-- ITS FALSE NEIGHBOUR: 'it returns false'. Refute it at one input. -/
def fnExactIsWithinWrong : ChangeSpec := { name := "fnExactIsWithin", vars := ["loop.example/g03006/impl.clearTimes"], fn := fun _ => fun
  | [d1, d2, d3, d4, g1] => { results := [.lit (.bool false)], args := [d1, d2, d3, d4], vars := [g1] }
  | _ => none }
def FnExactIsWithinWrongFalsely : Prop := fnExactIsWithinRow.holds Tryz.pinned (OpenSpec.ofChange fnExactIsWithinWrong)

/-- 'laws.FnExactPlanHistory': WHATEVER THE INPUT: true; the input reads as it did. -/
def fnExactPlanHistorySpec : ChangeSpec := { name := "fnExactPlanHistory", vars := ["loop.example/g03006/impl.clearTimes"], fn := fun _ => fun
  | [d1, d2, d3, d4, g1] => { results := [.lit (.bool true)], args := [d1, d2, d3, d4], vars := [g1] }
  | _ => none }
def fnExactPlanHistoryRow : OpenClaim := { program := "ytcbccbefkpklkabgreatdoor", sum := "da03b20d44689565979c396c16790c02331546bbdea418576f0355ed09c17fb1", func := "loop.example/g03006/laws.FnExactPlanHistory", spec := "fnExactPlanHistory", unfollowed := true, recurses := true, named := ["math/bits.deBruijn32tab", "loop.example/g03006/impl.clearTimes"], apart := false, laid := [("math/bits.deBruijn32tab", laid_math_bits_deBruijn32tab), ("loop.example/g03006/impl.clearTimes", laid_loop_example_g03006_impl_clearTimes)] }
def FnExactPlanHistorySaid : Prop := fnExactPlanHistoryRow.holds Tryz.pinned (OpenSpec.ofChange fnExactPlanHistorySpec)

/-- ITS FALSE NEIGHBOUR: 'it returns false'. Refute it at one input. -/
def fnExactPlanHistoryWrong : ChangeSpec := { name := "fnExactPlanHistory", vars := ["loop.example/g03006/impl.clearTimes"], fn := fun _ => fun
  | [d1, d2, d3, d4, g1] => { results := [.lit (.bool false)], args := [d1, d2, d3, d4], vars := [g1] }
  | _ => none }
def FnExactPlanHistoryWrongFalsely : Prop := fnExactPlanHistoryRow.holds Tryz.pinned (OpenSpec.ofChange fnExactPlanHistoryWrong)

/- THE SECOND FORM. 'bulk': how many values and letters a reading holds, each counted each time it is reached (what is shared counts as often as it is met; a slice's spare places count too). A statement '..UptoSaid' is the law's where the arguments, and the package variables that the reading takes, are together of bulk at most 1048576: NARROWER than '..Said'. Prove '..Said' where nothing that the law and all that it calls make is longer than what came in: it says more and counts as full. Else prove '..UptoSaid'. A law counts once. -/
mutual
def uptoBulk {H : Type} : DataW H → Nat
  | .lit (.string bytes) => bytes.length + 1
  | .lit _ => 1
  | .nil => 1
  | .ptr d => uptoBulk d + 1
  | .slice elems spare => uptoBulkAll elems + uptoBulkAll spare + 1
  | .agg parts => uptoBulkAll parts + 1
  | .iface _ d => uptoBulk d + 1
  | .map entries => uptoBulkEntries entries + 1
  | .held _ => 1
def uptoBulkAll {H : Type} : List (DataW H) → Nat
  | [] => 0
  | d :: r => uptoBulk d + uptoBulkAll r
def uptoBulkEntries {H : Type} : List (Lit × DataW H) → Nat
  | [] => 0
  | x :: r => uptoBulkEntry x + uptoBulkEntries r
def uptoBulkEntry {H : Type} : Lit × DataW H → Nat
  | (.string bytes, d) => bytes.length + uptoBulk d + 1
  | (_, d) => uptoBulk d + 1
 end
def uptoSmall : (H : Type) → List (DataW H) → Bool := fun _ ds => decide (uptoBulkAll ds ≤ 1048576)
def OpenSpec.upto (s : _root_.Go.ChangeSpec) : _root_.Go.OpenSpec := { _root_.Go.OpenSpec.ofChange s with cond := some uptoSmall }

/-- 'laws.FnExactServedAt', WHERE WHAT IT READS IS OF BULK AT MOST 1048576: true; the input reads as it did. -/
def fnExactServedAtUptoRow : OpenClaim := { program := "ytcbccbefkpklkabgreatdoor", sum := "da03b20d44689565979c396c16790c02331546bbdea418576f0355ed09c17fb1", func := "loop.example/g03006/laws.FnExactServedAt", spec := "fnExactServedAt", unfollowed := true, recurses := true, named := ["math/bits.deBruijn32tab", "loop.example/g03006/impl.clearTimes"], apart := false, laid := [("math/bits.deBruijn32tab", laid_math_bits_deBruijn32tab), ("loop.example/g03006/impl.clearTimes", laid_loop_example_g03006_impl_clearTimes)], narrowed := true }
def FnExactServedAtUptoSaid : Prop := fnExactServedAtUptoRow.holds Tryz.pinned (OpenSpec.upto fnExactServedAtSpec)

/-- 'laws.FnExactIsWithin', WHERE WHAT IT READS IS OF BULK AT MOST 1048576: true; the input reads as it did. -/
def fnExactIsWithinUptoRow : OpenClaim := { program := "ytcbccbefkpklkabgreatdoor", sum := "da03b20d44689565979c396c16790c02331546bbdea418576f0355ed09c17fb1", func := "loop.example/g03006/laws.FnExactIsWithin", spec := "fnExactIsWithin", unfollowed := true, recurses := true, named := ["math/bits.deBruijn32tab", "loop.example/g03006/impl.clearTimes"], apart := false, laid := [("math/bits.deBruijn32tab", laid_math_bits_deBruijn32tab), ("loop.example/g03006/impl.clearTimes", laid_loop_example_g03006_impl_clearTimes)], narrowed := true }
def FnExactIsWithinUptoSaid : Prop := fnExactIsWithinUptoRow.holds Tryz.pinned (OpenSpec.upto fnExactIsWithinSpec)

/-- 'laws.FnExactPlanHistory', WHERE WHAT IT READS IS OF BULK AT MOST 1048576: true; the input reads as it did. -/
def fnExactPlanHistoryUptoRow : OpenClaim := { program := "ytcbccbefkpklkabgreatdoor", sum := "da03b20d44689565979c396c16790c02331546bbdea418576f0355ed09c17fb1", func := "loop.example/g03006/laws.FnExactPlanHistory", spec := "fnExactPlanHistory", unfollowed := true, recurses := true, named := ["math/bits.deBruijn32tab", "loop.example/g03006/impl.clearTimes"], apart := false, laid := [("math/bits.deBruijn32tab", laid_math_bits_deBruijn32tab), ("loop.example/g03006/impl.clearTimes", laid_loop_example_g03006_impl_clearTimes)], narrowed := true }
def FnExactPlanHistoryUptoSaid : Prop := fnExactPlanHistoryUptoRow.holds Tryz.pinned (OpenSpec.upto fnExactPlanHistorySpec)

end Rows
end Go.Proofs.YtcbccbefkpklkabGreatDoor
