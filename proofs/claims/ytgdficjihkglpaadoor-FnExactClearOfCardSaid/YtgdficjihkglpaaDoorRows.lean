/-
  NARROWER THAN 'FOR EVERY INPUT', by the rows' own cells (each row's printed sentence says how): FnExactClearOf: laid · FnExactLongestClear: laid.
  DERIVED. THE GIVEN ROWS OF THIS SEAT. 2 by the template 'for every input the law returns true; each argument reads behind the call as it read before'; 0 by the template 'total and deterministic' (their statements: YtgdficjihkglpaaDoorTotals.lean).
  GIVEN WITH THE SEED: the statements are not yours to turn. If you find one false, say at which input.
  Laid BY PROGRAM, IN A SANDBOX (cutbox-rows.mjs): the forced cells as the released guide's own fill.sh prints them over the translation 45ace2bdc0044a9d… (all of the seat's roots in one cut). By AI agents, Wed Nov 11 2026. No macro, syntax, notation, axiom, sorry.
-/
import Derived.Test.YtgdficjihkglpaaDoorChecked
import GoSem.Claim
import GoSem.ClaimJoined
import GoSem.ClaimMapViews
import Derived.JoinedTies
import Derived.KernelRfl
namespace Go.Proofs.YtgdficjihkglpaaDoor
/- THE CELL 'sum', in the pinned program and in every row, IS THE sha256 OF THE DUMP (.gsa) THAT YtgdficjihkglpaaDoorProg.lean LOADS. Nothing in Lean hashes anything: it is a label: what it is worth is what the hold of that sum in a sandbox is worth. -/
noncomputable def Tryd.pinned : Pinned := { name := "ytgdficjihkglpaadoor", sum := "45ace2bdc0044a9d9ea18909fb9caa968f21615b031f9c10f3a322cec3630233", checked := Tryd.checked }
namespace Rows
def none {H : Type} : Left H := { results := [], args := [] }

/- WHAT THE LISTED PACKAGE-LEVEL VARIABLES READ AS WHEN THE CALL BEGINS. Each datum BY PROGRAM (the guide's laid-datum.mjs) off the statement by which the dump's own 'gosem.cut.vars' lays the variable. In a bare row this is a premise. The card (YtgdficjihkglpaaDoorCards.lean) ties it to the program's text. -/
def laid_loop_example_g03006_impl_clearTimes {H : Type} : DataW H := .agg [.lit (.int .i64 0), .lit (.int .i64 2), .lit (.int .i64 5), .lit (.int .i64 3)]

/-- 'laws.FnExactClearOf': WHATEVER THE INPUT: true; the input reads as it did. -/
def fnExactClearOfSpec : ChangeSpec := { name := "fnExactClearOf", vars := ["loop.example/g03006/impl.clearTimes"], fn := fun _ => fun
  | [d, g1] => { results := [.lit (.bool true)], args := [d], vars := [g1] }
  | _ => none }
def fnExactClearOfRow : OpenClaim := { program := "ytgdficjihkglpaadoor", sum := "45ace2bdc0044a9d9ea18909fb9caa968f21615b031f9c10f3a322cec3630233", func := "loop.example/g03006/laws.FnExactClearOf", spec := "fnExactClearOf", named := ["loop.example/g03006/impl.clearTimes"], apart := false, laid := [("loop.example/g03006/impl.clearTimes", laid_loop_example_g03006_impl_clearTimes)] }
def FnExactClearOfSaid : Prop := fnExactClearOfRow.holds Tryd.pinned (OpenSpec.ofChange fnExactClearOfSpec)

/-- ITS FALSE NEIGHBOUR: 'it returns false'. Refute it at one input. -/
def fnExactClearOfWrong : ChangeSpec := { name := "fnExactClearOf", vars := ["loop.example/g03006/impl.clearTimes"], fn := fun _ => fun
  | [d, g1] => { results := [.lit (.bool false)], args := [d], vars := [g1] }
  | _ => none }
def FnExactClearOfWrongFalsely : Prop := fnExactClearOfRow.holds Tryd.pinned (OpenSpec.ofChange fnExactClearOfWrong)

/-- 'laws.FnExactLongestClear': WHATEVER THE INPUT: true; the input reads as it did. -/
def fnExactLongestClearSpec : ChangeSpec := { name := "fnExactLongestClear", vars := ["loop.example/g03006/impl.clearTimes"], fn := fun _ => fun
  | [d, g1] => { results := [.lit (.bool true)], args := [d], vars := [g1] }
  | _ => none }
def fnExactLongestClearRow : OpenClaim := { program := "ytgdficjihkglpaadoor", sum := "45ace2bdc0044a9d9ea18909fb9caa968f21615b031f9c10f3a322cec3630233", func := "loop.example/g03006/laws.FnExactLongestClear", spec := "fnExactLongestClear", named := ["loop.example/g03006/impl.clearTimes"], apart := false, laid := [("loop.example/g03006/impl.clearTimes", laid_loop_example_g03006_impl_clearTimes)] }
def FnExactLongestClearSaid : Prop := fnExactLongestClearRow.holds Tryd.pinned (OpenSpec.ofChange fnExactLongestClearSpec)

/-- ITS FALSE NEIGHBOUR: 'it returns false'. Refute it at one input. -/
def fnExactLongestClearWrong : ChangeSpec := { name := "fnExactLongestClear", vars := ["loop.example/g03006/impl.clearTimes"], fn := fun _ => fun
  | [d, g1] => { results := [.lit (.bool false)], args := [d], vars := [g1] }
  | _ => none }
def FnExactLongestClearWrongFalsely : Prop := fnExactLongestClearRow.holds Tryd.pinned (OpenSpec.ofChange fnExactLongestClearWrong)

/- THE SECOND FORM. 'bulk': how many values and letters a reading holds, each counted each time it is reached (what is shared counts as often as it is met; a slice's spare places count too). A statement '..UptoSaid' is the law's where the arguments, and the package variables that the reading takes, are together of bulk at most 1048576: NARROWER than '..Said'. Prove '..Said' where nothing that the law and all that it calls make is longer than what came in: it says more and counts as full. Else prove '..UptoSaid'. A law counts once. -/
mutual
def uptoBulk {H : Type} : DataW H → Nat
  | .lit (.string bytes) => bytes.length + 1
  | .lit _ => 1
  | .nil => 1
  | .ptr d => uptoBulk d + 1
  | .slice elems spare => uptoBulkAll elems + uptoBulkAll spare + 1
  | .agg parts => uptoBulkAll parts + 1
  | .iface _ d => uptoBulk d + 1
  | .map entries => uptoBulkEntries entries + 1
  | .held _ => 1
def uptoBulkAll {H : Type} : List (DataW H) → Nat
  | [] => 0
  | d :: r => uptoBulk d + uptoBulkAll r
def uptoBulkEntries {H : Type} : List (Lit × DataW H) → Nat
  | [] => 0
  | x :: r => uptoBulkEntry x + uptoBulkEntries r
def uptoBulkEntry {H : Type} : Lit × DataW H → Nat
  | (.string bytes, d) => bytes.length + uptoBulk d + 1
  | (_, d) => uptoBulk d + 1
 end
def uptoSmall : (H : Type) → List (DataW H) → Bool := fun _ ds => decide (uptoBulkAll ds ≤ 1048576)
def OpenSpec.upto (s : _root_.Go.ChangeSpec) : _root_.Go.OpenSpec := { _root_.Go.OpenSpec.ofChange s with cond := some uptoSmall }

/-- 'laws.FnExactClearOf', WHERE WHAT IT READS IS OF BULK AT MOST 1048576: true; the input reads as it did. -/
def fnExactClearOfUptoRow : OpenClaim := { program := "ytgdficjihkglpaadoor", sum := "45ace2bdc0044a9d9ea18909fb9caa968f21615b031f9c10f3a322cec3630233", func := "loop.example/g03006/laws.FnExactClearOf", spec := "fnExactClearOf", named := ["loop.example/g03006/impl.clearTimes"], apart := false, laid := [("loop.example/g03006/impl.clearTimes", laid_loop_example_g03006_impl_clearTimes)], narrowed := true }
def FnExactClearOfUptoSaid : Prop := fnExactClearOfUptoRow.holds Tryd.pinned (OpenSpec.upto fnExactClearOfSpec)

/-- 'laws.FnExactLongestClear', WHERE WHAT IT READS IS OF BULK AT MOST 1048576: true; the input reads as it did. -/
def fnExactLongestClearUptoRow : OpenClaim := { program := "ytgdficjihkglpaadoor", sum := "45ace2bdc0044a9d9ea18909fb9caa968f21615b031f9c10f3a322cec3630233", func := "loop.example/g03006/laws.FnExactLongestClear", spec := "fnExactLongestClear", named := ["loop.example/g03006/impl.clearTimes"], apart := false, laid := [("loop.example/g03006/impl.clearTimes", laid_loop_example_g03006_impl_clearTimes)], narrowed := true }
def FnExactLongestClearUptoSaid : Prop := fnExactLongestClearUptoRow.holds Tryd.pinned (OpenSpec.upto fnExactLongestClearSpec)

end Rows
end Go.Proofs.YtgdficjihkglpaaDoor
