/-
  NARROWER THAN 'FOR EVERY INPUT', by the rows' own cells (each row's printed sentence says how): FnExactVerdict: laid · FnExactWaitBound: laid.
  DERIVED. THE GIVEN ROWS OF THIS SEAT. 2 by the template 'for every input the law returns true; each argument reads behind the call as it read before'; 0 by the template 'total and deterministic' (their statements: YtdgpodopkfnpeabDoorTotals.lean).
  GIVEN WITH THE SEED: the statements are not yours to turn. If you find one false, say at which input.
  Laid BY PROGRAM, IN A SANDBOX (cutbox-rows.mjs): the forced cells as the released guide's own fill.sh prints them over the translation 9597189b9a95dc00… (all of the seat's roots in one cut). By AI agents, Wed Nov 11 2026. No macro, syntax, notation, axiom, sorry.
-/
import Derived.Test.YtdgpodopkfnpeabDoorChecked
import GoSem.Claim
import GoSem.ClaimJoined
import GoSem.ClaimMapViews
import Derived.JoinedTies
import Derived.KernelRfl
namespace Go.Proofs.YtdgpodopkfnpeabDoor
/- THE CELL 'sum', in the pinned program and in every row, IS THE sha256 OF THE DUMP (.gsa) THAT YtdgpodopkfnpeabDoorProg.lean LOADS. Nothing in Lean hashes anything: it is a label: what it is worth is what the hold of that sum in a sandbox is worth. -/
noncomputable def Tryd.pinned : Pinned := { name := "ytdgpodopkfnpeabdoor", sum := "9597189b9a95dc00fca694c951d963ecd9400ab0641f525c4f64b98ff5390112", checked := Tryd.checked }
namespace Rows
def none {H : Type} : Left H := { results := [], args := [] }

/- WHAT THE LISTED PACKAGE-LEVEL VARIABLES READ AS WHEN THE CALL BEGINS. Each datum BY PROGRAM (the guide's laid-datum.mjs) off the statement by which the dump's own 'gosem.cut.vars' lays the variable. In a bare row this is a premise. The card (YtdgpodopkfnpeabDoorCards.lean) ties it to the program's text. -/
def laid_loop_example_g03006_impl_verdicts {H : Type} : DataW H := .agg [.agg [.lit (.string [110, 101, 105, 116, 104, 101, 114]), .lit (.string [115, 101, 99, 111, 110, 100])], .agg [.lit (.string [102, 105, 114, 115, 116]), .lit (.string [98, 111, 116, 104])]]
def laid_loop_example_g03006_impl_clearTimes {H : Type} : DataW H := .agg [.lit (.int .i64 0), .lit (.int .i64 2), .lit (.int .i64 5), .lit (.int .i64 3)]

/-- 'laws.FnExactVerdict': WHATEVER THE INPUT: true; the input reads as it did. -/
def fnExactVerdictSpec : ChangeSpec := { name := "fnExactVerdict", vars := ["loop.example/g03006/impl.verdicts"], fn := fun _ => fun
  | [d1, d2, g1] => { results := [.lit (.bool true)], args := [d1, d2], vars := [g1] }
  | _ => none }
def fnExactVerdictRow : OpenClaim := { program := "ytdgpodopkfnpeabdoor", sum := "9597189b9a95dc00fca694c951d963ecd9400ab0641f525c4f64b98ff5390112", func := "loop.example/g03006/laws.FnExactVerdict", spec := "fnExactVerdict", named := ["loop.example/g03006/impl.verdicts"], apart := false, laid := [("loop.example/g03006/impl.verdicts", laid_loop_example_g03006_impl_verdicts)] }
def FnExactVerdictSaid : Prop := fnExactVerdictRow.holds Tryd.pinned (OpenSpec.ofChange fnExactVerdictSpec)

/-- ITS FALSE NEIGHBOUR: 'it returns false'. Refute it at one input. -/
def fnExactVerdictWrong : ChangeSpec := { name := "fnExactVerdict", vars := ["loop.example/g03006/impl.verdicts"], fn := fun _ => fun
  | [d1, d2, g1] => { results := [.lit (.bool false)], args := [d1, d2], vars := [g1] }
  | _ => none }
def FnExactVerdictWrongFalsely : Prop := fnExactVerdictRow.holds Tryd.pinned (OpenSpec.ofChange fnExactVerdictWrong)

/-- 'laws.FnExactWaitBound': WHATEVER THE INPUT: true; the input reads as it did. -/
def fnExactWaitBoundSpec : ChangeSpec := { name := "fnExactWaitBound", vars := ["loop.example/g03006/impl.clearTimes"], fn := fun _ => fun
  | [d, g1] => { results := [.lit (.bool true)], args := [d], vars := [g1] }
  | _ => none }
def fnExactWaitBoundRow : OpenClaim := { program := "ytdgpodopkfnpeabdoor", sum := "9597189b9a95dc00fca694c951d963ecd9400ab0641f525c4f64b98ff5390112", func := "loop.example/g03006/laws.FnExactWaitBound", spec := "fnExactWaitBound", named := ["loop.example/g03006/impl.clearTimes"], apart := false, laid := [("loop.example/g03006/impl.clearTimes", laid_loop_example_g03006_impl_clearTimes)] }
def FnExactWaitBoundSaid : Prop := fnExactWaitBoundRow.holds Tryd.pinned (OpenSpec.ofChange fnExactWaitBoundSpec)

/-- ITS FALSE NEIGHBOUR: 'it returns false'. Refute it at one input. -/
def fnExactWaitBoundWrong : ChangeSpec := { name := "fnExactWaitBound", vars := ["loop.example/g03006/impl.clearTimes"], fn := fun _ => fun
  | [d, g1] => { results := [.lit (.bool false)], args := [d], vars := [g1] }
  | _ => none }
def FnExactWaitBoundWrongFalsely : Prop := fnExactWaitBoundRow.holds Tryd.pinned (OpenSpec.ofChange fnExactWaitBoundWrong)

/- THE SECOND FORM. 'bulk': how many values and letters a reading holds, each counted each time it is reached (what is shared counts as often as it is met; a slice's spare places count too). A statement '..UptoSaid' is the law's where the arguments, and the package variables that the reading takes, are together of bulk at most 1048576: NARROWER than '..Said'. Prove '..Said' where nothing that the law and all that it calls make is longer than what came in: it says more and counts as full. Else prove '..UptoSaid'. A law counts once. -/
mutual
def uptoBulk {H : Type} : DataW H → Nat
  | .lit (.string bytes) => bytes.length + 1
  | .lit _ => 1
  | .nil => 1
  | .ptr d => uptoBulk d + 1
  | .slice elems spare => uptoBulkAll elems + uptoBulkAll spare + 1
  | .agg parts => uptoBulkAll parts + 1
  | .iface _ d => uptoBulk d + 1
  | .map entries => uptoBulkEntries entries + 1
  | .held _ => 1
def uptoBulkAll {H : Type} : List (DataW H) → Nat
  | [] => 0
  | d :: r => uptoBulk d + uptoBulkAll r
def uptoBulkEntries {H : Type} : List (Lit × DataW H) → Nat
  | [] => 0
  | x :: r => uptoBulkEntry x + uptoBulkEntries r
def uptoBulkEntry {H : Type} : Lit × DataW H → Nat
  | (.string bytes, d) => bytes.length + uptoBulk d + 1
  | (_, d) => uptoBulk d + 1
 end
def uptoSmall : (H : Type) → List (DataW H) → Bool := fun _ ds => decide (uptoBulkAll ds ≤ 1048576)
def OpenSpec.upto (s : _root_.Go.ChangeSpec) : _root_.Go.OpenSpec := { _root_.Go.OpenSpec.ofChange s with cond := some uptoSmall }

/-- 'laws.FnExactVerdict', WHERE WHAT IT READS IS OF BULK AT MOST 1048576: true; the input reads as it did. -/
def fnExactVerdictUptoRow : OpenClaim := { program := "ytdgpodopkfnpeabdoor", sum := "9597189b9a95dc00fca694c951d963ecd9400ab0641f525c4f64b98ff5390112", func := "loop.example/g03006/laws.FnExactVerdict", spec := "fnExactVerdict", named := ["loop.example/g03006/impl.verdicts"], apart := false, laid := [("loop.example/g03006/impl.verdicts", laid_loop_example_g03006_impl_verdicts)], narrowed := true }
def FnExactVerdictUptoSaid : Prop := fnExactVerdictUptoRow.holds Tryd.pinned (OpenSpec.upto fnExactVerdictSpec)

/-- 'laws.FnExactWaitBound', WHERE WHAT IT READS IS OF BULK AT MOST 1048576: true; the input reads as it did. -/
def fnExactWaitBoundUptoRow : OpenClaim := { program := "ytdgpodopkfnpeabdoor", sum := "9597189b9a95dc00fca694c951d963ecd9400ab0641f525c4f64b98ff5390112", func := "loop.example/g03006/laws.FnExactWaitBound", spec := "fnExactWaitBound", named := ["loop.example/g03006/impl.clearTimes"], apart := false, laid := [("loop.example/g03006/impl.clearTimes", laid_loop_example_g03006_impl_clearTimes)], narrowed := true }
def FnExactWaitBoundUptoSaid : Prop := fnExactWaitBoundUptoRow.holds Tryd.pinned (OpenSpec.upto fnExactWaitBoundSpec)

end Rows
end Go.Proofs.YtdgpodopkfnpeabDoor
