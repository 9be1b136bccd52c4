/-
  No cell of these rows narrows 'for every input' (looked for: loops, veiled, ifaces, maps, wideKeys, modest, calm, conditions, laid).
  DERIVED. THE GIVEN ROWS OF THIS SEAT. 6 by the template 'for every input the law returns true; each argument reads behind the call as it read before'; 0 by the template 'total and deterministic' (their statements: YtgdficjihkglpabTotals.lean).
  GIVEN WITH THE SEED: the statements are not yours to turn. If you find one false, say at which input.
  Laid BY PROGRAM, IN A SANDBOX (cutbox-rows.mjs): the forced cells as the released guide's own fill.sh prints them over the translation ce690d47d1e228e7… (all of the seat's roots in one cut). By AI agents, Wed Nov 11 2026. No macro, syntax, notation, axiom, sorry.
-/
import Derived.Test.YtgdficjihkglpabChecked
import GoSem.Claim
import GoSem.ClaimJoined
import GoSem.ClaimMapViews
import Derived.JoinedTies
import Derived.KernelRfl
namespace Go.Proofs.Ytgdficjihkglpab
/- THE CELL 'sum', in the pinned program and in every row, IS THE sha256 OF THE DUMP (.gsa) THAT YtgdficjihkglpabProg.lean LOADS. Nothing in Lean hashes anything: it is a label: what it is worth is what the hold of that sum in a sandbox is worth. -/
noncomputable def Try.pinned : Pinned := { name := "ytgdficjihkglpab", sum := "ce690d47d1e228e79f872a628940acc6c75027a588b16fc7fcbec69be27dc850", checked := Try.checked }
namespace Rows
def none {H : Type} : Left H := { results := [], args := [] }

/-- 'laws.FnExactSameStages': WHATEVER THE INPUT: true; the input reads as it did. -/
def fnExactSameStagesSpec : ChangeSpec := { name := "fnExactSameStages", fn := fun _ => fun
  | [d1, d2] => { results := [.lit (.bool true)], args := [d1, d2] }
  | _ => none }
def fnExactSameStagesRow : OpenClaim := { program := "ytgdficjihkglpab", sum := "ce690d47d1e228e79f872a628940acc6c75027a588b16fc7fcbec69be27dc850", func := "loop.example/g03006/laws.FnExactSameStages", spec := "fnExactSameStages", unfollowed := true, recurses := true, apart := false }
def FnExactSameStagesSaid : Prop := fnExactSameStagesRow.holds Try.pinned (OpenSpec.ofChange fnExactSameStagesSpec)

/-- ITS FALSE NEIGHBOUR: 'it returns false'. Refute it at one input. -/
def fnExactSameStagesWrong : ChangeSpec := { name := "fnExactSameStages", fn := fun _ => fun
  | [d1, d2] => { results := [.lit (.bool false)], args := [d1, d2] }
  | _ => none }
def FnExactSameStagesWrongFalsely : Prop := fnExactSameStagesRow.holds Try.pinned (OpenSpec.ofChange fnExactSameStagesWrong)

/-- 'laws.FnExactTotalGreen': WHATEVER THE INPUT: true; the input reads as it did. -/
def fnExactTotalGreenSpec : ChangeSpec := { name := "fnExactTotalGreen", fn := fun _ => fun
  | [d] => { results := [.lit (.bool true)], args := [d] }
  | _ => none }
def fnExactTotalGreenRow : OpenClaim := { program := "ytgdficjihkglpab", sum := "ce690d47d1e228e79f872a628940acc6c75027a588b16fc7fcbec69be27dc850", func := "loop.example/g03006/laws.FnExactTotalGreen", spec := "fnExactTotalGreen", apart := false }
def FnExactTotalGreenSaid : Prop := fnExactTotalGreenRow.holds Try.pinned (OpenSpec.ofChange fnExactTotalGreenSpec)

/-- ITS FALSE NEIGHBOUR: 'it returns false'. Refute it at one input. -/
def fnExactTotalGreenWrong : ChangeSpec := { name := "fnExactTotalGreen", fn := fun _ => fun
  | [d] => { results := [.lit (.bool false)], args := [d] }
  | _ => none }
def FnExactTotalGreenWrongFalsely : Prop := fnExactTotalGreenRow.holds Try.pinned (OpenSpec.ofChange fnExactTotalGreenWrong)

/-- 'laws.FnExactQueueStep': WHATEVER THE INPUT: true; the input reads as it did. -/
def fnExactQueueStepSpec : ChangeSpec := { name := "fnExactQueueStep", fn := fun _ => fun
  | [d1, d2, d3] => { results := [.lit (.bool true)], args := [d1, d2, d3] }
  | _ => none }
def fnExactQueueStepRow : OpenClaim := { program := "ytgdficjihkglpab", sum := "ce690d47d1e228e79f872a628940acc6c75027a588b16fc7fcbec69be27dc850", func := "loop.example/g03006/laws.FnExactQueueStep", spec := "fnExactQueueStep", apart := false }
def FnExactQueueStepSaid : Prop := fnExactQueueStepRow.holds Try.pinned (OpenSpec.ofChange fnExactQueueStepSpec)

/-- ITS FALSE NEIGHBOUR: 'it returns false'. Refute it at one input. -/
def fnExactQueueStepWrong : ChangeSpec := { name := "fnExactQueueStep", fn := fun _ => fun
  | [d1, d2, d3] => { results := [.lit (.bool false)], args := [d1, d2, d3] }
  | _ => none }
def FnExactQueueStepWrongFalsely : Prop := fnExactQueueStepRow.holds Try.pinned (OpenSpec.ofChange fnExactQueueStepWrong)

/-- 'laws.FnExactQueueRun': WHATEVER THE INPUT: true; the input reads as it did. -/
def fnExactQueueRunSpec : ChangeSpec := { name := "fnExactQueueRun", fn := fun _ => fun
  | [d1, d2] => { results := [.lit (.bool true)], args := [d1, d2] }
  | _ => none }
def fnExactQueueRunRow : OpenClaim := { program := "ytgdficjihkglpab", sum := "ce690d47d1e228e79f872a628940acc6c75027a588b16fc7fcbec69be27dc850", func := "loop.example/g03006/laws.FnExactQueueRun", spec := "fnExactQueueRun", unfollowed := true, recurses := true, apart := false }
def FnExactQueueRunSaid : Prop := fnExactQueueRunRow.holds Try.pinned (OpenSpec.ofChange fnExactQueueRunSpec)

/-- ITS FALSE NEIGHBOUR: 'it returns false'. Refute it at one input. -/
def fnExactQueueRunWrong : ChangeSpec := { name := "fnExactQueueRun", fn := fun _ => fun
  | [d1, d2] => { results := [.lit (.bool false)], args := [d1, d2] }
  | _ => none }
def FnExactQueueRunWrongFalsely : Prop := fnExactQueueRunRow.holds Try.pinned (OpenSpec.ofChange fnExactQueueRunWrong)

/-- 'laws.FnExactTotalWait': WHATEVER THE INPUT: true; the input reads as it did. -/
def fnExactTotalWaitSpec : ChangeSpec := { name := "fnExactTotalWait", fn := fun _ => fun
  | [d] => { results := [.lit (.bool true)], args := [d] }
  | _ => none }
def fnExactTotalWaitRow : OpenClaim := { program := "ytgdficjihkglpab", sum := "ce690d47d1e228e79f872a628940acc6c75027a588b16fc7fcbec69be27dc850", func := "loop.example/g03006/laws.FnExactTotalWait", spec := "fnExactTotalWait", apart := false }
def FnExactTotalWaitSaid : Prop := fnExactTotalWaitRow.holds Try.pinned (OpenSpec.ofChange fnExactTotalWaitSpec)

/-- ITS FALSE NEIGHBOUR: 'it returns false'. Refute it at one input. -/
def fnExactTotalWaitWrong : ChangeSpec := { name := "fnExactTotalWait", fn := fun _ => fun
  | [d] => { results := [.lit (.bool false)], args := [d] }
  | _ => none }
def FnExactTotalWaitWrongFalsely : Prop := fnExactTotalWaitRow.holds Try.pinned (OpenSpec.ofChange fnExactTotalWaitWrong)

/-- 'laws.FnExactIsServed': WHATEVER THE INPUT: true; the input reads as it did. -/
def fnExactIsServedSpec : ChangeSpec := { name := "fnExactIsServed", fn := fun _ => fun
  | [d] => { results := [.lit (.bool true)], args := [d] }
  | _ => none }
def fnExactIsServedRow : OpenClaim := { program := "ytgdficjihkglpab", sum := "ce690d47d1e228e79f872a628940acc6c75027a588b16fc7fcbec69be27dc850", func := "loop.example/g03006/laws.FnExactIsServed", spec := "fnExactIsServed", apart := false }
def FnExactIsServedSaid : Prop := fnExactIsServedRow.holds Try.pinned (OpenSpec.ofChange fnExactIsServedSpec)

/-- ITS FALSE NEIGHBOUR: 'it returns false'. Refute it at one input. -/
def fnExactIsServedWrong : ChangeSpec := { name := "fnExactIsServed", fn := fun _ => fun
  | [d] => { results := [.lit (.bool false)], args := [d] }
  | _ => none }
def FnExactIsServedWrongFalsely : Prop := fnExactIsServedRow.holds Try.pinned (OpenSpec.ofChange fnExactIsServedWrong)

/- THE SECOND FORM. 'bulk': how many values and letters a reading holds, each counted each time it is reached (what is shared counts as often as it is met; a slice's spare places count too). A statement '..UptoSaid' is the law's where the arguments, and the package variables that the reading takes, are together of bulk at most 1048576: NARROWER than '..Said'. Prove '..Said' where nothing that the law and all that it calls make is longer than what came in: it says more and counts as full. Else prove '..UptoSaid'. A law counts once. -/
mutual
def uptoBulk {H : Type} : DataW H → Nat
  | .lit (.string bytes) => bytes.length + 1
  | .lit _ => 1
  | .nil => 1
  | .ptr d => uptoBulk d + 1
  | .slice elems spare => uptoBulkAll elems + uptoBulkAll spare + 1
  | .agg parts => uptoBulkAll parts + 1
  | .iface _ d => uptoBulk d + 1
  | .map entries => uptoBulkEntries entries + 1
  | .held _ => 1
def uptoBulkAll {H : Type} : List (DataW H) → Nat
  | [] => 0
  | d :: r => uptoBulk d + uptoBulkAll r
def uptoBulkEntries {H : Type} : List (Lit × DataW H) → Nat
  | [] => 0
  | x :: r => uptoBulkEntry x + uptoBulkEntries r
def uptoBulkEntry {H : Type} : Lit × DataW H → Nat
  | (.string bytes, d) => bytes.length + uptoBulk d + 1
  | (_, d) => uptoBulk d + 1
 end
def uptoSmall : (H : Type) → List (DataW H) → Bool := fun _ ds => decide (uptoBulkAll ds ≤ 1048576)
def OpenSpec.upto (s : _root_.Go.ChangeSpec) : _root_.Go.OpenSpec := { _root_.Go.OpenSpec.ofChange s with cond := some uptoSmall }

/-- 'laws.FnExactSameStages', WHERE WHAT IT READS IS OF BULK AT MOST 1048576: true; the input reads as it did. -/
def fnExactSameStagesUptoRow : OpenClaim := { program := "ytgdficjihkglpab", sum := "ce690d47d1e228e79f872a628940acc6c75027a588b16fc7fcbec69be27dc850", func := "loop.example/g03006/laws.FnExactSameStages", spec := "fnExactSameStages", unfollowed := true, recurses := true, apart := false, narrowed := true }
def FnExactSameStagesUptoSaid : Prop := fnExactSameStagesUptoRow.holds Try.pinned (OpenSpec.upto fnExactSameStagesSpec)

/-- 'laws.FnExactTotalGreen', WHERE WHAT IT READS IS OF BULK AT MOST 1048576: true; the input reads as it did. -/
def fnExactTotalGreenUptoRow : OpenClaim := { program := "ytgdficjihkglpab", sum := "ce690d47d1e228e79f872a628940acc6c75027a588b16fc7fcbec69be27dc850", func := "loop.example/g03006/laws.FnExactTotalGreen", spec := "fnExactTotalGreen", apart := false, narrowed := true }
def FnExactTotalGreenUptoSaid : Prop := fnExactTotalGreenUptoRow.holds Try.pinned (OpenSpec.upto fnExactTotalGreenSpec)

/-- 'laws.FnExactQueueStep', WHERE WHAT IT READS IS OF BULK AT MOST 1048576: true; the input reads as it did. -/
def fnExactQueueStepUptoRow : OpenClaim := { program := "ytgdficjihkglpab", sum := "ce690d47d1e228e79f872a628940acc6c75027a588b16fc7fcbec69be27dc850", func := "loop.example/g03006/laws.FnExactQueueStep", spec := "fnExactQueueStep", apart := false, narrowed := true }
def FnExactQueueStepUptoSaid : Prop := fnExactQueueStepUptoRow.holds Try.pinned (OpenSpec.upto fnExactQueueStepSpec)

/-- 'laws.FnExactQueueRun', WHERE WHAT IT READS IS OF BULK AT MOST 1048576: true; the input reads as it did. -/
def fnExactQueueRunUptoRow : OpenClaim := { program := "ytgdficjihkglpab", sum := "ce690d47d1e228e79f872a628940acc6c75027a588b16fc7fcbec69be27dc850", func := "loop.example/g03006/laws.FnExactQueueRun", spec := "fnExactQueueRun", unfollowed := true, recurses := true, apart := false, narrowed := true }
def FnExactQueueRunUptoSaid : Prop := fnExactQueueRunUptoRow.holds Try.pinned (OpenSpec.upto fnExactQueueRunSpec)

/-- 'laws.FnExactTotalWait', WHERE WHAT IT READS IS OF BULK AT MOST 1048576: true; the input reads as it did. -/
def fnExactTotalWaitUptoRow : OpenClaim := { program := "ytgdficjihkglpab", sum := "ce690d47d1e228e79f872a628940acc6c75027a588b16fc7fcbec69be27dc850", func := "loop.example/g03006/laws.FnExactTotalWait", spec := "fnExactTotalWait", apart := false, narrowed := true }
def FnExactTotalWaitUptoSaid : Prop := fnExactTotalWaitUptoRow.holds Try.pinned (OpenSpec.upto fnExactTotalWaitSpec)

/-- 'laws.FnExactIsServed', WHERE WHAT IT READS IS OF BULK AT MOST 1048576: true; the input reads as it did. -/
def fnExactIsServedUptoRow : OpenClaim := { program := "ytgdficjihkglpab", sum := "ce690d47d1e228e79f872a628940acc6c75027a588b16fc7fcbec69be27dc850", func := "loop.example/g03006/laws.FnExactIsServed", spec := "fnExactIsServed", apart := false, narrowed := true }
def FnExactIsServedUptoSaid : Prop := fnExactIsServedUptoRow.holds Try.pinned (OpenSpec.upto fnExactIsServedSpec)

end Rows
end Go.Proofs.Ytgdficjihkglpab
