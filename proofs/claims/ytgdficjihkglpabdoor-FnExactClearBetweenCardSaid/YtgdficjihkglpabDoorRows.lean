/-
  NARROWER THAN 'FOR EVERY INPUT', by the rows' own cells (each row's printed sentence says how): FnExactStagesOf: laid · FnExactIsTogether: laid · FnExactIsFullStage: laid · FnExactAddToStage: laid · FnExactCovers: laid · FnExactClearBetween: laid.
  DERIVED. THE GIVEN ROWS OF THIS SEAT. 6 by the template 'for every input the law returns true; each argument reads behind the call as it read before'; 0 by the template 'total and deterministic' (their statements: YtgdficjihkglpabDoorTotals.lean).
  GIVEN WITH THE SEED: the statements are not yours to turn. If you find one false, say at which input.
  Laid BY PROGRAM, IN A SANDBOX (cutbox-rows.mjs): the forced cells as the released guide's own fill.sh prints them over the translation 784f15b20bc7e78c… (all of the seat's roots in one cut). By AI agents, Wed Nov 11 2026. No macro, syntax, notation, axiom, sorry.
-/
import Derived.Test.YtgdficjihkglpabDoorChecked
import GoSem.Claim
import GoSem.ClaimJoined
import GoSem.ClaimMapViews
import Derived.JoinedTies
import Derived.KernelRfl
namespace Go.Proofs.YtgdficjihkglpabDoor
/- THE CELL 'sum', in the pinned program and in every row, IS THE sha256 OF THE DUMP (.gsa) THAT YtgdficjihkglpabDoorProg.lean LOADS. Nothing in Lean hashes anything: it is a label: what it is worth is what the hold of that sum in a sandbox is worth. -/
noncomputable def Tryd.pinned : Pinned := { name := "ytgdficjihkglpabdoor", sum := "784f15b20bc7e78c0b567415c40dc770294a991ad39a2e1df10272f4cc87d7a5", checked := Tryd.checked }
namespace Rows
def none {H : Type} : Left H := { results := [], args := [] }

/- WHAT THE LISTED PACKAGE-LEVEL VARIABLES READ AS WHEN THE CALL BEGINS. Each datum BY PROGRAM (the guide's laid-datum.mjs) off the statement by which the dump's own 'gosem.cut.vars' lays the variable. In a bare row this is a premise. The card (YtgdficjihkglpabDoorCards.lean) ties it to the program's text. -/
def laid_math_bits_deBruijn32tab {H : Type} : DataW H := .agg [.lit (.int .u8 0), .lit (.int .u8 1), .lit (.int .u8 28), .lit (.int .u8 2), .lit (.int .u8 29), .lit (.int .u8 14), .lit (.int .u8 24), .lit (.int .u8 3), .lit (.int .u8 30), .lit (.int .u8 22), .lit (.int .u8 20), .lit (.int .u8 15), .lit (.int .u8 25), .lit (.int .u8 17), .lit (.int .u8 4), .lit (.int .u8 8), .lit (.int .u8 31), .lit (.int .u8 27), .lit (.int .u8 13), .lit (.int .u8 23), .lit (.int .u8 21), .lit (.int .u8 19), .lit (.int .u8 16), .lit (.int .u8 7), .lit (.int .u8 26), .lit (.int .u8 12), .lit (.int .u8 18), .lit (.int .u8 6), .lit (.int .u8 11), .lit (.int .u8 5), .lit (.int .u8 10), .lit (.int .u8 9)]
def laid_loop_example_g03006_impl_clearTimes {H : Type} : DataW H := .agg [.lit (.int .i64 0), .lit (.int .i64 2), .lit (.int .i64 5), .lit (.int .i64 3)]

/-- 'laws.FnExactStagesOf': WHATEVER THE INPUT: true; the input reads as it did. -/
def fnExactStagesOfSpec : ChangeSpec := { name := "fnExactStagesOf", fn := fun _ => fun
  | [d] => { results := [.lit (.bool true)], args := [d] }
  | _ => none }
def fnExactStagesOfRow : OpenClaim := { program := "ytgdficjihkglpabdoor", sum := "784f15b20bc7e78c0b567415c40dc770294a991ad39a2e1df10272f4cc87d7a5", func := "loop.example/g03006/laws.FnExactStagesOf", spec := "fnExactStagesOf", inPlace := ["internal/abi.NoEscape"], unfollowed := true, recurses := true, named := ["math/bits.deBruijn32tab"], apart := false, laid := [("math/bits.deBruijn32tab", laid_math_bits_deBruijn32tab)] }
def FnExactStagesOfSaid : Prop := fnExactStagesOfRow.holds Tryd.pinned (OpenSpec.ofChange fnExactStagesOfSpec)

/-- ITS FALSE NEIGHBOUR: 'it returns false'. Refute it at one input. -/
def fnExactStagesOfWrong : ChangeSpec := { name := "fnExactStagesOf", fn := fun _ => fun
  | [d] => { results := [.lit (.bool false)], args := [d] }
  | _ => none }
def FnExactStagesOfWrongFalsely : Prop := fnExactStagesOfRow.holds Tryd.pinned (OpenSpec.ofChange fnExactStagesOfWrong)

/-- 'laws.FnExactIsTogether': WHATEVER THE INPUT: true; the input reads as it did. -/
def fnExactIsTogetherSpec : ChangeSpec := { name := "fnExactIsTogether", fn := fun _ => fun
  | [d1, d2] => { results := [.lit (.bool true)], args := [d1, d2] }
  | _ => none }
def fnExactIsTogetherRow : OpenClaim := { program := "ytgdficjihkglpabdoor", sum := "784f15b20bc7e78c0b567415c40dc770294a991ad39a2e1df10272f4cc87d7a5", func := "loop.example/g03006/laws.FnExactIsTogether", spec := "fnExactIsTogether", unfollowed := true, recurses := true, named := ["math/bits.deBruijn32tab"], apart := false, laid := [("math/bits.deBruijn32tab", laid_math_bits_deBruijn32tab)] }
def FnExactIsTogetherSaid : Prop := fnExactIsTogetherRow.holds Tryd.pinned (OpenSpec.ofChange fnExactIsTogetherSpec)

/-- ITS FALSE NEIGHBOUR: 'it returns false'. Refute it at one input. -/
def fnExactIsTogetherWrong : ChangeSpec := { name := "fnExactIsTogether", fn := fun _ => fun
  | [d1, d2] => { results := [.lit (.bool false)], args := [d1, d2] }
  | _ => none }
def FnExactIsTogetherWrongFalsely : Prop := fnExactIsTogetherRow.holds Tryd.pinned (OpenSpec.ofChange fnExactIsTogetherWrong)

/-- 'laws.FnExactIsFullStage': WHATEVER THE INPUT: true; the input reads as it did. -/
def fnExactIsFullStageSpec : ChangeSpec := { name := "fnExactIsFullStage", fn := fun _ => fun
  | [d1, d2] => { results := [.lit (.bool true)], args := [d1, d2] }
  | _ => none }
def fnExactIsFullStageRow : OpenClaim := { program := "ytgdficjihkglpabdoor", sum := "784f15b20bc7e78c0b567415c40dc770294a991ad39a2e1df10272f4cc87d7a5", func := "loop.example/g03006/laws.FnExactIsFullStage", spec := "fnExactIsFullStage", unfollowed := true, recurses := true, named := ["math/bits.deBruijn32tab"], apart := false, laid := [("math/bits.deBruijn32tab", laid_math_bits_deBruijn32tab)] }
def FnExactIsFullStageSaid : Prop := fnExactIsFullStageRow.holds Tryd.pinned (OpenSpec.ofChange fnExactIsFullStageSpec)

/-- ITS FALSE NEIGHBOUR: 'it returns false'. Refute it at one input. -/
def fnExactIsFullStageWrong : ChangeSpec := { name := "fnExactIsFullStage", fn := fun _ => fun
  | [d1, d2] => { results := [.lit (.bool false)], args := [d1, d2] }
  | _ => none }
def FnExactIsFullStageWrongFalsely : Prop := fnExactIsFullStageRow.holds Tryd.pinned (OpenSpec.ofChange fnExactIsFullStageWrong)

/-- 'laws.FnExactAddToStage': WHATEVER THE INPUT: true; the input reads as it did. -/
def fnExactAddToStageSpec : ChangeSpec := { name := "fnExactAddToStage", fn := fun _ => fun
  | [d1, d2] => { results := [.lit (.bool true)], args := [d1, d2] }
  | _ => none }
def fnExactAddToStageRow : OpenClaim := { program := "ytgdficjihkglpabdoor", sum := "784f15b20bc7e78c0b567415c40dc770294a991ad39a2e1df10272f4cc87d7a5", func := "loop.example/g03006/laws.FnExactAddToStage", spec := "fnExactAddToStage", unfollowed := true, recurses := true, named := ["math/bits.deBruijn32tab"], apart := false, laid := [("math/bits.deBruijn32tab", laid_math_bits_deBruijn32tab)] }
def FnExactAddToStageSaid : Prop := fnExactAddToStageRow.holds Tryd.pinned (OpenSpec.ofChange fnExactAddToStageSpec)

/-- ITS FALSE NEIGHBOUR: 'it returns false'. Refute it at one input. -/
def fnExactAddToStageWrong : ChangeSpec := { name := "fnExactAddToStage", fn := fun _ => fun
  | [d1, d2] => { results := [.lit (.bool false)], args := [d1, d2] }
  | _ => none }
def FnExactAddToStageWrongFalsely : Prop := fnExactAddToStageRow.holds Tryd.pinned (OpenSpec.ofChange fnExactAddToStageWrong)

/-- 'laws.FnExactCovers': WHATEVER THE INPUT: true; the input reads as it did. -/
def fnExactCoversSpec : ChangeSpec := { name := "fnExactCovers", fn := fun _ => fun
  | [d1, d2] => { results := [.lit (.bool true)], args := [d1, d2] }
  | _ => none }
def fnExactCoversRow : OpenClaim := { program := "ytgdficjihkglpabdoor", sum := "784f15b20bc7e78c0b567415c40dc770294a991ad39a2e1df10272f4cc87d7a5", func := "loop.example/g03006/laws.FnExactCovers", spec := "fnExactCovers", unfollowed := true, recurses := true, named := ["math/bits.deBruijn32tab"], apart := false, laid := [("math/bits.deBruijn32tab", laid_math_bits_deBruijn32tab)] }
def FnExactCoversSaid : Prop := fnExactCoversRow.holds Tryd.pinned (OpenSpec.ofChange fnExactCoversSpec)

/-- ITS FALSE NEIGHBOUR: 'it returns false'. Refute it at one input. -/
def fnExactCoversWrong : ChangeSpec := { name := "fnExactCovers", fn := fun _ => fun
  | [d1, d2] => { results := [.lit (.bool false)], args := [d1, d2] }
  | _ => none }
def FnExactCoversWrongFalsely : Prop := fnExactCoversRow.holds Tryd.pinned (OpenSpec.ofChange fnExactCoversWrong)

/-- 'laws.FnExactClearBetween': WHATEVER THE INPUT: true; the input reads as it did. -/
def fnExactClearBetweenSpec : ChangeSpec := { name := "fnExactClearBetween", vars := ["loop.example/g03006/impl.clearTimes"], fn := fun _ => fun
  | [d1, d2, d3, g1] => { results := [.lit (.bool true)], args := [d1, d2, d3], vars := [g1] }
  | _ => none }
def fnExactClearBetweenRow : OpenClaim := { program := "ytgdficjihkglpabdoor", sum := "784f15b20bc7e78c0b567415c40dc770294a991ad39a2e1df10272f4cc87d7a5", func := "loop.example/g03006/laws.FnExactClearBetween", spec := "fnExactClearBetween", unfollowed := true, recurses := true, named := ["math/bits.deBruijn32tab", "loop.example/g03006/impl.clearTimes"], apart := false, laid := [("math/bits.deBruijn32tab", laid_math_bits_deBruijn32tab), ("loop.example/g03006/impl.clearTimes", laid_loop_example_g03006_impl_clearTimes)] }
def FnExactClearBetweenSaid : Prop := fnExactClearBetweenRow.holds Tryd.pinned (OpenSpec.ofChange fnExactClearBetweenSpec)

/-- ITS FALSE NEIGHBOUR: 'it returns false'. Refute it at one input. -/
def fnExactClearBetweenWrong : ChangeSpec := { name := "fnExactClearBetween", vars := ["loop.example/g03006/impl.clearTimes"], fn := fun _ => fun
  | [d1, d2, d3, g1] => { results := [.lit (.bool false)], args := [d1, d2, d3], vars := [g1] }
  | _ => none }
def FnExactClearBetweenWrongFalsely : Prop := fnExactClearBetweenRow.holds Tryd.pinned (OpenSpec.ofChange fnExactClearBetweenWrong)

/- THE SECOND FORM. 'bulk': how many values and letters a reading holds, each counted each time it is reached (what is shared counts as often as it is met; a slice's spare places count too). A statement '..UptoSaid' is the law's where the arguments, and the package variables that the reading takes, are together of bulk at most 1048576: NARROWER than '..Said'. Prove '..Said' where nothing that the law and all that it calls make is longer than what came in: it says more and counts as full. Else prove '..UptoSaid'. A law counts once. -/
mutual
def uptoBulk {H : Type} : DataW H → Nat
  | .lit (.string bytes) => bytes.length + 1
  | .lit _ => 1
  | .nil => 1
  | .ptr d => uptoBulk d + 1
  | .slice elems spare => uptoBulkAll elems + uptoBulkAll spare + 1
  | .agg parts => uptoBulkAll parts + 1
  | .iface _ d => uptoBulk d + 1
  | .map entries => uptoBulkEntries entries + 1
  | .held _ => 1
def uptoBulkAll {H : Type} : List (DataW H) → Nat
  | [] => 0
  | d :: r => uptoBulk d + uptoBulkAll r
def uptoBulkEntries {H : Type} : List (Lit × DataW H) → Nat
  | [] => 0
  | x :: r => uptoBulkEntry x + uptoBulkEntries r
def uptoBulkEntry {H : Type} : Lit × DataW H → Nat
  | (.string bytes, d) => bytes.length + uptoBulk d + 1
  | (_, d) => uptoBulk d + 1
 end
def uptoSmall : (H : Type) → List (DataW H) → Bool := fun _ ds => decide (uptoBulkAll ds ≤ 1048576)
def OpenSpec.upto (s : _root_.Go.ChangeSpec) : _root_.Go.OpenSpec := { _root_.Go.OpenSpec.ofChange s with cond := some uptoSmall }

/-- 'laws.FnExactStagesOf', WHERE WHAT IT READS IS OF BULK AT MOST 1048576: true; the input reads as it did. -/
def fnExactStagesOfUptoRow : OpenClaim := { program := "ytgdficjihkglpabdoor", sum := "784f15b20bc7e78c0b567415c40dc770294a991ad39a2e1df10272f4cc87d7a5", func := "loop.example/g03006/laws.FnExactStagesOf", spec := "fnExactStagesOf", inPlace := ["internal/abi.NoEscape"], unfollowed := true, recurses := true, named := ["math/bits.deBruijn32tab"], apart := false, laid := [("math/bits.deBruijn32tab", laid_math_bits_deBruijn32tab)], narrowed := true }
def FnExactStagesOfUptoSaid : Prop := fnExactStagesOfUptoRow.holds Tryd.pinned (OpenSpec.upto fnExactStagesOfSpec)

/-- 'laws.FnExactIsTogether', WHERE WHAT IT READS IS OF BULK AT MOST 1048576: true; the input reads as it did. -/
def fnExactIsTogetherUptoRow : OpenClaim := { program := "ytgdficjihkglpabdoor", sum := "784f15b20bc7e78c0b567415c40dc770294a991ad39a2e1df10272f4cc87d7a5", func := "loop.example/g03006/laws.FnExactIsTogether", spec := "fnExactIsTogether", unfollowed := true, recurses := true, named := ["math/bits.deBruijn32tab"], apart := false, laid := [("math/bits.deBruijn32tab", laid_math_bits_deBruijn32tab)], narrowed := true }
def FnExactIsTogetherUptoSaid : Prop := fnExactIsTogetherUptoRow.holds Tryd.pinned (OpenSpec.upto fnExactIsTogetherSpec)

/-- 'laws.FnExactIsFullStage', WHERE WHAT IT READS IS OF BULK AT MOST 1048576: true; the input reads as it did. -/
def fnExactIsFullStageUptoRow : OpenClaim := { program := "ytgdficjihkglpabdoor", sum := "784f15b20bc7e78c0b567415c40dc770294a991ad39a2e1df10272f4cc87d7a5", func := "loop.example/g03006/laws.FnExactIsFullStage", spec := "fnExactIsFullStage", unfollowed := true, recurses := true, named := ["math/bits.deBruijn32tab"], apart := false, laid := [("math/bits.deBruijn32tab", laid_math_bits_deBruijn32tab)], narrowed := true }
def FnExactIsFullStageUptoSaid : Prop := fnExactIsFullStageUptoRow.holds Tryd.pinned (OpenSpec.upto fnExactIsFullStageSpec)

/-- 'laws.FnExactAddToStage', WHERE WHAT IT READS IS OF BULK AT MOST 1048576: true; the input reads as it did. -/
def fnExactAddToStageUptoRow : OpenClaim := { program := "ytgdficjihkglpabdoor", sum := "784f15b20bc7e78c0b567415c40dc770294a991ad39a2e1df10272f4cc87d7a5", func := "loop.example/g03006/laws.FnExactAddToStage", spec := "fnExactAddToStage", unfollowed := true, recurses := true, named := ["math/bits.deBruijn32tab"], apart := false, laid := [("math/bits.deBruijn32tab", laid_math_bits_deBruijn32tab)], narrowed := true }
def FnExactAddToStageUptoSaid : Prop := fnExactAddToStageUptoRow.holds Tryd.pinned (OpenSpec.upto fnExactAddToStageSpec)

/-- 'laws.FnExactCovers', WHERE WHAT IT READS IS OF BULK AT MOST 1048576: true; the input reads as it did. -/
def fnExactCoversUptoRow : OpenClaim := { program := "ytgdficjihkglpabdoor", sum := "784f15b20bc7e78c0b567415c40dc770294a991ad39a2e1df10272f4cc87d7a5", func := "loop.example/g03006/laws.FnExactCovers", spec := "fnExactCovers", unfollowed := true, recurses := true, named := ["math/bits.deBruijn32tab"], apart := false, laid := [("math/bits.deBruijn32tab", laid_math_bits_deBruijn32tab)], narrowed := true }
def FnExactCoversUptoSaid : Prop := fnExactCoversUptoRow.holds Tryd.pinned (OpenSpec.upto fnExactCoversSpec)

/-- 'laws.FnExactClearBetween', WHERE WHAT IT READS IS OF BULK AT MOST 1048576: true; the input reads as it did. -/
def fnExactClearBetweenUptoRow : OpenClaim := { program := "ytgdficjihkglpabdoor", sum := "784f15b20bc7e78c0b567415c40dc770294a991ad39a2e1df10272f4cc87d7a5", func := "loop.example/g03006/laws.FnExactClearBetween", spec := "fnExactClearBetween", unfollowed := true, recurses := true, named := ["math/bits.deBruijn32tab", "loop.example/g03006/impl.clearTimes"], apart := false, laid := [("math/bits.deBruijn32tab", laid_math_bits_deBruijn32tab), ("loop.example/g03006/impl.clearTimes", laid_loop_example_g03006_impl_clearTimes)], narrowed := true }
def FnExactClearBetweenUptoSaid : Prop := fnExactClearBetweenUptoRow.holds Tryd.pinned (OpenSpec.upto fnExactClearBetweenSpec)

end Rows
end Go.Proofs.YtgdficjihkglpabDoor
