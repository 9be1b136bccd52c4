/-
  NARROWER THAN 'FOR EVERY INPUT', by the rows' own cells (each row's printed sentence says how): FnExactTickControl: laid · FnExactAskStage: laid · FnExactCanCut: laid · FnExactLongestSiren: laid.
  DERIVED. THE GIVEN ROWS OF THIS SEAT. 4 by the template 'for every input the law returns true; each argument reads behind the call as it read before'; 0 by the template 'total and deterministic' (their statements: YtmpcbkonelcceaaDoorTotals.lean).
  GIVEN WITH THE SEED: the statements are not yours to turn. If you find one false, say at which input.
  Laid BY PROGRAM, IN A SANDBOX (cutbox-rows.mjs): the forced cells as the released guide's own fill.sh prints them over the translation 2b22b722e32b4515… (all of the seat's roots in one cut). By AI agents, Wed Nov 11 2026. No macro, syntax, notation, axiom, sorry.
-/
import Derived.Test.YtmpcbkonelcceaaDoorChecked
import GoSem.Claim
import GoSem.ClaimJoined
import GoSem.ClaimMapViews
import Derived.JoinedTies
import Derived.KernelRfl
namespace Go.Proofs.YtmpcbkonelcceaaDoor
/- THE CELL 'sum', in the pinned program and in every row, IS THE sha256 OF THE DUMP (.gsa) THAT YtmpcbkonelcceaaDoorProg.lean LOADS. Nothing in Lean hashes anything: it is a label: what it is worth is what the hold of that sum in a sandbox is worth. -/
noncomputable def Tryd.pinned : Pinned := { name := "ytmpcbkonelcceaadoor", sum := "2b22b722e32b4515ae205320b4429d751156181eaa78fceccb1f7cc572e76f6f", checked := Tryd.checked }
namespace Rows
def none {H : Type} : Left H := { results := [], args := [] }

/- WHAT THE LISTED PACKAGE-LEVEL VARIABLES READ AS WHEN THE CALL BEGINS. Each datum BY PROGRAM (the guide's laid-datum.mjs) off the statement by which the dump's own 'gosem.cut.vars' lays the variable. In a bare row this is a premise. The card (YtmpcbkonelcceaaDoorCards.lean) ties it to the program's text. -/
def laid_math_bits_deBruijn32tab {H : Type} : DataW H := .agg [.lit (.int .u8 0), .lit (.int .u8 1), .lit (.int .u8 28), .lit (.int .u8 2), .lit (.int .u8 29), .lit (.int .u8 14), .lit (.int .u8 24), .lit (.int .u8 3), .lit (.int .u8 30), .lit (.int .u8 22), .lit (.int .u8 20), .lit (.int .u8 15), .lit (.int .u8 25), .lit (.int .u8 17), .lit (.int .u8 4), .lit (.int .u8 8), .lit (.int .u8 31), .lit (.int .u8 27), .lit (.int .u8 13), .lit (.int .u8 23), .lit (.int .u8 21), .lit (.int .u8 19), .lit (.int .u8 16), .lit (.int .u8 7), .lit (.int .u8 26), .lit (.int .u8 12), .lit (.int .u8 18), .lit (.int .u8 6), .lit (.int .u8 11), .lit (.int .u8 5), .lit (.int .u8 10), .lit (.int .u8 9)]
def laid_loop_example_g03006_impl_clearTimes {H : Type} : DataW H := .agg [.lit (.int .i64 0), .lit (.int .i64 2), .lit (.int .i64 5), .lit (.int .i64 3)]
def laid_loop_example_g03006_impl_sirenTimes {H : Type} : DataW H := .agg [.lit (.int .i64 0), .lit (.int .i64 4), .lit (.int .i64 7), .lit (.int .i64 4)]

/-- 'laws.FnExactTickControl': WHATEVER THE INPUT: true; the input reads as it did. -/
def fnExactTickControlSpec : ChangeSpec := { name := "fnExactTickControl", vars := ["loop.example/g03006/impl.clearTimes"], fn := fun _ => fun
  | [d1, d2, g1] => { results := [.lit (.bool true)], args := [d1, d2], vars := [g1] }
  | _ => none }
def fnExactTickControlRow : OpenClaim := { program := "ytmpcbkonelcceaadoor", sum := "2b22b722e32b4515ae205320b4429d751156181eaa78fceccb1f7cc572e76f6f", func := "loop.example/g03006/laws.FnExactTickControl", spec := "fnExactTickControl", unfollowed := true, recurses := true, named := ["math/bits.deBruijn32tab", "loop.example/g03006/impl.clearTimes"], apart := false, laid := [("math/bits.deBruijn32tab", laid_math_bits_deBruijn32tab), ("loop.example/g03006/impl.clearTimes", laid_loop_example_g03006_impl_clearTimes)] }
def FnExactTickControlSaid : Prop := fnExactTickControlRow.holds Tryd.pinned (OpenSpec.ofChange fnExactTickControlSpec)

/-- ITS FALSE NEIGHBOUR: 'it returns false'. Refute it at one input. -/
def fnExactTickControlWrong : ChangeSpec := { name := "fnExactTickControl", vars := ["loop.example/g03006/impl.clearTimes"], fn := fun _ => fun
  | [d1, d2, g1] => { results := [.lit (.bool false)], args := [d1, d2], vars := [g1] }
  | _ => none }
def FnExactTickControlWrongFalsely : Prop := fnExactTickControlRow.holds Tryd.pinned (OpenSpec.ofChange fnExactTickControlWrong)

/-- 'laws.FnExactAskStage': WHATEVER THE INPUT: true; the input reads as it did. -/
def fnExactAskStageSpec : ChangeSpec := { name := "fnExactAskStage", vars := ["loop.example/g03006/impl.clearTimes"], fn := fun _ => fun
  | [d1, d2, d3, g1] => { results := [.lit (.bool true)], args := [d1, d2, d3], vars := [g1] }
  | _ => none }
def fnExactAskStageRow : OpenClaim := { program := "ytmpcbkonelcceaadoor", sum := "2b22b722e32b4515ae205320b4429d751156181eaa78fceccb1f7cc572e76f6f", func := "loop.example/g03006/laws.FnExactAskStage", spec := "fnExactAskStage", unfollowed := true, recurses := true, named := ["math/bits.deBruijn32tab", "loop.example/g03006/impl.clearTimes"], apart := false, laid := [("math/bits.deBruijn32tab", laid_math_bits_deBruijn32tab), ("loop.example/g03006/impl.clearTimes", laid_loop_example_g03006_impl_clearTimes)] }
def FnExactAskStageSaid : Prop := fnExactAskStageRow.holds Tryd.pinned (OpenSpec.ofChange fnExactAskStageSpec)

/-- ITS FALSE NEIGHBOUR: 'it returns false'. Refute it at one input. -/
def fnExactAskStageWrong : ChangeSpec := { name := "fnExactAskStage", vars := ["loop.example/g03006/impl.clearTimes"], fn := fun _ => fun
  | [d1, d2, d3, g1] => { results := [.lit (.bool false)], args := [d1, d2, d3], vars := [g1] }
  | _ => none }
def FnExactAskStageWrongFalsely : Prop := fnExactAskStageRow.holds Tryd.pinned (OpenSpec.ofChange fnExactAskStageWrong)

/-- 'laws.FnExactCanCut': WHATEVER THE INPUT: true; the input reads as it did. -/
def fnExactCanCutSpec : ChangeSpec := { name := "fnExactCanCut", vars := ["loop.example/g03006/impl.clearTimes", "loop.example/g03006/impl.sirenTimes"], fn := fun _ => fun
  | [d1, d2, g1, g2] => { results := [.lit (.bool true)], args := [d1, d2], vars := [g1, g2] }
  | _ => none }
def fnExactCanCutRow : OpenClaim := { program := "ytmpcbkonelcceaadoor", sum := "2b22b722e32b4515ae205320b4429d751156181eaa78fceccb1f7cc572e76f6f", func := "loop.example/g03006/laws.FnExactCanCut", spec := "fnExactCanCut", unfollowed := true, recurses := true, named := ["math/bits.deBruijn32tab", "loop.example/g03006/impl.clearTimes", "loop.example/g03006/impl.sirenTimes"], apart := false, laid := [("math/bits.deBruijn32tab", laid_math_bits_deBruijn32tab), ("loop.example/g03006/impl.clearTimes", laid_loop_example_g03006_impl_clearTimes), ("loop.example/g03006/impl.sirenTimes", laid_loop_example_g03006_impl_sirenTimes)] }
def FnExactCanCutSaid : Prop := fnExactCanCutRow.holds Tryd.pinned (OpenSpec.ofChange fnExactCanCutSpec)

/-- ITS FALSE NEIGHBOUR: 'it returns false'. Refute it at one input. -/
def fnExactCanCutWrong : ChangeSpec := { name := "fnExactCanCut", vars := ["loop.example/g03006/impl.clearTimes", "loop.example/g03006/impl.sirenTimes"], fn := fun _ => fun
  | [d1, d2, g1, g2] => { results := [.lit (.bool false)], args := [d1, d2], vars := [g1, g2] }
  | _ => none }
def FnExactCanCutWrongFalsely : Prop := fnExactCanCutRow.holds Tryd.pinned (OpenSpec.ofChange fnExactCanCutWrong)

/-- 'laws.FnExactLongestSiren': WHATEVER THE INPUT: true; the input reads as it did. -/
def fnExactLongestSirenSpec : ChangeSpec := { name := "fnExactLongestSiren", vars := ["loop.example/g03006/impl.clearTimes"], fn := fun _ => fun
  | [d, g1] => { results := [.lit (.bool true)], args := [d], vars := [g1] }
  | _ => none }
def fnExactLongestSirenRow : OpenClaim := { program := "ytmpcbkonelcceaadoor", sum := "2b22b722e32b4515ae205320b4429d751156181eaa78fceccb1f7cc572e76f6f", func := "loop.example/g03006/laws.FnExactLongestSiren", spec := "fnExactLongestSiren", named := ["loop.example/g03006/impl.clearTimes"], apart := false, laid := [("loop.example/g03006/impl.clearTimes", laid_loop_example_g03006_impl_clearTimes)] }
def FnExactLongestSirenSaid : Prop := fnExactLongestSirenRow.holds Tryd.pinned (OpenSpec.ofChange fnExactLongestSirenSpec)

/-- ITS FALSE NEIGHBOUR: 'it returns false'. Refute it at one input. -/
def fnExactLongestSirenWrong : ChangeSpec := { name := "fnExactLongestSiren", vars := ["loop.example/g03006/impl.clearTimes"], fn := fun _ => fun
  | [d, g1] => { results := [.lit (.bool false)], args := [d], vars := [g1] }
  | _ => none }
def FnExactLongestSirenWrongFalsely : Prop := fnExactLongestSirenRow.holds Tryd.pinned (OpenSpec.ofChange fnExactLongestSirenWrong)

/- THE SECOND FORM. 'bulk': how many values and letters a reading holds, each counted each time it is reached (what is shared counts as often as it is met; a slice's spare places count too). A statement '..UptoSaid' is the law's where the arguments, and the package variables that the reading takes, are together of bulk at most 1048576: NARROWER than '..Said'. Prove '..Said' where nothing that the law and all that it calls make is longer than what came in: it says more and counts as full. Else prove '..UptoSaid'. A law counts once. -/
mutual
def uptoBulk {H : Type} : DataW H → Nat
  | .lit (.string bytes) => bytes.length + 1
  | .lit _ => 1
  | .nil => 1
  | .ptr d => uptoBulk d + 1
  | .slice elems spare => uptoBulkAll elems + uptoBulkAll spare + 1
  | .agg parts => uptoBulkAll parts + 1
  | .iface _ d => uptoBulk d + 1
  | .map entries => uptoBulkEntries entries + 1
  | .held _ => 1
def uptoBulkAll {H : Type} : List (DataW H) → Nat
  | [] => 0
  | d :: r => uptoBulk d + uptoBulkAll r
def uptoBulkEntries {H : Type} : List (Lit × DataW H) → Nat
  | [] => 0
  | x :: r => uptoBulkEntry x + uptoBulkEntries r
def uptoBulkEntry {H : Type} : Lit × DataW H → Nat
  | (.string bytes, d) => bytes.length + uptoBulk d + 1
  | (_, d) => uptoBulk d + 1
 end
def uptoSmall : (H : Type) → List (DataW H) → Bool := fun _ ds => decide (uptoBulkAll ds ≤ 1048576)
def OpenSpec.upto (s : _root_.Go.ChangeSpec) : _root_.Go.OpenSpec := { _root_.Go.OpenSpec.ofChange s with cond := some uptoSmall }

/-- 'laws.FnExactTickControl', WHERE WHAT IT READS IS OF BULK AT MOST 1048576: true; the input reads as it did. -/
def fnExactTickControlUptoRow : OpenClaim := { program := "ytmpcbkonelcceaadoor", sum := "2b22b722e32b4515ae205320b4429d751156181eaa78fceccb1f7cc572e76f6f", func := "loop.example/g03006/laws.FnExactTickControl", spec := "fnExactTickControl", unfollowed := true, recurses := true, named := ["math/bits.deBruijn32tab", "loop.example/g03006/impl.clearTimes"], apart := false, laid := [("math/bits.deBruijn32tab", laid_math_bits_deBruijn32tab), ("loop.example/g03006/impl.clearTimes", laid_loop_example_g03006_impl_clearTimes)], narrowed := true }
def FnExactTickControlUptoSaid : Prop := fnExactTickControlUptoRow.holds Tryd.pinned (OpenSpec.upto fnExactTickControlSpec)

/-- 'laws.FnExactAskStage', WHERE WHAT IT READS IS OF BULK AT MOST 1048576: true; the input reads as it did. -/
def fnExactAskStageUptoRow : OpenClaim := { program := "ytmpcbkonelcceaadoor", sum := "2b22b722e32b4515ae205320b4429d751156181eaa78fceccb1f7cc572e76f6f", func := "loop.example/g03006/laws.FnExactAskStage", spec := "fnExactAskStage", unfollowed := true, recurses := true, named := ["math/bits.deBruijn32tab", "loop.example/g03006/impl.clearTimes"], apart := false, laid := [("math/bits.deBruijn32tab", laid_math_bits_deBruijn32tab), ("loop.example/g03006/impl.clearTimes", laid_loop_example_g03006_impl_clearTimes)], narrowed := true }
def FnExactAskStageUptoSaid : Prop := fnExactAskStageUptoRow.holds Tryd.pinned (OpenSpec.upto fnExactAskStageSpec)

/-- 'laws.FnExactCanCut', WHERE WHAT IT READS IS OF BULK AT MOST 1048576: true; the input reads as it did. -/
def fnExactCanCutUptoRow : OpenClaim := { program := "ytmpcbkonelcceaadoor", sum := "2b22b722e32b4515ae205320b4429d751156181eaa78fceccb1f7cc572e76f6f", func := "loop.example/g03006/laws.FnExactCanCut", spec := "fnExactCanCut", unfollowed := true, recurses := true, named := ["math/bits.deBruijn32tab", "loop.example/g03006/impl.clearTimes", "loop.example/g03006/impl.sirenTimes"], apart := false, laid := [("math/bits.deBruijn32tab", laid_math_bits_deBruijn32tab), ("loop.example/g03006/impl.clearTimes", laid_loop_example_g03006_impl_clearTimes), ("loop.example/g03006/impl.sirenTimes", laid_loop_example_g03006_impl_sirenTimes)], narrowed := true }
def FnExactCanCutUptoSaid : Prop := fnExactCanCutUptoRow.holds Tryd.pinned (OpenSpec.upto fnExactCanCutSpec)

/-- 'laws.FnExactLongestSiren', WHERE WHAT IT READS IS OF BULK AT MOST 1048576: true; the input reads as it did. -/
def fnExactLongestSirenUptoRow : OpenClaim := { program := "ytmpcbkonelcceaadoor", sum := "2b22b722e32b4515ae205320b4429d751156181eaa78fceccb1f7cc572e76f6f", func := "loop.example/g03006/laws.FnExactLongestSiren", spec := "fnExactLongestSiren", named := ["loop.example/g03006/impl.clearTimes"], apart := false, laid := [("loop.example/g03006/impl.clearTimes", laid_loop_example_g03006_impl_clearTimes)], narrowed := true }
def FnExactLongestSirenUptoSaid : Prop := fnExactLongestSirenUptoRow.holds Tryd.pinned (OpenSpec.upto fnExactLongestSirenSpec)

end Rows
end Go.Proofs.YtmpcbkonelcceaaDoor
