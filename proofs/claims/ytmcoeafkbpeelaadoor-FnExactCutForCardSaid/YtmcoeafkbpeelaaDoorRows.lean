/-
  NARROWER THAN 'FOR EVERY INPUT', by the rows' own cells (each row's printed sentence says how): FnExactCutFor: laid · FnExactStepSiren: laid · FnExactSirenWait: laid.
  DERIVED. THE GIVEN ROWS OF THIS SEAT. 3 by the template 'for every input the law returns true; each argument reads behind the call as it read before'; 0 by the template 'total and deterministic' (their statements: YtmcoeafkbpeelaaDoorTotals.lean).
  GIVEN WITH THE SEED: the statements are not yours to turn. If you find one false, say at which input.
  Laid BY PROGRAM, IN A SANDBOX (cutbox-rows.mjs): the forced cells as the released guide's own fill.sh prints them over the translation 13c49402a8a23ae6… (all of the seat's roots in one cut). By AI agents, Wed Nov 11 2026. No macro, syntax, notation, axiom, sorry.
-/
import Derived.Test.YtmcoeafkbpeelaaDoorChecked
import GoSem.Claim
import GoSem.ClaimJoined
import GoSem.ClaimMapViews
import Derived.JoinedTies
import Derived.KernelRfl
namespace Go.Proofs.YtmcoeafkbpeelaaDoor
/- THE CELL 'sum', in the pinned program and in every row, IS THE sha256 OF THE DUMP (.gsa) THAT YtmcoeafkbpeelaaDoorProg.lean LOADS. Nothing in Lean hashes anything: it is a label: what it is worth is what the hold of that sum in a sandbox is worth. -/
noncomputable def Tryd.pinned : Pinned := { name := "ytmcoeafkbpeelaadoor", sum := "13c49402a8a23ae63b1410081cb77452ebec2da72d6fd126fd7b4552a7fd039b", checked := Tryd.checked }
namespace Rows
def none {H : Type} : Left H := { results := [], args := [] }

/- WHAT THE LISTED PACKAGE-LEVEL VARIABLES READ AS WHEN THE CALL BEGINS. Each datum BY PROGRAM (the guide's laid-datum.mjs) off the statement by which the dump's own 'gosem.cut.vars' lays the variable. In a bare row this is a premise. The card (YtmcoeafkbpeelaaDoorCards.lean) ties it to the program's text. -/
def laid_math_bits_deBruijn32tab {H : Type} : DataW H := .agg [.lit (.int .u8 0), .lit (.int .u8 1), .lit (.int .u8 28), .lit (.int .u8 2), .lit (.int .u8 29), .lit (.int .u8 14), .lit (.int .u8 24), .lit (.int .u8 3), .lit (.int .u8 30), .lit (.int .u8 22), .lit (.int .u8 20), .lit (.int .u8 15), .lit (.int .u8 25), .lit (.int .u8 17), .lit (.int .u8 4), .lit (.int .u8 8), .lit (.int .u8 31), .lit (.int .u8 27), .lit (.int .u8 13), .lit (.int .u8 23), .lit (.int .u8 21), .lit (.int .u8 19), .lit (.int .u8 16), .lit (.int .u8 7), .lit (.int .u8 26), .lit (.int .u8 12), .lit (.int .u8 18), .lit (.int .u8 6), .lit (.int .u8 11), .lit (.int .u8 5), .lit (.int .u8 10), .lit (.int .u8 9)]
def laid_loop_example_g03006_impl_clearTimes {H : Type} : DataW H := .agg [.lit (.int .i64 0), .lit (.int .i64 2), .lit (.int .i64 5), .lit (.int .i64 3)]
def laid_loop_example_g03006_impl_sirenTimes {H : Type} : DataW H := .agg [.lit (.int .i64 0), .lit (.int .i64 4), .lit (.int .i64 7), .lit (.int .i64 4)]

/-- 'laws.FnExactCutFor': WHATEVER THE INPUT: true; the input reads as it did. -/
def fnExactCutForSpec : ChangeSpec := { name := "fnExactCutFor", vars := ["loop.example/g03006/impl.clearTimes", "loop.example/g03006/impl.sirenTimes"], fn := fun _ => fun
  | [d1, d2, d3, g1, g2] => { results := [.lit (.bool true)], args := [d1, d2, d3], vars := [g1, g2] }
  | _ => none }
def fnExactCutForRow : OpenClaim := { program := "ytmcoeafkbpeelaadoor", sum := "13c49402a8a23ae63b1410081cb77452ebec2da72d6fd126fd7b4552a7fd039b", func := "loop.example/g03006/laws.FnExactCutFor", spec := "fnExactCutFor", unfollowed := true, recurses := true, named := ["math/bits.deBruijn32tab", "loop.example/g03006/impl.clearTimes", "loop.example/g03006/impl.sirenTimes"], apart := false, laid := [("math/bits.deBruijn32tab", laid_math_bits_deBruijn32tab), ("loop.example/g03006/impl.clearTimes", laid_loop_example_g03006_impl_clearTimes), ("loop.example/g03006/impl.sirenTimes", laid_loop_example_g03006_impl_sirenTimes)] }
def FnExactCutForSaid : Prop := fnExactCutForRow.holds Tryd.pinned (OpenSpec.ofChange fnExactCutForSpec)

/-- ITS FALSE NEIGHBOUR: 'it returns false'. Refute it at one input. -/
def fnExactCutForWrong : ChangeSpec := { name := "fnExactCutFor", vars := ["loop.example/g03006/impl.clearTimes", "loop.example/g03006/impl.sirenTimes"], fn := fun _ => fun
  | [d1, d2, d3, g1, g2] => { results := [.lit (.bool false)], args := [d1, d2, d3], vars := [g1, g2] }
  | _ => none }
def FnExactCutForWrongFalsely : Prop := fnExactCutForRow.holds Tryd.pinned (OpenSpec.ofChange fnExactCutForWrong)

/-- 'laws.FnExactStepSiren': WHATEVER THE INPUT: true; the input reads as it did. -/
def fnExactStepSirenSpec : ChangeSpec := { name := "fnExactStepSiren", vars := ["loop.example/g03006/impl.clearTimes"], fn := fun _ => fun
  | [d1, d2, d3, g1] => { results := [.lit (.bool true)], args := [d1, d2, d3], vars := [g1] }
  | _ => none }
def fnExactStepSirenRow : OpenClaim := { program := "ytmcoeafkbpeelaadoor", sum := "13c49402a8a23ae63b1410081cb77452ebec2da72d6fd126fd7b4552a7fd039b", func := "loop.example/g03006/laws.FnExactStepSiren", spec := "fnExactStepSiren", unfollowed := true, recurses := true, named := ["math/bits.deBruijn32tab", "loop.example/g03006/impl.clearTimes"], apart := false, laid := [("math/bits.deBruijn32tab", laid_math_bits_deBruijn32tab), ("loop.example/g03006/impl.clearTimes", laid_loop_example_g03006_impl_clearTimes)] }
def FnExactStepSirenSaid : Prop := fnExactStepSirenRow.holds Tryd.pinned (OpenSpec.ofChange fnExactStepSirenSpec)

/-- ITS FALSE NEIGHBOUR: 'it returns false'. Refute it at one input. -/
def fnExactStepSirenWrong : ChangeSpec := { name := "fnExactStepSiren", vars := ["loop.example/g03006/impl.clearTimes"], fn := fun _ => fun
  | [d1, d2, d3, g1] => { results := [.lit (.bool false)], args := [d1, d2, d3], vars := [g1] }
  | _ => none }
def FnExactStepSirenWrongFalsely : Prop := fnExactStepSirenRow.holds Tryd.pinned (OpenSpec.ofChange fnExactStepSirenWrong)

/-- 'laws.FnExactSirenWait': WHATEVER THE INPUT: true; the input reads as it did. -/
def fnExactSirenWaitSpec : ChangeSpec := { name := "fnExactSirenWait", vars := ["loop.example/g03006/impl.clearTimes"], fn := fun _ => fun
  | [d1, d2, d3, g1] => { results := [.lit (.bool true)], args := [d1, d2, d3], vars := [g1] }
  | _ => none }
def fnExactSirenWaitRow : OpenClaim := { program := "ytmcoeafkbpeelaadoor", sum := "13c49402a8a23ae63b1410081cb77452ebec2da72d6fd126fd7b4552a7fd039b", func := "loop.example/g03006/laws.FnExactSirenWait", spec := "fnExactSirenWait", unfollowed := true, recurses := true, named := ["math/bits.deBruijn32tab", "loop.example/g03006/impl.clearTimes"], apart := false, laid := [("math/bits.deBruijn32tab", laid_math_bits_deBruijn32tab), ("loop.example/g03006/impl.clearTimes", laid_loop_example_g03006_impl_clearTimes)] }
def FnExactSirenWaitSaid : Prop := fnExactSirenWaitRow.holds Tryd.pinned (OpenSpec.ofChange fnExactSirenWaitSpec)

/-- ITS FALSE NEIGHBOUR: 'it returns false'. Refute it at one input. -/
def fnExactSirenWaitWrong : ChangeSpec := { name := "fnExactSirenWait", vars := ["loop.example/g03006/impl.clearTimes"], fn := fun _ => fun
  | [d1, d2, d3, g1] => { results := [.lit (.bool false)], args := [d1, d2, d3], vars := [g1] }
  | _ => none }
def FnExactSirenWaitWrongFalsely : Prop := fnExactSirenWaitRow.holds Tryd.pinned (OpenSpec.ofChange fnExactSirenWaitWrong)

/- THE SECOND FORM. 'bulk': how many values and letters a reading holds, each counted each time it is reached (what is shared counts as often as it is met; a slice's spare places count too). A statement '..UptoSaid' is the law's where the arguments, and the package variables that the reading takes, are together of bulk at most 1048576: NARROWER than '..Said'. Prove '..Said' where nothing that the law and all that it calls make is longer than what came in: it says more and counts as full. Else prove '..UptoSaid'. A law counts once. -/
mutual
def uptoBulk {H : Type} : DataW H → Nat
  | .lit (.string bytes) => bytes.length + 1
  | .lit _ => 1
  | .nil => 1
  | .ptr d => uptoBulk d + 1
  | .slice elems spare => uptoBulkAll elems + uptoBulkAll spare + 1
  | .agg parts => uptoBulkAll parts + 1
  | .iface _ d => uptoBulk d + 1
  | .map entries => uptoBulkEntries entries + 1
  | .held _ => 1
def uptoBulkAll {H : Type} : List (DataW H) → Nat
  | [] => 0
  | d :: r => uptoBulk d + uptoBulkAll r
def uptoBulkEntries {H : Type} : List (Lit × DataW H) → Nat
  | [] => 0
  | x :: r => uptoBulkEntry x + uptoBulkEntries r
def uptoBulkEntry {H : Type} : Lit × DataW H → Nat
  | (.string bytes, d) => bytes.length + uptoBulk d + 1
  | (_, d) => uptoBulk d + 1
 end
def uptoSmall : (H : Type) → List (DataW H) → Bool := fun _ ds => decide (uptoBulkAll ds ≤ 1048576)
def OpenSpec.upto (s : _root_.Go.ChangeSpec) : _root_.Go.OpenSpec := { _root_.Go.OpenSpec.ofChange s with cond := some uptoSmall }

/-- 'laws.FnExactCutFor', WHERE WHAT IT READS IS OF BULK AT MOST 1048576: true; the input reads as it did. -/
def fnExactCutForUptoRow : OpenClaim := { program := "ytmcoeafkbpeelaadoor", sum := "13c49402a8a23ae63b1410081cb77452ebec2da72d6fd126fd7b4552a7fd039b", func := "loop.example/g03006/laws.FnExactCutFor", spec := "fnExactCutFor", unfollowed := true, recurses := true, named := ["math/bits.deBruijn32tab", "loop.example/g03006/impl.clearTimes", "loop.example/g03006/impl.sirenTimes"], apart := false, laid := [("math/bits.deBruijn32tab", laid_math_bits_deBruijn32tab), ("loop.example/g03006/impl.clearTimes", laid_loop_example_g03006_impl_clearTimes), ("loop.example/g03006/impl.sirenTimes", laid_loop_example_g03006_impl_sirenTimes)], narrowed := true }
def FnExactCutForUptoSaid : Prop := fnExactCutForUptoRow.holds Tryd.pinned (OpenSpec.upto fnExactCutForSpec)

/-- 'laws.FnExactStepSiren', WHERE WHAT IT READS IS OF BULK AT MOST 1048576: true; the input reads as it did. -/
def fnExactStepSirenUptoRow : OpenClaim := { program := "ytmcoeafkbpeelaadoor", sum := "13c49402a8a23ae63b1410081cb77452ebec2da72d6fd126fd7b4552a7fd039b", func := "loop.example/g03006/laws.FnExactStepSiren", spec := "fnExactStepSiren", unfollowed := true, recurses := true, named := ["math/bits.deBruijn32tab", "loop.example/g03006/impl.clearTimes"], apart := false, laid := [("math/bits.deBruijn32tab", laid_math_bits_deBruijn32tab), ("loop.example/g03006/impl.clearTimes", laid_loop_example_g03006_impl_clearTimes)], narrowed := true }
def FnExactStepSirenUptoSaid : Prop := fnExactStepSirenUptoRow.holds Tryd.pinned (OpenSpec.upto fnExactStepSirenSpec)

/-- 'laws.FnExactSirenWait', WHERE WHAT IT READS IS OF BULK AT MOST 1048576: true; the input reads as it did. -/
def fnExactSirenWaitUptoRow : OpenClaim := { program := "ytmcoeafkbpeelaadoor", sum := "13c49402a8a23ae63b1410081cb77452ebec2da72d6fd126fd7b4552a7fd039b", func := "loop.example/g03006/laws.FnExactSirenWait", spec := "fnExactSirenWait", unfollowed := true, recurses := true, named := ["math/bits.deBruijn32tab", "loop.example/g03006/impl.clearTimes"], apart := false, laid := [("math/bits.deBruijn32tab", laid_math_bits_deBruijn32tab), ("loop.example/g03006/impl.clearTimes", laid_loop_example_g03006_impl_clearTimes)], narrowed := true }
def FnExactSirenWaitUptoSaid : Prop := fnExactSirenWaitUptoRow.holds Tryd.pinned (OpenSpec.upto fnExactSirenWaitSpec)

end Rows
end Go.Proofs.YtmcoeafkbpeelaaDoor
