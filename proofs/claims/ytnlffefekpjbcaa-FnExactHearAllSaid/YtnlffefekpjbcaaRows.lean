/-
  No cell of these rows narrows 'for every input' (looked for: loops, veiled, ifaces, maps, wideKeys, modest, calm, conditions, laid).
  DERIVED. THE GIVEN ROWS OF THIS SEAT. 12 by the template 'for every input the law returns true; each argument reads behind the call as it read before'; 0 by the template 'total and deterministic' (their statements: YtnlffefekpjbcaaTotals.lean).
  GIVEN WITH THE SEED: the statements are not yours to turn. If you find one false, say at which input.
  Laid BY PROGRAM, IN A SANDBOX (cutbox-rows.mjs): the forced cells as the released guide's own fill.sh prints them over the translation 262403b99b1e02a0… (all of the seat's roots in one cut). By AI agents, Wed Nov 11 2026. No macro, syntax, notation, axiom, sorry.
-/
import Derived.Test.YtnlffefekpjbcaaChecked
import GoSem.Claim
import GoSem.ClaimJoined
import GoSem.ClaimMapViews
import Derived.JoinedTies
import Derived.KernelRfl
namespace Go.Proofs.Ytnlffefekpjbcaa
/- THE CELL 'sum', in the pinned program and in every row, IS THE sha256 OF THE DUMP (.gsa) THAT YtnlffefekpjbcaaProg.lean LOADS. Nothing in Lean hashes anything: it is a label: what it is worth is what the hold of that sum in a sandbox is worth. -/
noncomputable def Try.pinned : Pinned := { name := "ytnlffefekpjbcaa", sum := "262403b99b1e02a02d46f7235b4e503b6ef68ba23a1ce6631b9277d591eae060", checked := Try.checked }
namespace Rows
def none {H : Type} : Left H := { results := [], args := [] }

/-- 'laws.FnExactIsLink': WHATEVER THE INPUT: true; the input reads as it did. -/
def fnExactIsLinkSpec : ChangeSpec := { name := "fnExactIsLink", fn := fun _ => fun
  | [d] => { results := [.lit (.bool true)], args := [d] }
  | _ => none }
def fnExactIsLinkRow : OpenClaim := { program := "ytnlffefekpjbcaa", sum := "262403b99b1e02a02d46f7235b4e503b6ef68ba23a1ce6631b9277d591eae060", func := "loop.example/g03006/laws.FnExactIsLink", spec := "fnExactIsLink", apart := false }
def FnExactIsLinkSaid : Prop := fnExactIsLinkRow.holds Try.pinned (OpenSpec.ofChange fnExactIsLinkSpec)

/-- ITS FALSE NEIGHBOUR: 'it returns false'. Refute it at one input. -/
def fnExactIsLinkWrong : ChangeSpec := { name := "fnExactIsLink", fn := fun _ => fun
  | [d] => { results := [.lit (.bool false)], args := [d] }
  | _ => none }
def FnExactIsLinkWrongFalsely : Prop := fnExactIsLinkRow.holds Try.pinned (OpenSpec.ofChange fnExactIsLinkWrong)

/-- 'laws.FnExactHearLink': WHATEVER THE INPUT: true; the input reads as it did. -/
def fnExactHearLinkSpec : ChangeSpec := { name := "fnExactHearLink", fn := fun _ => fun
  | [d1, d2, d3, d4] => { results := [.lit (.bool true)], args := [d1, d2, d3, d4] }
  | _ => none }
def fnExactHearLinkRow : OpenClaim := { program := "ytnlffefekpjbcaa", sum := "262403b99b1e02a02d46f7235b4e503b6ef68ba23a1ce6631b9277d591eae060", func := "loop.example/g03006/laws.FnExactHearLink", spec := "fnExactHearLink", apart := false }
def FnExactHearLinkSaid : Prop := fnExactHearLinkRow.holds Try.pinned (OpenSpec.ofChange fnExactHearLinkSpec)

/-- ITS FALSE NEIGHBOUR: 'it returns false'. Refute it at one input. -/
def fnExactHearLinkWrong : ChangeSpec := { name := "fnExactHearLink", fn := fun _ => fun
  | [d1, d2, d3, d4] => { results := [.lit (.bool false)], args := [d1, d2, d3, d4] }
  | _ => none }
def FnExactHearLinkWrongFalsely : Prop := fnExactHearLinkRow.holds Try.pinned (OpenSpec.ofChange fnExactHearLinkWrong)

/-- 'laws.FnExactLinkState': WHATEVER THE INPUT: true; the input reads as it did. -/
def fnExactLinkStateSpec : ChangeSpec := { name := "fnExactLinkState", fn := fun _ => fun
  | [d1, d2] => { results := [.lit (.bool true)], args := [d1, d2] }
  | _ => none }
def fnExactLinkStateRow : OpenClaim := { program := "ytnlffefekpjbcaa", sum := "262403b99b1e02a02d46f7235b4e503b6ef68ba23a1ce6631b9277d591eae060", func := "loop.example/g03006/laws.FnExactLinkState", spec := "fnExactLinkState", apart := false }
def FnExactLinkStateSaid : Prop := fnExactLinkStateRow.holds Try.pinned (OpenSpec.ofChange fnExactLinkStateSpec)

/-- ITS FALSE NEIGHBOUR: 'it returns false'. Refute it at one input. -/
def fnExactLinkStateWrong : ChangeSpec := { name := "fnExactLinkState", fn := fun _ => fun
  | [d1, d2] => { results := [.lit (.bool false)], args := [d1, d2] }
  | _ => none }
def FnExactLinkStateWrongFalsely : Prop := fnExactLinkStateRow.holds Try.pinned (OpenSpec.ofChange fnExactLinkStateWrong)

/-- 'laws.FnExactHearAll': WHATEVER THE INPUT: true; the input reads as it did. -/
def fnExactHearAllSpec : ChangeSpec := { name := "fnExactHearAll", fn := fun _ => fun
  | [d1, d2, d3, d4] => { results := [.lit (.bool true)], args := [d1, d2, d3, d4] }
  | _ => none }
def fnExactHearAllRow : OpenClaim := { program := "ytnlffefekpjbcaa", sum := "262403b99b1e02a02d46f7235b4e503b6ef68ba23a1ce6631b9277d591eae060", func := "loop.example/g03006/laws.FnExactHearAll", spec := "fnExactHearAll", apart := false }
def FnExactHearAllSaid : Prop := fnExactHearAllRow.holds Try.pinned (OpenSpec.ofChange fnExactHearAllSpec)

/-- ITS FALSE NEIGHBOUR: 'it returns false'. Refute it at one input. -/
def fnExactHearAllWrong : ChangeSpec := { name := "fnExactHearAll", fn := fun _ => fun
  | [d1, d2, d3, d4] => { results := [.lit (.bool false)], args := [d1, d2, d3, d4] }
  | _ => none }
def FnExactHearAllWrongFalsely : Prop := fnExactHearAllRow.holds Try.pinned (OpenSpec.ofChange fnExactHearAllWrong)

/-- 'laws.FnExactInStep': WHATEVER THE INPUT: true; the input reads as it did. -/
def fnExactInStepSpec : ChangeSpec := { name := "fnExactInStep", fn := fun _ => fun
  | [d1, d2] => { results := [.lit (.bool true)], args := [d1, d2] }
  | _ => none }
def fnExactInStepRow : OpenClaim := { program := "ytnlffefekpjbcaa", sum := "262403b99b1e02a02d46f7235b4e503b6ef68ba23a1ce6631b9277d591eae060", func := "loop.example/g03006/laws.FnExactInStep", spec := "fnExactInStep", unfollowed := true, recurses := true, apart := false }
def FnExactInStepSaid : Prop := fnExactInStepRow.holds Try.pinned (OpenSpec.ofChange fnExactInStepSpec)

/-- ITS FALSE NEIGHBOUR: 'it returns false'. Refute it at one input. -/
def fnExactInStepWrong : ChangeSpec := { name := "fnExactInStep", fn := fun _ => fun
  | [d1, d2] => { results := [.lit (.bool false)], args := [d1, d2] }
  | _ => none }
def FnExactInStepWrongFalsely : Prop := fnExactInStepRow.holds Try.pinned (OpenSpec.ofChange fnExactInStepWrong)

/-- 'laws.FnExactStateName': WHATEVER THE INPUT: true; the input reads as it did. -/
def fnExactStateNameSpec : ChangeSpec := { name := "fnExactStateName", fn := fun _ => fun
  | [d] => { results := [.lit (.bool true)], args := [d] }
  | _ => none }
def fnExactStateNameRow : OpenClaim := { program := "ytnlffefekpjbcaa", sum := "262403b99b1e02a02d46f7235b4e503b6ef68ba23a1ce6631b9277d591eae060", func := "loop.example/g03006/laws.FnExactStateName", spec := "fnExactStateName", apart := false }
def FnExactStateNameSaid : Prop := fnExactStateNameRow.holds Try.pinned (OpenSpec.ofChange fnExactStateNameSpec)

/-- ITS FALSE NEIGHBOUR: 'it returns false'. Refute it at one input. -/
def fnExactStateNameWrong : ChangeSpec := { name := "fnExactStateName", fn := fun _ => fun
  | [d] => { results := [.lit (.bool false)], args := [d] }
  | _ => none }
def FnExactStateNameWrongFalsely : Prop := fnExactStateNameRow.holds Try.pinned (OpenSpec.ofChange fnExactStateNameWrong)

/-- 'laws.FnLinks': WHATEVER THE INPUT: true; the input reads as it did. -/
def fnLinksSpec : ChangeSpec := { name := "fnLinks", fn := fun _ => fun
  | [d] => { results := [.lit (.bool true)], args := [d] }
  | _ => none }
def fnLinksRow : OpenClaim := { program := "ytnlffefekpjbcaa", sum := "262403b99b1e02a02d46f7235b4e503b6ef68ba23a1ce6631b9277d591eae060", func := "loop.example/g03006/laws.FnLinks", spec := "fnLinks", unfollowed := true, recurses := true, apart := false }
def FnLinksSaid : Prop := fnLinksRow.holds Try.pinned (OpenSpec.ofChange fnLinksSpec)

/-- ITS FALSE NEIGHBOUR: 'it returns false'. Refute it at one input. -/
def fnLinksWrong : ChangeSpec := { name := "fnLinks", fn := fun _ => fun
  | [d] => { results := [.lit (.bool false)], args := [d] }
  | _ => none }
def FnLinksWrongFalsely : Prop := fnLinksRow.holds Try.pinned (OpenSpec.ofChange fnLinksWrong)

/-- 'laws.FnExactIsTally': WHATEVER THE INPUT: true; the input reads as it did. -/
def fnExactIsTallySpec : ChangeSpec := { name := "fnExactIsTally", fn := fun _ => fun
  | [d] => { results := [.lit (.bool true)], args := [d] }
  | _ => none }
def fnExactIsTallyRow : OpenClaim := { program := "ytnlffefekpjbcaa", sum := "262403b99b1e02a02d46f7235b4e503b6ef68ba23a1ce6631b9277d591eae060", func := "loop.example/g03006/laws.FnExactIsTally", spec := "fnExactIsTally", apart := false }
def FnExactIsTallySaid : Prop := fnExactIsTallyRow.holds Try.pinned (OpenSpec.ofChange fnExactIsTallySpec)

/-- ITS FALSE NEIGHBOUR: 'it returns false'. Refute it at one input. -/
def fnExactIsTallyWrong : ChangeSpec := { name := "fnExactIsTally", fn := fun _ => fun
  | [d] => { results := [.lit (.bool false)], args := [d] }
  | _ => none }
def FnExactIsTallyWrongFalsely : Prop := fnExactIsTallyRow.holds Try.pinned (OpenSpec.ofChange fnExactIsTallyWrong)

/-- 'laws.FnExactInside': WHATEVER THE INPUT: true; the input reads as it did. -/
def fnExactInsideSpec : ChangeSpec := { name := "fnExactInside", fn := fun _ => fun
  | [d] => { results := [.lit (.bool true)], args := [d] }
  | _ => none }
def fnExactInsideRow : OpenClaim := { program := "ytnlffefekpjbcaa", sum := "262403b99b1e02a02d46f7235b4e503b6ef68ba23a1ce6631b9277d591eae060", func := "loop.example/g03006/laws.FnExactInside", spec := "fnExactInside", apart := false }
def FnExactInsideSaid : Prop := fnExactInsideRow.holds Try.pinned (OpenSpec.ofChange fnExactInsideSpec)

/-- ITS FALSE NEIGHBOUR: 'it returns false'. Refute it at one input. -/
def fnExactInsideWrong : ChangeSpec := { name := "fnExactInside", fn := fun _ => fun
  | [d] => { results := [.lit (.bool false)], args := [d] }
  | _ => none }
def FnExactInsideWrongFalsely : Prop := fnExactInsideRow.holds Try.pinned (OpenSpec.ofChange fnExactInsideWrong)

/-- 'laws.FnExactCountIn': WHATEVER THE INPUT: true; the input reads as it did. -/
def fnExactCountInSpec : ChangeSpec := { name := "fnExactCountIn", fn := fun _ => fun
  | [d1, d2] => { results := [.lit (.bool true)], args := [d1, d2] }
  | _ => none }
def fnExactCountInRow : OpenClaim := { program := "ytnlffefekpjbcaa", sum := "262403b99b1e02a02d46f7235b4e503b6ef68ba23a1ce6631b9277d591eae060", func := "loop.example/g03006/laws.FnExactCountIn", spec := "fnExactCountIn", apart := false }
def FnExactCountInSaid : Prop := fnExactCountInRow.holds Try.pinned (OpenSpec.ofChange fnExactCountInSpec)

/-- ITS FALSE NEIGHBOUR: 'it returns false'. Refute it at one input. -/
def fnExactCountInWrong : ChangeSpec := { name := "fnExactCountIn", fn := fun _ => fun
  | [d1, d2] => { results := [.lit (.bool false)], args := [d1, d2] }
  | _ => none }
def FnExactCountInWrongFalsely : Prop := fnExactCountInRow.holds Try.pinned (OpenSpec.ofChange fnExactCountInWrong)

/-- 'laws.FnExactCountOut': WHATEVER THE INPUT: true; the input reads as it did. -/
def fnExactCountOutSpec : ChangeSpec := { name := "fnExactCountOut", fn := fun _ => fun
  | [d1, d2] => { results := [.lit (.bool true)], args := [d1, d2] }
  | _ => none }
def fnExactCountOutRow : OpenClaim := { program := "ytnlffefekpjbcaa", sum := "262403b99b1e02a02d46f7235b4e503b6ef68ba23a1ce6631b9277d591eae060", func := "loop.example/g03006/laws.FnExactCountOut", spec := "fnExactCountOut", apart := false }
def FnExactCountOutSaid : Prop := fnExactCountOutRow.holds Try.pinned (OpenSpec.ofChange fnExactCountOutSpec)

/-- ITS FALSE NEIGHBOUR: 'it returns false'. Refute it at one input. -/
def fnExactCountOutWrong : ChangeSpec := { name := "fnExactCountOut", fn := fun _ => fun
  | [d1, d2] => { results := [.lit (.bool false)], args := [d1, d2] }
  | _ => none }
def FnExactCountOutWrongFalsely : Prop := fnExactCountOutRow.holds Try.pinned (OpenSpec.ofChange fnExactCountOutWrong)

/-- 'laws.FnExactCanHold': WHATEVER THE INPUT: true; the input reads as it did. -/
def fnExactCanHoldSpec : ChangeSpec := { name := "fnExactCanHold", fn := fun _ => fun
  | [d1, d2, d3] => { results := [.lit (.bool true)], args := [d1, d2, d3] }
  | _ => none }
def fnExactCanHoldRow : OpenClaim := { program := "ytnlffefekpjbcaa", sum := "262403b99b1e02a02d46f7235b4e503b6ef68ba23a1ce6631b9277d591eae060", func := "loop.example/g03006/laws.FnExactCanHold", spec := "fnExactCanHold", apart := false }
def FnExactCanHoldSaid : Prop := fnExactCanHoldRow.holds Try.pinned (OpenSpec.ofChange fnExactCanHoldSpec)

/-- ITS FALSE NEIGHBOUR: 'it returns false'. Refute it at one input. -/
def fnExactCanHoldWrong : ChangeSpec := { name := "fnExactCanHold", fn := fun _ => fun
  | [d1, d2, d3] => { results := [.lit (.bool false)], args := [d1, d2, d3] }
  | _ => none }
def FnExactCanHoldWrongFalsely : Prop := fnExactCanHoldRow.holds Try.pinned (OpenSpec.ofChange fnExactCanHoldWrong)

/- THE SECOND FORM. 'bulk': how many values and letters a reading holds, each counted each time it is reached (what is shared counts as often as it is met; a slice's spare places count too). A statement '..UptoSaid' is the law's where the arguments, and the package variables that the reading takes, are together of bulk at most 1048576: NARROWER than '..Said'. Prove '..Said' where nothing that the law and all that it calls make is longer than what came in: it says more and counts as full. Else prove '..UptoSaid'. A law counts once. -/
mutual
def uptoBulk {H : Type} : DataW H → Nat
  | .lit (.string bytes) => bytes.length + 1
  | .lit _ => 1
  | .nil => 1
  | .ptr d => uptoBulk d + 1
  | .slice elems spare => uptoBulkAll elems + uptoBulkAll spare + 1
  | .agg parts => uptoBulkAll parts + 1
  | .iface _ d => uptoBulk d + 1
  | .map entries => uptoBulkEntries entries + 1
  | .held _ => 1
def uptoBulkAll {H : Type} : List (DataW H) → Nat
  | [] => 0
  | d :: r => uptoBulk d + uptoBulkAll r
def uptoBulkEntries {H : Type} : List (Lit × DataW H) → Nat
  | [] => 0
  | x :: r => uptoBulkEntry x + uptoBulkEntries r
def uptoBulkEntry {H : Type} : Lit × DataW H → Nat
  | (.string bytes, d) => bytes.length + uptoBulk d + 1
  | (_, d) => uptoBulk d + 1
 end
def uptoSmall : (H : Type) → List (DataW H) → Bool := fun _ ds => decide (uptoBulkAll ds ≤ 1048576)
def OpenSpec.upto (s : _root_.Go.ChangeSpec) : _root_.Go.OpenSpec := { _root_.Go.OpenSpec.ofChange s with cond := some uptoSmall }

/-- 'laws.FnExactIsLink', WHERE WHAT IT READS IS OF BULK AT MOST 1048576: true; the input reads as it did. -/
def fnExactIsLinkUptoRow : OpenClaim := { program := "ytnlffefekpjbcaa", sum := "262403b99b1e02a02d46f7235b4e503b6ef68ba23a1ce6631b9277d591eae060", func := "loop.example/g03006/laws.FnExactIsLink", spec := "fnExactIsLink", apart := false, narrowed := true }
def FnExactIsLinkUptoSaid : Prop := fnExactIsLinkUptoRow.holds Try.pinned (OpenSpec.upto fnExactIsLinkSpec)

/-- 'laws.FnExactHearLink', WHERE WHAT IT READS IS OF BULK AT MOST 1048576: true; the input reads as it did. -/
def fnExactHearLinkUptoRow : OpenClaim := { program := "ytnlffefekpjbcaa", sum := "262403b99b1e02a02d46f7235b4e503b6ef68ba23a1ce6631b9277d591eae060", func := "loop.example/g03006/laws.FnExactHearLink", spec := "fnExactHearLink", apart := false, narrowed := true }
def FnExactHearLinkUptoSaid : Prop := fnExactHearLinkUptoRow.holds Try.pinned (OpenSpec.upto fnExactHearLinkSpec)

/-- 'laws.FnExactLinkState', WHERE WHAT IT READS IS OF BULK AT MOST 1048576: true; the input reads as it did. -/
def fnExactLinkStateUptoRow : OpenClaim := { program := "ytnlffefekpjbcaa", sum := "262403b99b1e02a02d46f7235b4e503b6ef68ba23a1ce6631b9277d591eae060", func := "loop.example/g03006/laws.FnExactLinkState", spec := "fnExactLinkState", apart := false, narrowed := true }
def FnExactLinkStateUptoSaid : Prop := fnExactLinkStateUptoRow.holds Try.pinned (OpenSpec.upto fnExactLinkStateSpec)

/-- 'laws.FnExactHearAll', WHERE WHAT IT READS IS OF BULK AT MOST 1048576: true; the input reads as it did. -/
def fnExactHearAllUptoRow : OpenClaim := { program := "ytnlffefekpjbcaa", sum := "262403b99b1e02a02d46f7235b4e503b6ef68ba23a1ce6631b9277d591eae060", func := "loop.example/g03006/laws.FnExactHearAll", spec := "fnExactHearAll", apart := false, narrowed := true }
def FnExactHearAllUptoSaid : Prop := fnExactHearAllUptoRow.holds Try.pinned (OpenSpec.upto fnExactHearAllSpec)

/-- 'laws.FnExactInStep', WHERE WHAT IT READS IS OF BULK AT MOST 1048576: true; the input reads as it did. -/
def fnExactInStepUptoRow : OpenClaim := { program := "ytnlffefekpjbcaa", sum := "262403b99b1e02a02d46f7235b4e503b6ef68ba23a1ce6631b9277d591eae060", func := "loop.example/g03006/laws.FnExactInStep", spec := "fnExactInStep", unfollowed := true, recurses := true, apart := false, narrowed := true }
def FnExactInStepUptoSaid : Prop := fnExactInStepUptoRow.holds Try.pinned (OpenSpec.upto fnExactInStepSpec)

/-- 'laws.FnExactStateName', WHERE WHAT IT READS IS OF BULK AT MOST 1048576: true; the input reads as it did. -/
def fnExactStateNameUptoRow : OpenClaim := { program := "ytnlffefekpjbcaa", sum := "262403b99b1e02a02d46f7235b4e503b6ef68ba23a1ce6631b9277d591eae060", func := "loop.example/g03006/laws.FnExactStateName", spec := "fnExactStateName", apart := false, narrowed := true }
def FnExactStateNameUptoSaid : Prop := fnExactStateNameUptoRow.holds Try.pinned (OpenSpec.upto fnExactStateNameSpec)

/-- 'laws.FnLinks', WHERE WHAT IT READS IS OF BULK AT MOST 1048576: true; the input reads as it did. -/
def fnLinksUptoRow : OpenClaim := { program := "ytnlffefekpjbcaa", sum := "262403b99b1e02a02d46f7235b4e503b6ef68ba23a1ce6631b9277d591eae060", func := "loop.example/g03006/laws.FnLinks", spec := "fnLinks", unfollowed := true, recurses := true, apart := false, narrowed := true }
def FnLinksUptoSaid : Prop := fnLinksUptoRow.holds Try.pinned (OpenSpec.upto fnLinksSpec)

/-- 'laws.FnExactIsTally', WHERE WHAT IT READS IS OF BULK AT MOST 1048576: true; the input reads as it did. -/
def fnExactIsTallyUptoRow : OpenClaim := { program := "ytnlffefekpjbcaa", sum := "262403b99b1e02a02d46f7235b4e503b6ef68ba23a1ce6631b9277d591eae060", func := "loop.example/g03006/laws.FnExactIsTally", spec := "fnExactIsTally", apart := false, narrowed := true }
def FnExactIsTallyUptoSaid : Prop := fnExactIsTallyUptoRow.holds Try.pinned (OpenSpec.upto fnExactIsTallySpec)

/-- 'laws.FnExactInside', WHERE WHAT IT READS IS OF BULK AT MOST 1048576: true; the input reads as it did. -/
def fnExactInsideUptoRow : OpenClaim := { program := "ytnlffefekpjbcaa", sum := "262403b99b1e02a02d46f7235b4e503b6ef68ba23a1ce6631b9277d591eae060", func := "loop.example/g03006/laws.FnExactInside", spec := "fnExactInside", apart := false, narrowed := true }
def FnExactInsideUptoSaid : Prop := fnExactInsideUptoRow.holds Try.pinned (OpenSpec.upto fnExactInsideSpec)

/-- 'laws.FnExactCountIn', WHERE WHAT IT READS IS OF BULK AT MOST 1048576: true; the input reads as it did. -/
def fnExactCountInUptoRow : OpenClaim := { program := "ytnlffefekpjbcaa", sum := "262403b99b1e02a02d46f7235b4e503b6ef68ba23a1ce6631b9277d591eae060", func := "loop.example/g03006/laws.FnExactCountIn", spec := "fnExactCountIn", apart := false, narrowed := true }
def FnExactCountInUptoSaid : Prop := fnExactCountInUptoRow.holds Try.pinned (OpenSpec.upto fnExactCountInSpec)

/-- 'laws.FnExactCountOut', WHERE WHAT IT READS IS OF BULK AT MOST 1048576: true; the input reads as it did. -/
def fnExactCountOutUptoRow : OpenClaim := { program := "ytnlffefekpjbcaa", sum := "262403b99b1e02a02d46f7235b4e503b6ef68ba23a1ce6631b9277d591eae060", func := "loop.example/g03006/laws.FnExactCountOut", spec := "fnExactCountOut", apart := false, narrowed := true }
def FnExactCountOutUptoSaid : Prop := fnExactCountOutUptoRow.holds Try.pinned (OpenSpec.upto fnExactCountOutSpec)

/-- 'laws.FnExactCanHold', WHERE WHAT IT READS IS OF BULK AT MOST 1048576: true; the input reads as it did. -/
def fnExactCanHoldUptoRow : OpenClaim := { program := "ytnlffefekpjbcaa", sum := "262403b99b1e02a02d46f7235b4e503b6ef68ba23a1ce6631b9277d591eae060", func := "loop.example/g03006/laws.FnExactCanHold", spec := "fnExactCanHold", apart := false, narrowed := true }
def FnExactCanHoldUptoSaid : Prop := fnExactCanHoldUptoRow.holds Try.pinned (OpenSpec.upto fnExactCanHoldSpec)

end Rows
end Go.Proofs.Ytnlffefekpjbcaa
