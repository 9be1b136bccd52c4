/-
  No cell of these rows narrows 'for every input' (looked for: loops, veiled, ifaces, maps, wideKeys, modest, calm, conditions, laid).
  DERIVED. THE GIVEN ROWS OF THIS SEAT. 8 by the template 'for every input the law returns true; each argument reads behind the call as it read before'; 0 by the template 'total and deterministic' (their statements: YtmpcbkonelcceaaTotals.lean).
  GIVEN WITH THE SEED: the statements are not yours to turn. If you find one false, say at which input.
  Laid BY PROGRAM, IN A SANDBOX (cutbox-rows.mjs): the forced cells as the released guide's own fill.sh prints them over the translation dbc3a8eb6a516a9e… (all of the seat's roots in one cut). By AI agents, Wed Nov 11 2026. No macro, syntax, notation, axiom, sorry.
-/
import Derived.Test.YtmpcbkonelcceaaChecked
import GoSem.Claim
import GoSem.ClaimJoined
import GoSem.ClaimMapViews
import Derived.JoinedTies
import Derived.KernelRfl
namespace Go.Proofs.Ytmpcbkonelcceaa
/- THE CELL 'sum', in the pinned program and in every row, IS THE sha256 OF THE DUMP (.gsa) THAT YtmpcbkonelcceaaProg.lean LOADS. Nothing in Lean hashes anything: it is a label: what it is worth is what the hold of that sum in a sandbox is worth. -/
noncomputable def Try.pinned : Pinned := { name := "ytmpcbkonelcceaa", sum := "dbc3a8eb6a516a9ef4b14e8e1fb7df135818eed5b1e6f2b02eca165abb3546ba", checked := Try.checked }
namespace Rows
def none {H : Type} : Left H := { results := [], args := [] }

/-- 'laws.FnExactSealOf': WHATEVER THE INPUT: true; the input reads as it did. -/
def fnExactSealOfSpec : ChangeSpec := { name := "fnExactSealOf", fn := fun _ => fun
  | [d1, d2, d3] => { results := [.lit (.bool true)], args := [d1, d2, d3] }
  | _ => none }
def fnExactSealOfRow : OpenClaim := { program := "ytmpcbkonelcceaa", sum := "dbc3a8eb6a516a9ef4b14e8e1fb7df135818eed5b1e6f2b02eca165abb3546ba", func := "loop.example/g03006/laws.FnExactSealOf", spec := "fnExactSealOf", apart := false }
def FnExactSealOfSaid : Prop := fnExactSealOfRow.holds Try.pinned (OpenSpec.ofChange fnExactSealOfSpec)

/-- ITS FALSE NEIGHBOUR: 'it returns false'. Refute it at one input. -/
def fnExactSealOfWrong : ChangeSpec := { name := "fnExactSealOf", fn := fun _ => fun
  | [d1, d2, d3] => { results := [.lit (.bool false)], args := [d1, d2, d3] }
  | _ => none }
def FnExactSealOfWrongFalsely : Prop := fnExactSealOfRow.holds Try.pinned (OpenSpec.ofChange fnExactSealOfWrong)

/-- 'laws.FnExactIsRecord': WHATEVER THE INPUT: true; the input reads as it did. -/
def fnExactIsRecordSpec : ChangeSpec := { name := "fnExactIsRecord", fn := fun _ => fun
  | [d] => { results := [.lit (.bool true)], args := [d] }
  | _ => none }
def fnExactIsRecordRow : OpenClaim := { program := "ytmpcbkonelcceaa", sum := "dbc3a8eb6a516a9ef4b14e8e1fb7df135818eed5b1e6f2b02eca165abb3546ba", func := "loop.example/g03006/laws.FnExactIsRecord", spec := "fnExactIsRecord", apart := false }
def FnExactIsRecordSaid : Prop := fnExactIsRecordRow.holds Try.pinned (OpenSpec.ofChange fnExactIsRecordSpec)

/-- ITS FALSE NEIGHBOUR: 'it returns false'. Refute it at one input. -/
def fnExactIsRecordWrong : ChangeSpec := { name := "fnExactIsRecord", fn := fun _ => fun
  | [d] => { results := [.lit (.bool false)], args := [d] }
  | _ => none }
def FnExactIsRecordWrongFalsely : Prop := fnExactIsRecordRow.holds Try.pinned (OpenSpec.ofChange fnExactIsRecordWrong)

/-- 'laws.FnExactLightShown': WHATEVER THE INPUT: true; the input reads as it did. -/
def fnExactLightShownSpec : ChangeSpec := { name := "fnExactLightShown", fn := fun _ => fun
  | [d1, d2, d3] => { results := [.lit (.bool true)], args := [d1, d2, d3] }
  | _ => none }
def fnExactLightShownRow : OpenClaim := { program := "ytmpcbkonelcceaa", sum := "dbc3a8eb6a516a9ef4b14e8e1fb7df135818eed5b1e6f2b02eca165abb3546ba", func := "loop.example/g03006/laws.FnExactLightShown", spec := "fnExactLightShown", unfollowed := true, recurses := true, apart := false }
def FnExactLightShownSaid : Prop := fnExactLightShownRow.holds Try.pinned (OpenSpec.ofChange fnExactLightShownSpec)

/-- ITS FALSE NEIGHBOUR: 'it returns false'. Refute it at one input. -/
def fnExactLightShownWrong : ChangeSpec := { name := "fnExactLightShown", fn := fun _ => fun
  | [d1, d2, d3] => { results := [.lit (.bool false)], args := [d1, d2, d3] }
  | _ => none }
def FnExactLightShownWrongFalsely : Prop := fnExactLightShownRow.holds Try.pinned (OpenSpec.ofChange fnExactLightShownWrong)

/-- 'laws.FnExactShownAt': WHATEVER THE INPUT: true; the input reads as it did. -/
def fnExactShownAtSpec : ChangeSpec := { name := "fnExactShownAt", fn := fun _ => fun
  | [d1, d2] => { results := [.lit (.bool true)], args := [d1, d2] }
  | _ => none }
def fnExactShownAtRow : OpenClaim := { program := "ytmpcbkonelcceaa", sum := "dbc3a8eb6a516a9ef4b14e8e1fb7df135818eed5b1e6f2b02eca165abb3546ba", func := "loop.example/g03006/laws.FnExactShownAt", spec := "fnExactShownAt", apart := false }
def FnExactShownAtSaid : Prop := fnExactShownAtRow.holds Try.pinned (OpenSpec.ofChange fnExactShownAtSpec)

/-- ITS FALSE NEIGHBOUR: 'it returns false'. Refute it at one input. -/
def fnExactShownAtWrong : ChangeSpec := { name := "fnExactShownAt", fn := fun _ => fun
  | [d1, d2] => { results := [.lit (.bool false)], args := [d1, d2] }
  | _ => none }
def FnExactShownAtWrongFalsely : Prop := fnExactShownAtRow.holds Try.pinned (OpenSpec.ofChange fnExactShownAtWrong)

/-- 'laws.FnExactCountChanges': WHATEVER THE INPUT: true; the input reads as it did. -/
def fnExactCountChangesSpec : ChangeSpec := { name := "fnExactCountChanges", fn := fun _ => fun
  | [d1, d2] => { results := [.lit (.bool true)], args := [d1, d2] }
  | _ => none }
def fnExactCountChangesRow : OpenClaim := { program := "ytmpcbkonelcceaa", sum := "dbc3a8eb6a516a9ef4b14e8e1fb7df135818eed5b1e6f2b02eca165abb3546ba", func := "loop.example/g03006/laws.FnExactCountChanges", spec := "fnExactCountChanges", unfollowed := true, recurses := true, apart := false }
def FnExactCountChangesSaid : Prop := fnExactCountChangesRow.holds Try.pinned (OpenSpec.ofChange fnExactCountChangesSpec)

/-- ITS FALSE NEIGHBOUR: 'it returns false'. Refute it at one input. -/
def fnExactCountChangesWrong : ChangeSpec := { name := "fnExactCountChanges", fn := fun _ => fun
  | [d1, d2] => { results := [.lit (.bool false)], args := [d1, d2] }
  | _ => none }
def FnExactCountChangesWrongFalsely : Prop := fnExactCountChangesRow.holds Try.pinned (OpenSpec.ofChange fnExactCountChangesWrong)

/-- 'laws.FnExactGreenSince': WHATEVER THE INPUT: true; the input reads as it did. -/
def fnExactGreenSinceSpec : ChangeSpec := { name := "fnExactGreenSince", fn := fun _ => fun
  | [d1, d2, d3] => { results := [.lit (.bool true)], args := [d1, d2, d3] }
  | _ => none }
def fnExactGreenSinceRow : OpenClaim := { program := "ytmpcbkonelcceaa", sum := "dbc3a8eb6a516a9ef4b14e8e1fb7df135818eed5b1e6f2b02eca165abb3546ba", func := "loop.example/g03006/laws.FnExactGreenSince", spec := "fnExactGreenSince", unfollowed := true, recurses := true, apart := false }
def FnExactGreenSinceSaid : Prop := fnExactGreenSinceRow.holds Try.pinned (OpenSpec.ofChange fnExactGreenSinceSpec)

/-- ITS FALSE NEIGHBOUR: 'it returns false'. Refute it at one input. -/
def fnExactGreenSinceWrong : ChangeSpec := { name := "fnExactGreenSince", fn := fun _ => fun
  | [d1, d2, d3] => { results := [.lit (.bool false)], args := [d1, d2, d3] }
  | _ => none }
def FnExactGreenSinceWrongFalsely : Prop := fnExactGreenSinceRow.holds Try.pinned (OpenSpec.ofChange fnExactGreenSinceWrong)

/-- 'laws.FnExactWaitingOn': WHATEVER THE INPUT: true; the input reads as it did. -/
def fnExactWaitingOnSpec : ChangeSpec := { name := "fnExactWaitingOn", fn := fun _ => fun
  | [d1, d2] => { results := [.lit (.bool true)], args := [d1, d2] }
  | _ => none }
def fnExactWaitingOnRow : OpenClaim := { program := "ytmpcbkonelcceaa", sum := "dbc3a8eb6a516a9ef4b14e8e1fb7df135818eed5b1e6f2b02eca165abb3546ba", func := "loop.example/g03006/laws.FnExactWaitingOn", spec := "fnExactWaitingOn", apart := false }
def FnExactWaitingOnSaid : Prop := fnExactWaitingOnRow.holds Try.pinned (OpenSpec.ofChange fnExactWaitingOnSpec)

/-- ITS FALSE NEIGHBOUR: 'it returns false'. Refute it at one input. -/
def fnExactWaitingOnWrong : ChangeSpec := { name := "fnExactWaitingOn", fn := fun _ => fun
  | [d1, d2] => { results := [.lit (.bool false)], args := [d1, d2] }
  | _ => none }
def FnExactWaitingOnWrongFalsely : Prop := fnExactWaitingOnRow.holds Try.pinned (OpenSpec.ofChange fnExactWaitingOnWrong)

/-- 'laws.FnExactVoteTurn': WHATEVER THE INPUT: true; the input reads as it did. -/
def fnExactVoteTurnSpec : ChangeSpec := { name := "fnExactVoteTurn", fn := fun _ => fun
  | [d1, d2, d3, d4] => { results := [.lit (.bool true)], args := [d1, d2, d3, d4] }
  | _ => none }
def fnExactVoteTurnRow : OpenClaim := { program := "ytmpcbkonelcceaa", sum := "dbc3a8eb6a516a9ef4b14e8e1fb7df135818eed5b1e6f2b02eca165abb3546ba", func := "loop.example/g03006/laws.FnExactVoteTurn", spec := "fnExactVoteTurn", apart := false }
def FnExactVoteTurnSaid : Prop := fnExactVoteTurnRow.holds Try.pinned (OpenSpec.ofChange fnExactVoteTurnSpec)

/-- ITS FALSE NEIGHBOUR: 'it returns false'. Refute it at one input. -/
def fnExactVoteTurnWrong : ChangeSpec := { name := "fnExactVoteTurn", fn := fun _ => fun
  | [d1, d2, d3, d4] => { results := [.lit (.bool false)], args := [d1, d2, d3, d4] }
  | _ => none }
def FnExactVoteTurnWrongFalsely : Prop := fnExactVoteTurnRow.holds Try.pinned (OpenSpec.ofChange fnExactVoteTurnWrong)

/- THE SECOND FORM. 'bulk': how many values and letters a reading holds, each counted each time it is reached (what is shared counts as often as it is met; a slice's spare places count too). A statement '..UptoSaid' is the law's where the arguments, and the package variables that the reading takes, are together of bulk at most 1048576: NARROWER than '..Said'. Prove '..Said' where nothing that the law and all that it calls make is longer than what came in: it says more and counts as full. Else prove '..UptoSaid'. A law counts once. -/
mutual
def uptoBulk {H : Type} : DataW H → Nat
  | .lit (.string bytes) => bytes.length + 1
  | .lit _ => 1
  | .nil => 1
  | .ptr d => uptoBulk d + 1
  | .slice elems spare => uptoBulkAll elems + uptoBulkAll spare + 1
  | .agg parts => uptoBulkAll parts + 1
  | .iface _ d => uptoBulk d + 1
  | .map entries => uptoBulkEntries entries + 1
  | .held _ => 1
def uptoBulkAll {H : Type} : List (DataW H) → Nat
  | [] => 0
  | d :: r => uptoBulk d + uptoBulkAll r
def uptoBulkEntries {H : Type} : List (Lit × DataW H) → Nat
  | [] => 0
  | x :: r => uptoBulkEntry x + uptoBulkEntries r
def uptoBulkEntry {H : Type} : Lit × DataW H → Nat
  | (.string bytes, d) => bytes.length + uptoBulk d + 1
  | (_, d) => uptoBulk d + 1
 end
def uptoSmall : (H : Type) → List (DataW H) → Bool := fun _ ds => decide (uptoBulkAll ds ≤ 1048576)
def OpenSpec.upto (s : _root_.Go.ChangeSpec) : _root_.Go.OpenSpec := { _root_.Go.OpenSpec.ofChange s with cond := some uptoSmall }

/-- 'laws.FnExactSealOf', WHERE WHAT IT READS IS OF BULK AT MOST 1048576: true; the input reads as it did. -/
def fnExactSealOfUptoRow : OpenClaim := { program := "ytmpcbkonelcceaa", sum := "dbc3a8eb6a516a9ef4b14e8e1fb7df135818eed5b1e6f2b02eca165abb3546ba", func := "loop.example/g03006/laws.FnExactSealOf", spec := "fnExactSealOf", apart := false, narrowed := true }
def FnExactSealOfUptoSaid : Prop := fnExactSealOfUptoRow.holds Try.pinned (OpenSpec.upto fnExactSealOfSpec)

/-- 'laws.FnExactIsRecord', WHERE WHAT IT READS IS OF BULK AT MOST 1048576: true; the input reads as it did. -/
def fnExactIsRecordUptoRow : OpenClaim := { program := "ytmpcbkonelcceaa", sum := "dbc3a8eb6a516a9ef4b14e8e1fb7df135818eed5b1e6f2b02eca165abb3546ba", func := "loop.example/g03006/laws.FnExactIsRecord", spec := "fnExactIsRecord", apart := false, narrowed := true }
def FnExactIsRecordUptoSaid : Prop := fnExactIsRecordUptoRow.holds Try.pinned (OpenSpec.upto fnExactIsRecordSpec)

/-- 'laws.FnExactLightShown', WHERE WHAT IT READS IS OF BULK AT MOST 1048576: true; the input reads as it did. -/
def fnExactLightShownUptoRow : OpenClaim := { program := "ytmpcbkonelcceaa", sum := "dbc3a8eb6a516a9ef4b14e8e1fb7df135818eed5b1e6f2b02eca165abb3546ba", func := "loop.example/g03006/laws.FnExactLightShown", spec := "fnExactLightShown", unfollowed := true, recurses := true, apart := false, narrowed := true }
def FnExactLightShownUptoSaid : Prop := fnExactLightShownUptoRow.holds Try.pinned (OpenSpec.upto fnExactLightShownSpec)

/-- 'laws.FnExactShownAt', WHERE WHAT IT READS IS OF BULK AT MOST 1048576: true; the input reads as it did. -/
def fnExactShownAtUptoRow : OpenClaim := { program := "ytmpcbkonelcceaa", sum := "dbc3a8eb6a516a9ef4b14e8e1fb7df135818eed5b1e6f2b02eca165abb3546ba", func := "loop.example/g03006/laws.FnExactShownAt", spec := "fnExactShownAt", apart := false, narrowed := true }
def FnExactShownAtUptoSaid : Prop := fnExactShownAtUptoRow.holds Try.pinned (OpenSpec.upto fnExactShownAtSpec)

/-- 'laws.FnExactCountChanges', WHERE WHAT IT READS IS OF BULK AT MOST 1048576: true; the input reads as it did. -/
def fnExactCountChangesUptoRow : OpenClaim := { program := "ytmpcbkonelcceaa", sum := "dbc3a8eb6a516a9ef4b14e8e1fb7df135818eed5b1e6f2b02eca165abb3546ba", func := "loop.example/g03006/laws.FnExactCountChanges", spec := "fnExactCountChanges", unfollowed := true, recurses := true, apart := false, narrowed := true }
def FnExactCountChangesUptoSaid : Prop := fnExactCountChangesUptoRow.holds Try.pinned (OpenSpec.upto fnExactCountChangesSpec)

/-- 'laws.FnExactGreenSince', WHERE WHAT IT READS IS OF BULK AT MOST 1048576: true; the input reads as it did. -/
def fnExactGreenSinceUptoRow : OpenClaim := { program := "ytmpcbkonelcceaa", sum := "dbc3a8eb6a516a9ef4b14e8e1fb7df135818eed5b1e6f2b02eca165abb3546ba", func := "loop.example/g03006/laws.FnExactGreenSince", spec := "fnExactGreenSince", unfollowed := true, recurses := true, apart := false, narrowed := true }
def FnExactGreenSinceUptoSaid : Prop := fnExactGreenSinceUptoRow.holds Try.pinned (OpenSpec.upto fnExactGreenSinceSpec)

/-- 'laws.FnExactWaitingOn', WHERE WHAT IT READS IS OF BULK AT MOST 1048576: true; the input reads as it did. -/
def fnExactWaitingOnUptoRow : OpenClaim := { program := "ytmpcbkonelcceaa", sum := "dbc3a8eb6a516a9ef4b14e8e1fb7df135818eed5b1e6f2b02eca165abb3546ba", func := "loop.example/g03006/laws.FnExactWaitingOn", spec := "fnExactWaitingOn", apart := false, narrowed := true }
def FnExactWaitingOnUptoSaid : Prop := fnExactWaitingOnUptoRow.holds Try.pinned (OpenSpec.upto fnExactWaitingOnSpec)

/-- 'laws.FnExactVoteTurn', WHERE WHAT IT READS IS OF BULK AT MOST 1048576: true; the input reads as it did. -/
def fnExactVoteTurnUptoRow : OpenClaim := { program := "ytmpcbkonelcceaa", sum := "dbc3a8eb6a516a9ef4b14e8e1fb7df135818eed5b1e6f2b02eca165abb3546ba", func := "loop.example/g03006/laws.FnExactVoteTurn", spec := "fnExactVoteTurn", apart := false, narrowed := true }
def FnExactVoteTurnUptoSaid : Prop := fnExactVoteTurnUptoRow.holds Try.pinned (OpenSpec.upto fnExactVoteTurnSpec)

end Rows
end Go.Proofs.Ytmpcbkonelcceaa
