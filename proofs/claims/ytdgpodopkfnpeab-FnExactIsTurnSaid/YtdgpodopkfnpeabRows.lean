/-
  No cell of these rows narrows 'for every input' (looked for: loops, veiled, ifaces, maps, wideKeys, modest, calm, conditions, laid).
  DERIVED. THE GIVEN ROWS OF THIS SEAT. 10 by the template 'for every input the law returns true; each argument reads behind the call as it read before'; 0 by the template 'total and deterministic' (their statements: YtdgpodopkfnpeabTotals.lean).
  GIVEN WITH THE SEED: the statements are not yours to turn. If you find one false, say at which input.
  Laid BY PROGRAM, IN A SANDBOX (cutbox-rows.mjs): the forced cells as the released guide's own fill.sh prints them over the translation 98b9d48d601b8223… (all of the seat's roots in one cut). By AI agents, Wed Nov 11 2026. No macro, syntax, notation, axiom, sorry.
-/
import Derived.Test.YtdgpodopkfnpeabChecked
import GoSem.Claim
import GoSem.ClaimJoined
import GoSem.ClaimMapViews
import Derived.JoinedTies
import Derived.KernelRfl
namespace Go.Proofs.Ytdgpodopkfnpeab
/- THE CELL 'sum', in the pinned program and in every row, IS THE sha256 OF THE DUMP (.gsa) THAT YtdgpodopkfnpeabProg.lean LOADS. Nothing in Lean hashes anything: it is a label: what it is worth is what the hold of that sum in a sandbox is worth. -/
noncomputable def Try.pinned : Pinned := { name := "ytdgpodopkfnpeab", sum := "98b9d48d601b8223d2cfc288a29d624c98c48f715a246e06e51df65a9a56b02e", checked := Try.checked }
namespace Rows
def none {H : Type} : Left H := { results := [], args := [] }

/-- 'laws.FnExactInWindow': WHATEVER THE INPUT: true; the input reads as it did. -/
def fnExactInWindowSpec : ChangeSpec := { name := "fnExactInWindow", fn := fun _ => fun
  | [d1, d2, d3, d4] => { results := [.lit (.bool true)], args := [d1, d2, d3, d4] }
  | _ => none }
def fnExactInWindowRow : OpenClaim := { program := "ytdgpodopkfnpeab", sum := "98b9d48d601b8223d2cfc288a29d624c98c48f715a246e06e51df65a9a56b02e", func := "loop.example/g03006/laws.FnExactInWindow", spec := "fnExactInWindow", apart := false }
def FnExactInWindowSaid : Prop := fnExactInWindowRow.holds Try.pinned (OpenSpec.ofChange fnExactInWindowSpec)

/-- ITS FALSE NEIGHBOUR: 'it returns false'. Refute it at one input. -/
def fnExactInWindowWrong : ChangeSpec := { name := "fnExactInWindow", fn := fun _ => fun
  | [d1, d2, d3, d4] => { results := [.lit (.bool false)], args := [d1, d2, d3, d4] }
  | _ => none }
def FnExactInWindowWrongFalsely : Prop := fnExactInWindowRow.holds Try.pinned (OpenSpec.ofChange fnExactInWindowWrong)

/-- 'laws.FnExactAskPrio': WHATEVER THE INPUT: true; the input reads as it did. -/
def fnExactAskPrioSpec : ChangeSpec := { name := "fnExactAskPrio", fn := fun _ => fun
  | [d1, d2, d3] => { results := [.lit (.bool true)], args := [d1, d2, d3] }
  | _ => none }
def fnExactAskPrioRow : OpenClaim := { program := "ytdgpodopkfnpeab", sum := "98b9d48d601b8223d2cfc288a29d624c98c48f715a246e06e51df65a9a56b02e", func := "loop.example/g03006/laws.FnExactAskPrio", spec := "fnExactAskPrio", unfollowed := true, recurses := true, apart := false }
def FnExactAskPrioSaid : Prop := fnExactAskPrioRow.holds Try.pinned (OpenSpec.ofChange fnExactAskPrioSpec)

/-- ITS FALSE NEIGHBOUR: 'it returns false'. Refute it at one input. -/
def fnExactAskPrioWrong : ChangeSpec := { name := "fnExactAskPrio", fn := fun _ => fun
  | [d1, d2, d3] => { results := [.lit (.bool false)], args := [d1, d2, d3] }
  | _ => none }
def FnExactAskPrioWrongFalsely : Prop := fnExactAskPrioRow.holds Try.pinned (OpenSpec.ofChange fnExactAskPrioWrong)

/-- 'laws.FnExactAreStreets': WHATEVER THE INPUT: true; the input reads as it did. -/
def fnExactAreStreetsSpec : ChangeSpec := { name := "fnExactAreStreets", fn := fun _ => fun
  | [d] => { results := [.lit (.bool true)], args := [d] }
  | _ => none }
def fnExactAreStreetsRow : OpenClaim := { program := "ytdgpodopkfnpeab", sum := "98b9d48d601b8223d2cfc288a29d624c98c48f715a246e06e51df65a9a56b02e", func := "loop.example/g03006/laws.FnExactAreStreets", spec := "fnExactAreStreets", unfollowed := true, recurses := true, apart := false }
def FnExactAreStreetsSaid : Prop := fnExactAreStreetsRow.holds Try.pinned (OpenSpec.ofChange fnExactAreStreetsSpec)

/-- ITS FALSE NEIGHBOUR: 'it returns false'. Refute it at one input. -/
def fnExactAreStreetsWrong : ChangeSpec := { name := "fnExactAreStreets", fn := fun _ => fun
  | [d] => { results := [.lit (.bool false)], args := [d] }
  | _ => none }
def FnExactAreStreetsWrongFalsely : Prop := fnExactAreStreetsRow.holds Try.pinned (OpenSpec.ofChange fnExactAreStreetsWrong)

/-- 'laws.FnExactStreetsFrom': WHATEVER THE INPUT: true; the input reads as it did. -/
def fnExactStreetsFromSpec : ChangeSpec := { name := "fnExactStreetsFrom", fn := fun _ => fun
  | [d1, d2] => { results := [.lit (.bool true)], args := [d1, d2] }
  | _ => none }
def fnExactStreetsFromRow : OpenClaim := { program := "ytdgpodopkfnpeab", sum := "98b9d48d601b8223d2cfc288a29d624c98c48f715a246e06e51df65a9a56b02e", func := "loop.example/g03006/laws.FnExactStreetsFrom", spec := "fnExactStreetsFrom", recurses := true, apart := false }
def FnExactStreetsFromSaid : Prop := fnExactStreetsFromRow.holds Try.pinned (OpenSpec.ofChange fnExactStreetsFromSpec)

/-- ITS FALSE NEIGHBOUR: 'it returns false'. Refute it at one input. -/
def fnExactStreetsFromWrong : ChangeSpec := { name := "fnExactStreetsFrom", fn := fun _ => fun
  | [d1, d2] => { results := [.lit (.bool false)], args := [d1, d2] }
  | _ => none }
def FnExactStreetsFromWrongFalsely : Prop := fnExactStreetsFromRow.holds Try.pinned (OpenSpec.ofChange fnExactStreetsFromWrong)

/-- 'laws.FnExactAreCars': WHATEVER THE INPUT: true; the input reads as it did. -/
def fnExactAreCarsSpec : ChangeSpec := { name := "fnExactAreCars", fn := fun _ => fun
  | [d1, d2] => { results := [.lit (.bool true)], args := [d1, d2] }
  | _ => none }
def fnExactAreCarsRow : OpenClaim := { program := "ytdgpodopkfnpeab", sum := "98b9d48d601b8223d2cfc288a29d624c98c48f715a246e06e51df65a9a56b02e", func := "loop.example/g03006/laws.FnExactAreCars", spec := "fnExactAreCars", unfollowed := true, recurses := true, apart := false }
def FnExactAreCarsSaid : Prop := fnExactAreCarsRow.holds Try.pinned (OpenSpec.ofChange fnExactAreCarsSpec)

/-- ITS FALSE NEIGHBOUR: 'it returns false'. Refute it at one input. -/
def fnExactAreCarsWrong : ChangeSpec := { name := "fnExactAreCars", fn := fun _ => fun
  | [d1, d2] => { results := [.lit (.bool false)], args := [d1, d2] }
  | _ => none }
def FnExactAreCarsWrongFalsely : Prop := fnExactAreCarsRow.holds Try.pinned (OpenSpec.ofChange fnExactAreCarsWrong)

/-- 'laws.FnExactCountVotes': WHATEVER THE INPUT: true; the input reads as it did. -/
def fnExactCountVotesSpec : ChangeSpec := { name := "fnExactCountVotes", fn := fun _ => fun
  | [d1, d2] => { results := [.lit (.bool true)], args := [d1, d2] }
  | _ => none }
def fnExactCountVotesRow : OpenClaim := { program := "ytdgpodopkfnpeab", sum := "98b9d48d601b8223d2cfc288a29d624c98c48f715a246e06e51df65a9a56b02e", func := "loop.example/g03006/laws.FnExactCountVotes", spec := "fnExactCountVotes", apart := false }
def FnExactCountVotesSaid : Prop := fnExactCountVotesRow.holds Try.pinned (OpenSpec.ofChange fnExactCountVotesSpec)

/-- ITS FALSE NEIGHBOUR: 'it returns false'. Refute it at one input. -/
def fnExactCountVotesWrong : ChangeSpec := { name := "fnExactCountVotes", fn := fun _ => fun
  | [d1, d2] => { results := [.lit (.bool false)], args := [d1, d2] }
  | _ => none }
def FnExactCountVotesWrongFalsely : Prop := fnExactCountVotesRow.holds Try.pinned (OpenSpec.ofChange fnExactCountVotesWrong)

/-- 'laws.FnExactIsTurn': WHATEVER THE INPUT: true; the input reads as it did. -/
def fnExactIsTurnSpec : ChangeSpec := { name := "fnExactIsTurn", fn := fun _ => fun
  | [d] => { results := [.lit (.bool true)], args := [d] }
  | _ => none }
def fnExactIsTurnRow : OpenClaim := { program := "ytdgpodopkfnpeab", sum := "98b9d48d601b8223d2cfc288a29d624c98c48f715a246e06e51df65a9a56b02e", func := "loop.example/g03006/laws.FnExactIsTurn", spec := "fnExactIsTurn", apart := false }
def FnExactIsTurnSaid : Prop := fnExactIsTurnRow.holds Try.pinned (OpenSpec.ofChange fnExactIsTurnSpec)

/-- ITS FALSE NEIGHBOUR: 'it returns false'. Refute it at one input. -/
def fnExactIsTurnWrong : ChangeSpec := { name := "fnExactIsTurn", fn := fun _ => fun
  | [d] => { results := [.lit (.bool false)], args := [d] }
  | _ => none }
def FnExactIsTurnWrongFalsely : Prop := fnExactIsTurnRow.holds Try.pinned (OpenSpec.ofChange fnExactIsTurnWrong)

/-- 'laws.FnExactSealOf': WHATEVER THE INPUT: true; the input reads as it did. -/
def fnExactSealOfSpec : ChangeSpec := { name := "fnExactSealOf", fn := fun _ => fun
  | [d1, d2, d3] => { results := [.lit (.bool true)], args := [d1, d2, d3] }
  | _ => none }
def fnExactSealOfRow : OpenClaim := { program := "ytdgpodopkfnpeab", sum := "98b9d48d601b8223d2cfc288a29d624c98c48f715a246e06e51df65a9a56b02e", func := "loop.example/g03006/laws.FnExactSealOf", spec := "fnExactSealOf", apart := false }
def FnExactSealOfSaid : Prop := fnExactSealOfRow.holds Try.pinned (OpenSpec.ofChange fnExactSealOfSpec)

/-- ITS FALSE NEIGHBOUR: 'it returns false'. Refute it at one input. -/
def fnExactSealOfWrong : ChangeSpec := { name := "fnExactSealOf", fn := fun _ => fun
  | [d1, d2, d3] => { results := [.lit (.bool false)], args := [d1, d2, d3] }
  | _ => none }
def FnExactSealOfWrongFalsely : Prop := fnExactSealOfRow.holds Try.pinned (OpenSpec.ofChange fnExactSealOfWrong)

/-- 'laws.FnExactLastSeal': WHATEVER THE INPUT: true; the input reads as it did. -/
def fnExactLastSealSpec : ChangeSpec := { name := "fnExactLastSeal", fn := fun _ => fun
  | [d] => { results := [.lit (.bool true)], args := [d] }
  | _ => none }
def fnExactLastSealRow : OpenClaim := { program := "ytdgpodopkfnpeab", sum := "98b9d48d601b8223d2cfc288a29d624c98c48f715a246e06e51df65a9a56b02e", func := "loop.example/g03006/laws.FnExactLastSeal", spec := "fnExactLastSeal", apart := false }
def FnExactLastSealSaid : Prop := fnExactLastSealRow.holds Try.pinned (OpenSpec.ofChange fnExactLastSealSpec)

/-- ITS FALSE NEIGHBOUR: 'it returns false'. Refute it at one input. -/
def fnExactLastSealWrong : ChangeSpec := { name := "fnExactLastSeal", fn := fun _ => fun
  | [d] => { results := [.lit (.bool false)], args := [d] }
  | _ => none }
def FnExactLastSealWrongFalsely : Prop := fnExactLastSealRow.holds Try.pinned (OpenSpec.ofChange fnExactLastSealWrong)

/-- 'laws.FnExactLongestWant': WHATEVER THE INPUT: true; the input reads as it did. -/
def fnExactLongestWantSpec : ChangeSpec := { name := "fnExactLongestWant", fn := fun _ => fun
  | [d1, d2] => { results := [.lit (.bool true)], args := [d1, d2] }
  | _ => none }
def fnExactLongestWantRow : OpenClaim := { program := "ytdgpodopkfnpeab", sum := "98b9d48d601b8223d2cfc288a29d624c98c48f715a246e06e51df65a9a56b02e", func := "loop.example/g03006/laws.FnExactLongestWant", spec := "fnExactLongestWant", unfollowed := true, recurses := true, apart := false }
def FnExactLongestWantSaid : Prop := fnExactLongestWantRow.holds Try.pinned (OpenSpec.ofChange fnExactLongestWantSpec)

/-- ITS FALSE NEIGHBOUR: 'it returns false'. Refute it at one input. -/
def fnExactLongestWantWrong : ChangeSpec := { name := "fnExactLongestWant", fn := fun _ => fun
  | [d1, d2] => { results := [.lit (.bool false)], args := [d1, d2] }
  | _ => none }
def FnExactLongestWantWrongFalsely : Prop := fnExactLongestWantRow.holds Try.pinned (OpenSpec.ofChange fnExactLongestWantWrong)

/- THE SECOND FORM. 'bulk': how many values and letters a reading holds, each counted each time it is reached (what is shared counts as often as it is met; a slice's spare places count too). A statement '..UptoSaid' is the law's where the arguments, and the package variables that the reading takes, are together of bulk at most 1048576: NARROWER than '..Said'. Prove '..Said' where nothing that the law and all that it calls make is longer than what came in: it says more and counts as full. Else prove '..UptoSaid'. A law counts once. -/
mutual
def uptoBulk {H : Type} : DataW H → Nat
  | .lit (.string bytes) => bytes.length + 1
  | .lit _ => 1
  | .nil => 1
  | .ptr d => uptoBulk d + 1
  | .slice elems spare => uptoBulkAll elems + uptoBulkAll spare + 1
  | .agg parts => uptoBulkAll parts + 1
  | .iface _ d => uptoBulk d + 1
  | .map entries => uptoBulkEntries entries + 1
  | .held _ => 1
def uptoBulkAll {H : Type} : List (DataW H) → Nat
  | [] => 0
  | d :: r => uptoBulk d + uptoBulkAll r
def uptoBulkEntries {H : Type} : List (Lit × DataW H) → Nat
  | [] => 0
  | x :: r => uptoBulkEntry x + uptoBulkEntries r
def uptoBulkEntry {H : Type} : Lit × DataW H → Nat
  | (.string bytes, d) => bytes.length + uptoBulk d + 1
  | (_, d) => uptoBulk d + 1
 end
def uptoSmall : (H : Type) → List (DataW H) → Bool := fun _ ds => decide (uptoBulkAll ds ≤ 1048576)
def OpenSpec.upto (s : _root_.Go.ChangeSpec) : _root_.Go.OpenSpec := { _root_.Go.OpenSpec.ofChange s with cond := some uptoSmall }

/-- 'laws.FnExactInWindow', WHERE WHAT IT READS IS OF BULK AT MOST 1048576: true; the input reads as it did. -/
def fnExactInWindowUptoRow : OpenClaim := { program := "ytdgpodopkfnpeab", sum := "98b9d48d601b8223d2cfc288a29d624c98c48f715a246e06e51df65a9a56b02e", func := "loop.example/g03006/laws.FnExactInWindow", spec := "fnExactInWindow", apart := false, narrowed := true }
def FnExactInWindowUptoSaid : Prop := fnExactInWindowUptoRow.holds Try.pinned (OpenSpec.upto fnExactInWindowSpec)

/-- 'laws.FnExactAskPrio', WHERE WHAT IT READS IS OF BULK AT MOST 1048576: true; the input reads as it did. -/
def fnExactAskPrioUptoRow : OpenClaim := { program := "ytdgpodopkfnpeab", sum := "98b9d48d601b8223d2cfc288a29d624c98c48f715a246e06e51df65a9a56b02e", func := "loop.example/g03006/laws.FnExactAskPrio", spec := "fnExactAskPrio", unfollowed := true, recurses := true, apart := false, narrowed := true }
def FnExactAskPrioUptoSaid : Prop := fnExactAskPrioUptoRow.holds Try.pinned (OpenSpec.upto fnExactAskPrioSpec)

/-- 'laws.FnExactAreStreets', WHERE WHAT IT READS IS OF BULK AT MOST 1048576: true; the input reads as it did. -/
def fnExactAreStreetsUptoRow : OpenClaim := { program := "ytdgpodopkfnpeab", sum := "98b9d48d601b8223d2cfc288a29d624c98c48f715a246e06e51df65a9a56b02e", func := "loop.example/g03006/laws.FnExactAreStreets", spec := "fnExactAreStreets", unfollowed := true, recurses := true, apart := false, narrowed := true }
def FnExactAreStreetsUptoSaid : Prop := fnExactAreStreetsUptoRow.holds Try.pinned (OpenSpec.upto fnExactAreStreetsSpec)

/-- 'laws.FnExactStreetsFrom', WHERE WHAT IT READS IS OF BULK AT MOST 1048576: true; the input reads as it did. -/
def fnExactStreetsFromUptoRow : OpenClaim := { program := "ytdgpodopkfnpeab", sum := "98b9d48d601b8223d2cfc288a29d624c98c48f715a246e06e51df65a9a56b02e", func := "loop.example/g03006/laws.FnExactStreetsFrom", spec := "fnExactStreetsFrom", recurses := true, apart := false, narrowed := true }
def FnExactStreetsFromUptoSaid : Prop := fnExactStreetsFromUptoRow.holds Try.pinned (OpenSpec.upto fnExactStreetsFromSpec)

/-- 'laws.FnExactAreCars', WHERE WHAT IT READS IS OF BULK AT MOST 1048576: true; the input reads as it did. -/
def fnExactAreCarsUptoRow : OpenClaim := { program := "ytdgpodopkfnpeab", sum := "98b9d48d601b8223d2cfc288a29d624c98c48f715a246e06e51df65a9a56b02e", func := "loop.example/g03006/laws.FnExactAreCars", spec := "fnExactAreCars", unfollowed := true, recurses := true, apart := false, narrowed := true }
def FnExactAreCarsUptoSaid : Prop := fnExactAreCarsUptoRow.holds Try.pinned (OpenSpec.upto fnExactAreCarsSpec)

/-- 'laws.FnExactCountVotes', WHERE WHAT IT READS IS OF BULK AT MOST 1048576: true; the input reads as it did. -/
def fnExactCountVotesUptoRow : OpenClaim := { program := "ytdgpodopkfnpeab", sum := "98b9d48d601b8223d2cfc288a29d624c98c48f715a246e06e51df65a9a56b02e", func := "loop.example/g03006/laws.FnExactCountVotes", spec := "fnExactCountVotes", apart := false, narrowed := true }
def FnExactCountVotesUptoSaid : Prop := fnExactCountVotesUptoRow.holds Try.pinned (OpenSpec.upto fnExactCountVotesSpec)

/-- 'laws.FnExactIsTurn', WHERE WHAT IT READS IS OF BULK AT MOST 1048576: true; the input reads as it did. -/
def fnExactIsTurnUptoRow : OpenClaim := { program := "ytdgpodopkfnpeab", sum := "98b9d48d601b8223d2cfc288a29d624c98c48f715a246e06e51df65a9a56b02e", func := "loop.example/g03006/laws.FnExactIsTurn", spec := "fnExactIsTurn", apart := false, narrowed := true }
def FnExactIsTurnUptoSaid : Prop := fnExactIsTurnUptoRow.holds Try.pinned (OpenSpec.upto fnExactIsTurnSpec)

/-- 'laws.FnExactSealOf', WHERE WHAT IT READS IS OF BULK AT MOST 1048576: true; the input reads as it did. -/
def fnExactSealOfUptoRow : OpenClaim := { program := "ytdgpodopkfnpeab", sum := "98b9d48d601b8223d2cfc288a29d624c98c48f715a246e06e51df65a9a56b02e", func := "loop.example/g03006/laws.FnExactSealOf", spec := "fnExactSealOf", apart := false, narrowed := true }
def FnExactSealOfUptoSaid : Prop := fnExactSealOfUptoRow.holds Try.pinned (OpenSpec.upto fnExactSealOfSpec)

/-- 'laws.FnExactLastSeal', WHERE WHAT IT READS IS OF BULK AT MOST 1048576: true; the input reads as it did. -/
def fnExactLastSealUptoRow : OpenClaim := { program := "ytdgpodopkfnpeab", sum := "98b9d48d601b8223d2cfc288a29d624c98c48f715a246e06e51df65a9a56b02e", func := "loop.example/g03006/laws.FnExactLastSeal", spec := "fnExactLastSeal", apart := false, narrowed := true }
def FnExactLastSealUptoSaid : Prop := fnExactLastSealUptoRow.holds Try.pinned (OpenSpec.upto fnExactLastSealSpec)

/-- 'laws.FnExactLongestWant', WHERE WHAT IT READS IS OF BULK AT MOST 1048576: true; the input reads as it did. -/
def fnExactLongestWantUptoRow : OpenClaim := { program := "ytdgpodopkfnpeab", sum := "98b9d48d601b8223d2cfc288a29d624c98c48f715a246e06e51df65a9a56b02e", func := "loop.example/g03006/laws.FnExactLongestWant", spec := "fnExactLongestWant", unfollowed := true, recurses := true, apart := false, narrowed := true }
def FnExactLongestWantUptoSaid : Prop := fnExactLongestWantUptoRow.holds Try.pinned (OpenSpec.upto fnExactLongestWantSpec)

end Rows
end Go.Proofs.Ytdgpodopkfnpeab
