/-
  DERIVED. GIVEN WITH THE SEED: THE PROGRAM's TIES (one call each: nine closed facts by the kernel) AND EACH ROW's TIE, after the 31st guide's Derived/Test/Toyas{Tie, Card}.lean. No idea stands in it: it is a product of the set-up. Laid BY PROGRAM, IN A SANDBOX (cutbox-door.mjs). By AI agents, Wed Nov 11 2026. No macro, syntax, notation, axiom, sorry.
-/
import Derived.Test.YtdgpodopkfnpeabDoorRows
import Derived.LaidByTextLater
import Derived.SevenTiedAt
import Derived.LaidSub
import Derived.LaidOnce
namespace Go.Proofs.YtdgpodopkfnpeabDoor
open Go
set_option maxRecDepth 100000
theorem seatTie1 : Tryd.prog.laidByTextLater [("loop.example/g03006/impl.clearTimes", Rows.laid_loop_example_g03006_impl_clearTimes), ("loop.example/g03006/impl.verdicts", Rows.laid_loop_example_g03006_impl_verdicts)] [.data, .data] true :=
  Program.laidByTextLater_by_one 21 8 5 (by kernel_rfl) (by kernel_rfl) (by kernel_rfl) (by kernel_rfl) (by kernel_rfl) (by kernel_rfl) (fun _ _ => by kernel_rfl)
theorem noOwnUnsafe : Tryd.pinned.checked.prog.headLifts.contains "ownunsafe" = false := by kernel_rfl
theorem tie : Tryd.prog.laidByTextLater [("loop.example/g03006/impl.verdicts", Rows.laid_loop_example_g03006_impl_verdicts)] [.data] true :=
  Program.laidByTextLater.sub seatTie1 ["loop.example/g03006/impl.verdicts"] (by kernel_rfl) (by kernel_rfl)
theorem fnExactVerdict_row_tie : Rows.fnExactVerdictRow.laidByTextAt .later Tryd.pinned [.data] true :=
  OpenClaim.laidByTextAt_later rfl rfl tie noOwnUnsafe
theorem tie2 : Tryd.prog.laidByTextLater [("loop.example/g03006/impl.clearTimes", Rows.laid_loop_example_g03006_impl_clearTimes)] [.data] true :=
  Program.laidByTextLater.sub seatTie1 ["loop.example/g03006/impl.clearTimes"] (by kernel_rfl) (by kernel_rfl)
theorem fnExactWaitBound_row_tie : Rows.fnExactWaitBoundRow.laidByTextAt .later Tryd.pinned [.data] true :=
  OpenClaim.laidByTextAt_later rfl rfl tie2 noOwnUnsafe
theorem fnExactVerdictUpto_row_tie : Rows.fnExactVerdictUptoRow.laidByTextAt .later Tryd.pinned [.data] true :=
  OpenClaim.laidByTextAt_later rfl rfl tie noOwnUnsafe
theorem fnExactWaitBoundUpto_row_tie : Rows.fnExactWaitBoundUptoRow.laidByTextAt .later Tryd.pinned [.data] true :=
  OpenClaim.laidByTextAt_later rfl rfl tie2 noOwnUnsafe
end Go.Proofs.YtdgpodopkfnpeabDoor
