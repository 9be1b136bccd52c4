/-
  DERIVED. GIVEN WITH THE SEED: THE PROGRAM's TIES (one call each: nine closed facts by the kernel) AND EACH ROW's TIE, after the 31st guide's Derived/Test/Toyas{Tie, Card}.lean. No idea stands in it: it is a product of the set-up. Laid BY PROGRAM, IN A SANDBOX (cutbox-door.mjs). By AI agents, Wed Nov 11 2026. No macro, syntax, notation, axiom, sorry.
-/
import Derived.Test.YtmpcbkonelcceaaDoorRows
import Derived.LaidByTextLater
import Derived.SevenTiedAt
import Derived.LaidSub
import Derived.LaidOnce
namespace Go.Proofs.YtmpcbkonelcceaaDoor
open Go
set_option maxRecDepth 100000
theorem seatTie1 : Tryd.prog.laidByTextLater [("math/bits.deBruijn32tab", Rows.laid_math_bits_deBruijn32tab), ("loop.example/g03006/impl.clearTimes", Rows.laid_loop_example_g03006_impl_clearTimes), ("loop.example/g03006/impl.sirenTimes", Rows.laid_loop_example_g03006_impl_sirenTimes)] [.data, .data, .data] true :=
  Program.laidByTextLater_by_one 24 8 33 (by kernel_rfl) (by kernel_rfl) (by kernel_rfl) (by kernel_rfl) (by kernel_rfl) (by kernel_rfl) (fun _ _ => by kernel_rfl)
theorem noOwnUnsafe : Tryd.pinned.checked.prog.headLifts.contains "ownunsafe" = false := by kernel_rfl
theorem tie : Tryd.prog.laidByTextLater [("math/bits.deBruijn32tab", Rows.laid_math_bits_deBruijn32tab), ("loop.example/g03006/impl.clearTimes", Rows.laid_loop_example_g03006_impl_clearTimes)] [.data, .data] true :=
  Program.laidByTextLater.sub seatTie1 ["math/bits.deBruijn32tab", "loop.example/g03006/impl.clearTimes"] (by kernel_rfl) (by kernel_rfl)
theorem fnExactTickControl_row_tie : Rows.fnExactTickControlRow.laidByTextAt .later Tryd.pinned [.data, .data] true :=
  OpenClaim.laidByTextAt_later rfl rfl tie noOwnUnsafe
theorem fnExactAskStage_row_tie : Rows.fnExactAskStageRow.laidByTextAt .later Tryd.pinned [.data, .data] true :=
  OpenClaim.laidByTextAt_later rfl rfl tie noOwnUnsafe
theorem tie2 : Tryd.prog.laidByTextLater [("math/bits.deBruijn32tab", Rows.laid_math_bits_deBruijn32tab), ("loop.example/g03006/impl.clearTimes", Rows.laid_loop_example_g03006_impl_clearTimes), ("loop.example/g03006/impl.sirenTimes", Rows.laid_loop_example_g03006_impl_sirenTimes)] [.data, .data, .data] true :=
  Program.laidByTextLater.sub seatTie1 ["math/bits.deBruijn32tab", "loop.example/g03006/impl.clearTimes", "loop.example/g03006/impl.sirenTimes"] (by kernel_rfl) (by kernel_rfl)
theorem fnExactCanCut_row_tie : Rows.fnExactCanCutRow.laidByTextAt .later Tryd.pinned [.data, .data, .data] true :=
  OpenClaim.laidByTextAt_later rfl rfl tie2 noOwnUnsafe
theorem tie3 : Tryd.prog.laidByTextLater [("loop.example/g03006/impl.clearTimes", Rows.laid_loop_example_g03006_impl_clearTimes)] [.data] true :=
  Program.laidByTextLater.sub seatTie1 ["loop.example/g03006/impl.clearTimes"] (by kernel_rfl) (by kernel_rfl)
theorem fnExactLongestSiren_row_tie : Rows.fnExactLongestSirenRow.laidByTextAt .later Tryd.pinned [.data] true :=
  OpenClaim.laidByTextAt_later rfl rfl tie3 noOwnUnsafe
theorem fnExactTickControlUpto_row_tie : Rows.fnExactTickControlUptoRow.laidByTextAt .later Tryd.pinned [.data, .data] true :=
  OpenClaim.laidByTextAt_later rfl rfl tie noOwnUnsafe
theorem fnExactAskStageUpto_row_tie : Rows.fnExactAskStageUptoRow.laidByTextAt .later Tryd.pinned [.data, .data] true :=
  OpenClaim.laidByTextAt_later rfl rfl tie noOwnUnsafe
theorem fnExactCanCutUpto_row_tie : Rows.fnExactCanCutUptoRow.laidByTextAt .later Tryd.pinned [.data, .data, .data] true :=
  OpenClaim.laidByTextAt_later rfl rfl tie2 noOwnUnsafe
theorem fnExactLongestSirenUpto_row_tie : Rows.fnExactLongestSirenUptoRow.laidByTextAt .later Tryd.pinned [.data] true :=
  OpenClaim.laidByTextAt_later rfl rfl tie3 noOwnUnsafe
end Go.Proofs.YtmpcbkonelcceaaDoor
