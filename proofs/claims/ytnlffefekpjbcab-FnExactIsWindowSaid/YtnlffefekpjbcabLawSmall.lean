/- Small functions as their exact laws meet them. -/
import Derived.Test.YtnlffefekpjbcabSmall
namespace Go.Proofs.Ytnlffefekpjbcab
open Go.RowKit
set_option linter.unusedVariables false

theorem sp_PrioEnds (p0 : Pri) (w : World) (wp0 : p0.wf) (r : Int) (hr : prioEnds p0 = r) :
    Calls Try.prog 48 #[p0.val] w fun e w' => e = .returned (.int .i64 r) ∧ Below w.heap.size w w' := by
  subst hr
  exact spec_PrioEnds p0 w
theorem im_PrioEnds (p0 : Pri) (w : World) (wp0 : p0.wf) (r : Int) (hr : prioEnds p0 = r) :
    Calls Try.prog 50 #[p0.val] w fun e w' => e = .returned (.int .i64 r) ∧ Below w.heap.size w w' := by
  subst hr
  exact impl_PrioEnds p0 w
theorem sp_IsWindow (p0 : Wdw) (a1 : Int) (w : World) (wp0 : p0.wf) (wa1 : (Lit.int .i64 a1).wf = true) (r : Bool) (hr : isWin p0 a1 = r) :
    Calls Try.prog 30 #[p0.val, .int .i64 a1] w fun e w' => e = .returned (.bool r) ∧ Below w.heap.size w w' := by
  subst hr
  exact spec_IsWindow p0 a1 w
theorem im_IsWindow (p0 : Wdw) (a1 : Int) (w : World) (wp0 : p0.wf) (wa1 : (Lit.int .i64 a1).wf = true) (r : Bool) (hr : isWin p0 a1 = r) :
    Calls Try.prog 32 #[p0.val, .int .i64 a1] w fun e w' => e = .returned (.bool r) ∧ Below w.heap.size w w' := by
  subst hr
  exact impl_IsWindow p0 a1 w
theorem sp_GreatestBand (p0 : Wdw) (p1 : Wdw) (a2 : Int) (w : World) (wp0 : p0.wf) (wp1 : p1.wf) (wa2 : (Lit.int .i64 a2).wf = true) (r : Int) (hr : greatB p0 p1 a2 = r) :
    Calls Try.prog 35 #[p0.val, p1.val, .int .i64 a2] w fun e w' => e = .returned (.int .i64 r) ∧ Below w.heap.size w w' := by
  subst hr
  exact spec_GreatestBand p0 p1 a2 w
theorem im_GreatestBand (p0 : Wdw) (p1 : Wdw) (a2 : Int) (w : World) (wp0 : p0.wf) (wp1 : p1.wf) (wa2 : (Lit.int .i64 a2).wf = true) (r : Int) (hr : greatB p0 p1 a2 = r) :
    Calls Try.prog 36 #[p0.val, p1.val, .int .i64 a2] w fun e w' => e = .returned (.int .i64 r) ∧ Below w.heap.size w w' := by
  subst hr
  exact impl_GreatestBand p0 p1 a2 w
end Go.Proofs.Ytnlffefekpjbcab
