/- InWindow as exact laws meet them. -/
import Derived.Test.YtdgpodopkfnpeabInWin
import Derived.Test.YtdgpodopkfnpeabMem
namespace Go.Proofs.Ytdgpodopkfnpeab
open Go.RowKit
set_option linter.unusedVariables false

theorem sp_InWindow (p0 : Wdw) (a1 : Int) (a2 : Int) (a3 : Int) (w : World) (wp0 : p0.wf) (wa1 : (Lit.int .i64 a1).wf = true) (wa2 : (Lit.int .i64 a2).wf = true) (wa3 : (Lit.int .i64 a3).wf = true) (r : Bool) (hr : inWin p0 a1 a2 a3 = r) :
    Calls Try.prog 13 #[p0.val, .int .i64 a1, .int .i64 a2, .int .i64 a3] w fun e w' => e = .returned (.bool r) ∧ Below w.heap.size w w' := by
  subst hr
  exact spec_InWindow p0 a1 a2 a3 w
theorem im_InWindow (p0 : Wdw) (a1 : Int) (a2 : Int) (a3 : Int) (w : World) (wp0 : p0.wf) (wa1 : (Lit.int .i64 a1).wf = true) (wa2 : (Lit.int .i64 a2).wf = true) (wa3 : (Lit.int .i64 a3).wf = true) (r : Bool) (hr : inWin p0 a1 a2 a3 = r) :
    Calls Try.prog 15 #[p0.val, .int .i64 a1, .int .i64 a2, .int .i64 a3] w fun e w' => e = .returned (.bool r) ∧ Below w.heap.size w w' := by
  subst hr
  exact impl_InWindow p0 a1 a2 a3 w
end Go.Proofs.Ytdgpodopkfnpeab
