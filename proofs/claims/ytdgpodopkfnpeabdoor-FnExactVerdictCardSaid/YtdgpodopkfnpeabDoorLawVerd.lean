/- Verdict as exact laws meet them. -/
import Derived.Test.YtdgpodopkfnpeabDoorVerd
import Derived.Test.YtdgpodopkfnpeabDoorMem
namespace Go.Proofs.YtdgpodopkfnpeabDoor
open Go.RowKit
set_option linter.unusedVariables false

theorem sp_Verdict (p0 : Rep) (p1 : Rep) (w : World) (wp0 : p0.wf) (wp1 : p1.wf) (r : ByteArray) (hr : verdB p0 p1 = r) :
    Calls Tryd.prog 5 #[p0.val, p1.val] w fun e w' => e = .returned (.string r) ∧ Below w.heap.size w w' := by
  subst hr
  exact spec_Verdict p0 p1 w
theorem im_Verdict (p0 : Rep) (p1 : Rep) (w : World) (wp0 : p0.wf) (wp1 : p1.wf) (hv0 : Verds w) (r : ByteArray) (hr : verdB p0 p1 = r) :
    Calls Tryd.prog 7 #[p0.val, p1.val] w fun e w' => e = .returned (.string r) ∧ Below w.heap.size w w' := by
  subst hr
  exact impl_Verdict p0 p1 w hv0
end Go.Proofs.YtdgpodopkfnpeabDoor
