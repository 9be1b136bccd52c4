/- TurnOf and PathText as their exact laws meet them. -/
import Derived.Test.YteilcbmpmeggcaaDoorTurnI
import Derived.Test.YteilcbmpmeggcaaDoorTextI
import Derived.Test.YteilcbmpmeggcaaDoorPthM
import Derived.Test.YteilcbmpmeggcaaDoorConf
namespace Go.Proofs.YteilcbmpmeggcaaDoor
open Go.RowKit
set_option linter.unusedVariables false

theorem sp_TurnOf (p0 : Pth) (w : World) (wp0 : p0.wf) (r : ByteArray) (hr : turnS p0 = r) :
    Calls Tryd.prog 39 #[p0.val] w fun e w' => e = .returned (.string r) ∧ Below w.heap.size w w' := by
  subst hr
  exact spec_TurnOf p0 w
theorem im_TurnOf (p0 : Pth) (w : World) (wp0 : p0.wf) (ht : Turns w) (r : ByteArray) (hr : turnS p0 = r) :
    Calls Tryd.prog 13 #[p0.val] w fun e w' => e = .returned (.string r) ∧ Below w.heap.size w w' := by
  subst hr
  exact impl_TurnOf p0 w ht
theorem im_PathText (p0 : Pth) (w : World) (wp0 : p0.wf) (ht : Tabs w) (r : ByteArray) (hr : pathT p0 = r) :
    Calls Tryd.prog 12 #[p0.val] w fun e w' => e = .returned (.string r) ∧ Below w.heap.size w w' := by
  subst hr
  exact impl_PathText p0 w ht
end Go.Proofs.YteilcbmpmeggcaaDoor
