/- WaitBound as exact laws meet them. -/
import Derived.Test.YtdgpodopkfnpeabDoorWtB
namespace Go.Proofs.YtdgpodopkfnpeabDoor
open Go.RowKit
set_option linter.unusedVariables false

theorem sp_WaitBound (A0 : Option Addr) (n0 c0 : Nat) (zs0 : List Pth) (w : World) (h0 : SlP w A0 n0 c0 zs0) (hs0 : n0 ≤ 1048576) (r : Int) (hr : waitB zs0 = r) :
    Calls Tryd.prog 9 #[.slice A0 n0 c0] w fun e w' => e = .returned (.int .i64 r) ∧ Below w.heap.size w w' := by
  subst hr
  exact spec_WaitBound A0 n0 c0 _ zs0 w h0.pths (Nat.le_refl _) hs0
theorem im_WaitBound (A0 : Option Addr) (n0 c0 : Nat) (zs0 : List Pth) (w : World) (h0 : SlP w A0 n0 c0 zs0) (hs0 : n0 ≤ 1048576) (hv0 : Clrs w) (r : Int) (hr : waitB zs0 = r) :
    Calls Tryd.prog 11 #[.slice A0 n0 c0] w fun e w' => e = .returned (.int .i64 r) ∧ Below w.heap.size w w' := by
  subst hr
  exact impl_WaitBound A0 n0 c0 _ zs0 w h0.pths (Nat.le_refl _) hs0 hv0
end Go.Proofs.YtdgpodopkfnpeabDoor
