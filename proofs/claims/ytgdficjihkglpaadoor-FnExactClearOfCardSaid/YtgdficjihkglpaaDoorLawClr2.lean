/- LongestClear, ClearOf as their exact laws meet them. -/
import Derived.Test.YtgdficjihkglpaaDoorClrM
import Derived.Test.YtgdficjihkglpaaDoorClrT
import Derived.Test.YtgdficjihkglpaaDoorPthM
namespace Go.Proofs.YtgdficjihkglpaaDoor
open Go.RowKit
set_option linter.unusedVariables false

theorem sp_LongestClear (A0 : Option Addr) (n0 c0 : Nat) (zs0 : List Pth) (w : World) (h0 : SlP w A0 n0 c0 zs0) (hs0 : n0 ≤ 1048576) (r : Int) (hr : longC zs0 = r) :
    Calls Tryd.prog 9 #[.slice A0 n0 c0] w fun e w' => e = .returned (.int .i64 r) ∧ Below w.heap.size w w' := by
  subst hr
  exact spec_LongestClear A0 n0 c0 _ zs0 w h0.pths (Nat.le_refl _) (by omega)
theorem im_LongestClear (A0 : Option Addr) (n0 c0 : Nat) (zs0 : List Pth) (w : World) (h0 : SlP w A0 n0 c0 zs0) (hs0 : n0 ≤ 1048576) (hv0 : Clrs w) (r : Int) (hr : longC zs0 = r) :
    Calls Tryd.prog 11 #[.slice A0 n0 c0] w fun e w' => e = .returned (.int .i64 r) ∧ Below w.heap.size w w' := by
  subst hr
  exact impl_LongestClear A0 n0 c0 _ zs0 w h0.pths (Nat.le_refl _) (by omega) hv0
theorem sp_ClearOf (p0 : Pth) (w : World) (wp0 : p0.wf) (r : Int) (hr : clearN p0 = r) :
    Calls Tryd.prog 5 #[p0.val] w fun e w' => e = .returned (.int .i64 r) ∧ Below w.heap.size w w' := by
  subst hr
  exact spec_ClearOf p0 w
theorem im_ClearOf (p0 : Pth) (w : World) (wp0 : p0.wf) (hv0 : Clrs w) (r : Int) (hr : clearN p0 = r) :
    Calls Tryd.prog 7 #[p0.val] w fun e w' => e = .returned (.int .i64 r) ∧ Below w.heap.size w w' := by
  subst hr
  exact impl_ClearOf p0 w hv0
end Go.Proofs.YtgdficjihkglpaaDoor
