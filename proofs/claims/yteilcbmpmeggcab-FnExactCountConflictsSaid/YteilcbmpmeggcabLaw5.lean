/- CountConflicts as its exact law meets it. -/
import Derived.Test.YteilcbmpmeggcabCntI
import Derived.Test.YteilcbmpmeggcabPthM
namespace Go.Proofs.Yteilcbmpmeggcab
open Go.RowKit
set_option linter.unusedVariables false

theorem sp_CountConflicts (A0 : Option Addr) (n0 c0 : Nat) (zs0 : List Pth) (w : World) (h0 : SlP w A0 n0 c0 zs0) (hs0 : n0 ≤ 1048576) (r : Int) (hr : countCs zs0 = r) :
    Calls Try.prog 6 #[.slice A0 n0 c0] w fun e w' => e = .returned (.int .i64 r) ∧ Below w.heap.size w w' := by
  subst hr
  exact spec_CountConflicts A0 n0 c0 _ zs0 w h0.pths (Nat.le_refl _) h0.small
theorem im_CountConflicts (A0 : Option Addr) (n0 c0 : Nat) (zs0 : List Pth) (w : World) (h0 : SlP w A0 n0 c0 zs0) (hs0 : n0 ≤ 1048576) (r : Int) (hr : countCs zs0 = r) :
    Calls Try.prog 8 #[.slice A0 n0 c0] w fun e w' => e = .returned (.int .i64 r) ∧ Below w.heap.size w w' := by
  subst hr
  exact impl_CountConflicts A0 n0 c0 _ zs0 w h0.pths (Nat.le_refl _) h0.cap h0.small
end Go.Proofs.Yteilcbmpmeggcab
