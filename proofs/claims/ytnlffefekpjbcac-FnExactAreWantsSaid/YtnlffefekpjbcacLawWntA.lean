/- AreWants as its exact law meets it. -/
import Derived.Test.YtnlffefekpjbcacWntA
import Derived.Test.YtnlffefekpjbcacPthM
namespace Go.Proofs.Ytnlffefekpjbcac
open Go.RowKit
set_option linter.unusedVariables false

theorem sp_AreWants (A0 : Option Addr) (n0 c0 : Nat) (zs0 : List Pth) (A1 : Option Addr) (n1 c1 : Nat) (zs1 : List Wnt) (w : World) (h0 : SlP w A0 n0 c0 zs0) (hs0 : n0 ≤ 1048576) (h1 : SlWnt w A1 n1 c1 zs1) (hs1 : n1 ≤ 1048576) (r : Bool) (hr : areW zs0 zs1 = r) :
    Calls Try.prog 7 #[.slice A0 n0 c0, .slice A1 n1 c1] w fun e w' => e = .returned (.bool r) ∧ Below w.heap.size w w' := by
  subst hr
  exact spec_AreWants A0 n0 c0 _ zs0 A1 n1 c1 _ zs1 w h0.pths h1.pths (Nat.le_refl _) (Nat.le_refl _) (by omega) (by omega)
theorem im_AreWants (A0 : Option Addr) (n0 c0 : Nat) (zs0 : List Pth) (A1 : Option Addr) (n1 c1 : Nat) (zs1 : List Wnt) (w : World) (h0 : SlP w A0 n0 c0 zs0) (hs0 : n0 ≤ 1048576) (h1 : SlWnt w A1 n1 c1 zs1) (hs1 : n1 ≤ 1048576) (r : Bool) (hr : areW zs0 zs1 = r) :
    Calls Try.prog 10 #[.slice A0 n0 c0, .slice A1 n1 c1] w fun e w' => e = .returned (.bool r) ∧ Below w.heap.size w w' := by
  subst hr
  exact impl_AreWants A0 n0 c0 _ zs0 A1 n1 c1 _ zs1 w h0.pths h1.pths (Nat.le_refl _) (Nat.le_refl _) (by omega) (by omega)
end Go.Proofs.Ytnlffefekpjbcac
