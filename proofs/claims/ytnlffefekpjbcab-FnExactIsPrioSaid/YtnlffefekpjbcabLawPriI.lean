/- IsPrio as its exact law meets it. -/
import Derived.Test.YtnlffefekpjbcabPriI
import Derived.Test.YtnlffefekpjbcabPthM
namespace Go.Proofs.Ytnlffefekpjbcab
open Go.RowKit
set_option linter.unusedVariables false

theorem sp_IsPrio (A0 : Option Addr) (n0 c0 : Nat) (zs0 : List Pth) (p1 : Pri) (w : World) (h0 : SlP w A0 n0 c0 zs0) (hs0 : n0 ≤ 1048576) (wp1 : p1.wf) (r : Bool) (hr : isPri zs0 p1 = r) :
    Calls Try.prog 52 #[.slice A0 n0 c0, p1.val] w fun e w' => e = .returned (.bool r) ∧ Below w.heap.size w w' := by
  subst hr
  exact spec_IsPrio A0 n0 c0 _ zs0 p1 w h0.pths (Nat.le_refl _) (by omega)
theorem im_IsPrio (A0 : Option Addr) (n0 c0 : Nat) (zs0 : List Pth) (p1 : Pri) (w : World) (h0 : SlP w A0 n0 c0 zs0) (hs0 : n0 ≤ 1048576) (wp1 : p1.wf) (r : Bool) (hr : isPri zs0 p1 = r) :
    Calls Try.prog 54 #[.slice A0 n0 c0, p1.val] w fun e w' => e = .returned (.bool r) ∧ Below w.heap.size w w' := by
  subst hr
  exact impl_IsPrio A0 n0 c0 _ zs0 p1 w h0.pths (Nat.le_refl _) (by omega)
end Go.Proofs.Ytnlffefekpjbcab
