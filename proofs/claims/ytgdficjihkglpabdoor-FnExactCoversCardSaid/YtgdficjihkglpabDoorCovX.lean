/- CoverOf, Covers: their exact laws' contracts. -/
import Derived.Test.YtgdficjihkglpabDoorCoverI
import Derived.Test.YtgdficjihkglpabDoorStsI
import Derived.Test.YtgdficjihkglpabDoorPthM
namespace Go.Proofs.YtgdficjihkglpabDoor
open Go.RowKit
set_option linter.unusedVariables false

theorem sp_Covers (A0 : Option Addr) (n0 c0 : Nat) (zs0 : List Pth) (A1 : Option Addr) (n1 c1 : Nat) (zs1 : List (List Int)) (w : World) (h0 : SlP w A0 n0 c0 zs0) (hs0 : n0 ≤ 1048576) (h1 : SlSS w A1 n1 c1 zs1) (hs1 : SmallSS zs1) (r : Bool) (hr : coversP zs0 zs1 = r) :
    Calls Tryd.prog 29 #[.slice A0 n0 c0, .slice A1 n1 c1] w fun e w' => e = .returned (.bool r) ∧ Below w.heap.size w w' := by
  subst hr
  have hl := h1.ss.1
  have := hs1.1
  exact spec_Covers A0 n0 c0 _ zs0 A1 n1 c1 _ zs1 w h0.pths h1.ss (Nat.le_refl _) (Nat.le_refl _) h0.small (by omega) (hs1.at _ _ hl.symm (by decide))
theorem im_Covers (A0 : Option Addr) (n0 c0 : Nat) (zs0 : List Pth) (A1 : Option Addr) (n1 c1 : Nat) (zs1 : List (List Int)) (w : World) (h0 : SlP w A0 n0 c0 zs0) (hs0 : n0 ≤ 1048576) (h1 : SlSS w A1 n1 c1 zs1) (hs1 : SmallSS zs1) (hv : Brus w) (r : Bool) (hr : coversP zs0 zs1 = r) :
    Calls Tryd.prog 31 #[.slice A0 n0 c0, .slice A1 n1 c1] w fun e w' => e = .returned (.bool r) ∧ Below w.heap.size w w' := by
  subst hr
  have hl := h1.ss.1
  have := hs1.1
  exact impl_Covers A0 n0 c0 _ zs0 A1 n1 c1 _ zs1 w h0.pths h1.ss (Nat.le_refl _) (Nat.le_refl _) h0.cap h0.small (by omega) (hs1.at _ _ hl.symm (by decide)) hv
end Go.Proofs.YtgdficjihkglpabDoor
