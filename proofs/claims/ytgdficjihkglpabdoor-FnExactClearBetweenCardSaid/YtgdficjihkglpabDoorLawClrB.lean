/- ClearBetween as its exact law meets it. -/
import Derived.Test.YtgdficjihkglpabDoorClrD
import Derived.Test.YtgdficjihkglpabDoorClrS
import Derived.Test.YtgdficjihkglpabDoorPthM
namespace Go.Proofs.YtgdficjihkglpabDoor
open Go.RowKit
set_option linter.unusedVariables false

theorem sp_ClearBetween (A0 : Option Addr) (n0 c0 : Nat) (zs0 : List Pth) (A1 : Option Addr) (n1 c1 : Nat) (zs1 : List Int) (A2 : Option Addr) (n2 c2 : Nat) (zs2 : List Int) (w : World) (h0 : SlP w A0 n0 c0 zs0) (hs0 : n0 ≤ 1048576) (h1 : Sl .i64 w A1 n1 c1 zs1) (hs1 : n1 ≤ 1048576) (h2 : Sl .i64 w A2 n2 c2 zs2) (hs2 : n2 ≤ 1048576) (r : Int) (hr : clrB zs0 zs1 zs2 = r) :
    Calls Tryd.prog 32 #[.slice A0 n0 c0, .slice A1 n1 c1, .slice A2 n2 c2] w fun e w' => e = .returned (.int .i64 r) ∧ Below w.heap.size w w' := by
  subst hr
  exact spec_ClearBetween A0 n0 c0 _ zs0 A1 n1 c1 _ zs1 A2 n2 c2 _ zs2 w h0.pths (Nat.le_refl _) (by omega) h1.ints (Nat.le_refl _) (by omega) h2.ints (Nat.le_refl _) (by omega)
theorem im_ClearBetween (A0 : Option Addr) (n0 c0 : Nat) (zs0 : List Pth) (A1 : Option Addr) (n1 c1 : Nat) (zs1 : List Int) (A2 : Option Addr) (n2 c2 : Nat) (zs2 : List Int) (w : World) (h0 : SlP w A0 n0 c0 zs0) (hs0 : n0 ≤ 1048576) (h1 : Sl .i64 w A1 n1 c1 zs1) (hs1 : n1 ≤ 1048576) (h2 : Sl .i64 w A2 n2 c2 zs2) (hs2 : n2 ≤ 1048576) (hv0 : Brus w) (hv1 : Clrs w) (r : Int) (hr : clrB zs0 zs1 zs2 = r) :
    Calls Tryd.prog 33 #[.slice A0 n0 c0, .slice A1 n1 c1, .slice A2 n2 c2] w fun e w' => e = .returned (.int .i64 r) ∧ Below w.heap.size w w' := by
  subst hr
  exact impl_ClearBetween A0 n0 c0 _ zs0 A1 n1 c1 _ zs1 A2 n2 c2 _ zs2 w h0.pths (Nat.le_refl _) h0.cap (by omega) h1.ints (Nat.le_refl _) (by omega) h1.cap.1 h1.bare h2.ints (Nat.le_refl _) (by omega) h2.cap.1 h2.bare hv0 hv1
end Go.Proofs.YtgdficjihkglpabDoor
