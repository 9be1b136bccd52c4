/- AreStreets as exact laws meet them. -/
import Derived.Test.YtdgpodopkfnpeabStrtI
import Derived.Test.YtdgpodopkfnpeabMem
namespace Go.Proofs.Ytdgpodopkfnpeab
open Go.RowKit
set_option linter.unusedVariables false

theorem sp_AreStreets (A0 : Option Addr) (n0 c0 : Nat) (zs0 : List Stt) (w : World) (h0 : SlStt w A0 n0 c0 zs0) (hs0 : n0 ≤ 1048576) (r : Bool) (hr : areS zs0 = r) :
    Calls Try.prog 24 #[.slice A0 n0 c0] w fun e w' => e = .returned (.bool r) ∧ Below w.heap.size w w' := by
  subst hr
  exact spec_AreStreets A0 n0 c0 _ zs0 w h0.pths (Nat.le_refl _) (by omega)
theorem im_AreStreets (A0 : Option Addr) (n0 c0 : Nat) (zs0 : List Stt) (w : World) (h0 : SlStt w A0 n0 c0 zs0) (hs0 : n0 ≤ 1048576) (r : Bool) (hr : areS zs0 = r) :
    Calls Try.prog 26 #[.slice A0 n0 c0] w fun e w' => e = .returned (.bool r) ∧ Below w.heap.size w w' := by
  subst hr
  exact impl_AreStreets A0 n0 c0 _ zs0 w h0.pths (Nat.le_refl _) (by omega) h0.cap.1
end Go.Proofs.Ytdgpodopkfnpeab
