/- WorstService as exact laws meet them. -/
import Derived.Test.YtdgpodopkfnpeaaWorst
import Derived.Test.YtdgpodopkfnpeaaMem
namespace Go.Proofs.Ytdgpodopkfnpeaa
open Go.RowKit
set_option linter.unusedVariables false

theorem sp_WorstService (A0 : Option Addr) (n0 c0 : Nat) (zs0 : List Svc) (w : World) (h0 : SlSvc w A0 n0 c0 zs0) (hs0 : n0 ≤ 1048576) (r : Int) (hr : worstS zs0 = r) :
    Calls Try.prog 42 #[.slice A0 n0 c0] w fun e w' => e = .returned (.int .i64 r) ∧ Below w.heap.size w w' := by
  subst hr
  exact spec_WorstService A0 n0 c0 _ zs0 w h0.pths (Nat.le_refl _) (by omega)
theorem im_WorstService (A0 : Option Addr) (n0 c0 : Nat) (zs0 : List Svc) (w : World) (h0 : SlSvc w A0 n0 c0 zs0) (hs0 : n0 ≤ 1048576) (r : Int) (hr : worstS zs0 = r) :
    Calls Try.prog 43 #[.slice A0 n0 c0] w fun e w' => e = .returned (.int .i64 r) ∧ Below w.heap.size w w' := by
  subst hr
  exact impl_WorstService A0 n0 c0 _ zs0 w h0.pths (Nat.le_refl _) (by omega)
end Go.Proofs.Ytdgpodopkfnpeaa
