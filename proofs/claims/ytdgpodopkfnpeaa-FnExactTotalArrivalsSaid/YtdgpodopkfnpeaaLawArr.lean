/- TotalArrivals as exact laws meet them. -/
import Derived.Test.YtdgpodopkfnpeaaArr
namespace Go.Proofs.Ytdgpodopkfnpeaa
open Go.RowKit
set_option linter.unusedVariables false

theorem sp_TotalArrivals (A0 : Option Addr) (n0 c0 : Nat) (zs0 : List Stm) (w : World) (h0 : SlStm w A0 n0 c0 zs0) (hs0 : SmallStm zs0) (r : Int) (hr : totArr zs0 = r) :
    Calls Try.prog 62 #[.slice A0 n0 c0] w fun e w' => e = .returned (.int .i64 r) ∧ Below w.heap.size w w' := by
  subst hr
  have hq0 := h0.pths.1
  have hz0 := hs0.1
  exact spec_TotalArrivals A0 n0 c0 _ zs0 w h0.pths (Nat.le_refl _) (by omega) (fun j hj => hs0.2 j (by omega))
theorem im_TotalArrivals (A0 : Option Addr) (n0 c0 : Nat) (zs0 : List Stm) (w : World) (h0 : SlStm w A0 n0 c0 zs0) (hs0 : SmallStm zs0) (r : Int) (hr : totArr zs0 = r) :
    Calls Try.prog 64 #[.slice A0 n0 c0] w fun e w' => e = .returned (.int .i64 r) ∧ Below w.heap.size w w' := by
  subst hr
  have hq0 := h0.pths.1
  have hz0 := hs0.1
  exact impl_TotalArrivals A0 n0 c0 _ zs0 w h0.pths (Nat.le_refl _) (by omega) (fun j hj => hs0.2 j (by omega))
end Go.Proofs.Ytdgpodopkfnpeaa
