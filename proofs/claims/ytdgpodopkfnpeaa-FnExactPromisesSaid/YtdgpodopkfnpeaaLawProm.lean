/- Promises as exact laws meet them. -/
import Derived.Test.YtdgpodopkfnpeaaProm
namespace Go.Proofs.Ytdgpodopkfnpeaa
open Go.RowKit
set_option linter.unusedVariables false

theorem sp_Promises (A0 : Option Addr) (n0 c0 : Nat) (zs0 : List Svc) (a1 : Int) (w : World) (h0 : SlSvc w A0 n0 c0 zs0) (hs0 : n0 ≤ 1048576) (wa1 : (Lit.int .i64 a1).wf = true) (r : Bool) (hr : promB zs0 a1 = r) :
    Calls Try.prog 38 #[.slice A0 n0 c0, .int .i64 a1] w fun e w' => e = .returned (.bool r) ∧ Below w.heap.size w w' := by
  subst hr
  exact spec_Promises A0 n0 c0 _ zs0 a1 w h0.pths (Nat.le_refl _) (by omega)
theorem im_Promises (A0 : Option Addr) (n0 c0 : Nat) (zs0 : List Svc) (a1 : Int) (w : World) (h0 : SlSvc w A0 n0 c0 zs0) (hs0 : n0 ≤ 1048576) (wa1 : (Lit.int .i64 a1).wf = true) (r : Bool) (hr : promB zs0 a1 = r) :
    Calls Try.prog 40 #[.slice A0 n0 c0, .int .i64 a1] w fun e w' => e = .returned (.bool r) ∧ Below w.heap.size w w' := by
  subst hr
  exact impl_Promises A0 n0 c0 _ zs0 a1 w h0.pths (Nat.le_refl _) (by omega)
end Go.Proofs.Ytdgpodopkfnpeaa
