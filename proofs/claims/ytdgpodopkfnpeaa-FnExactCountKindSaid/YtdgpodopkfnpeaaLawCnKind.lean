/- CountKind as its exact law meets it. -/
import Derived.Test.YtdgpodopkfnpeaaCnKind
import Derived.Test.YtdgpodopkfnpeaaPthM
namespace Go.Proofs.Ytdgpodopkfnpeaa
open Go.RowKit
set_option linter.unusedVariables false

theorem sp_CountKind (A0 : Option Addr) (n0 c0 : Nat) (zs0 : List Pth) (a1 : Int) (w : World) (h0 : SlP w A0 n0 c0 zs0) (hs0 : n0 ≤ 1048576) (wa1 : (Lit.int .i64 a1).wf = true) (r : Int) (hr : cntCountKind zs0 a1 = r) :
    Calls Try.prog 18 #[.slice A0 n0 c0, .int .i64 a1] w fun e w' => e = .returned (.int .i64 r) ∧ Below w.heap.size w w' := by
  subst hr
  exact spec_CountKind A0 n0 c0 _ zs0 a1 w h0.pths (Nat.le_refl _) (by omega)
theorem im_CountKind (A0 : Option Addr) (n0 c0 : Nat) (zs0 : List Pth) (a1 : Int) (w : World) (h0 : SlP w A0 n0 c0 zs0) (hs0 : n0 ≤ 1048576) (wa1 : (Lit.int .i64 a1).wf = true) (r : Int) (hr : cntCountKind zs0 a1 = r) :
    Calls Try.prog 20 #[.slice A0 n0 c0, .int .i64 a1] w fun e w' => e = .returned (.int .i64 r) ∧ Below w.heap.size w w' := by
  subst hr
  exact impl_CountKind A0 n0 c0 _ zs0 a1 w h0.pths (Nat.le_refl _) (by omega)
end Go.Proofs.Ytdgpodopkfnpeaa
