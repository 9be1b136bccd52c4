/- LeastWindow as its exact law meets it. -/
import Derived.Test.YtnlffefekpjbcabWav
namespace Go.Proofs.Ytnlffefekpjbcab
open Go.RowKit
set_option linter.unusedVariables false

theorem sp_LeastWindow (A0 : Option Addr) (n0 c0 : Nat) (zs0 : List Wdw) (w : World) (h0 : SlWdw w A0 n0 c0 zs0) (hs0 : n0 ≤ 1048576) (r : Int) (hr : leastW zs0 = r) :
    Calls Try.prog 38 #[.slice A0 n0 c0] w fun e w' => e = .returned (.int .i64 r) ∧ Below w.heap.size w w' := by
  subst hr
  exact spec_LeastWindow A0 n0 c0 _ zs0 w h0.pths (Nat.le_refl _) (by omega)
theorem im_LeastWindow (A0 : Option Addr) (n0 c0 : Nat) (zs0 : List Wdw) (w : World) (h0 : SlWdw w A0 n0 c0 zs0) (hs0 : n0 ≤ 1048576) (r : Int) (hr : leastW zs0 = r) :
    Calls Try.prog 40 #[.slice A0 n0 c0] w fun e w' => e = .returned (.int .i64 r) ∧ Below w.heap.size w w' := by
  subst hr
  exact impl_LeastWindow A0 n0 c0 _ zs0 w h0.pths (Nat.le_refl _) (by omega)
end Go.Proofs.Ytnlffefekpjbcab
