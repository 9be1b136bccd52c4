/- WaitedFor as exact laws meet them. -/
import Derived.Test.YtdgpodopkfnpeaaWaited
namespace Go.Proofs.Ytdgpodopkfnpeaa
open Go.RowKit
set_option linter.unusedVariables false

theorem sp_WaitedFor (A0 : Option Addr) (n0 c0 : Nat) (zs0 : List (List Int)) (a1 : Int) (w : World) (h0 : SlSS w A0 n0 c0 zs0) (hs0 : SmallSS zs0) (wa1 : (Lit.int .i64 a1).wf = true) (r : Int) (hr : waitF zs0 a1 = r) :
    Calls Try.prog 54 #[.slice A0 n0 c0, .int .i64 a1] w fun e w' => e = .returned (.int .i64 r) ∧ Below w.heap.size w w' := by
  subst hr
  exact spec_WaitedFor A0 n0 c0 _ zs0 a1 w h0.ss (Nat.le_refl _) (by have := h0.ss.1; have := hs0.1; omega) (hs0.at n0 _ h0.ss.1.symm (by decide))
theorem im_WaitedFor (A0 : Option Addr) (n0 c0 : Nat) (zs0 : List (List Int)) (a1 : Int) (w : World) (h0 : SlSS w A0 n0 c0 zs0) (hs0 : SmallSS zs0) (wa1 : (Lit.int .i64 a1).wf = true) (r : Int) (hr : waitF zs0 a1 = r) :
    Calls Try.prog 55 #[.slice A0 n0 c0, .int .i64 a1] w fun e w' => e = .returned (.int .i64 r) ∧ Below w.heap.size w w' := by
  subst hr
  exact impl_WaitedFor A0 n0 c0 _ zs0 a1 w h0.ss (Nat.le_refl _) (by have := h0.ss.1; have := hs0.1; omega) (hs0.at n0 _ h0.ss.1.symm (by decide))
end Go.Proofs.Ytdgpodopkfnpeaa
