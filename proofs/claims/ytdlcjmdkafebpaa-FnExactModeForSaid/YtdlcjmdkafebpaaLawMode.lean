/- ModeFor as exact laws meet them. -/
import Derived.Test.YtdlcjmdkafebpaaMode
import Derived.Test.YtdlcjmdkafebpaaPthM
namespace Go.Proofs.Ytdlcjmdkafebpaa
open Go.RowKit
set_option linter.unusedVariables false

theorem sp_ModeFor (A0 : Option Addr) (n0 c0 : Nat) (zs0 : List Pth) (A1 : Option Addr) (n1 c1 : Nat) (zs1 : List Lmp) (b2 : Bool) (w : World) (h0 : SlP w A0 n0 c0 zs0) (hs0 : n0 ≤ 1048576) (h1 : SlLmp w A1 n1 c1 zs1) (hs1 : n1 ≤ 1048576) (r : Int) (hr : modeL zs0 zs1 b2 = r) :
    Calls Try.prog 32 #[.slice A0 n0 c0, .slice A1 n1 c1, .bool b2] w fun e w' => e = .returned (.int .i64 r) ∧ Below w.heap.size w w' := by
  subst hr
  exact spec_ModeFor A0 n0 c0 _ zs0 A1 n1 c1 _ zs1 b2 w h0.pths h1.pths (Nat.le_refl _) (Nat.le_refl _) (by omega) (by omega)
theorem im_ModeFor (A0 : Option Addr) (n0 c0 : Nat) (zs0 : List Pth) (A1 : Option Addr) (n1 c1 : Nat) (zs1 : List Lmp) (b2 : Bool) (w : World) (h0 : SlP w A0 n0 c0 zs0) (hs0 : n0 ≤ 1048576) (h1 : SlLmp w A1 n1 c1 zs1) (hs1 : n1 ≤ 1048576) (r : Int) (hr : modeL zs0 zs1 b2 = r) :
    Calls Try.prog 33 #[.slice A0 n0 c0, .slice A1 n1 c1, .bool b2] w fun e w' => e = .returned (.int .i64 r) ∧ Below w.heap.size w w' := by
  subst hr
  exact impl_ModeFor A0 n0 c0 _ zs0 A1 n1 c1 _ zs1 b2 w h0.pths h1.pths (Nat.le_refl _) (Nat.le_refl _) (by omega) (by omega) h1.wf
end Go.Proofs.Ytdlcjmdkafebpaa
