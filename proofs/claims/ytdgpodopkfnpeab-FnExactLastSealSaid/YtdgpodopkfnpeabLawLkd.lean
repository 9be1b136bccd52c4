/- LastSeal as exact laws meet them. -/
import Derived.Test.YtdgpodopkfnpeabLkd
namespace Go.Proofs.Ytdgpodopkfnpeab
open Go.RowKit
set_option linter.unusedVariables false

theorem sp_LastSeal (A0 : Option Addr) (n0 c0 : Nat) (zs0 : List Ent) (w : World) (h0 : SlEnt w A0 n0 c0 zs0) (hs0 : SmallEnt zs0) (r : Int) (hr : lastSl zs0 = r) :
    Calls Try.prog 50 #[.slice A0 n0 c0] w fun e w' => e = .returned (.int .i64 r) ∧ Below w.heap.size w w' := by
  subst hr
  have hq0 := h0.pths.1
  have hz0 := hs0.1
  exact spec_LastSeal A0 n0 c0 _ zs0 w h0.pths (Nat.le_refl _) (by omega)
theorem im_LastSeal (A0 : Option Addr) (n0 c0 : Nat) (zs0 : List Ent) (w : World) (h0 : SlEnt w A0 n0 c0 zs0) (hs0 : SmallEnt zs0) (r : Int) (hr : lastSl zs0 = r) :
    Calls Try.prog 52 #[.slice A0 n0 c0] w fun e w' => e = .returned (.int .i64 r) ∧ Below w.heap.size w w' := by
  subst hr
  have hq0 := h0.pths.1
  have hz0 := hs0.1
  exact impl_LastSeal A0 n0 c0 _ zs0 w h0.pths (Nat.le_refl _) (by omega)
end Go.Proofs.Ytdgpodopkfnpeab
