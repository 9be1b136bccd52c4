/- SameUntil as exact laws meet them. -/
import Derived.Test.YtdlcjmdkafebpaaSame
import Derived.Test.YtdlcjmdkafebpaaMem
namespace Go.Proofs.Ytdlcjmdkafebpaa
open Go.RowKit
set_option linter.unusedVariables false

theorem sp_SameUntil (A0 : Option Addr) (n0 c0 : Nat) (zs0 : List Ent) (A1 : Option Addr) (n1 c1 : Nat) (zs1 : List Ent) (w : World) (h0 : SlEnt w A0 n0 c0 zs0) (hs0 : SmallEnt zs0) (h1 : SlEnt w A1 n1 c1 zs1) (hs1 : SmallEnt zs1) (r : Int) (hr : sameU zs0 zs1 = r) :
    Calls Try.prog 51 #[.slice A0 n0 c0, .slice A1 n1 c1] w fun e w' => e = .returned (.int .i64 r) ∧ Below w.heap.size w w' := by
  subst hr
  have hq0 := h0.pths.1
  have hz0 := hs0.1
  have hq1 := h1.pths.1
  have hz1 := hs1.1
  exact spec_SameUntil A0 n0 c0 _ zs0 A1 n1 c1 _ zs1 w h0.pths h1.pths (Nat.le_refl _) (Nat.le_refl _) (by omega) (by omega)
theorem im_SameUntil (A0 : Option Addr) (n0 c0 : Nat) (zs0 : List Ent) (A1 : Option Addr) (n1 c1 : Nat) (zs1 : List Ent) (w : World) (h0 : SlEnt w A0 n0 c0 zs0) (hs0 : SmallEnt zs0) (h1 : SlEnt w A1 n1 c1 zs1) (hs1 : SmallEnt zs1) (r : Int) (hr : sameU zs0 zs1 = r) :
    Calls Try.prog 53 #[.slice A0 n0 c0, .slice A1 n1 c1] w fun e w' => e = .returned (.int .i64 r) ∧ Below w.heap.size w w' := by
  subst hr
  have hq0 := h0.pths.1
  have hz0 := hs0.1
  have hq1 := h1.pths.1
  have hz1 := hs1.1
  exact impl_SameUntil A0 n0 c0 _ zs0 A1 n1 c1 _ zs1 w h0.pths h1.pths (Nat.le_refl _) (Nat.le_refl _) (by omega) (by omega) (fun y hy => (h1.wf y hy).2.2.2)
end Go.Proofs.Ytdlcjmdkafebpaa
