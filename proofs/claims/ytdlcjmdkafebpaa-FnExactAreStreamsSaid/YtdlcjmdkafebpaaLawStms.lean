/- AreStreams as exact laws meet them. -/
import Derived.Test.YtdlcjmdkafebpaaStmsI
import Derived.Test.YtdlcjmdkafebpaaPthM
namespace Go.Proofs.Ytdlcjmdkafebpaa
open Go.RowKit
set_option linter.unusedVariables false

theorem sp_AreStreams (A0 : Option Addr) (n0 c0 : Nat) (zs0 : List Pth) (A1 : Option Addr) (n1 c1 : Nat) (zs1 : List Stm) (w : World) (h0 : SlP w A0 n0 c0 zs0) (hs0 : n0 ≤ 1048576) (h1 : SlStm w A1 n1 c1 zs1) (hs1 : SmallStm zs1) (r : Bool) (hr : areM zs0 zs1 = r) :
    Calls Try.prog 46 #[.slice A0 n0 c0, .slice A1 n1 c1] w fun e w' => e = .returned (.bool r) ∧ Below w.heap.size w w' := by
  subst hr
  have hq1 := h1.pths.1
  have hz1 := hs1.1
  exact spec_AreStreams A0 n0 c0 _ zs0 A1 n1 c1 _ zs1 w h0.pths h1.pths (Nat.le_refl _) (Nat.le_refl _) (by omega) (by omega) (fun j hj => Nat.le_trans (hs1.2 j (by omega)) (by decide))
theorem im_AreStreams (A0 : Option Addr) (n0 c0 : Nat) (zs0 : List Pth) (A1 : Option Addr) (n1 c1 : Nat) (zs1 : List Stm) (w : World) (h0 : SlP w A0 n0 c0 zs0) (hs0 : n0 ≤ 1048576) (h1 : SlStm w A1 n1 c1 zs1) (hs1 : SmallStm zs1) (r : Bool) (hr : areM zs0 zs1 = r) :
    Calls Try.prog 48 #[.slice A0 n0 c0, .slice A1 n1 c1] w fun e w' => e = .returned (.bool r) ∧ Below w.heap.size w w' := by
  subst hr
  have hq1 := h1.pths.1
  have hz1 := hs1.1
  exact impl_AreStreams A0 n0 c0 _ zs0 A1 n1 c1 _ zs1 w h0.pths h1.pths (Nat.le_refl _) (Nat.le_refl _) (by omega) (by omega) (fun j hj => Nat.le_trans (hs1.2 j (by omega)) (by decide))
end Go.Proofs.Ytdlcjmdkafebpaa
