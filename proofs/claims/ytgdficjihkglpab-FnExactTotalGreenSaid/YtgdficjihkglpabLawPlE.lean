/- Plans compared, TotalGreen: their exact laws' contracts. -/
import Derived.Test.YtgdficjihkglpabPlE
import Derived.Test.YtgdficjihkglpabPrtM
namespace Go.Proofs.Ytgdficjihkglpab
open Go.RowKit
set_option linter.unusedVariables false

theorem sp_SameStages (A0 : Option Addr) (n0 c0 : Nat) (zs0 : List Prt) (A1 : Option Addr) (n1 c1 : Nat) (zs1 : List Prt) (w : World) (h0 : SlQ w A0 n0 c0 zs0) (hs0 : SmallP zs0) (h1 : SlQ w A1 n1 c1 zs1) (hs1 : SmallP zs1) (r : Bool) (hr : sameSt zs0 zs1 = r) :
    Calls Try.prog 10 #[.slice A0 n0 c0, .slice A1 n1 c1] w fun e w' => e = .returned (.bool r) ∧ Below w.heap.size w w' := by
  subst hr
  have hq0 := h0.prts.1
  have hz0 := hs0.1
  have hq1 := h1.prts.1
  have hz1 := hs1.1
  exact spec_SameStages A0 n0 c0 _ zs0 A1 n1 c1 _ zs1 w h0.prts h1.prts (Nat.le_refl _) (Nat.le_refl _) (by omega) (by omega) (hs0.at _ _ hq0.symm (Nat.le_refl _)) (hs1.at _ _ hq1.symm (Nat.le_refl _))
theorem im_SameStages (A0 : Option Addr) (n0 c0 : Nat) (zs0 : List Prt) (A1 : Option Addr) (n1 c1 : Nat) (zs1 : List Prt) (w : World) (h0 : SlQ w A0 n0 c0 zs0) (hs0 : SmallP zs0) (h1 : SlQ w A1 n1 c1 zs1) (hs1 : SmallP zs1) (r : Bool) (hr : sameSt zs0 zs1 = r) :
    Calls Try.prog 12 #[.slice A0 n0 c0, .slice A1 n1 c1] w fun e w' => e = .returned (.bool r) ∧ Below w.heap.size w w' := by
  subst hr
  have hq0 := h0.prts.1
  have hz0 := hs0.1
  have hq1 := h1.prts.1
  have hz1 := hs1.1
  exact impl_SameStages A0 n0 c0 _ zs0 A1 n1 c1 _ zs1 w h0.prts h1.prts (Nat.le_refl _) (Nat.le_refl _) (by omega) (by omega) (hs0.at _ _ hq0.symm (Nat.le_refl _)) (hs1.at _ _ hq1.symm (Nat.le_refl _))
theorem sp_TotalGreen (A0 : Option Addr) (n0 c0 : Nat) (zs0 : List Prt) (w : World) (h0 : SlQ w A0 n0 c0 zs0) (hs0 : SmallP zs0) (r : Int) (hr : totG zs0 = r) :
    Calls Try.prog 14 #[.slice A0 n0 c0] w fun e w' => e = .returned (.int .i64 r) ∧ Below w.heap.size w w' := by
  subst hr
  have hq0 := h0.prts.1
  have hz0 := hs0.1
  exact spec_TotalGreen A0 n0 c0 _ zs0 w h0.prts (Nat.le_refl _) (by omega)
theorem im_TotalGreen (A0 : Option Addr) (n0 c0 : Nat) (zs0 : List Prt) (w : World) (h0 : SlQ w A0 n0 c0 zs0) (hs0 : SmallP zs0) (r : Int) (hr : totG zs0 = r) :
    Calls Try.prog 15 #[.slice A0 n0 c0] w fun e w' => e = .returned (.int .i64 r) ∧ Below w.heap.size w w' := by
  subst hr
  have hq0 := h0.prts.1
  have hz0 := hs0.1
  exact impl_TotalGreen A0 n0 c0 _ zs0 w h0.prts (Nat.le_refl _) (by omega)
end Go.Proofs.Ytgdficjihkglpab
