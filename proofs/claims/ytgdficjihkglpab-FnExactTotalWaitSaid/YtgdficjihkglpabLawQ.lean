/- Chapter 12's first functions as their exact laws meet them. -/
import Derived.Test.YtgdficjihkglpabQ
import Derived.Test.YtgdficjihkglpabMem
namespace Go.Proofs.Ytgdficjihkglpab
open Go.RowKit
set_option linter.unusedVariables false

theorem sp_QueueStep (a0 : Int) (a1 : Int) (b2 : Bool) (w : World) (wa0 : (Lit.int .i64 a0).wf = true) (wa1 : (Lit.int .i64 a1).wf = true) (r : Int) (hr : qstep a0 a1 b2 = r) :
    Calls Try.prog 16 #[.int .i64 a0, .int .i64 a1, .bool b2] w fun e w' => e = .returned (.int .i64 r) ∧ Below w.heap.size w w' := by
  subst hr
  exact (spec_QueueStep a0 a1 b2 w).mono fun e w' ⟨h1, h2⟩ => ⟨h1, h2 ▸ Below.refl _ _⟩
theorem im_QueueStep (a0 : Int) (a1 : Int) (b2 : Bool) (w : World) (wa0 : (Lit.int .i64 a0).wf = true) (wa1 : (Lit.int .i64 a1).wf = true) (r : Int) (hr : qstep a0 a1 b2 = r) :
    Calls Try.prog 17 #[.int .i64 a0, .int .i64 a1, .bool b2] w fun e w' => e = .returned (.int .i64 r) ∧ Below w.heap.size w w' := by
  subst hr
  exact impl_QueueStep a0 a1 b2 w
theorem sp_IsServed (A0 : Option Addr) (n0 c0 : Nat) (zs0 : List Int) (w : World) (h0 : Sl .i64 w A0 n0 c0 zs0) (hs0 : n0 ≤ 1048576) (r : Bool) (hr : isSrv zs0 = r) :
    Calls Try.prog 29 #[.slice A0 n0 c0] w fun e w' => e = .returned (.bool r) ∧ Below w.heap.size w w' := by
  subst hr
  exact spec_IsServed A0 n0 c0 _ zs0 w h0.ints (Nat.le_refl _) (by omega)
theorem im_IsServed (A0 : Option Addr) (n0 c0 : Nat) (zs0 : List Int) (w : World) (h0 : Sl .i64 w A0 n0 c0 zs0) (hs0 : n0 ≤ 1048576) (r : Bool) (hr : isSrv zs0 = r) :
    Calls Try.prog 30 #[.slice A0 n0 c0] w fun e w' => e = .returned (.bool r) ∧ Below w.heap.size w w' := by
  subst hr
  exact impl_IsServed A0 n0 c0 _ zs0 w h0.ints (Nat.le_refl _) (by omega)
theorem sp_TotalWait (A0 : Option Addr) (n0 c0 : Nat) (zs0 : List Int) (w : World) (h0 : Sl .i64 w A0 n0 c0 zs0) (hs0 : n0 ≤ 1048576) (r : Int) (hr : totW zs0 = r) :
    Calls Try.prog 27 #[.slice A0 n0 c0] w fun e w' => e = .returned (.int .i64 r) ∧ Below w.heap.size w w' := by
  subst hr
  exact spec_TotalWait A0 n0 c0 _ zs0 w h0.ints (Nat.le_refl _) (by omega)
theorem im_TotalWait (A0 : Option Addr) (n0 c0 : Nat) (zs0 : List Int) (w : World) (h0 : Sl .i64 w A0 n0 c0 zs0) (hs0 : n0 ≤ 1048576) (r : Int) (hr : totW zs0 = r) :
    Calls Try.prog 28 #[.slice A0 n0 c0] w fun e w' => e = .returned (.int .i64 r) ∧ Below w.heap.size w w' := by
  subst hr
  exact impl_TotalWait A0 n0 c0 _ zs0 w h0.ints (Nat.le_refl _) (by omega)
end Go.Proofs.Ytgdficjihkglpab
