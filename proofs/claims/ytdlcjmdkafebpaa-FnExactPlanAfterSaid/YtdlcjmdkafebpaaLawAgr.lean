/- IsAgreed, PlanAfter as exact laws meet them. -/
import Derived.Test.YtdlcjmdkafebpaaAgr
import Derived.Test.YtdlcjmdkafebpaaMem
namespace Go.Proofs.Ytdlcjmdkafebpaa
open Go.RowKit
set_option linter.unusedVariables false

theorem sp_IsAgreed (A0 : Option Addr) (n0 c0 : Nat) (zs0 : List Int) (x0 x1 : Int)  (w : World) (h0 : Sl .i64 w A0 n0 c0 zs0) (hs0 : n0 ≤ 1048576) (wx0 : (Lit.int .i64 x0).wf = true) (wx1 : (Lit.int .i64 x1).wf = true)  (r : Bool) (hr : isAgr zs0 x0 x1  = r) :
    Calls Try.prog 16 #[trnV x0 x1 (.slice A0 n0 c0)] w fun e w' => e = .returned (.bool r) ∧ Below w.heap.size w w' := by
  subst hr
  exact spec_IsAgreed x0 x1 A0 n0 c0 _ zs0 w h0.ints (Nat.le_refl _) (by omega) h0.wf
theorem im_IsAgreed (A0 : Option Addr) (n0 c0 : Nat) (zs0 : List Int) (x0 x1 : Int)  (w : World) (h0 : Sl .i64 w A0 n0 c0 zs0) (hs0 : n0 ≤ 1048576) (wx0 : (Lit.int .i64 x0).wf = true) (wx1 : (Lit.int .i64 x1).wf = true)  (r : Bool) (hr : isAgr zs0 x0 x1  = r) :
    Calls Try.prog 18 #[trnV x0 x1 (.slice A0 n0 c0)] w fun e w' => e = .returned (.bool r) ∧ Below w.heap.size w w' := by
  subst hr
  exact impl_IsAgreed x0 x1 A0 n0 c0 _ zs0 w h0.ints (Nat.le_refl _) (by omega) h0.wf
theorem sp_PlanAfter (A0 : Option Addr) (n0 c0 : Nat) (zs0 : List Int) (x0 x1 : Int) (a1 : Int) (a2 : Int) (w : World) (h0 : Sl .i64 w A0 n0 c0 zs0) (hs0 : n0 ≤ 1048576) (wx0 : (Lit.int .i64 x0).wf = true) (wx1 : (Lit.int .i64 x1).wf = true) (wa1 : (Lit.int .i64 a1).wf = true) (wa2 : (Lit.int .i64 a2).wf = true) (r : Int) (hr : planAft zs0 x0 x1 a1 a2 = r) :
    Calls Try.prog 20 #[trnV x0 x1 (.slice A0 n0 c0), .int .i64 a1, .int .i64 a2] w fun e w' => e = .returned (.int .i64 r) ∧ Below w.heap.size w w' := by
  subst hr
  exact spec_PlanAfter x0 x1 A0 n0 c0 _ zs0 a1 a2 w h0.ints (Nat.le_refl _) (by omega) h0.wf
theorem im_PlanAfter (A0 : Option Addr) (n0 c0 : Nat) (zs0 : List Int) (x0 x1 : Int) (a1 : Int) (a2 : Int) (w : World) (h0 : Sl .i64 w A0 n0 c0 zs0) (hs0 : n0 ≤ 1048576) (wx0 : (Lit.int .i64 x0).wf = true) (wx1 : (Lit.int .i64 x1).wf = true) (wa1 : (Lit.int .i64 a1).wf = true) (wa2 : (Lit.int .i64 a2).wf = true) (r : Int) (hr : planAft zs0 x0 x1 a1 a2 = r) :
    Calls Try.prog 21 #[trnV x0 x1 (.slice A0 n0 c0), .int .i64 a1, .int .i64 a2] w fun e w' => e = .returned (.int .i64 r) ∧ Below w.heap.size w w' := by
  subst hr
  exact impl_PlanAfter x0 x1 A0 n0 c0 _ zs0 a1 a2 w h0.ints (Nat.le_refl _) (by omega) h0.wf
end Go.Proofs.Ytdlcjmdkafebpaa
