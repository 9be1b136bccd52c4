/- HearAll as its exact law meets it. -/
import Derived.Test.YtnlffefekpjbcaaLnkA
namespace Go.Proofs.Ytnlffefekpjbcaa
open Go.RowKit
set_option linter.unusedVariables false

theorem sp_HearAll (p0 : Lnk) (A1 : Option Addr) (n1 c1 : Nat) (zs1 : List Int) (a2 : Int) (a3 : Int) (w : World) (wp0 : p0.wf) (h1 : Sl .i64 w A1 n1 c1 zs1) (hs1 : n1 ≤ 1048576) (wa2 : (Lit.int .i64 a2).wf = true) (wa3 : (Lit.int .i64 a3).wf = true) (r : Lnk) (hr : hearAll p0 zs1 a2 a3 = r) :
    Calls Try.prog 23 #[p0.val, .slice A1 n1 c1, .int .i64 a2, .int .i64 a3] w fun e w' => e = .returned r.val ∧ Below w.heap.size w w' := by
  subst hr
  exact spec_HearAll p0 A1 n1 c1 _ zs1 a2 a3 w h1.ints (Nat.le_refl _) (by omega)
theorem im_HearAll (p0 : Lnk) (A1 : Option Addr) (n1 c1 : Nat) (zs1 : List Int) (a2 : Int) (a3 : Int) (w : World) (wp0 : p0.wf) (h1 : Sl .i64 w A1 n1 c1 zs1) (hs1 : n1 ≤ 1048576) (wa2 : (Lit.int .i64 a2).wf = true) (wa3 : (Lit.int .i64 a3).wf = true) (r : Lnk) (hr : hearAll p0 zs1 a2 a3 = r) :
    Calls Try.prog 25 #[p0.val, .slice A1 n1 c1, .int .i64 a2, .int .i64 a3] w fun e w' => e = .returned r.val ∧ Below w.heap.size w w' := by
  subst hr
  exact impl_HearAll p0 A1 n1 c1 _ zs1 a2 a3 w h1.ints (Nat.le_refl _) (by omega)
end Go.Proofs.Ytnlffefekpjbcaa
