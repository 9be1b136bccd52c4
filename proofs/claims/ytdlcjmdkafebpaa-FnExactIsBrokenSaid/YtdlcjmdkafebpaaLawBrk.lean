/- IsBroken as exact laws meet them. -/
import Derived.Test.YtdlcjmdkafebpaaBrk
import Derived.Test.YtdlcjmdkafebpaaMem
namespace Go.Proofs.Ytdlcjmdkafebpaa
open Go.RowKit
set_option linter.unusedVariables false

theorem sp_IsBroken (A0 : Option Addr) (n0 c0 : Nat) (zs0 : List Lmp) (a1 : Int) (a2 : Int) (w : World) (h0 : SlLmp w A0 n0 c0 zs0) (hs0 : n0 ≤ 1048576) (wa1 : (Lit.int .i64 a1).wf = true) (wa2 : (Lit.int .i64 a2).wf = true) (r : Bool) (hr : brkL zs0 a1 a2 = r) :
    Calls Try.prog 23 #[.slice A0 n0 c0, .int .i64 a1, .int .i64 a2] w fun e w' => e = .returned (.bool r) ∧ Below w.heap.size w w' := by
  subst hr
  exact spec_IsBroken A0 n0 c0 _ zs0 a1 a2 w h0.pths (Nat.le_refl _) (by omega)
theorem im_IsBroken (A0 : Option Addr) (n0 c0 : Nat) (zs0 : List Lmp) (a1 : Int) (a2 : Int) (w : World) (h0 : SlLmp w A0 n0 c0 zs0) (hs0 : n0 ≤ 1048576) (wa1 : (Lit.int .i64 a1).wf = true) (wa2 : (Lit.int .i64 a2).wf = true) (r : Bool) (hr : brkL zs0 a1 a2 = r) :
    Calls Try.prog 25 #[.slice A0 n0 c0, .int .i64 a1, .int .i64 a2] w fun e w' => e = .returned (.bool r) ∧ Below w.heap.size w w' := by
  subst hr
  exact impl_IsBroken A0 n0 c0 _ zs0 a1 a2 w h0.pths (Nat.le_refl _) (by omega) h0.wf wa1 wa2
end Go.Proofs.Ytdlcjmdkafebpaa
