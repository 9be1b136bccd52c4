/- CountVotes, IsTurn as exact laws meet them. -/
import Derived.Test.YtdgpodopkfnpeabBalT
import Derived.Test.YtdgpodopkfnpeabMem
namespace Go.Proofs.Ytdgpodopkfnpeab
open Go.RowKit
set_option linter.unusedVariables false

theorem sp_CountVotes (A0 : Option Addr) (n0 c0 : Nat) (zs0 : List Int) (x0 x1 : Int) (a1 : Int) (w : World) (h0 : Sl .i64 w A0 n0 c0 zs0) (hs0 : n0 ≤ 1048576) (wx0 : (Lit.int .i64 x0).wf = true) (wx1 : (Lit.int .i64 x1).wf = true) (wa1 : (Lit.int .i64 a1).wf = true) (r : Int) (hr : cntVotes zs0 x0 x1 a1 = r) :
    Calls Try.prog 40 #[trnV x0 x1 (.slice A0 n0 c0), .int .i64 a1] w fun e w' => e = .returned (.int .i64 r) ∧ Below w.heap.size w w' := by
  subst hr
  exact spec_CountVotes x0 x1 A0 n0 c0 _ zs0 a1 w h0.ints (Nat.le_refl _) (by omega)
theorem im_CountVotes (A0 : Option Addr) (n0 c0 : Nat) (zs0 : List Int) (x0 x1 : Int) (a1 : Int) (w : World) (h0 : Sl .i64 w A0 n0 c0 zs0) (hs0 : n0 ≤ 1048576) (wx0 : (Lit.int .i64 x0).wf = true) (wx1 : (Lit.int .i64 x1).wf = true) (wa1 : (Lit.int .i64 a1).wf = true) (r : Int) (hr : cntVotes zs0 x0 x1 a1 = r) :
    Calls Try.prog 42 #[trnV x0 x1 (.slice A0 n0 c0), .int .i64 a1] w fun e w' => e = .returned (.int .i64 r) ∧ Below w.heap.size w w' := by
  subst hr
  exact impl_CountVotes x0 x1 A0 n0 c0 _ zs0 a1 w h0.ints (Nat.le_refl _) (by omega) h0.wf wa1
theorem sp_IsTurn (A0 : Option Addr) (n0 c0 : Nat) (zs0 : List Int) (x0 x1 : Int)  (w : World) (h0 : Sl .i64 w A0 n0 c0 zs0) (hs0 : n0 ≤ 1048576) (wx0 : (Lit.int .i64 x0).wf = true) (wx1 : (Lit.int .i64 x1).wf = true)  (r : Bool) (hr : isTurnB zs0 x0 x1  = r) :
    Calls Try.prog 44 #[trnV x0 x1 (.slice A0 n0 c0)] w fun e w' => e = .returned (.bool r) ∧ Below w.heap.size w w' := by
  subst hr
  exact spec_IsTurn x0 x1 A0 n0 c0 _ zs0 w h0.ints (Nat.le_refl _) (by omega)
theorem im_IsTurn (A0 : Option Addr) (n0 c0 : Nat) (zs0 : List Int) (x0 x1 : Int)  (w : World) (h0 : Sl .i64 w A0 n0 c0 zs0) (hs0 : n0 ≤ 1048576) (wx0 : (Lit.int .i64 x0).wf = true) (wx1 : (Lit.int .i64 x1).wf = true)  (r : Bool) (hr : isTurnB zs0 x0 x1  = r) :
    Calls Try.prog 45 #[trnV x0 x1 (.slice A0 n0 c0)] w fun e w' => e = .returned (.bool r) ∧ Below w.heap.size w w' := by
  subst hr
  exact impl_IsTurn x0 x1 A0 n0 c0 _ zs0 w h0.ints (Nat.le_refl _) (by omega) h0.wf
end Go.Proofs.Ytdgpodopkfnpeab
