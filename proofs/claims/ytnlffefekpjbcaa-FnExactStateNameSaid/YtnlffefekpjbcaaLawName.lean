/- Names as their exact laws meet them. -/
import Derived.Test.YtnlffefekpjbcaaName
import Derived.Test.YtnlffefekpjbcaaMem
namespace Go.Proofs.Ytnlffefekpjbcaa
open Go.RowKit
set_option linter.unusedVariables false

theorem sp_StateName (a0 : Int) (w : World) (wa0 : (Lit.int .i64 a0).wf = true) (r : ByteArray) (hr : nameStateName a0 = r) :
    Calls Try.prog 32 #[.int .i64 a0] w fun e w' => e = .returned (.string r) ∧ Below w.heap.size w w' := by
  subst hr
  exact spec_StateName a0 w
theorem im_StateName (a0 : Int) (w : World) (wa0 : (Lit.int .i64 a0).wf = true) (r : ByteArray) (hr : nameStateName a0 = r) :
    Calls Try.prog 33 #[.int .i64 a0] w fun e w' => e = .returned (.string r) ∧ Below w.heap.size w w' := by
  subst hr
  exact impl_StateName a0 w
end Go.Proofs.Ytnlffefekpjbcaa
