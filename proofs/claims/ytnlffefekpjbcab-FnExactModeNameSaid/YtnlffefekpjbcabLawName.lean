/- Names as their exact laws meet them. -/
import Derived.Test.YtnlffefekpjbcabName
import Derived.Test.YtnlffefekpjbcabMem
namespace Go.Proofs.Ytnlffefekpjbcab
open Go.RowKit
set_option linter.unusedVariables false

theorem sp_ModeName (a0 : Int) (w : World) (wa0 : (Lit.int .i64 a0).wf = true) (r : ByteArray) (hr : nameModeName a0 = r) :
    Calls Try.prog 28 #[.int .i64 a0] w fun e w' => e = .returned (.string r) ∧ Below w.heap.size w w' := by
  subst hr
  exact spec_ModeName a0 w
theorem im_ModeName (a0 : Int) (w : World) (wa0 : (Lit.int .i64 a0).wf = true) (r : ByteArray) (hr : nameModeName a0 = r) :
    Calls Try.prog 29 #[.int .i64 a0] w fun e w' => e = .returned (.string r) ∧ Below w.heap.size w w' := by
  subst hr
  exact impl_ModeName a0 w
end Go.Proofs.Ytnlffefekpjbcab
