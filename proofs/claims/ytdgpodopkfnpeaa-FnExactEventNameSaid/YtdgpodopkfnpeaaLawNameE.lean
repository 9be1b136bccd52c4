/- EventName as exact laws meet them. -/
import Derived.Test.YtdgpodopkfnpeaaNameE
import Derived.Test.YtdgpodopkfnpeaaMem
namespace Go.Proofs.Ytdgpodopkfnpeaa
open Go.RowKit
set_option linter.unusedVariables false

theorem sp_EventName (a0 : Int) (w : World) (wa0 : (Lit.int .i64 a0).wf = true) (r : ByteArray) (hr : nameE a0 = r) :
    Calls Try.prog 15 #[.int .i64 a0] w fun e w' => e = .returned (.string r) ∧ Below w.heap.size w w' := by
  subst hr
  exact spec_EventName a0 w
theorem im_EventName (a0 : Int) (w : World) (wa0 : (Lit.int .i64 a0).wf = true) (r : ByteArray) (hr : nameE a0 = r) :
    Calls Try.prog 16 #[.int .i64 a0] w fun e w' => e = .returned (.string r) ∧ Below w.heap.size w w' := by
  subst hr
  exact impl_EventName a0 w
end Go.Proofs.Ytdgpodopkfnpeaa
