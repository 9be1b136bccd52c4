/- The walk of 'FnExactEventName'. -/
import Derived.Test.YtdgpodopkfnpeaaLawNameE
namespace Go.Proofs.Ytdgpodopkfnpeaa
open Go.RowKit
set_option linter.unusedVariables false

set_option maxHeartbeats 4000000 in
set_option maxRecDepth 100000 in
theorem walk_FnExactEventName (W : World) (a0 : Int) (wa0 : (Lit.int .i64 a0).wf = true) :
    Calls Try.prog 3 #[.int .i64 a0] W fun e w' => e = .returned (.bool true) ∧ Below W.heap.size W w' := by
  obtain ⟨r0, hr⟩ : ∃ r0, nameE a0 = r0 := ⟨_, rfl⟩
  have HR := Lib.hid hr
  clear hr
  have acc := Below.refl W.heap.size W
  go_enter Try.func3, Try.ntmps3
  go_wp2_with fail
  refine (sp_EventName a0 _ wa0 r0 HR.out).mono ?_
  rintro e w1 ⟨rfl, hb⟩
  replace acc := acc.trans (hb.mono acc.size)
  clear hb
  go_wp2_with fail
  refine (im_EventName a0 _ wa0 r0 HR.out).mono ?_
  rintro e w2 ⟨rfl, hb⟩
  replace acc := acc.trans (hb.mono acc.size)
  clear hb
  go_wp2
  go_ret
  exact ⟨rfl, acc⟩
end Go.Proofs.Ytdgpodopkfnpeaa
