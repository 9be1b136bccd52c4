/- The walk of 'FnExactQueueStep'. -/
import Derived.Test.YtgdficjihkglpabLawQ
import Derived.Test.YtgdficjihkglpabHelp
namespace Go.Proofs.Ytgdficjihkglpab
open Go.RowKit
set_option linter.unusedVariables false

set_option maxHeartbeats 4000000 in
set_option maxRecDepth 100000 in
theorem walk_FnExactQueueStep (W : World) (a0 : Int) (wa0 : (Lit.int .i64 a0).wf = true) (a1 : Int) (wa1 : (Lit.int .i64 a1).wf = true) (b2 : Bool) :
    Calls Try.prog 5 #[.int .i64 a0, .int .i64 a1, .bool b2] W fun e w' => e = .returned (.bool true) ∧ Below W.heap.size W w' := by
  obtain ⟨r0, hr⟩ : ∃ r0, qstep a0 a1 b2 = r0 := ⟨_, rfl⟩
  have HR := Lib.hid hr
  clear hr
  have acc := Below.refl W.heap.size W
  go_enter Try.func5, Try.ntmps5
  go_wp2_with fail
  refine (sp_QueueStep a0 a1 b2 _ wa0 wa1 r0 HR.out).mono ?_
  rintro e w1 ⟨rfl, hb⟩
  replace acc := acc.trans (hb.mono acc.size)
  clear hb
  go_wp2_with fail
  refine (im_QueueStep a0 a1 b2 _ wa0 wa1 r0 HR.out).mono ?_
  rintro e w2 ⟨rfl, hb⟩
  replace acc := acc.trans (hb.mono acc.size)
  clear hb
  go_wp2
  go_ret
  exact ⟨rfl, acc⟩
end Go.Proofs.Ytgdficjihkglpab
