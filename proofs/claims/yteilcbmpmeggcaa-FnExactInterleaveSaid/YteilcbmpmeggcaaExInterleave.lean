/- The walk of 'FnExactInterleave'. -/
import Derived.Test.YteilcbmpmeggcaaLaw4
namespace Go.Proofs.Yteilcbmpmeggcaa
open Go.RowKit
set_option linter.unusedVariables false

set_option maxHeartbeats 4000000 in
set_option maxRecDepth 100000 in
theorem walk_FnExactInterleave (W : World) (a0 : Int) (wa0 : (Lit.int .i64 a0).wf = true) (a1 : Int) (wa1 : (Lit.int .i64 a1).wf = true) (a2 : Int) (wa2 : (Lit.int .i64 a2).wf = true) (a3 : Int) (wa3 : (Lit.int .i64 a3).wf = true) :
    Calls Try.prog 6 #[.int .i64 a0, .int .i64 a1, .int .i64 a2, .int .i64 a3] W fun e w' => e = .returned (.bool true) ∧ Below W.heap.size W w' := by
  obtain ⟨r0, hr⟩ : ∃ r0, inter a0 a1 a2 a3 = r0 := ⟨_, rfl⟩
  have HR := Lib.hid hr
  clear hr
  have acc := Below.refl W.heap.size W
  go_enter Try.func6, Try.ntmps6
  go_wp2_with fail
  refine (sp_Interleave a0 a1 a2 a3 _ wa0 wa1 wa2 wa3 r0 HR.out).mono ?_
  rintro e w1 ⟨rfl, hb⟩
  replace acc := acc.trans (hb.mono acc.size)
  clear hb
  go_wp2_with fail
  refine (im_Interleave a0 a1 a2 a3 _ wa0 wa1 wa2 wa3 r0 HR.out).mono ?_
  rintro e w2 ⟨rfl, hb⟩
  replace acc := acc.trans (hb.mono acc.size)
  clear hb
  go_wp2
  go_ret
  exact ⟨rfl, acc⟩
end Go.Proofs.Yteilcbmpmeggcaa
