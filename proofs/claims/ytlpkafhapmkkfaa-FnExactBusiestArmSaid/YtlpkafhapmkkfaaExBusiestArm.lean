/- The walk of 'FnExactBusiestArm'. -/
import Derived.Test.YtlpkafhapmkkfaaBndlD
namespace Go.Proofs.Ytlpkafhapmkkfaa
open Go.RowKit
set_option linter.unusedVariables false

set_option maxHeartbeats 4000000 in
set_option maxRecDepth 100000 in
theorem walk_FnExactBusiestArm (W : World) (A0 : Option Addr) (n0 c0 : Nat) (zs0 : List Pth) (ha0 : PthsAt W W.heap.size A0 n0 zs0 ∧ (∀ z ∈ zs0, z.wf) ∧ n0 ≤ c0 ∧ c0 ≤ maxLen) :
    Calls Try.prog 8 #[.slice A0 n0 c0] W fun e w' => e = .returned (.bool true) ∧ Below W.heap.size W w' := by
  have hm0 := Nat.le_trans ha0.2.2.1 ha0.2.2.2
  unfold maxLen at hm0
  obtain ⟨hi0, hw0, -, -⟩ := ha0
  obtain ⟨r0, hr⟩ : ∃ r0, busyP zs0 = r0 := ⟨_, rfl⟩
  have HR := Lib.hid hr
  clear hr
  have acc := Below.refl W.heap.size W
  go_enter Try.func8, Try.ntmps8
  go_wp2_with fail
  refine (sz_pth _ n0 _ 1048576 _ (by omega) (by omega)).mono ?_
  rintro e w' ⟨rfl, rfl⟩
  by_cases hz0 : (n0 : Int) ≤ 1048576
  rotate_left
  · rw [if_neg hz0]
    go_wp2
    go_ret
    exact ⟨rfl, acc⟩
  rw [if_pos hz0]
  have hb0 : n0 ≤ 1048576 := by omega
  go_wp2_with fail
  refine (to_pth A0 n0 c0 W.heap.size zs0 _ (hi0.keep fun _ hp => acc.cell hp) acc.size (by omega)).mono ?_
  rintro e w1 ⟨rfl, ho, hb⟩
  have lo_t1 := Lib.hid acc.size
  replace acc := acc.trans (hb.mono acc.size)
  clear hb
  have t1 := OwP.new ho
  clear ho
  go_wp2_with fail
  refine (sp_BusiestArm _ n0 _ zs0 _ (t1.sl (by omega) hw0) hb0 r0 HR.out).mono ?_
  rintro e w2 ⟨rfl, hb⟩
  replace t1 := t1.below hb
  replace acc := acc.trans (hb.mono acc.size)
  clear hb
  clear t1
  go_wp2_with fail
  refine (to_pth A0 n0 c0 W.heap.size zs0 _ (hi0.keep fun _ hp => acc.cell hp) acc.size (by omega)).mono ?_
  rintro e w3 ⟨rfl, ho, hb⟩
  have lo_t2 := Lib.hid acc.size
  replace acc := acc.trans (hb.mono acc.size)
  clear hb
  have t2 := OwP.new ho
  clear ho
  go_wp2_with fail
  refine (im_BusiestArm _ n0 _ zs0 _ (t2.sl (by omega) hw0) hb0 r0 HR.out).mono ?_
  rintro e w4 ⟨rfl, hb⟩
  replace t2 := t2.below hb
  replace acc := acc.trans (hb.mono acc.size)
  clear hb
  go_wp2_with fail
  refine (to_pth A0 n0 c0 W.heap.size zs0 _ (hi0.keep fun _ hp => acc.cell hp) acc.size (by omega)).mono ?_
  rintro e w5 ⟨rfl, ho, hb⟩
  have lo_t3 := Lib.hid acc.size
  have d_t2_t3 := Lib.hid t2.top
  replace t2 := t2.below hb
  replace acc := acc.trans (hb.mono acc.size)
  clear hb
  have t3 := OwP.new ho
  clear ho
  go_wp2_with fail
  refine (eqs_pth _ _ _ zs0 _ _ _ _ t2.ints t3.ints (by omega) (by omega)).mono ?_
  rintro e w6 ⟨rfl, hb⟩
  replace t2 := t2.below hb
  replace t3 := t3.below hb
  replace acc := acc.trans (hb.mono acc.size)
  clear hb
  clear t3
  go_wp2
  go_ret
  exact ⟨rfl, acc⟩
end Go.Proofs.Ytlpkafhapmkkfaa
