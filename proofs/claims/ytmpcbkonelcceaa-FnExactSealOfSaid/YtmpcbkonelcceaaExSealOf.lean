/- The walk of 'FnExactSealOf'. -/
import Derived.Test.YtmpcbkonelcceaaBndlB
namespace Go.Proofs.Ytmpcbkonelcceaa
open Go.RowKit
set_option linter.unusedVariables false

set_option maxHeartbeats 4000000 in
set_option maxRecDepth 100000 in
theorem walk_FnExactSealOf (W : World) (a0 : Int) (wa0 : (Lit.int .i64 a0).wf = true) (a1 : Int) (wa1 : (Lit.int .i64 a1).wf = true) (A2 : Option Addr) (n2 c2 : Nat) (zs2 : List Int) (ha2 : IntsAt .i64 W W.heap.size A2 n2 zs2 ∧ (∀ z ∈ zs2, (Lit.int .i64 z).wf = true) ∧ n2 ≤ c2 ∧ c2 ≤ maxLen) :
    Calls Try.prog 3 #[.int .i64 a0, .int .i64 a1, .slice A2 n2 c2] W fun e w' => e = .returned (.bool true) ∧ Below W.heap.size W w' := by
  have hm2 := Nat.le_trans ha2.2.2.1 ha2.2.2.2
  unfold maxLen at hm2
  by_cases hb2 : n2 ≤ 1048576
  rotate_left
  · go_enter Try.func3, Try.ntmps3
    go_wp2
    go_ret
    exact ⟨rfl, Below.refl _ _⟩
  obtain ⟨hi2, hw2, -, -⟩ := ha2
  obtain ⟨r0, hr⟩ : ∃ r0, sealI a0 a1 zs2 = r0 := ⟨_, rfl⟩
  have HR := Lib.hid hr
  clear hr
  have acc := Below.refl W.heap.size W
  go_enter Try.func3, Try.ntmps3
  go_wp2_with fail
  refine (to_i64 A2 n2 c2 W.heap.size zs2 _ (hi2.keep fun _ hp => acc.cell hp) acc.size (by omega)).mono ?_
  rintro e w1 ⟨rfl, ho, hb⟩
  have lo_t1 := Lib.hid acc.size
  replace acc := acc.trans (hb.mono acc.size)
  clear hb
  have t1 := Ow.new ho
  clear ho
  go_wp2_with fail
  refine (sp_SealOf a0 a1 _ n2 _ zs2 _ wa0 wa1 (t1.sl (by omega) hw2) hb2 r0 HR.out).mono ?_
  rintro e w2 ⟨rfl, hb⟩
  replace t1 := t1.below hb
  replace acc := acc.trans (hb.mono acc.size)
  clear hb
  clear t1
  go_wp2_with fail
  refine (to_i64 A2 n2 c2 W.heap.size zs2 _ (hi2.keep fun _ hp => acc.cell hp) acc.size (by omega)).mono ?_
  rintro e w3 ⟨rfl, ho, hb⟩
  have lo_t2 := Lib.hid acc.size
  replace acc := acc.trans (hb.mono acc.size)
  clear hb
  have t2 := Ow.new ho
  clear ho
  go_wp2_with fail
  refine (im_SealOf a0 a1 _ n2 _ zs2 _ wa0 wa1 (t2.sl (by omega) hw2) hb2 r0 HR.out).mono ?_
  rintro e w4 ⟨rfl, hb⟩
  replace t2 := t2.below hb
  replace acc := acc.trans (hb.mono acc.size)
  clear hb
  go_wp2_with fail
  refine (to_i64 A2 n2 c2 W.heap.size zs2 _ (hi2.keep fun _ hp => acc.cell hp) acc.size (by omega)).mono ?_
  rintro e w5 ⟨rfl, ho, hb⟩
  have lo_t3 := Lib.hid acc.size
  have d_t2_t3 := Lib.hid t2.top
  replace t2 := t2.below hb
  replace acc := acc.trans (hb.mono acc.size)
  clear hb
  have t3 := Ow.new ho
  clear ho
  go_wp2_with fail
  refine (eqs_i64 _ _ _ zs2 _ _ _ _ t2.ints t3.ints (by omega) (by omega)).mono ?_
  rintro e w6 ⟨rfl, hb⟩
  replace t2 := t2.below hb
  replace t3 := t3.below hb
  replace acc := acc.trans (hb.mono acc.size)
  clear hb
  clear t3
  go_wp2
  go_ret
  exact ⟨rfl, acc⟩
end Go.Proofs.Ytmpcbkonelcceaa
