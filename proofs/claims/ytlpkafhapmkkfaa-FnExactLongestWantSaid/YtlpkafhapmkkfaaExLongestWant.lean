/- The walk of 'FnExactLongestWant'. -/
import Derived.Test.YtlpkafhapmkkfaaBndlE
namespace Go.Proofs.Ytlpkafhapmkkfaa
open Go.RowKit
set_option linter.unusedVariables false

set_option maxHeartbeats 4000000 in
set_option maxRecDepth 100000 in
theorem walk_FnExactLongestWant (W : World) (A0 : Option Addr) (n0 c0 : Nat) (zs0 : List Wnt) (ha0 : WntsAt W W.heap.size A0 n0 zs0 ∧ (∀ z ∈ zs0, z.wf) ∧ n0 ≤ c0 ∧ c0 ≤ maxLen) (A1 : Option Addr) (n1 c1 : Nat) (zs1 : List Int) (ha1 : IntsAt .i64 W W.heap.size A1 n1 zs1 ∧ (∀ z ∈ zs1, (Lit.int .i64 z).wf = true) ∧ n1 ≤ c1 ∧ c1 ≤ maxLen) :
    Calls Try.prog 6 #[.slice A0 n0 c0, .slice A1 n1 c1] W fun e w' => e = .returned (.bool true) ∧ Below W.heap.size W w' := by
  have hm0 := Nat.le_trans ha0.2.2.1 ha0.2.2.2
  have hm1 := Nat.le_trans ha1.2.2.1 ha1.2.2.2
  unfold maxLen at hm0 hm1
  by_cases hb1 : n1 ≤ 1048576
  rotate_left
  · go_enter Try.func6, Try.ntmps6
    go_wp2
    go_ret
    exact ⟨rfl, Below.refl _ _⟩
  obtain ⟨hi0, hw0, -, -⟩ := ha0
  obtain ⟨hi1, hw1, -, -⟩ := ha1
  obtain ⟨r0, hr⟩ : ∃ r0, longP zs0 zs1 = r0 := ⟨_, rfl⟩
  have HR := Lib.hid hr
  clear hr
  have acc := Below.refl W.heap.size W
  go_enter Try.func6, Try.ntmps6
  go_wp2_with fail
  refine (sz_wnt _ n0 _ 1048576 _ (by omega) (by omega)).mono ?_
  rintro e w' ⟨rfl, rfl⟩
  by_cases hz0 : (n0 : Int) ≤ 1048576
  rotate_left
  · rw [if_neg hz0]
    go_wp2
    go_ret
    exact ⟨rfl, acc⟩
  rw [if_pos hz0]
  have hb0 : n0 ≤ 1048576 := by omega
  go_wp2_with fail
  refine (to_wnt A0 n0 c0 W.heap.size zs0 _ (hi0.keep fun _ hp => acc.cell hp) acc.size (by omega)).mono ?_
  rintro e w1 ⟨rfl, ho, hb⟩
  have lo_t1 := Lib.hid acc.size
  replace acc := acc.trans (hb.mono acc.size)
  clear hb
  have t1 := OwWnt.new ho
  clear ho
  go_wp2_with fail
  refine (to_i64 A1 n1 c1 W.heap.size zs1 _ (hi1.keep fun _ hp => acc.cell hp) acc.size (by omega)).mono ?_
  rintro e w2 ⟨rfl, ho, hb⟩
  have lo_t2 := Lib.hid acc.size
  have d_t1_t2 := Lib.hid t1.top
  replace t1 := t1.below hb
  replace acc := acc.trans (hb.mono acc.size)
  clear hb
  have t2 := Ow.new ho
  clear ho
  go_wp2_with fail
  refine (sp_LongestWant _ n0 _ zs0 _ n1 _ zs1 _ (t1.sl (by omega) hw0) hb0 (t2.sl (by omega) hw1) hb1 r0 HR.out).mono ?_
  rintro e w3 ⟨rfl, hb⟩
  replace t1 := t1.below hb
  replace t2 := t2.below hb
  replace acc := acc.trans (hb.mono acc.size)
  clear hb
  clear t1
  clear t2
  go_wp2_with fail
  refine (to_wnt A0 n0 c0 W.heap.size zs0 _ (hi0.keep fun _ hp => acc.cell hp) acc.size (by omega)).mono ?_
  rintro e w4 ⟨rfl, ho, hb⟩
  have lo_t3 := Lib.hid acc.size
  replace acc := acc.trans (hb.mono acc.size)
  clear hb
  have t3 := OwWnt.new ho
  clear ho
  go_wp2_with fail
  refine (to_i64 A1 n1 c1 W.heap.size zs1 _ (hi1.keep fun _ hp => acc.cell hp) acc.size (by omega)).mono ?_
  rintro e w5 ⟨rfl, ho, hb⟩
  have lo_t4 := Lib.hid acc.size
  have d_t3_t4 := Lib.hid t3.top
  replace t3 := t3.below hb
  replace acc := acc.trans (hb.mono acc.size)
  clear hb
  have t4 := Ow.new ho
  clear ho
  go_wp2_with fail
  refine (im_LongestWant _ n0 _ zs0 _ n1 _ zs1 _ (t3.sl (by omega) hw0) hb0 (t4.sl (by omega) hw1) hb1 r0 HR.out).mono ?_
  rintro e w6 ⟨rfl, hb⟩
  replace t3 := t3.below hb
  replace t4 := t4.below hb
  replace acc := acc.trans (hb.mono acc.size)
  clear hb
  go_wp2_with fail
  refine (to_wnt A0 n0 c0 W.heap.size zs0 _ (hi0.keep fun _ hp => acc.cell hp) acc.size (by omega)).mono ?_
  rintro e w7 ⟨rfl, ho, hb⟩
  have lo_t5 := Lib.hid acc.size
  have d_t3_t5 := Lib.hid t3.top
  have d_t4_t5 := Lib.hid t4.top
  replace t3 := t3.below hb
  replace t4 := t4.below hb
  replace acc := acc.trans (hb.mono acc.size)
  clear hb
  have t5 := OwWnt.new ho
  clear ho
  go_wp2_with fail
  refine (eqs_wnt _ _ _ zs0 _ _ _ _ t3.ints t5.ints (by omega) (by omega)).mono ?_
  rintro e w8 ⟨rfl, hb⟩
  replace t3 := t3.below hb
  replace t4 := t4.below hb
  replace t5 := t5.below hb
  replace acc := acc.trans (hb.mono acc.size)
  clear hb
  clear t5
  go_wp2_with fail
  refine (to_i64 A1 n1 c1 W.heap.size zs1 _ (hi1.keep fun _ hp => acc.cell hp) acc.size (by omega)).mono ?_
  rintro e w9 ⟨rfl, ho, hb⟩
  have lo_t6 := Lib.hid acc.size
  have d_t3_t6 := Lib.hid t3.top
  have d_t4_t6 := Lib.hid t4.top
  replace t3 := t3.below hb
  replace t4 := t4.below hb
  replace acc := acc.trans (hb.mono acc.size)
  clear hb
  have t6 := Ow.new ho
  clear ho
  go_wp2_with fail
  refine (eqs_i64 _ _ _ zs1 _ _ _ _ t4.ints t6.ints (by omega) (by omega)).mono ?_
  rintro e w10 ⟨rfl, hb⟩
  replace t3 := t3.below hb
  replace t4 := t4.below hb
  replace t6 := t6.below hb
  replace acc := acc.trans (hb.mono acc.size)
  clear hb
  clear t6
  go_wp2
  go_ret
  exact ⟨rfl, acc⟩
end Go.Proofs.Ytlpkafhapmkkfaa
