/- The walk of 'FnExactQueueRun'. -/
import Derived.Test.YtmcoeafkbpeelaaBndlD
namespace Go.Proofs.Ytmcoeafkbpeelaa
open Go.RowKit
set_option linter.unusedVariables false

set_option maxHeartbeats 4000000 in
set_option maxRecDepth 100000 in
theorem walk_FnExactQueueRun (W : World) (A0 : Option Addr) (n0 c0 : Nat) (zs0 : List Int) (ha0 : IntsAt .i64 W W.heap.size A0 n0 zs0 ∧ (∀ z ∈ zs0, (Lit.int .i64 z).wf = true) ∧ n0 ≤ c0 ∧ c0 ≤ maxLen) (A1 : Option Addr) (n1 c1 : Nat) (zs1 : List Bool) (ha1 : BlsAt W W.heap.size A1 n1 zs1 ∧ True ∧ n1 ≤ c1 ∧ c1 ≤ maxLen) :
    Calls Try.prog 8 #[.slice A0 n0 c0, .slice A1 n1 c1] W fun e w' => e = .returned (.bool true) ∧ Below W.heap.size W w' := by
  have hm0 := Nat.le_trans ha0.2.2.1 ha0.2.2.2
  have hm1 := Nat.le_trans ha1.2.2.1 ha1.2.2.2
  unfold maxLen at hm0 hm1
  by_cases hb0 : n0 ≤ 1048576
  rotate_left
  · go_enter Try.func8, Try.ntmps8
    go_wp2
    go_ret
    exact ⟨rfl, Below.refl _ _⟩
  by_cases hb1 : n1 ≤ 1048576
  rotate_left
  · go_enter Try.func8, Try.ntmps8
    go_wp2
    go_ret
    exact ⟨rfl, Below.refl _ _⟩
  obtain ⟨hi0, hw0, -, -⟩ := ha0
  obtain ⟨hi1, hw1, -, -⟩ := ha1
  obtain ⟨r0, hr⟩ : ∃ r0, queR zs0 zs1 = r0 := ⟨_, rfl⟩
  have HR := Lib.hid hr
  clear hr
  have acc := Below.refl W.heap.size W
  go_enter Try.func8, Try.ntmps8
  go_wp2_with fail
  refine (to_i64 A0 n0 c0 W.heap.size zs0 _ (hi0.keep fun _ hp => acc.cell hp) acc.size (by omega)).mono ?_
  rintro e w1 ⟨rfl, ho, hb⟩
  have lo_t1 := Lib.hid acc.size
  replace acc := acc.trans (hb.mono acc.size)
  clear hb
  have t1 := Ow.new ho
  clear ho
  go_wp2_with fail
  refine (to_bls A1 n1 c1 W.heap.size zs1 _ (hi1.keep acc) acc.size (by omega)).mono ?_
  rintro e w2 ⟨rfl, ho, hb⟩
  have lo_t2 := Lib.hid acc.size
  have d_t1_t2 := Lib.hid t1.top
  replace t1 := t1.below hb
  replace acc := acc.trans (hb.mono acc.size)
  clear hb
  have t2 := OwB.new ho
  clear ho
  go_wp2_with fail
  refine (sp_QueueRun _ n0 _ zs0 _ n1 _ zs1 _ (t1.sl (by omega) hw0) hb0 t2.sl hb1 r0 HR.out).mono ?_
  rintro e w3 ⟨v0, rfl, ho0, hb, hl0⟩
  have lo_s0 := Lib.hid acc.size
  obtain ⟨A_s0, c_s0, rfl⟩ := ho0.sliced
  have d_t1_s0 := Lib.hid t1.top
  have d_t2_s0 := Lib.hid t2.top
  replace t1 := t1.below hb
  replace t2 := t2.below hb
  replace acc := acc.trans (hb.mono acc.size)
  clear hb
  have s0 := Ow.new ho0
  clear ho0
  clear t1
  clear t2
  go_wp2_with fail
  refine (to_i64 A0 n0 c0 W.heap.size zs0 _ (hi0.keep fun _ hp => acc.cell hp) acc.size (by omega)).mono ?_
  rintro e w4 ⟨rfl, ho, hb⟩
  have lo_t3 := Lib.hid acc.size
  have d_s0_t3 := Lib.hid s0.top
  replace s0 := s0.below hb
  replace acc := acc.trans (hb.mono acc.size)
  clear hb
  have t3 := Ow.new ho
  clear ho
  go_wp2_with fail
  refine (to_bls A1 n1 c1 W.heap.size zs1 _ (hi1.keep acc) acc.size (by omega)).mono ?_
  rintro e w5 ⟨rfl, ho, hb⟩
  have lo_t4 := Lib.hid acc.size
  have d_s0_t4 := Lib.hid s0.top
  have d_t3_t4 := Lib.hid t3.top
  replace s0 := s0.below hb
  replace t3 := t3.below hb
  replace acc := acc.trans (hb.mono acc.size)
  clear hb
  have t4 := OwB.new ho
  clear ho
  go_wp2_with fail
  refine (im_QueueRun _ n0 _ zs0 _ n1 _ zs1 _ (t3.sl (by omega) hw0) hb0 t4.sl hb1 r0 HR.out).mono ?_
  rintro e w6 ⟨v0, rfl, ho0, hb, hl0⟩
  have lo_g0 := Lib.hid acc.size
  obtain ⟨A_g0, c_g0, rfl⟩ := ho0.sliced
  have d_s0_g0 := Lib.hid s0.top
  have d_t3_g0 := Lib.hid t3.top
  have d_t4_g0 := Lib.hid t4.top
  replace s0 := s0.below hb
  replace t3 := t3.below hb
  replace t4 := t4.below hb
  replace acc := acc.trans (hb.mono acc.size)
  clear hb
  have g0 := Ow.new ho0
  clear ho0
  clear hl0
  go_wp2_with fail
  refine (eqs_i64 _ _ _ r0 _ _ _ _ g0.ints s0.ints (by omega) (by omega)).mono ?_
  rintro e w7 ⟨rfl, hb⟩
  replace s0 := s0.below hb
  replace t3 := t3.below hb
  replace t4 := t4.below hb
  replace g0 := g0.below hb
  replace acc := acc.trans (hb.mono acc.size)
  clear hb
  go_wp2_with fail
  refine (to_i64 A0 n0 c0 W.heap.size zs0 _ (hi0.keep fun _ hp => acc.cell hp) acc.size (by omega)).mono ?_
  rintro e w8 ⟨rfl, ho, hb⟩
  have lo_t5 := Lib.hid acc.size
  have d_s0_t5 := Lib.hid s0.top
  have d_t3_t5 := Lib.hid t3.top
  have d_t4_t5 := Lib.hid t4.top
  have d_g0_t5 := Lib.hid g0.top
  replace s0 := s0.below hb
  replace t3 := t3.below hb
  replace t4 := t4.below hb
  replace g0 := g0.below hb
  replace acc := acc.trans (hb.mono acc.size)
  clear hb
  have t5 := Ow.new ho
  clear ho
  go_wp2_with fail
  refine (eqs_i64 _ _ _ zs0 _ _ _ _ t3.ints t5.ints (by omega) (by omega)).mono ?_
  rintro e w9 ⟨rfl, hb⟩
  replace s0 := s0.below hb
  replace t3 := t3.below hb
  replace t4 := t4.below hb
  replace g0 := g0.below hb
  replace t5 := t5.below hb
  replace acc := acc.trans (hb.mono acc.size)
  clear hb
  clear t5
  go_wp2_with fail
  refine (to_bls A1 n1 c1 W.heap.size zs1 _ (hi1.keep acc) acc.size (by omega)).mono ?_
  rintro e w10 ⟨rfl, ho, hb⟩
  have lo_t6 := Lib.hid acc.size
  have d_s0_t6 := Lib.hid s0.top
  have d_t3_t6 := Lib.hid t3.top
  have d_t4_t6 := Lib.hid t4.top
  have d_g0_t6 := Lib.hid g0.top
  replace s0 := s0.below hb
  replace t3 := t3.below hb
  replace t4 := t4.below hb
  replace g0 := g0.below hb
  replace acc := acc.trans (hb.mono acc.size)
  clear hb
  have t6 := OwB.new ho
  clear ho
  go_wp2_with fail
  refine (eqs_bls _ _ _ zs1 _ _ _ _ t4.ints t6.ints (by omega) (by omega)).mono ?_
  rintro e w11 ⟨rfl, hb⟩
  replace s0 := s0.below hb
  replace t3 := t3.below hb
  replace t4 := t4.below hb
  replace g0 := g0.below hb
  replace t6 := t6.below hb
  replace acc := acc.trans (hb.mono acc.size)
  clear hb
  clear t6
  go_wp2_with fail
  refine (marked_i64 _ (n0) _ _ _ (1) _ _ t3 (by omega) (by omega)).mono ?_
  rintro e w12 ⟨rfl, hm, hp⟩
  replace s0 := s0.part hp (.inl d_s0_t3.out)
  replace t4 := t4.part hp (.inr d_t3_t4.out)
  replace g0 := g0.part hp (.inr d_t3_g0.out)
  replace t3 := hm
  replace acc := acc.trans (hp.below lo_t3.out acc.size)
  clear hp
  go_wp2_with fail
  refine (marked_bls _ (n1) _ _ _ (1 + n0) _ _ t4 (by omega) (by omega)).mono ?_
  rintro e w13 ⟨rfl, hm, hp⟩
  replace s0 := s0.part hp (.inl d_s0_t4.out)
  replace t3 := t3.part hp (.inl d_t3_t4.out)
  replace g0 := g0.part hp (.inr d_t4_g0.out)
  replace t4 := hm
  replace acc := acc.trans (hp.below lo_t4.out acc.size)
  clear hp
  go_wp2_with fail
  refine (eqs_i64 _ _ _ r0 _ _ _ _ g0.ints s0.ints (by omega) (by omega)).mono ?_
  rintro e w14 ⟨rfl, hb⟩
  replace s0 := s0.below hb
  replace t3 := t3.below hb
  replace t4 := t4.below hb
  replace g0 := g0.below hb
  replace acc := acc.trans (hb.mono acc.size)
  clear hb
  go_wp2_with fail
  refine (marked_i64 _ (r0.length) _ _ _ (1) _ _ g0 (by omega) (by omega)).mono ?_
  rintro e w15 ⟨rfl, hm, hp⟩
  replace s0 := s0.part hp (.inl d_s0_g0.out)
  replace t3 := t3.part hp (.inl d_t3_g0.out)
  replace t4 := t4.part hp (.inl d_t4_g0.out)
  replace g0 := hm
  replace acc := acc.trans (hp.below lo_g0.out acc.size)
  clear hp
  go_wp2_with fail
  refine (held_i64 _ (r0.length) _ _ (1) _ g0.ints (by omega) (by omega)).mono ?_
  rintro e w16 ⟨rfl, hb⟩
  replace s0 := s0.below hb
  replace t3 := t3.below hb
  replace t4 := t4.below hb
  replace g0 := g0.below hb
  replace acc := acc.trans (hb.mono acc.size)
  clear hb
  clear t3
  clear t4
  go_wp2_with fail
  refine (to_i64 A0 n0 c0 W.heap.size zs0 _ (hi0.keep fun _ hp => acc.cell hp) acc.size (by omega)).mono ?_
  rintro e w17 ⟨rfl, ho, hb⟩
  have lo_t7 := Lib.hid acc.size
  have d_s0_t7 := Lib.hid s0.top
  have d_g0_t7 := Lib.hid g0.top
  replace s0 := s0.below hb
  replace g0 := g0.below hb
  replace acc := acc.trans (hb.mono acc.size)
  clear hb
  have t7 := Ow.new ho
  clear ho
  go_wp2_with fail
  refine (to_bls A1 n1 c1 W.heap.size zs1 _ (hi1.keep acc) acc.size (by omega)).mono ?_
  rintro e w18 ⟨rfl, ho, hb⟩
  have lo_t8 := Lib.hid acc.size
  have d_s0_t8 := Lib.hid s0.top
  have d_g0_t8 := Lib.hid g0.top
  have d_t7_t8 := Lib.hid t7.top
  replace s0 := s0.below hb
  replace g0 := g0.below hb
  replace t7 := t7.below hb
  replace acc := acc.trans (hb.mono acc.size)
  clear hb
  have t8 := OwB.new ho
  clear ho
  go_wp2_with fail
  refine (im_QueueRun _ n0 _ zs0 _ n1 _ zs1 _ (t7.sl (by omega) hw0) hb0 t8.sl hb1 r0 HR.out).mono ?_
  rintro e w19 ⟨v0, rfl, ho0, hb, hl0⟩
  have lo_h0 := Lib.hid acc.size
  obtain ⟨A_h0, c_h0, rfl⟩ := ho0.sliced
  have d_s0_h0 := Lib.hid s0.top
  have d_g0_h0 := Lib.hid g0.top
  have d_t7_h0 := Lib.hid t7.top
  have d_t8_h0 := Lib.hid t8.top
  replace s0 := s0.below hb
  replace g0 := g0.below hb
  replace t7 := t7.below hb
  replace t8 := t8.below hb
  replace acc := acc.trans (hb.mono acc.size)
  clear hb
  have h0 := Ow.new ho0
  clear ho0
  clear hl0
  clear t7
  clear t8
  go_wp2_with fail
  refine (eqs_i64 _ _ _ r0 _ _ _ _ h0.ints s0.ints (by omega) (by omega)).mono ?_
  rintro e w20 ⟨rfl, hb⟩
  replace s0 := s0.below hb
  replace g0 := g0.below hb
  replace h0 := h0.below hb
  replace acc := acc.trans (hb.mono acc.size)
  clear hb
  go_wp2_with fail
  refine (held_i64 _ (r0.length) _ _ (1) _ g0.ints (by omega) (by omega)).mono ?_
  rintro e w21 ⟨rfl, hb⟩
  replace s0 := s0.below hb
  replace g0 := g0.below hb
  replace h0 := h0.below hb
  replace acc := acc.trans (hb.mono acc.size)
  clear hb
  go_wp2
  go_ret
  exact ⟨rfl, acc⟩
end Go.Proofs.Ytmcoeafkbpeelaa
