/- The walk of 'FnExactStreetsFrom'. -/
import Derived.Test.YtmcoeafkbpeelaaBndlD
namespace Go.Proofs.Ytmcoeafkbpeelaa
open Go.RowKit
set_option linter.unusedVariables false

set_option maxHeartbeats 4000000 in
set_option maxRecDepth 100000 in
theorem walk_FnExactStreetsFrom (W : World) (A0 : Option Addr) (n0 c0 : Nat) (zs0 : List Stt) (ha0 : SttsAt W W.heap.size A0 n0 zs0 ∧ (∀ z ∈ zs0, z.wf) ∧ n0 ≤ c0 ∧ c0 ≤ maxLen) (a1 : Int) (wa1 : (Lit.int .i64 a1).wf = true) :
    Calls Try.prog 6 #[.slice A0 n0 c0, .int .i64 a1] W fun e w' => e = .returned (.bool true) ∧ Below W.heap.size W w' := by
  have hm0 := Nat.le_trans ha0.2.2.1 ha0.2.2.2
  unfold maxLen at hm0
  obtain ⟨hi0, hw0, -, -⟩ := ha0
  obtain ⟨r0, hr⟩ : ∃ r0, stF zs0 a1 = r0 := ⟨_, rfl⟩
  have HR := Lib.hid hr
  clear hr
  have acc := Below.refl W.heap.size W
  go_enter Try.func6, Try.ntmps6
  go_wp2_with fail
  refine (sz_stt _ n0 _ 1048576 _ (by omega) (by omega)).mono ?_
  rintro e w' ⟨rfl, rfl⟩
  by_cases hz0 : (n0 : Int) ≤ 1048576
  rotate_left
  · rw [if_neg hz0]
    go_wp2
    go_ret
    exact ⟨rfl, acc⟩
  rw [if_pos hz0]
  have hb0 : n0 ≤ 1048576 := by omega
  go_wp2_with fail
  refine (to_stt A0 n0 c0 W.heap.size zs0 _ (hi0.keep fun _ hp => acc.cell hp) acc.size (by omega)).mono ?_
  rintro e w1 ⟨rfl, ho, hb⟩
  have lo_t1 := Lib.hid acc.size
  replace acc := acc.trans (hb.mono acc.size)
  clear hb
  have t1 := OwStt.new ho
  clear ho
  go_wp2_with fail
  refine (sp_StreetsFrom _ n0 _ zs0 a1 _ (t1.sl (by omega) hw0) hb0 wa1 r0 HR.out).mono ?_
  rintro e w2 ⟨v0, rfl, ho0, hb, hl0⟩
  have lo_s0 := Lib.hid acc.size
  obtain ⟨A_s0, c_s0, rfl⟩ := ho0.sliced
  have d_t1_s0 := Lib.hid t1.top
  replace t1 := t1.below hb
  replace acc := acc.trans (hb.mono acc.size)
  clear hb
  have s0 := Ow.new ho0
  clear ho0
  clear t1
  go_wp2_with fail
  refine (to_stt A0 n0 c0 W.heap.size zs0 _ (hi0.keep fun _ hp => acc.cell hp) acc.size (by omega)).mono ?_
  rintro e w3 ⟨rfl, ho, hb⟩
  have lo_t2 := Lib.hid acc.size
  have d_s0_t2 := Lib.hid s0.top
  replace s0 := s0.below hb
  replace acc := acc.trans (hb.mono acc.size)
  clear hb
  have t2 := OwStt.new ho
  clear ho
  go_wp2_with fail
  refine (im_StreetsFrom _ n0 _ zs0 a1 _ (t2.sl (by omega) hw0) hb0 wa1 r0 HR.out).mono ?_
  rintro e w4 ⟨v0, rfl, ho0, hb, hl0⟩
  have lo_g0 := Lib.hid acc.size
  obtain ⟨A_g0, c_g0, rfl⟩ := ho0.sliced
  have d_s0_g0 := Lib.hid s0.top
  have d_t2_g0 := Lib.hid t2.top
  replace s0 := s0.below hb
  replace t2 := t2.below hb
  replace acc := acc.trans (hb.mono acc.size)
  clear hb
  have g0 := Ow.new ho0
  clear ho0
  clear hl0
  go_wp2_with fail
  refine (eqs_i64 _ _ _ r0 _ _ _ _ g0.ints s0.ints (by omega) (by omega)).mono ?_
  rintro e w5 ⟨rfl, hb⟩
  replace s0 := s0.below hb
  replace t2 := t2.below hb
  replace g0 := g0.below hb
  replace acc := acc.trans (hb.mono acc.size)
  clear hb
  go_wp2_with fail
  refine (to_stt A0 n0 c0 W.heap.size zs0 _ (hi0.keep fun _ hp => acc.cell hp) acc.size (by omega)).mono ?_
  rintro e w6 ⟨rfl, ho, hb⟩
  have lo_t3 := Lib.hid acc.size
  have d_s0_t3 := Lib.hid s0.top
  have d_t2_t3 := Lib.hid t2.top
  have d_g0_t3 := Lib.hid g0.top
  replace s0 := s0.below hb
  replace t2 := t2.below hb
  replace g0 := g0.below hb
  replace acc := acc.trans (hb.mono acc.size)
  clear hb
  have t3 := OwStt.new ho
  clear ho
  go_wp2_with fail
  refine (eqs_stt _ _ _ zs0 _ _ _ _ t2.ints t3.ints (by omega) (by omega)).mono ?_
  rintro e w7 ⟨rfl, hb⟩
  replace s0 := s0.below hb
  replace t2 := t2.below hb
  replace g0 := g0.below hb
  replace t3 := t3.below hb
  replace acc := acc.trans (hb.mono acc.size)
  clear hb
  clear t3
  go_wp2_with fail
  refine (marked_stt _ (n0) _ _ _ (1) _ _ t2 (by omega) (by omega)).mono ?_
  rintro e w8 ⟨rfl, hp⟩
  replace s0 := s0.part hp (.inl d_s0_t2.out)
  replace g0 := g0.part hp (.inr d_t2_g0.out)
  clear t2
  replace acc := acc.trans (hp.below lo_t2.out acc.size)
  clear hp
  go_wp2_with fail
  refine (eqs_i64 _ _ _ r0 _ _ _ _ g0.ints s0.ints (by omega) (by omega)).mono ?_
  rintro e w9 ⟨rfl, hb⟩
  replace s0 := s0.below hb
  replace g0 := g0.below hb
  replace acc := acc.trans (hb.mono acc.size)
  clear hb
  go_wp2_with fail
  refine (marked_i64 _ (r0.length) _ _ _ (1) _ _ g0 (by omega) (by omega)).mono ?_
  rintro e w10 ⟨rfl, hm, hp⟩
  replace s0 := s0.part hp (.inl d_s0_g0.out)
  replace g0 := hm
  replace acc := acc.trans (hp.below lo_g0.out acc.size)
  clear hp
  go_wp2_with fail
  refine (held_i64 _ (r0.length) _ _ (1) _ g0.ints (by omega) (by omega)).mono ?_
  rintro e w11 ⟨rfl, hb⟩
  replace s0 := s0.below hb
  replace g0 := g0.below hb
  replace acc := acc.trans (hb.mono acc.size)
  clear hb
  go_wp2_with fail
  refine (to_stt A0 n0 c0 W.heap.size zs0 _ (hi0.keep fun _ hp => acc.cell hp) acc.size (by omega)).mono ?_
  rintro e w12 ⟨rfl, ho, hb⟩
  have lo_t4 := Lib.hid acc.size
  have d_s0_t4 := Lib.hid s0.top
  have d_g0_t4 := Lib.hid g0.top
  replace s0 := s0.below hb
  replace g0 := g0.below hb
  replace acc := acc.trans (hb.mono acc.size)
  clear hb
  have t4 := OwStt.new ho
  clear ho
  go_wp2_with fail
  refine (im_StreetsFrom _ n0 _ zs0 a1 _ (t4.sl (by omega) hw0) hb0 wa1 r0 HR.out).mono ?_
  rintro e w13 ⟨v0, rfl, ho0, hb, hl0⟩
  have lo_h0 := Lib.hid acc.size
  obtain ⟨A_h0, c_h0, rfl⟩ := ho0.sliced
  have d_s0_h0 := Lib.hid s0.top
  have d_g0_h0 := Lib.hid g0.top
  have d_t4_h0 := Lib.hid t4.top
  replace s0 := s0.below hb
  replace g0 := g0.below hb
  replace t4 := t4.below hb
  replace acc := acc.trans (hb.mono acc.size)
  clear hb
  have h0 := Ow.new ho0
  clear ho0
  clear hl0
  clear t4
  go_wp2_with fail
  refine (eqs_i64 _ _ _ r0 _ _ _ _ h0.ints s0.ints (by omega) (by omega)).mono ?_
  rintro e w14 ⟨rfl, hb⟩
  replace s0 := s0.below hb
  replace g0 := g0.below hb
  replace h0 := h0.below hb
  replace acc := acc.trans (hb.mono acc.size)
  clear hb
  go_wp2_with fail
  refine (held_i64 _ (r0.length) _ _ (1) _ g0.ints (by omega) (by omega)).mono ?_
  rintro e w15 ⟨rfl, hb⟩
  replace s0 := s0.below hb
  replace g0 := g0.below hb
  replace h0 := h0.below hb
  replace acc := acc.trans (hb.mono acc.size)
  clear hb
  go_wp2
  go_ret
  exact ⟨rfl, acc⟩
end Go.Proofs.Ytmcoeafkbpeelaa
