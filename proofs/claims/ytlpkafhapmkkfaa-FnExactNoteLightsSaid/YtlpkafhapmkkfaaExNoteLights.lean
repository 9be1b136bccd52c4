/- The walk of 'FnExactNoteLights'. -/
import Derived.Test.YtlpkafhapmkkfaaBndlC
namespace Go.Proofs.Ytlpkafhapmkkfaa
open Go.RowKit
set_option linter.unusedVariables false

set_option maxHeartbeats 4000000 in
set_option maxRecDepth 100000 in
theorem walk_FnExactNoteLights (W : World) (A0 : Option Addr) (n0 c0 : Nat) (zs0 : List Ent) (ha0 : EntsAt W W.heap.size A0 n0 zs0 ∧ (∀ z ∈ zs0, z.wf) ∧ n0 ≤ c0 ∧ c0 ≤ maxLen) (a1 : Int) (wa1 : (Lit.int .i64 a1).wf = true) (A2 : Option Addr) (n2 c2 : Nat) (zs2 : List Int) (ha2 : IntsAt .i64 W W.heap.size A2 n2 zs2 ∧ (∀ z ∈ zs2, (Lit.int .i64 z).wf = true) ∧ n2 ≤ c2 ∧ c2 ≤ maxLen) :
    Calls Try.prog 5 #[.slice A0 n0 c0, .int .i64 a1, .slice A2 n2 c2] W fun e w' => e = .returned (.bool true) ∧ Below W.heap.size W w' := by
  have hm0 := Nat.le_trans ha0.2.2.1 ha0.2.2.2
  have hm2 := Nat.le_trans ha2.2.2.1 ha2.2.2.2
  unfold maxLen at hm0 hm2
  by_cases hb2 : n2 ≤ 1048576
  rotate_left
  · go_enter Try.func5, Try.ntmps5
    go_wp2
    go_ret
    exact ⟨rfl, Below.refl _ _⟩
  obtain ⟨hi0, hw0, -, -⟩ := ha0
  obtain ⟨hi2, hw2, -, -⟩ := ha2
  obtain ⟨r0, r1, hr⟩ : ∃ r0 r1, noteE zs0 a1 zs2 = (r0, r1) := ⟨_, _, rfl⟩
  have HR := Lib.hid hr
  clear hr
  have acc := Below.refl W.heap.size W
  go_enter Try.func5, Try.ntmps5
  have hg0 : ∀ j, j < n0 → (entA zs0 j).lights.length ≤ 9223372036854775807 := fun j hj => by
    have hl := hi0.1
    have hz := (hw0 _ (entA_mem (k := j) (by omega))).1
    unfold maxLen at hz
    omega
  go_wp2_with fail
  refine (sz_ent A0 n0 c0 W.heap.size zs0 1048576 _ (hi0.keep acc) acc.size (by omega) hg0 ⟨by omega, by omega⟩).mono ?_
  rintro e wz0 ⟨⟨q0, rfl, hq0⟩, hb⟩
  replace acc := acc.trans (hb.mono acc.size)
  clear hb
  clear hg0
  rcases hq0 with hq0 | ⟨hqa0, hqb0, hqc0, hqd0⟩
  · go_wp2
    go_ret
    exact ⟨rfl, acc⟩
  have hb0 : n0 ≤ 1048576 := by omega
  have hsm0 : SmallEnt zs0 := ⟨by have := hi0.1; omega, fun j hj => by have := hqd0 j (by have := hi0.1; omega); omega⟩
  have hlz0 := hi0.1.symm
  have HLZ0 := Lib.hid hlz0
  clear hqd0 hlz0
  have hte0 := totE_top hsm0 (k := n0) (by have := HLZ0.out; omega)
  go_wp2_with fail
  refine (to_ent A0 n0 c0 W.heap.size zs0 _ (hi0.keep acc) acc.size (by omega) (hsm0.at n0 _ HLZ0.out (by decide))).mono ?_
  rintro e w1 ⟨rfl, ⟨us_t1, ho⟩, hb⟩
  have lo_t1 := Lib.hid acc.size
  replace acc := acc.trans (hb.mono acc.size)
  clear hb
  have lu_t1 := Lib.hid (ent_ltu ho)
  have t1 := OwEnt.new ho
  clear ho
  go_wp2_with fail
  refine (to_i64 A2 n2 c2 W.heap.size zs2 _ (hi2.keep fun _ hp => acc.cell hp) acc.size (by omega)).mono ?_
  rintro e w2 ⟨rfl, ho, hb⟩
  have lo_t2 := Lib.hid acc.size
  have d_t1_t2 := Lib.hid t1.top
  replace t1 := t1.below hb
  replace acc := acc.trans (hb.mono acc.size)
  clear hb
  have t2 := Ow.new ho
  clear ho
  go_wp2_with fail
  refine (sp_NoteLights _ n0 _ zs0 a1 _ n2 _ zs2 _ (t1.sl hw0) hsm0 wa1 (t2.sl (by omega) hw2) hb2 r0 r1 HR.out).mono ?_
  rintro e w3 ⟨v0, rfl, ho0, hb, hl0⟩
  have lo_s0 := Lib.hid acc.size
  obtain ⟨us_s0, ho0⟩ := ho0
  obtain ⟨A_s0, c_s0, rfl⟩ := ho0.sliced
  have hte100 := totE_top hl0 (k := r0.length) (Nat.le_refl _)
  have hlr0 := hl0.1
  have d_t1_s0 := Lib.hid t1.top
  have d_t2_s0 := Lib.hid t2.top
  replace t1 := t1.below hb
  replace t2 := t2.below hb
  replace acc := acc.trans (hb.mono acc.size)
  clear hb
  have lu_s0 := Lib.hid (ent_ltu ho0)
  have s0 := OwEnt.new ho0
  clear ho0
  clear t1
  clear t2
  go_wp2_with fail
  refine (to_ent A0 n0 c0 W.heap.size zs0 _ (hi0.keep acc) acc.size (by omega) (hsm0.at n0 _ HLZ0.out (by decide))).mono ?_
  rintro e w4 ⟨rfl, ⟨us_t3, ho⟩, hb⟩
  have lo_t3 := Lib.hid acc.size
  have d_s0_t3 := Lib.hid s0.top
  replace s0 := s0.below hb
  replace acc := acc.trans (hb.mono acc.size)
  clear hb
  have lu_t3 := Lib.hid (ent_ltu ho)
  have t3 := OwEnt.new ho
  clear ho
  go_wp2_with fail
  refine (to_i64 A2 n2 c2 W.heap.size zs2 _ (hi2.keep fun _ hp => acc.cell hp) acc.size (by omega)).mono ?_
  rintro e w5 ⟨rfl, ho, hb⟩
  have lo_t4 := Lib.hid acc.size
  have d_s0_t4 := Lib.hid s0.top
  have d_t3_t4 := Lib.hid t3.top
  replace s0 := s0.below hb
  replace t3 := t3.below hb
  replace acc := acc.trans (hb.mono acc.size)
  clear hb
  have t4 := Ow.new ho
  clear ho
  go_wp2_with fail
  refine (im_NoteLights _ n0 _ zs0 a1 _ n2 _ zs2 _ (t3.sl hw0) hsm0 wa1 (t4.sl (by omega) hw2) hb2 r0 r1 HR.out).mono ?_
  rintro e w6 ⟨v0, rfl, ho0, hb, hl0⟩
  have lo_g0 := Lib.hid acc.size
  obtain ⟨us_g0, ho0⟩ := ho0
  obtain ⟨A_g0, c_g0, rfl⟩ := ho0.sliced
  have d_s0_g0 := Lib.hid s0.top
  have d_t3_g0 := Lib.hid t3.top
  have d_t4_g0 := Lib.hid t4.top
  replace s0 := s0.below hb
  replace t3 := t3.below hb
  replace t4 := t4.below hb
  replace acc := acc.trans (hb.mono acc.size)
  clear hb
  have lu_g0 := Lib.hid (ent_ltu ho0)
  have g0 := OwEnt.new ho0
  clear ho0
  clear hl0
  go_wp2_with fail
  refine (eqs_ent _ _ _ r0 _ _ _ _ g0.ints s0.ints (by omega) (by omega) (hl0.at _ _ rfl (by decide)) ).mono ?_
  rintro e w7 ⟨rfl, hb⟩
  replace s0 := s0.below hb
  replace t3 := t3.below hb
  replace t4 := t4.below hb
  replace g0 := g0.below hb
  replace acc := acc.trans (hb.mono acc.size)
  clear hb
  go_wp2_with fail
  refine (to_ent A0 n0 c0 W.heap.size zs0 _ (hi0.keep acc) acc.size (by omega) (hsm0.at n0 _ HLZ0.out (by decide))).mono ?_
  rintro e w8 ⟨rfl, ⟨us_t5, ho⟩, hb⟩
  have lo_t5 := Lib.hid acc.size
  have d_s0_t5 := Lib.hid s0.top
  have d_t3_t5 := Lib.hid t3.top
  have d_t4_t5 := Lib.hid t4.top
  have d_g0_t5 := Lib.hid g0.top
  replace s0 := s0.below hb
  replace t3 := t3.below hb
  replace t4 := t4.below hb
  replace g0 := g0.below hb
  replace acc := acc.trans (hb.mono acc.size)
  clear hb
  have lu_t5 := Lib.hid (ent_ltu ho)
  have t5 := OwEnt.new ho
  clear ho
  go_wp2_with fail
  refine (eqs_ent _ _ _ zs0 _ _ _ _ t3.ints t5.ints (by omega) (by omega) (hsm0.at _ _ HLZ0.out (by decide)) ).mono ?_
  rintro e w9 ⟨rfl, hb⟩
  replace s0 := s0.below hb
  replace t3 := t3.below hb
  replace t4 := t4.below hb
  replace g0 := g0.below hb
  replace t5 := t5.below hb
  replace acc := acc.trans (hb.mono acc.size)
  clear hb
  clear t5
  go_wp2_with fail
  refine (to_i64 A2 n2 c2 W.heap.size zs2 _ (hi2.keep fun _ hp => acc.cell hp) acc.size (by omega)).mono ?_
  rintro e w10 ⟨rfl, ho, hb⟩
  have lo_t6 := Lib.hid acc.size
  have d_s0_t6 := Lib.hid s0.top
  have d_t3_t6 := Lib.hid t3.top
  have d_t4_t6 := Lib.hid t4.top
  have d_g0_t6 := Lib.hid g0.top
  replace s0 := s0.below hb
  replace t3 := t3.below hb
  replace t4 := t4.below hb
  replace g0 := g0.below hb
  replace acc := acc.trans (hb.mono acc.size)
  clear hb
  have t6 := Ow.new ho
  clear ho
  go_wp2_with fail
  refine (eqs_i64 _ _ _ zs2 _ _ _ _ t4.ints t6.ints (by omega) (by omega)).mono ?_
  rintro e w11 ⟨rfl, hb⟩
  replace s0 := s0.below hb
  replace t3 := t3.below hb
  replace t4 := t4.below hb
  replace g0 := g0.below hb
  replace t6 := t6.below hb
  replace acc := acc.trans (hb.mono acc.size)
  clear hb
  clear t6
  go_wp2_with fail
  refine (marked_ent _ (n0) _ _ _ (1) _ zs0 _ t3 lu_t3.out hsm0 (by omega)).mono ?_
  rintro e w12 ⟨rfl, hp⟩
  replace s0 := s0.part lu_s0.out hp (.inl d_s0_t3.out)
  replace t4 := t4.part hp (.inr d_t3_t4.out)
  replace g0 := g0.part lu_g0.out hp (.inr d_t3_g0.out)
  clear t3
  replace acc := acc.trans (hp.below lo_t3.out acc.size)
  clear hp
  go_wp2_with fail
  refine (marked_i64 _ (n2) _ _ _ (1 + totE zs0 (n0)) _ _ t4 (by omega) (by omega)).mono ?_
  rintro e w13 ⟨rfl, hm, hp⟩
  replace s0 := s0.part lu_s0.out hp (.inl d_s0_t4.out)
  replace g0 := g0.part lu_g0.out hp (.inr d_t4_g0.out)
  replace t4 := hm
  replace acc := acc.trans (hp.below lo_t4.out acc.size)
  clear hp
  go_wp2_with fail
  refine (eqs_ent _ _ _ r0 _ _ _ _ g0.ints s0.ints (by omega) (by omega) (hl0.at _ _ rfl (by decide)) ).mono ?_
  rintro e w14 ⟨rfl, hb⟩
  replace s0 := s0.below hb
  replace t4 := t4.below hb
  replace g0 := g0.below hb
  replace acc := acc.trans (hb.mono acc.size)
  clear hb
  go_wp2_with fail
  refine (markd_ent _ (r0.length) _ _ _ (1) _ r0 _ g0 lu_g0.out hl0 (by omega)).mono ?_
  rintro e w15 ⟨rfl, ⟨usm_g0, hm⟩, hp⟩
  replace s0 := s0.part lu_s0.out hp (.inl d_s0_g0.out)
  replace t4 := t4.part hp (.inl d_t4_g0.out)
  replace g0 := hm
  replace acc := acc.trans (hp.below lo_g0.out acc.size)
  clear hp
  go_wp2_with fail
  refine (held_ent _ (r0.length) _ (1) r0 _ g0.ints rfl hl0 (by omega)).mono ?_
  rintro e w16 ⟨rfl, hb⟩
  replace s0 := s0.below hb
  replace t4 := t4.below hb
  replace g0 := g0.below hb
  replace acc := acc.trans (hb.mono acc.size)
  clear hb
  clear t4
  go_wp2_with fail
  refine (to_ent A0 n0 c0 W.heap.size zs0 _ (hi0.keep acc) acc.size (by omega) (hsm0.at n0 _ HLZ0.out (by decide))).mono ?_
  rintro e w17 ⟨rfl, ⟨us_t7, ho⟩, hb⟩
  have lo_t7 := Lib.hid acc.size
  have d_s0_t7 := Lib.hid s0.top
  have d_g0_t7 := Lib.hid g0.top
  replace s0 := s0.below hb
  replace g0 := g0.below hb
  replace acc := acc.trans (hb.mono acc.size)
  clear hb
  have lu_t7 := Lib.hid (ent_ltu ho)
  have t7 := OwEnt.new ho
  clear ho
  go_wp2_with fail
  refine (to_i64 A2 n2 c2 W.heap.size zs2 _ (hi2.keep fun _ hp => acc.cell hp) acc.size (by omega)).mono ?_
  rintro e w18 ⟨rfl, ho, hb⟩
  have lo_t8 := Lib.hid acc.size
  have d_s0_t8 := Lib.hid s0.top
  have d_g0_t8 := Lib.hid g0.top
  have d_t7_t8 := Lib.hid t7.top
  replace s0 := s0.below hb
  replace g0 := g0.below hb
  replace t7 := t7.below hb
  replace acc := acc.trans (hb.mono acc.size)
  clear hb
  have t8 := Ow.new ho
  clear ho
  go_wp2_with fail
  refine (im_NoteLights _ n0 _ zs0 a1 _ n2 _ zs2 _ (t7.sl hw0) hsm0 wa1 (t8.sl (by omega) hw2) hb2 r0 r1 HR.out).mono ?_
  rintro e w19 ⟨v0, rfl, ho0, hb, hl0⟩
  have lo_h0 := Lib.hid acc.size
  obtain ⟨us_h0, ho0⟩ := ho0
  obtain ⟨A_h0, c_h0, rfl⟩ := ho0.sliced
  have d_s0_h0 := Lib.hid s0.top
  have d_g0_h0 := Lib.hid g0.top
  have d_t7_h0 := Lib.hid t7.top
  have d_t8_h0 := Lib.hid t8.top
  replace s0 := s0.below hb
  replace g0 := g0.below hb
  replace t7 := t7.below hb
  replace t8 := t8.below hb
  replace acc := acc.trans (hb.mono acc.size)
  clear hb
  have lu_h0 := Lib.hid (ent_ltu ho0)
  have h0 := OwEnt.new ho0
  clear ho0
  clear hl0
  clear t7
  clear t8
  go_wp2_with fail
  refine (eqs_ent _ _ _ r0 _ _ _ _ h0.ints s0.ints (by omega) (by omega) (hl0.at _ _ rfl (by decide)) ).mono ?_
  rintro e w20 ⟨rfl, hb⟩
  replace s0 := s0.below hb
  replace g0 := g0.below hb
  replace h0 := h0.below hb
  replace acc := acc.trans (hb.mono acc.size)
  clear hb
  go_wp2_with fail
  refine (held_ent _ (r0.length) _ (1) r0 _ g0.ints rfl hl0 (by omega)).mono ?_
  rintro e w21 ⟨rfl, hb⟩
  replace s0 := s0.below hb
  replace g0 := g0.below hb
  replace h0 := h0.below hb
  replace acc := acc.trans (hb.mono acc.size)
  clear hb
  go_wp2
  go_ret
  exact ⟨rfl, acc⟩
end Go.Proofs.Ytlpkafhapmkkfaa
