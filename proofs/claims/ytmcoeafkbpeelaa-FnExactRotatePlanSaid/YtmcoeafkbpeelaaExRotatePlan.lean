/- The walk of 'FnExactRotatePlan'. -/
import Derived.Test.YtmcoeafkbpeelaaBndlD
namespace Go.Proofs.Ytmcoeafkbpeelaa
open Go.RowKit
set_option linter.unusedVariables false

set_option maxHeartbeats 4000000 in
set_option maxRecDepth 100000 in
theorem walk_FnExactRotatePlan (W : World) (A0 : Option Addr) (n0 c0 : Nat) (zs0 : List Prt) (ha0 : PrtsAt W W.heap.size A0 n0 zs0 ∧ (∀ z ∈ zs0, z.wf) ∧ n0 ≤ c0 ∧ c0 ≤ maxLen) (a1 : Int) (wa1 : (Lit.int .i64 a1).wf = true) :
    Calls Try.prog 10 #[.slice A0 n0 c0, .int .i64 a1] W fun e w' => e = .returned (.bool true) ∧ Below W.heap.size W w' := by
  have hm0 := Nat.le_trans ha0.2.2.1 ha0.2.2.2
  unfold maxLen at hm0
  obtain ⟨hi0, hw0, -, -⟩ := ha0
  obtain ⟨r0, hr⟩ : ∃ r0, rotP zs0 a1 = r0 := ⟨_, rfl⟩
  have HR := Lib.hid hr
  clear hr
  have acc := Below.refl W.heap.size W
  go_enter Try.func10, Try.ntmps10
  have hg0 : ∀ j, j < n0 → (prAt zs0 j).stage.length ≤ 9223372036854775807 := fun j hj => by
    have hl := hi0.1
    have hz := (hw0 _ (prAt_mem (k := j) (by omega))).1
    unfold maxLen at hz
    omega
  go_wp2_with fail
  refine (sz_prt A0 n0 c0 W.heap.size zs0 1048576 _ (hi0.keep acc) acc.size (by omega) hg0 ⟨by omega, by omega⟩).mono ?_
  rintro e wz0 ⟨⟨q0, rfl, hq0⟩, hb⟩
  replace acc := acc.trans (hb.mono acc.size)
  clear hb
  clear hg0
  rcases hq0 with hq0 | ⟨hqa0, hqb0, hqc0, hqd0⟩
  · go_wp2
    go_ret
    exact ⟨rfl, acc⟩
  have hb0 : n0 ≤ 1048576 := by omega
  have hsm0 : SmallP zs0 := ⟨by have := hi0.1; omega, fun j hj => by have := hqd0 j (by have := hi0.1; omega); omega⟩
  have hlz0 := hi0.1.symm
  have HLZ0 := Lib.hid hlz0
  clear hqd0 hlz0
  have htp0 := totP_top hsm0 (k := n0) (by have := HLZ0.out; omega)
  go_wp2_with fail
  refine (to_prt A0 n0 c0 W.heap.size zs0 _ (hi0.keep acc) acc.size (by omega) (hsm0.at n0 _ HLZ0.out (by decide))).mono ?_
  rintro e w1 ⟨rfl, ⟨us_t1, ho⟩, hb⟩
  have lo_t1 := Lib.hid acc.size
  replace acc := acc.trans (hb.mono acc.size)
  clear hb
  have ap_t1 := Lib.hid ho.apart
  have t1 := OwQ.new ho.pe
  clear ho
  go_wp2_with fail
  refine (sp_RotatePlan _ n0 _ zs0 a1 _ (t1.sl hw0) hsm0 wa1 r0 HR.out).mono ?_
  rintro e w2 ⟨v0, rfl, ho0, hb, hl0⟩
  have lo_s0 := Lib.hid acc.size
  obtain ⟨us_s0, ho0⟩ := ho0
  obtain ⟨A_s0, c_s0, rfl⟩ := ho0.sliced
  have htr0 := totP_top hl0 (k := r0.length) (Nat.le_refl _)
  have hlr0 := hl0.1
  have d_t1_s0 := Lib.hid t1.top
  replace t1 := t1.below hb
  replace acc := acc.trans (hb.mono acc.size)
  clear hb
  have s0 := OwQ.new ho0
  clear ho0
  clear t1
  go_wp2_with fail
  refine (to_prt A0 n0 c0 W.heap.size zs0 _ (hi0.keep acc) acc.size (by omega) (hsm0.at n0 _ HLZ0.out (by decide))).mono ?_
  rintro e w3 ⟨rfl, ⟨us_t2, ho⟩, hb⟩
  have lo_t2 := Lib.hid acc.size
  have d_s0_t2 := Lib.hid s0.top
  replace s0 := s0.below hb
  replace acc := acc.trans (hb.mono acc.size)
  clear hb
  have ap_t2 := Lib.hid ho.apart
  have t2 := OwQ.new ho.pe
  clear ho
  go_wp2_with fail
  refine (im_RotatePlan _ n0 _ zs0 a1 _ (t2.sl hw0) hsm0 wa1 r0 HR.out).mono ?_
  rintro e w4 ⟨v0, rfl, ho0, hb, hl0⟩
  have lo_g0 := Lib.hid acc.size
  obtain ⟨us_g0, ho0⟩ := ho0
  obtain ⟨A_g0, c_g0, rfl⟩ := ho0.pe.sliced
  have d_s0_g0 := Lib.hid s0.top
  have d_t2_g0 := Lib.hid t2.top
  replace s0 := s0.below hb
  replace t2 := t2.below hb
  replace acc := acc.trans (hb.mono acc.size)
  clear hb
  have ap_g0 := Lib.hid ho0.apart
  have g0 := OwQ.new ho0.pe
  clear ho0
  clear hl0
  go_wp2_with fail
  refine (eqs_prt _ _ _ r0 _ _ _ _ g0.ints s0.ints (by omega) (by omega) (hl0.at _ _ rfl (by decide)) ).mono ?_
  rintro e w5 ⟨rfl, hb⟩
  replace s0 := s0.below hb
  replace t2 := t2.below hb
  replace g0 := g0.below hb
  replace acc := acc.trans (hb.mono acc.size)
  clear hb
  go_wp2_with fail
  refine (to_prt A0 n0 c0 W.heap.size zs0 _ (hi0.keep acc) acc.size (by omega) (hsm0.at n0 _ HLZ0.out (by decide))).mono ?_
  rintro e w6 ⟨rfl, ⟨us_t3, ho⟩, hb⟩
  have lo_t3 := Lib.hid acc.size
  have d_s0_t3 := Lib.hid s0.top
  have d_t2_t3 := Lib.hid t2.top
  have d_g0_t3 := Lib.hid g0.top
  replace s0 := s0.below hb
  replace t2 := t2.below hb
  replace g0 := g0.below hb
  replace acc := acc.trans (hb.mono acc.size)
  clear hb
  have ap_t3 := Lib.hid ho.apart
  have t3 := OwQ.new ho.pe
  clear ho
  go_wp2_with fail
  refine (eqs_prt _ _ _ zs0 _ _ _ _ t2.ints t3.ints (by omega) (by omega) (hsm0.at _ _ HLZ0.out (by decide)) ).mono ?_
  rintro e w7 ⟨rfl, hb⟩
  replace s0 := s0.below hb
  replace t2 := t2.below hb
  replace g0 := g0.below hb
  replace t3 := t3.below hb
  replace acc := acc.trans (hb.mono acc.size)
  clear hb
  clear t3
  go_wp2_with fail
  refine (marked_prt _ (n0) _ _ _ (1) _ zs0 _ t2 ap_t2.out hsm0 (by omega)).mono ?_
  rintro e w8 ⟨rfl, ⟨usm_t2, hm⟩, hp⟩
  replace s0 := s0.part hp (.inl d_s0_t2.out)
  replace g0 := g0.part hp (.inr d_t2_g0.out)
  replace t2 := hm
  replace acc := acc.trans (hp.below lo_t2.out acc.size)
  clear hp
  go_wp2_with fail
  refine (eqs_prt _ _ _ r0 _ _ _ _ g0.ints s0.ints (by omega) (by omega) (hl0.at _ _ rfl (by decide)) ).mono ?_
  rintro e w9 ⟨rfl, hb⟩
  replace s0 := s0.below hb
  replace t2 := t2.below hb
  replace g0 := g0.below hb
  replace acc := acc.trans (hb.mono acc.size)
  clear hb
  go_wp2_with fail
  refine (marked_prt _ (r0.length) _ _ _ (1) _ r0 _ g0 ap_g0.out hl0 (by omega)).mono ?_
  rintro e w10 ⟨rfl, ⟨usm_g0, hm⟩, hp⟩
  replace s0 := s0.part hp (.inl d_s0_g0.out)
  replace t2 := t2.part hp (.inl d_t2_g0.out)
  replace g0 := hm
  replace acc := acc.trans (hp.below lo_g0.out acc.size)
  clear hp
  go_wp2_with fail
  refine (held_prt _ (r0.length) _ (1) r0 _ g0.ints rfl hl0 (by omega)).mono ?_
  rintro e w11 ⟨rfl, hb⟩
  replace s0 := s0.below hb
  replace t2 := t2.below hb
  replace g0 := g0.below hb
  replace acc := acc.trans (hb.mono acc.size)
  clear hb
  clear t2
  go_wp2_with fail
  refine (to_prt A0 n0 c0 W.heap.size zs0 _ (hi0.keep acc) acc.size (by omega) (hsm0.at n0 _ HLZ0.out (by decide))).mono ?_
  rintro e w12 ⟨rfl, ⟨us_t4, ho⟩, hb⟩
  have lo_t4 := Lib.hid acc.size
  have d_s0_t4 := Lib.hid s0.top
  have d_g0_t4 := Lib.hid g0.top
  replace s0 := s0.below hb
  replace g0 := g0.below hb
  replace acc := acc.trans (hb.mono acc.size)
  clear hb
  have ap_t4 := Lib.hid ho.apart
  have t4 := OwQ.new ho.pe
  clear ho
  go_wp2_with fail
  refine (im_RotatePlan _ n0 _ zs0 a1 _ (t4.sl hw0) hsm0 wa1 r0 HR.out).mono ?_
  rintro e w13 ⟨v0, rfl, ho0, hb, hl0⟩
  have lo_h0 := Lib.hid acc.size
  obtain ⟨us_h0, ho0⟩ := ho0
  obtain ⟨A_h0, c_h0, rfl⟩ := ho0.pe.sliced
  have d_s0_h0 := Lib.hid s0.top
  have d_g0_h0 := Lib.hid g0.top
  have d_t4_h0 := Lib.hid t4.top
  replace s0 := s0.below hb
  replace g0 := g0.below hb
  replace t4 := t4.below hb
  replace acc := acc.trans (hb.mono acc.size)
  clear hb
  have ap_h0 := Lib.hid ho0.apart
  have h0 := OwQ.new ho0.pe
  clear ho0
  clear hl0
  clear t4
  go_wp2_with fail
  refine (eqs_prt _ _ _ r0 _ _ _ _ h0.ints s0.ints (by omega) (by omega) (hl0.at _ _ rfl (by decide)) ).mono ?_
  rintro e w14 ⟨rfl, hb⟩
  replace s0 := s0.below hb
  replace g0 := g0.below hb
  replace h0 := h0.below hb
  replace acc := acc.trans (hb.mono acc.size)
  clear hb
  go_wp2_with fail
  refine (held_prt _ (r0.length) _ (1) r0 _ g0.ints rfl hl0 (by omega)).mono ?_
  rintro e w15 ⟨rfl, hb⟩
  replace s0 := s0.below hb
  replace g0 := g0.below hb
  replace h0 := h0.below hb
  replace acc := acc.trans (hb.mono acc.size)
  clear hb
  go_wp2
  go_ret
  exact ⟨rfl, acc⟩
end Go.Proofs.Ytmcoeafkbpeelaa
