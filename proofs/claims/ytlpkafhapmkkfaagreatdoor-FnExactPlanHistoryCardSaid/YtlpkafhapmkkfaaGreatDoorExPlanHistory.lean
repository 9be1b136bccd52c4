/- The walk of 'FnExactPlanHistory'. -/
import Derived.Test.YtlpkafhapmkkfaaGreatDoorBndlF
namespace Go.Proofs.YtlpkafhapmkkfaaGreatDoor
open Go.RowKit
set_option linter.unusedVariables false

set_option maxHeartbeats 4000000 in
set_option maxRecDepth 100000 in
theorem walk_FnExactPlanHistory (W : World) (A0 : Option Addr) (n0 c0 : Nat) (zs0 : List Pth) (ha0 : PthsAt W W.heap.size A0 n0 zs0 ∧ (∀ z ∈ zs0, z.wf) ∧ n0 ≤ c0 ∧ c0 ≤ maxLen) (A1 : Option Addr) (n1 c1 : Nat) (zs1 : List Prt) (ha1 : PrtsAt W W.heap.size A1 n1 zs1 ∧ (∀ z ∈ zs1, z.wf) ∧ n1 ≤ c1 ∧ c1 ≤ maxLen) (a2 : Int) (wa2 : (Lit.int .i64 a2).wf = true) (a3 : Int) (wa3 : (Lit.int .i64 a3).wf = true) (hv0 : Brus W) (hv1 : Clrs W) :
    Calls Tryz.prog 6 #[.slice A0 n0 c0, .slice A1 n1 c1, .int .i64 a2, .int .i64 a3] W fun e w' => e = .returned (.bool true) ∧ Below W.heap.size W w' := by
  have hm0 := Nat.le_trans ha0.2.2.1 ha0.2.2.2
  have hm1 := Nat.le_trans ha1.2.2.1 ha1.2.2.2
  unfold maxLen at hm0 hm1
  obtain ⟨hi0, hw0, -, -⟩ := ha0
  obtain ⟨hi1, hw1, -, -⟩ := ha1
  obtain ⟨r0, hr⟩ : ∃ r0, histP zs0 zs1 a2 a3 = r0 := ⟨_, rfl⟩
  have HR := Lib.hid hr
  clear hr
  have HV0 := Lib.hid hv0
  clear hv0
  have HV1 := Lib.hid hv1
  clear hv1
  have acc := Below.refl W.heap.size W
  go_enter Tryz.func6, Tryz.ntmps6
  go_wp2_with fail
  refine (sz_pth _ n0 _ 1048576 _ (by omega) (by omega)).mono ?_
  rintro e w' ⟨rfl, rfl⟩
  by_cases hz0 : (n0 : Int) ≤ 1048576
  rotate_left
  · rw [if_neg hz0]
    go_wp2
    go_ret
    exact ⟨rfl, acc⟩
  rw [if_pos hz0]
  have hb0 : n0 ≤ 1048576 := by omega
  have hg1 : ∀ j, j < n1 → (prAt zs1 j).stage.length ≤ 9223372036854775807 := fun j hj => by
    have hl := hi1.1
    have hz := (hw1 _ (prAt_mem (k := j) (by omega))).1
    unfold maxLen at hz
    omega
  go_wp2_with fail
  refine (sz_prt A1 n1 c1 W.heap.size zs1 (1048576 - (n0 : Int)) _ (hi1.keep acc) acc.size (by omega) hg1 ⟨by omega, by omega⟩).mono ?_
  rintro e wz1 ⟨⟨q1, rfl, hq1⟩, hb⟩
  replace acc := acc.trans (hb.mono acc.size)
  clear hb
  clear hg1
  rcases hq1 with hq1 | ⟨hqa1, hqb1, hqc1, hqd1⟩
  · go_wp2
    go_ret
    exact ⟨rfl, acc⟩
  have hb1 : n1 ≤ 1048576 := by omega
  have hsm1 : SmallP zs1 := ⟨by have := hi1.1; omega, fun j hj => by have := hqd1 j (by have := hi1.1; omega); omega⟩
  have hlz1 := hi1.1.symm
  have HLZ1 := Lib.hid hlz1
  clear hqd1 hlz1
  have htp1 := totP_top hsm1 (k := n1) (by have := HLZ1.out; omega)
  go_wp2_with fail
  refine (to_pth A0 n0 c0 W.heap.size zs0 _ (hi0.keep fun _ hp => acc.cell hp) acc.size (by omega)).mono ?_
  rintro e w1 ⟨rfl, ho, hb⟩
  have lo_t1 := Lib.hid acc.size
  replace acc := acc.trans (hb.mono acc.size)
  clear hb
  have t1 := OwP.new ho
  clear ho
  go_wp2_with fail
  refine (to_prt A1 n1 c1 W.heap.size zs1 _ (hi1.keep acc) acc.size (by omega) (hsm1.at n1 _ HLZ1.out (by decide))).mono ?_
  rintro e w2 ⟨rfl, ⟨us_t2, ho⟩, hb⟩
  have lo_t2 := Lib.hid acc.size
  have d_t1_t2 := Lib.hid t1.top
  replace t1 := t1.below hb
  replace acc := acc.trans (hb.mono acc.size)
  clear hb
  have ap_t2 := Lib.hid ho.apart
  have t2 := OwQ.new ho.pe
  clear ho
  go_wp2_with fail
  refine (sp_PlanHistory _ n0 _ zs0 _ n1 _ zs1 a2 a3 _ (t1.sl (by omega) hw0) hb0 (t2.sl hw1) hsm1 wa2 wa3 r0 HR.out).mono ?_
  rintro e w3 ⟨v0, rfl, ho0, hb, hl0⟩
  have lo_s0 := Lib.hid acc.size
  obtain ⟨A_s0, c_s0, rfl⟩ := ho0.sliced
  have hlr0 := hl0.1
  have d_t1_s0 := Lib.hid t1.top
  have d_t2_s0 := Lib.hid t2.top
  replace t1 := t1.below hb
  replace t2 := t2.below hb
  replace acc := acc.trans (hb.mono acc.size)
  clear hb
  obtain ⟨us_s0, hrr0, hri0⟩ := ho0
  have s0 := OwE.new hrr0 hri0
  clear hrr0 hri0
  clear t1
  clear t2
  go_wp2_with fail
  refine (to_pth A0 n0 c0 W.heap.size zs0 _ (hi0.keep fun _ hp => acc.cell hp) acc.size (by omega)).mono ?_
  rintro e w4 ⟨rfl, ho, hb⟩
  have lo_t3 := Lib.hid acc.size
  have d_s0_t3 := Lib.hid s0.top
  replace s0 := s0.below hb
  replace acc := acc.trans (hb.mono acc.size)
  clear hb
  have t3 := OwP.new ho
  clear ho
  go_wp2_with fail
  refine (to_prt A1 n1 c1 W.heap.size zs1 _ (hi1.keep acc) acc.size (by omega) (hsm1.at n1 _ HLZ1.out (by decide))).mono ?_
  rintro e w5 ⟨rfl, ⟨us_t4, ho⟩, hb⟩
  have lo_t4 := Lib.hid acc.size
  have d_s0_t4 := Lib.hid s0.top
  have d_t3_t4 := Lib.hid t3.top
  replace s0 := s0.below hb
  replace t3 := t3.below hb
  replace acc := acc.trans (hb.mono acc.size)
  clear hb
  have ap_t4 := Lib.hid ho.apart
  have t4 := OwQ.new ho.pe
  clear ho
  go_wp2_with fail
  refine (im_PlanHistory _ n0 _ zs0 _ n1 _ zs1 a2 a3 _ (t3.sl (by omega) hw0) hb0 (t4.sl hw1) hsm1 wa2 wa3 (HV0.out.below acc (Nat.le_refl _)) (HV1.out.below acc (Nat.le_refl _)) r0 HR.out).mono ?_
  rintro e w6 ⟨v0, rfl, ho0, hb, hl0⟩
  have lo_g0 := Lib.hid acc.size
  obtain ⟨us_g0, ho0⟩ := ho0
  obtain ⟨A_g0, c_g0, rfl⟩ := ho0.ss.sliced
  have d_s0_g0 := Lib.hid s0.top
  have d_t3_g0 := Lib.hid t3.top
  have d_t4_g0 := Lib.hid t4.top
  replace s0 := s0.below hb
  replace t3 := t3.below hb
  replace t4 := t4.below hb
  replace acc := acc.trans (hb.mono acc.size)
  clear hb
  have g0 := OwD.new ho0
  clear ho0
  clear hl0
  go_wp2_with fail
  refine (eqs_ss _ _ _ r0 _ _ _ _ g0.ints s0.ints (by omega) (by omega) (hl0.at _ _ rfl (by decide)) ).mono ?_
  rintro e w7 ⟨rfl, hb⟩
  replace s0 := s0.below hb
  replace t3 := t3.below hb
  replace t4 := t4.below hb
  replace g0 := g0.below hb
  replace acc := acc.trans (hb.mono acc.size)
  clear hb
  go_wp2_with fail
  refine (to_pth A0 n0 c0 W.heap.size zs0 _ (hi0.keep fun _ hp => acc.cell hp) acc.size (by omega)).mono ?_
  rintro e w8 ⟨rfl, ho, hb⟩
  have lo_t5 := Lib.hid acc.size
  have d_s0_t5 := Lib.hid s0.top
  have d_t3_t5 := Lib.hid t3.top
  have d_t4_t5 := Lib.hid t4.top
  have d_g0_t5 := Lib.hid g0.top
  replace s0 := s0.below hb
  replace t3 := t3.below hb
  replace t4 := t4.below hb
  replace g0 := g0.below hb
  replace acc := acc.trans (hb.mono acc.size)
  clear hb
  have t5 := OwP.new ho
  clear ho
  go_wp2_with fail
  refine (eqs_pth _ _ _ zs0 _ _ _ _ t3.ints t5.ints (by omega) (by omega)).mono ?_
  rintro e w9 ⟨rfl, hb⟩
  replace s0 := s0.below hb
  replace t3 := t3.below hb
  replace t4 := t4.below hb
  replace g0 := g0.below hb
  replace t5 := t5.below hb
  replace acc := acc.trans (hb.mono acc.size)
  clear hb
  clear t5
  go_wp2_with fail
  refine (to_prt A1 n1 c1 W.heap.size zs1 _ (hi1.keep acc) acc.size (by omega) (hsm1.at n1 _ HLZ1.out (by decide))).mono ?_
  rintro e w10 ⟨rfl, ⟨us_t6, ho⟩, hb⟩
  have lo_t6 := Lib.hid acc.size
  have d_s0_t6 := Lib.hid s0.top
  have d_t3_t6 := Lib.hid t3.top
  have d_t4_t6 := Lib.hid t4.top
  have d_g0_t6 := Lib.hid g0.top
  replace s0 := s0.below hb
  replace t3 := t3.below hb
  replace t4 := t4.below hb
  replace g0 := g0.below hb
  replace acc := acc.trans (hb.mono acc.size)
  clear hb
  have ap_t6 := Lib.hid ho.apart
  have t6 := OwQ.new ho.pe
  clear ho
  go_wp2_with fail
  refine (eqs_prt _ _ _ zs1 _ _ _ _ t4.ints t6.ints (by omega) (by omega) (hsm1.at _ _ HLZ1.out (by decide)) ).mono ?_
  rintro e w11 ⟨rfl, hb⟩
  replace s0 := s0.below hb
  replace t3 := t3.below hb
  replace t4 := t4.below hb
  replace g0 := g0.below hb
  replace t6 := t6.below hb
  replace acc := acc.trans (hb.mono acc.size)
  clear hb
  clear t6
  go_wp2_with fail
  refine (marked_pth _ (n0) _ _ _ (1) _ _ t3 (by omega) (by omega)).mono ?_
  rintro e w12 ⟨rfl, hp⟩
  replace s0 := s0.part hp (.inl d_s0_t3.out)
  replace t4 := t4.part hp (.inr d_t3_t4.out)
  replace g0 := g0.part hp (.inr d_t3_g0.out)
  clear t3
  replace acc := acc.trans (hp.below lo_t3.out acc.size)
  clear hp
  go_wp2_with fail
  refine (marked_prt _ (n1) _ _ _ (1 + n0 * 4) _ zs1 _ t4 ap_t4.out hsm1 (by omega)).mono ?_
  rintro e w13 ⟨rfl, ⟨usm_t4, hm⟩, hp⟩
  replace s0 := s0.part hp (.inl d_s0_t4.out)
  replace g0 := g0.part hp (.inr d_t4_g0.out)
  replace t4 := hm
  replace acc := acc.trans (hp.below lo_t4.out acc.size)
  clear hp
  go_wp2_with fail
  refine (eqs_ss _ _ _ r0 _ _ _ _ g0.ints s0.ints (by omega) (by omega) (hl0.at _ _ rfl (by decide)) ).mono ?_
  rintro e w14 ⟨rfl, hb⟩
  replace s0 := s0.below hb
  replace t4 := t4.below hb
  replace g0 := g0.below hb
  replace acc := acc.trans (hb.mono acc.size)
  clear hb
  go_wp2_with fail
  refine (marked_ss _ (r0.length) _ _ _ (1) _ r0 _ g0 hl0 (by omega)).mono ?_
  rintro e w15 ⟨rfl, hm, hp⟩
  replace s0 := s0.part hp (.inl d_s0_g0.out)
  replace t4 := t4.part hp (.inl d_t4_g0.out)
  replace g0 := hm
  replace acc := acc.trans (hp.below lo_g0.out acc.size)
  clear hp
  go_wp2_with fail
  refine (held_ss _ (r0.length) _ (1) r0 _ g0.ints rfl hl0 (by omega)).mono ?_
  rintro e w16 ⟨rfl, hb⟩
  replace s0 := s0.below hb
  replace t4 := t4.below hb
  replace g0 := g0.below hb
  replace acc := acc.trans (hb.mono acc.size)
  clear hb
  clear t4
  go_wp2_with fail
  refine (to_pth A0 n0 c0 W.heap.size zs0 _ (hi0.keep fun _ hp => acc.cell hp) acc.size (by omega)).mono ?_
  rintro e w17 ⟨rfl, ho, hb⟩
  have lo_t7 := Lib.hid acc.size
  have d_s0_t7 := Lib.hid s0.top
  have d_g0_t7 := Lib.hid g0.top
  replace s0 := s0.below hb
  replace g0 := g0.below hb
  replace acc := acc.trans (hb.mono acc.size)
  clear hb
  have t7 := OwP.new ho
  clear ho
  go_wp2_with fail
  refine (to_prt A1 n1 c1 W.heap.size zs1 _ (hi1.keep acc) acc.size (by omega) (hsm1.at n1 _ HLZ1.out (by decide))).mono ?_
  rintro e w18 ⟨rfl, ⟨us_t8, ho⟩, hb⟩
  have lo_t8 := Lib.hid acc.size
  have d_s0_t8 := Lib.hid s0.top
  have d_g0_t8 := Lib.hid g0.top
  have d_t7_t8 := Lib.hid t7.top
  replace s0 := s0.below hb
  replace g0 := g0.below hb
  replace t7 := t7.below hb
  replace acc := acc.trans (hb.mono acc.size)
  clear hb
  have ap_t8 := Lib.hid ho.apart
  have t8 := OwQ.new ho.pe
  clear ho
  go_wp2_with fail
  refine (im_PlanHistory _ n0 _ zs0 _ n1 _ zs1 a2 a3 _ (t7.sl (by omega) hw0) hb0 (t8.sl hw1) hsm1 wa2 wa3 (HV0.out.below acc (Nat.le_refl _)) (HV1.out.below acc (Nat.le_refl _)) r0 HR.out).mono ?_
  rintro e w19 ⟨v0, rfl, ho0, hb, hl0⟩
  have lo_h0 := Lib.hid acc.size
  obtain ⟨us_h0, ho0⟩ := ho0
  obtain ⟨A_h0, c_h0, rfl⟩ := ho0.ss.sliced
  have d_s0_h0 := Lib.hid s0.top
  have d_g0_h0 := Lib.hid g0.top
  have d_t7_h0 := Lib.hid t7.top
  have d_t8_h0 := Lib.hid t8.top
  replace s0 := s0.below hb
  replace g0 := g0.below hb
  replace t7 := t7.below hb
  replace t8 := t8.below hb
  replace acc := acc.trans (hb.mono acc.size)
  clear hb
  have h0 := OwD.new ho0
  clear ho0
  clear hl0
  clear t7
  clear t8
  go_wp2_with fail
  refine (eqs_ss _ _ _ r0 _ _ _ _ h0.ints s0.ints (by omega) (by omega) (hl0.at _ _ rfl (by decide)) ).mono ?_
  rintro e w20 ⟨rfl, hb⟩
  replace s0 := s0.below hb
  replace g0 := g0.below hb
  replace h0 := h0.below hb
  replace acc := acc.trans (hb.mono acc.size)
  clear hb
  go_wp2_with fail
  refine (held_ss _ (r0.length) _ (1) r0 _ g0.ints rfl hl0 (by omega)).mono ?_
  rintro e w21 ⟨rfl, hb⟩
  replace s0 := s0.below hb
  replace g0 := g0.below hb
  replace h0 := h0.below hb
  replace acc := acc.trans (hb.mono acc.size)
  clear hb
  go_wp2
  go_ret
  exact ⟨rfl, acc⟩
end Go.Proofs.YtlpkafhapmkkfaaGreatDoor
