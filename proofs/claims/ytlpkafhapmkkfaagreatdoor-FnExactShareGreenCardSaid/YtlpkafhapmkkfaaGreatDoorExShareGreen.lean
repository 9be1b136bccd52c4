/- The walk of 'FnExactShareGreen'. -/
import Derived.Test.YtlpkafhapmkkfaaGreatDoorBndlG
namespace Go.Proofs.YtlpkafhapmkkfaaGreatDoor
open Go.RowKit
set_option linter.unusedVariables false

set_option maxHeartbeats 4000000 in
set_option maxRecDepth 100000 in
theorem walk_FnExactShareGreen (W : World) (A0 : Option Addr) (n0 c0 : Nat) (zs0 : List Pth) (ha0 : PthsAt W W.heap.size A0 n0 zs0 ∧ (∀ z ∈ zs0, z.wf) ∧ n0 ≤ c0 ∧ c0 ≤ maxLen) (A1 : Option Addr) (n1 c1 : Nat) (zs1 : List Prt) (ha1 : PrtsAt W W.heap.size A1 n1 zs1 ∧ (∀ z ∈ zs1, z.wf) ∧ n1 ≤ c1 ∧ c1 ≤ maxLen) (A2 : Option Addr) (n2 c2 : Nat) (zs2 : List Det) (ha2 : DetsAt W W.heap.size A2 n2 zs2 ∧ (∀ z ∈ zs2, z.wf) ∧ n2 ≤ c2 ∧ c2 ≤ maxLen) (a3 : Int) (wa3 : (Lit.int .i64 a3).wf = true) (hv0 : Brus W) (hv1 : Clrs W) :
    Calls Tryz.prog 5 #[.slice A0 n0 c0, .slice A1 n1 c1, .slice A2 n2 c2, .int .i64 a3] W fun e w' => e = .returned (.bool true) ∧ Below W.heap.size W w' := by
  have hm0 := Nat.le_trans ha0.2.2.1 ha0.2.2.2
  have hm1 := Nat.le_trans ha1.2.2.1 ha1.2.2.2
  have hm2 := Nat.le_trans ha2.2.2.1 ha2.2.2.2
  unfold maxLen at hm0 hm1 hm2
  obtain ⟨hi0, hw0, -, -⟩ := ha0
  obtain ⟨hi1, hw1, -, -⟩ := ha1
  obtain ⟨hi2, hw2, -, -⟩ := ha2
  obtain ⟨r0, r1, hr⟩ : ∃ r0 r1, shrA zs0 zs1 zs2 a3 = (r0, r1) := ⟨_, _, rfl⟩
  have HR := Lib.hid hr
  clear hr
  have HV0 := Lib.hid hv0
  clear hv0
  have HV1 := Lib.hid hv1
  clear hv1
  have acc := Below.refl W.heap.size W
  go_enter Tryz.func5, Tryz.ntmps5
  go_wp2_with fail
  refine (sz_pth _ n0 _ 1048576 _ (by omega) (by omega)).mono ?_
  rintro e w' ⟨rfl, rfl⟩
  by_cases hz0 : (n0 : Int) ≤ 1048576
  rotate_left
  · rw [if_neg hz0]
    go_wp2
    go_ret
    exact ⟨rfl, acc⟩
  rw [if_pos hz0]
  have hb0 : n0 ≤ 1048576 := by omega
  have hg1 : ∀ j, j < n1 → (prAt zs1 j).stage.length ≤ 9223372036854775807 := fun j hj => by
    have hl := hi1.1
    have hz := (hw1 _ (prAt_mem (k := j) (by omega))).1
    unfold maxLen at hz
    omega
  go_wp2_with fail
  refine (sz_prt A1 n1 c1 W.heap.size zs1 (1048576 - (n0 : Int)) _ (hi1.keep acc) acc.size (by omega) hg1 ⟨by omega, by omega⟩).mono ?_
  rintro e wz1 ⟨⟨q1, rfl, hq1⟩, hb⟩
  replace acc := acc.trans (hb.mono acc.size)
  clear hb
  clear hg1
  rcases hq1 with hq1 | ⟨hqa1, hqb1, hqc1, hqd1⟩
  · go_wp2
    go_ret
    exact ⟨rfl, acc⟩
  have hb1 : n1 ≤ 1048576 := by omega
  have hsm1 : SmallP zs1 := ⟨by have := hi1.1; omega, fun j hj => by have := hqd1 j (by have := hi1.1; omega); omega⟩
  have hlz1 := hi1.1.symm
  have HLZ1 := Lib.hid hlz1
  clear hqd1 hlz1
  have htp1 := totP_top hsm1 (k := n1) (by have := HLZ1.out; omega)
  go_wp2_with fail
  refine (sz_det _ n2 _ q1 _ (by omega) (by omega)).mono ?_
  rintro e w' ⟨rfl, rfl⟩
  by_cases hz2 : (n2 : Int) ≤ q1
  rotate_left
  · rw [if_neg hz2]
    go_wp2
    go_ret
    exact ⟨rfl, acc⟩
  rw [if_pos hz2]
  have hb2 : n2 ≤ 1048576 := by omega
  go_wp2_with fail
  refine (to_pth A0 n0 c0 W.heap.size zs0 _ (hi0.keep fun _ hp => acc.cell hp) acc.size (by omega)).mono ?_
  rintro e w1 ⟨rfl, ho, hb⟩
  have lo_t1 := Lib.hid acc.size
  replace acc := acc.trans (hb.mono acc.size)
  clear hb
  have t1 := OwP.new ho
  clear ho
  go_wp2_with fail
  refine (to_prt A1 n1 c1 W.heap.size zs1 _ (hi1.keep acc) acc.size (by omega) (hsm1.at n1 _ HLZ1.out (by decide))).mono ?_
  rintro e w2 ⟨rfl, ⟨us_t2, ho⟩, hb⟩
  have lo_t2 := Lib.hid acc.size
  have d_t1_t2 := Lib.hid t1.top
  replace t1 := t1.below hb
  replace acc := acc.trans (hb.mono acc.size)
  clear hb
  have ap_t2 := Lib.hid ho.apart
  have t2 := OwQ.new ho.pe
  clear ho
  go_wp2_with fail
  refine (to_det A2 n2 c2 W.heap.size zs2 _ (hi2.keep fun _ hp => acc.cell hp) acc.size (by omega)).mono ?_
  rintro e w3 ⟨rfl, ho, hb⟩
  have lo_t3 := Lib.hid acc.size
  have d_t1_t3 := Lib.hid t1.top
  have d_t2_t3 := Lib.hid t2.top
  replace t1 := t1.below hb
  replace t2 := t2.below hb
  replace acc := acc.trans (hb.mono acc.size)
  clear hb
  have t3 := OwT.new ho
  clear ho
  go_wp2_with fail
  refine (sp_ShareGreen _ n0 _ zs0 _ n1 _ zs1 _ n2 _ zs2 a3 _ (t1.sl (by omega) hw0) hb0 (t2.sl hw1) hsm1 (t3.sl (by omega) hw2) hb2 wa3 r0 r1 HR.out).mono ?_
  rintro e w4 ⟨v0, rfl, ho0, hb, hl0⟩
  have lo_s0 := Lib.hid acc.size
  obtain ⟨us_s0, ho0⟩ := ho0
  obtain ⟨A_s0, c_s0, rfl⟩ := ho0.sliced
  have htr0 := totP_top hl0 (k := r0.length) (Nat.le_refl _)
  have hlr0 := hl0.1
  have d_t1_s0 := Lib.hid t1.top
  have d_t2_s0 := Lib.hid t2.top
  have d_t3_s0 := Lib.hid t3.top
  replace t1 := t1.below hb
  replace t2 := t2.below hb
  replace t3 := t3.below hb
  replace acc := acc.trans (hb.mono acc.size)
  clear hb
  have s0 := OwQ.new ho0
  clear ho0
  clear t1
  clear t2
  clear t3
  go_wp2_with fail
  refine (to_pth A0 n0 c0 W.heap.size zs0 _ (hi0.keep fun _ hp => acc.cell hp) acc.size (by omega)).mono ?_
  rintro e w5 ⟨rfl, ho, hb⟩
  have lo_t4 := Lib.hid acc.size
  have d_s0_t4 := Lib.hid s0.top
  replace s0 := s0.below hb
  replace acc := acc.trans (hb.mono acc.size)
  clear hb
  have t4 := OwP.new ho
  clear ho
  go_wp2_with fail
  refine (to_prt A1 n1 c1 W.heap.size zs1 _ (hi1.keep acc) acc.size (by omega) (hsm1.at n1 _ HLZ1.out (by decide))).mono ?_
  rintro e w6 ⟨rfl, ⟨us_t5, ho⟩, hb⟩
  have lo_t5 := Lib.hid acc.size
  have d_s0_t5 := Lib.hid s0.top
  have d_t4_t5 := Lib.hid t4.top
  replace s0 := s0.below hb
  replace t4 := t4.below hb
  replace acc := acc.trans (hb.mono acc.size)
  clear hb
  have ap_t5 := Lib.hid ho.apart
  have t5 := OwQ.new ho.pe
  clear ho
  go_wp2_with fail
  refine (to_det A2 n2 c2 W.heap.size zs2 _ (hi2.keep fun _ hp => acc.cell hp) acc.size (by omega)).mono ?_
  rintro e w7 ⟨rfl, ho, hb⟩
  have lo_t6 := Lib.hid acc.size
  have d_s0_t6 := Lib.hid s0.top
  have d_t4_t6 := Lib.hid t4.top
  have d_t5_t6 := Lib.hid t5.top
  replace s0 := s0.below hb
  replace t4 := t4.below hb
  replace t5 := t5.below hb
  replace acc := acc.trans (hb.mono acc.size)
  clear hb
  have t6 := OwT.new ho
  clear ho
  go_wp2_with fail
  refine (im_ShareGreen _ n0 _ zs0 _ n1 _ zs1 _ n2 _ zs2 a3 _ (t4.sl (by omega) hw0) hb0 (t5.sl hw1) hsm1 (t6.sl (by omega) hw2) hb2 wa3 (HV0.out.below acc (Nat.le_refl _)) (HV1.out.below acc (Nat.le_refl _)) r0 r1 HR.out).mono ?_
  rintro e w8 ⟨v0, rfl, ho0, hb, hl0⟩
  have lo_g0 := Lib.hid acc.size
  obtain ⟨us_g0, ho0⟩ := ho0
  obtain ⟨A_g0, c_g0, rfl⟩ := ho0.pe.sliced
  have d_s0_g0 := Lib.hid s0.top
  have d_t4_g0 := Lib.hid t4.top
  have d_t5_g0 := Lib.hid t5.top
  have d_t6_g0 := Lib.hid t6.top
  replace s0 := s0.below hb
  replace t4 := t4.below hb
  replace t5 := t5.below hb
  replace t6 := t6.below hb
  replace acc := acc.trans (hb.mono acc.size)
  clear hb
  have ap_g0 := Lib.hid ho0.apart
  have g0 := OwQ.new ho0.pe
  clear ho0
  clear hl0
  go_wp2_with fail
  refine (eqs_prt _ _ _ r0 _ _ _ _ g0.ints s0.ints (by omega) (by omega) (hl0.at _ _ rfl (by decide)) ).mono ?_
  rintro e w9 ⟨rfl, hb⟩
  replace s0 := s0.below hb
  replace t4 := t4.below hb
  replace t5 := t5.below hb
  replace t6 := t6.below hb
  replace g0 := g0.below hb
  replace acc := acc.trans (hb.mono acc.size)
  clear hb
  go_wp2_with fail
  refine (to_pth A0 n0 c0 W.heap.size zs0 _ (hi0.keep fun _ hp => acc.cell hp) acc.size (by omega)).mono ?_
  rintro e w10 ⟨rfl, ho, hb⟩
  have lo_t7 := Lib.hid acc.size
  have d_s0_t7 := Lib.hid s0.top
  have d_t4_t7 := Lib.hid t4.top
  have d_t5_t7 := Lib.hid t5.top
  have d_t6_t7 := Lib.hid t6.top
  have d_g0_t7 := Lib.hid g0.top
  replace s0 := s0.below hb
  replace t4 := t4.below hb
  replace t5 := t5.below hb
  replace t6 := t6.below hb
  replace g0 := g0.below hb
  replace acc := acc.trans (hb.mono acc.size)
  clear hb
  have t7 := OwP.new ho
  clear ho
  go_wp2_with fail
  refine (eqs_pth _ _ _ zs0 _ _ _ _ t4.ints t7.ints (by omega) (by omega)).mono ?_
  rintro e w11 ⟨rfl, hb⟩
  replace s0 := s0.below hb
  replace t4 := t4.below hb
  replace t5 := t5.below hb
  replace t6 := t6.below hb
  replace g0 := g0.below hb
  replace t7 := t7.below hb
  replace acc := acc.trans (hb.mono acc.size)
  clear hb
  clear t7
  go_wp2_with fail
  refine (to_prt A1 n1 c1 W.heap.size zs1 _ (hi1.keep acc) acc.size (by omega) (hsm1.at n1 _ HLZ1.out (by decide))).mono ?_
  rintro e w12 ⟨rfl, ⟨us_t8, ho⟩, hb⟩
  have lo_t8 := Lib.hid acc.size
  have d_s0_t8 := Lib.hid s0.top
  have d_t4_t8 := Lib.hid t4.top
  have d_t5_t8 := Lib.hid t5.top
  have d_t6_t8 := Lib.hid t6.top
  have d_g0_t8 := Lib.hid g0.top
  replace s0 := s0.below hb
  replace t4 := t4.below hb
  replace t5 := t5.below hb
  replace t6 := t6.below hb
  replace g0 := g0.below hb
  replace acc := acc.trans (hb.mono acc.size)
  clear hb
  have ap_t8 := Lib.hid ho.apart
  have t8 := OwQ.new ho.pe
  clear ho
  go_wp2_with fail
  refine (eqs_prt _ _ _ zs1 _ _ _ _ t5.ints t8.ints (by omega) (by omega) (hsm1.at _ _ HLZ1.out (by decide)) ).mono ?_
  rintro e w13 ⟨rfl, hb⟩
  replace s0 := s0.below hb
  replace t4 := t4.below hb
  replace t5 := t5.below hb
  replace t6 := t6.below hb
  replace g0 := g0.below hb
  replace t8 := t8.below hb
  replace acc := acc.trans (hb.mono acc.size)
  clear hb
  clear t8
  go_wp2_with fail
  refine (to_det A2 n2 c2 W.heap.size zs2 _ (hi2.keep fun _ hp => acc.cell hp) acc.size (by omega)).mono ?_
  rintro e w14 ⟨rfl, ho, hb⟩
  have lo_t9 := Lib.hid acc.size
  have d_s0_t9 := Lib.hid s0.top
  have d_t4_t9 := Lib.hid t4.top
  have d_t5_t9 := Lib.hid t5.top
  have d_t6_t9 := Lib.hid t6.top
  have d_g0_t9 := Lib.hid g0.top
  replace s0 := s0.below hb
  replace t4 := t4.below hb
  replace t5 := t5.below hb
  replace t6 := t6.below hb
  replace g0 := g0.below hb
  replace acc := acc.trans (hb.mono acc.size)
  clear hb
  have t9 := OwT.new ho
  clear ho
  go_wp2_with fail
  refine (eqs_det _ _ _ zs2 _ _ _ _ t6.ints t9.ints (by omega) (by omega)).mono ?_
  rintro e w15 ⟨rfl, hb⟩
  replace s0 := s0.below hb
  replace t4 := t4.below hb
  replace t5 := t5.below hb
  replace t6 := t6.below hb
  replace g0 := g0.below hb
  replace t9 := t9.below hb
  replace acc := acc.trans (hb.mono acc.size)
  clear hb
  clear t9
  go_wp2_with fail
  refine (marked_pth _ (n0) _ _ _ (1) _ _ t4 (by omega) (by omega)).mono ?_
  rintro e w16 ⟨rfl, hp⟩
  replace s0 := s0.part hp (.inl d_s0_t4.out)
  replace t5 := t5.part hp (.inr d_t4_t5.out)
  replace t6 := t6.part hp (.inr d_t4_t6.out)
  replace g0 := g0.part hp (.inr d_t4_g0.out)
  clear t4
  replace acc := acc.trans (hp.below lo_t4.out acc.size)
  clear hp
  go_wp2_with fail
  refine (marked_prt _ (n1) _ _ _ (1 + n0 * 4) _ zs1 _ t5 ap_t5.out hsm1 (by omega)).mono ?_
  rintro e w17 ⟨rfl, ⟨usm_t5, hm⟩, hp⟩
  replace s0 := s0.part hp (.inl d_s0_t5.out)
  replace t6 := t6.part hp (.inr d_t5_t6.out)
  replace g0 := g0.part hp (.inr d_t5_g0.out)
  replace t5 := hm
  replace acc := acc.trans (hp.below lo_t5.out acc.size)
  clear hp
  go_wp2_with fail
  refine (marked_det _ (n2) _ _ _ (1 + n0 * 4 + totP zs1 (n1)) _ _ t6 (by omega) (by omega)).mono ?_
  rintro e w18 ⟨rfl, hp⟩
  replace s0 := s0.part hp (.inl d_s0_t6.out)
  replace t5 := t5.part hp (.inl d_t5_t6.out)
  replace g0 := g0.part hp (.inr d_t6_g0.out)
  clear t6
  replace acc := acc.trans (hp.below lo_t6.out acc.size)
  clear hp
  go_wp2_with fail
  refine (eqs_prt _ _ _ r0 _ _ _ _ g0.ints s0.ints (by omega) (by omega) (hl0.at _ _ rfl (by decide)) ).mono ?_
  rintro e w19 ⟨rfl, hb⟩
  replace s0 := s0.below hb
  replace t5 := t5.below hb
  replace g0 := g0.below hb
  replace acc := acc.trans (hb.mono acc.size)
  clear hb
  go_wp2_with fail
  refine (marked_prt _ (r0.length) _ _ _ (1) _ r0 _ g0 ap_g0.out hl0 (by omega)).mono ?_
  rintro e w20 ⟨rfl, ⟨usm_g0, hm⟩, hp⟩
  replace s0 := s0.part hp (.inl d_s0_g0.out)
  replace t5 := t5.part hp (.inl d_t5_g0.out)
  replace g0 := hm
  replace acc := acc.trans (hp.below lo_g0.out acc.size)
  clear hp
  go_wp2_with fail
  refine (held_prt _ (r0.length) _ (1) r0 _ g0.ints rfl hl0 (by omega)).mono ?_
  rintro e w21 ⟨rfl, hb⟩
  replace s0 := s0.below hb
  replace t5 := t5.below hb
  replace g0 := g0.below hb
  replace acc := acc.trans (hb.mono acc.size)
  clear hb
  clear t5
  go_wp2_with fail
  refine (to_pth A0 n0 c0 W.heap.size zs0 _ (hi0.keep fun _ hp => acc.cell hp) acc.size (by omega)).mono ?_
  rintro e w22 ⟨rfl, ho, hb⟩
  have lo_t10 := Lib.hid acc.size
  have d_s0_t10 := Lib.hid s0.top
  have d_g0_t10 := Lib.hid g0.top
  replace s0 := s0.below hb
  replace g0 := g0.below hb
  replace acc := acc.trans (hb.mono acc.size)
  clear hb
  have t10 := OwP.new ho
  clear ho
  go_wp2_with fail
  refine (to_prt A1 n1 c1 W.heap.size zs1 _ (hi1.keep acc) acc.size (by omega) (hsm1.at n1 _ HLZ1.out (by decide))).mono ?_
  rintro e w23 ⟨rfl, ⟨us_t11, ho⟩, hb⟩
  have lo_t11 := Lib.hid acc.size
  have d_s0_t11 := Lib.hid s0.top
  have d_g0_t11 := Lib.hid g0.top
  have d_t10_t11 := Lib.hid t10.top
  replace s0 := s0.below hb
  replace g0 := g0.below hb
  replace t10 := t10.below hb
  replace acc := acc.trans (hb.mono acc.size)
  clear hb
  have ap_t11 := Lib.hid ho.apart
  have t11 := OwQ.new ho.pe
  clear ho
  go_wp2_with fail
  refine (to_det A2 n2 c2 W.heap.size zs2 _ (hi2.keep fun _ hp => acc.cell hp) acc.size (by omega)).mono ?_
  rintro e w24 ⟨rfl, ho, hb⟩
  have lo_t12 := Lib.hid acc.size
  have d_s0_t12 := Lib.hid s0.top
  have d_g0_t12 := Lib.hid g0.top
  have d_t10_t12 := Lib.hid t10.top
  have d_t11_t12 := Lib.hid t11.top
  replace s0 := s0.below hb
  replace g0 := g0.below hb
  replace t10 := t10.below hb
  replace t11 := t11.below hb
  replace acc := acc.trans (hb.mono acc.size)
  clear hb
  have t12 := OwT.new ho
  clear ho
  go_wp2_with fail
  refine (im_ShareGreen _ n0 _ zs0 _ n1 _ zs1 _ n2 _ zs2 a3 _ (t10.sl (by omega) hw0) hb0 (t11.sl hw1) hsm1 (t12.sl (by omega) hw2) hb2 wa3 (HV0.out.below acc (Nat.le_refl _)) (HV1.out.below acc (Nat.le_refl _)) r0 r1 HR.out).mono ?_
  rintro e w25 ⟨v0, rfl, ho0, hb, hl0⟩
  have lo_h0 := Lib.hid acc.size
  obtain ⟨us_h0, ho0⟩ := ho0
  obtain ⟨A_h0, c_h0, rfl⟩ := ho0.pe.sliced
  have d_s0_h0 := Lib.hid s0.top
  have d_g0_h0 := Lib.hid g0.top
  have d_t10_h0 := Lib.hid t10.top
  have d_t11_h0 := Lib.hid t11.top
  have d_t12_h0 := Lib.hid t12.top
  replace s0 := s0.below hb
  replace g0 := g0.below hb
  replace t10 := t10.below hb
  replace t11 := t11.below hb
  replace t12 := t12.below hb
  replace acc := acc.trans (hb.mono acc.size)
  clear hb
  have ap_h0 := Lib.hid ho0.apart
  have h0 := OwQ.new ho0.pe
  clear ho0
  clear hl0
  clear t10
  clear t11
  clear t12
  go_wp2_with fail
  refine (eqs_prt _ _ _ r0 _ _ _ _ h0.ints s0.ints (by omega) (by omega) (hl0.at _ _ rfl (by decide)) ).mono ?_
  rintro e w26 ⟨rfl, hb⟩
  replace s0 := s0.below hb
  replace g0 := g0.below hb
  replace h0 := h0.below hb
  replace acc := acc.trans (hb.mono acc.size)
  clear hb
  go_wp2_with fail
  refine (held_prt _ (r0.length) _ (1) r0 _ g0.ints rfl hl0 (by omega)).mono ?_
  rintro e w27 ⟨rfl, hb⟩
  replace s0 := s0.below hb
  replace g0 := g0.below hb
  replace h0 := h0.below hb
  replace acc := acc.trans (hb.mono acc.size)
  clear hb
  go_wp2
  go_ret
  exact ⟨rfl, acc⟩
end Go.Proofs.YtlpkafhapmkkfaaGreatDoor
