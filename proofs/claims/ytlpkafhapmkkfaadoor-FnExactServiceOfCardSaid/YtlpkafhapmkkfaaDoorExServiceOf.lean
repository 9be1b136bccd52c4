/- The walk of 'FnExactServiceOf'. -/
import Derived.Test.YtlpkafhapmkkfaaDoorBndlD
namespace Go.Proofs.YtlpkafhapmkkfaaDoor
open Go.RowKit
set_option linter.unusedVariables false

set_option maxHeartbeats 4000000 in
set_option maxRecDepth 100000 in
theorem walk_FnExactServiceOf (W : World) (A0 : Option Addr) (n0 c0 : Nat) (zs0 : List Pth) (ha0 : PthsAt W W.heap.size A0 n0 zs0 ∧ (∀ z ∈ zs0, z.wf) ∧ n0 ≤ c0 ∧ c0 ≤ maxLen) (A1 : Option Addr) (n1 c1 : Nat) (zs1 : List Prt) (ha1 : PrtsAt W W.heap.size A1 n1 zs1 ∧ (∀ z ∈ zs1, z.wf) ∧ n1 ≤ c1 ∧ c1 ≤ maxLen) (a2 : Int) (wa2 : (Lit.int .i64 a2).wf = true) (hv0 : Brus W) (hv1 : Clrs W) :
    Calls Tryd.prog 3 #[.slice A0 n0 c0, .slice A1 n1 c1, .int .i64 a2] W fun e w' => e = .returned (.bool true) ∧ Below W.heap.size W w' := by
  have hm0 := Nat.le_trans ha0.2.2.1 ha0.2.2.2
  have hm1 := Nat.le_trans ha1.2.2.1 ha1.2.2.2
  unfold maxLen at hm0 hm1
  obtain ⟨hi0, hw0, -, -⟩ := ha0
  obtain ⟨hi1, hw1, -, -⟩ := ha1
  obtain ⟨⟨r0a, r0b, r0c, r0d⟩, r1, hr⟩ : ∃ r0 r1, serviceP zs0 zs1 a2 = (r0, r1) := ⟨_, _, rfl⟩
  have HR := Lib.hid hr
  clear hr
  have HV0 := Lib.hid hv0
  clear hv0
  have HV1 := Lib.hid hv1
  clear hv1
  have acc := Below.refl W.heap.size W
  go_enter Tryd.func3, Tryd.ntmps3
  go_wp2_with fail
  refine (sz_pth _ n0 _ 1048576 _ (by omega) (by omega)).mono ?_
  rintro e w' ⟨rfl, rfl⟩
  by_cases hz0 : (n0 : Int) ≤ 1048576
  rotate_left
  · rw [if_neg hz0]
    go_wp2
    go_ret
    exact ⟨rfl, acc⟩
  rw [if_pos hz0]
  have hb0 : n0 ≤ 1048576 := by omega
  have hg1 : ∀ j, j < n1 → (prAt zs1 j).stage.length ≤ 9223372036854775807 := fun j hj => by
    have hl := hi1.1
    have hz := (hw1 _ (prAt_mem (k := j) (by omega))).1
    unfold maxLen at hz
    omega
  go_wp2_with fail
  refine (sz_prt A1 n1 c1 W.heap.size zs1 (1048576 - (n0 : Int)) _ (hi1.keep acc) acc.size (by omega) hg1 ⟨by omega, by omega⟩).mono ?_
  rintro e wz1 ⟨⟨q1, rfl, hq1⟩, hb⟩
  replace acc := acc.trans (hb.mono acc.size)
  clear hb
  clear hg1
  rcases hq1 with hq1 | ⟨hqa1, hqb1, hqc1, hqd1⟩
  · go_wp2
    go_ret
    exact ⟨rfl, acc⟩
  have hb1 : n1 ≤ 1048576 := by omega
  have hsm1 : SmallP zs1 := ⟨by have := hi1.1; omega, fun j hj => by have := hqd1 j (by have := hi1.1; omega); omega⟩
  have hlz1 := hi1.1.symm
  have HLZ1 := Lib.hid hlz1
  clear hqd1 hlz1
  have htp1 := totP_top hsm1 (k := n1) (by have := HLZ1.out; omega)
  go_wp2_with fail
  refine (to_pth A0 n0 c0 W.heap.size zs0 _ (hi0.keep fun _ hp => acc.cell hp) acc.size (by omega)).mono ?_
  rintro e w1 ⟨rfl, ho, hb⟩
  have lo_t1 := by
    have e_lo := acc.size
    try simp only [heap_size_allocF] at e_lo
    exact Lib.hid e_lo
  try simp only [heap_size_allocF] at ho
  replace acc := acc.trans (hb.mono acc.size)
  clear hb
  have t1 := OwP.new ho
  clear ho
  go_wp2_with fail
  refine (to_prt A1 n1 c1 W.heap.size zs1 _ (hi1.keep acc) acc.size (by omega) (hsm1.at n1 _ HLZ1.out (by decide))).mono ?_
  rintro e w2 ⟨rfl, ⟨us_t2, ho⟩, hb⟩
  have lo_t2 := by
    have e_lo := acc.size
    try simp only [heap_size_allocF] at e_lo
    exact Lib.hid e_lo
  try simp only [heap_size_allocF] at ho
  have e_top := t1.top
  try simp only [heap_size_allocF] at e_top
  have d_t1_t2 := Lib.hid e_top
  clear e_top
  replace t1 := t1.below hb
  replace acc := acc.trans (hb.mono acc.size)
  clear hb
  have ap_t2 := Lib.hid ho.apart
  have t2 := OwQ.new ho.pe
  clear ho
  go_wp2_with fail
  refine (sp_ServiceOf _ n0 _ zs0 _ n1 _ zs1 a2 _ (t1.sl (by omega) hw0) hb0 (t2.sl hw1) hsm1 wa2 ⟨r0a, r0b, r0c, r0d⟩ r1 HR.out).mono ?_
  rintro e w3 ⟨rfl, hb⟩
  replace t1 := t1.below hb
  replace t2 := t2.below hb
  replace acc := acc.trans (hb.mono acc.size)
  clear hb
  simp only [Svc.val]
  have hb : Below w3.heap.size w3 (w3.alloc (.cells #[.int .i64 r0a, .int .i64 r0b, .int .i64 r0c, .int .i64 r0d] 27)) := (Below.refl _ _).alloc (Nat.le_refl _) _
  replace t1 := t1.below hb
  replace t2 := t2.below hb
  replace acc := acc.trans (hb.mono acc.size)
  clear hb
  have bx_s0 : SvcAt (w3.alloc (.cells #[.int .i64 r0a, .int .i64 r0b, .int .i64 r0c, .int .i64 r0d] 27)) ⟨w3.heap.size, 0, none⟩ ⟨r0a, r0b, r0c, r0d⟩ := svc_of_block (heap_alloc_new w3 _)
  have lt_s0 : w3.heap.size < (w3.alloc (.cells #[.int .i64 r0a, .int .i64 r0b, .int .i64 r0c, .int .i64 r0d] 27)).heap.size := by simp
  clear t1
  clear t2
  go_wp2_with fail
  refine (to_pth A0 n0 c0 W.heap.size zs0 _ (hi0.keep fun _ hp => acc.cell hp) acc.size (by omega)).mono ?_
  rintro e w4 ⟨rfl, ho, hb⟩
  have lo_t3 := by
    have e_lo := acc.size
    try simp only [heap_size_allocF] at e_lo
    exact Lib.hid e_lo
  try simp only [heap_size_allocF] at ho
  replace bx_s0 := bx_s0.below hb lt_s0
  replace lt_s0 := Nat.lt_of_lt_of_le lt_s0 hb.size
  obtain ⟨xs0a, xs0b, xs0c, xs0d⟩ := svc_head bx_s0
  simp only at xs0a xs0b xs0c xs0d
  replace acc := acc.trans (hb.mono acc.size)
  clear hb
  have t3 := OwP.new ho
  clear ho
  go_wp2_with fail
  refine (to_prt A1 n1 c1 W.heap.size zs1 _ (hi1.keep acc) acc.size (by omega) (hsm1.at n1 _ HLZ1.out (by decide))).mono ?_
  rintro e w5 ⟨rfl, ⟨us_t4, ho⟩, hb⟩
  have lo_t4 := by
    have e_lo := acc.size
    try simp only [heap_size_allocF] at e_lo
    exact Lib.hid e_lo
  try simp only [heap_size_allocF] at ho
  have e_top := t3.top
  try simp only [heap_size_allocF] at e_top
  have d_t3_t4 := Lib.hid e_top
  clear e_top
  replace t3 := t3.below hb
  clear xs0a xs0b xs0c xs0d
  replace bx_s0 := bx_s0.below hb lt_s0
  replace lt_s0 := Nat.lt_of_lt_of_le lt_s0 hb.size
  obtain ⟨xs0a, xs0b, xs0c, xs0d⟩ := svc_head bx_s0
  simp only at xs0a xs0b xs0c xs0d
  replace acc := acc.trans (hb.mono acc.size)
  clear hb
  have ap_t4 := Lib.hid ho.apart
  have t4 := OwQ.new ho.pe
  clear ho
  go_wp2_with fail
  refine (im_ServiceOf _ n0 _ zs0 _ n1 _ zs1 a2 _ (t3.sl (by omega) hw0) hb0 (t4.sl hw1) hsm1 wa2 (HV0.out.below acc (Nat.le_refl _)) (HV1.out.below acc (Nat.le_refl _)) ⟨r0a, r0b, r0c, r0d⟩ r1 HR.out).mono ?_
  rintro e w6 ⟨rfl, hb⟩
  replace t3 := t3.below hb
  replace t4 := t4.below hb
  clear xs0a xs0b xs0c xs0d
  replace bx_s0 := bx_s0.below hb lt_s0
  replace lt_s0 := Nat.lt_of_lt_of_le lt_s0 hb.size
  obtain ⟨xs0a, xs0b, xs0c, xs0d⟩ := svc_head bx_s0
  simp only at xs0a xs0b xs0c xs0d
  replace acc := acc.trans (hb.mono acc.size)
  clear hb
  simp only [Svc.val]
  have hb : Below w6.heap.size w6 (w6.alloc (.cells #[.int .i64 r0a, .int .i64 r0b, .int .i64 r0c, .int .i64 r0d] 27)) := (Below.refl _ _).alloc (Nat.le_refl _) _
  replace t3 := t3.below hb
  replace t4 := t4.below hb
  clear xs0a xs0b xs0c xs0d
  replace bx_s0 := bx_s0.below hb lt_s0
  replace lt_s0 := Nat.lt_of_lt_of_le lt_s0 hb.size
  obtain ⟨xs0a, xs0b, xs0c, xs0d⟩ := svc_head bx_s0
  simp only at xs0a xs0b xs0c xs0d
  replace acc := acc.trans (hb.mono acc.size)
  clear hb
  have bx_g0 : SvcAt (w6.alloc (.cells #[.int .i64 r0a, .int .i64 r0b, .int .i64 r0c, .int .i64 r0d] 27)) ⟨w6.heap.size, 0, none⟩ ⟨r0a, r0b, r0c, r0d⟩ := svc_of_block (heap_alloc_new w6 _)
  have lt_g0 : w6.heap.size < (w6.alloc (.cells #[.int .i64 r0a, .int .i64 r0b, .int .i64 r0c, .int .i64 r0d] 27)).heap.size := by simp
  go_wp2_with fail
  refine (same_svc ⟨r0a, r0b, r0c, r0d⟩ _).mono ?_
  rintro e w7 ⟨rfl, hb⟩
  replace t3 := t3.below hb
  replace t4 := t4.below hb
  clear xs0a xs0b xs0c xs0d
  replace bx_s0 := bx_s0.below hb lt_s0
  replace lt_s0 := Nat.lt_of_lt_of_le lt_s0 hb.size
  obtain ⟨xs0a, xs0b, xs0c, xs0d⟩ := svc_head bx_s0
  simp only at xs0a xs0b xs0c xs0d
  replace bx_g0 := bx_g0.below hb lt_g0
  replace lt_g0 := Nat.lt_of_lt_of_le lt_g0 hb.size
  obtain ⟨xg0a, xg0b, xg0c, xg0d⟩ := svc_head bx_g0
  simp only at xg0a xg0b xg0c xg0d
  replace acc := acc.trans (hb.mono acc.size)
  clear hb
  go_wp2_with fail
  refine (to_pth A0 n0 c0 W.heap.size zs0 _ (hi0.keep fun _ hp => acc.cell hp) acc.size (by omega)).mono ?_
  rintro e w8 ⟨rfl, ho, hb⟩
  have lo_t5 := by
    have e_lo := acc.size
    try simp only [heap_size_allocF] at e_lo
    exact Lib.hid e_lo
  try simp only [heap_size_allocF] at ho
  have e_top := t3.top
  try simp only [heap_size_allocF] at e_top
  have d_t3_t5 := Lib.hid e_top
  clear e_top
  have e_top := t4.top
  try simp only [heap_size_allocF] at e_top
  have d_t4_t5 := Lib.hid e_top
  clear e_top
  replace t3 := t3.below hb
  replace t4 := t4.below hb
  clear xs0a xs0b xs0c xs0d
  replace bx_s0 := bx_s0.below hb lt_s0
  replace lt_s0 := Nat.lt_of_lt_of_le lt_s0 hb.size
  obtain ⟨xs0a, xs0b, xs0c, xs0d⟩ := svc_head bx_s0
  simp only at xs0a xs0b xs0c xs0d
  clear xg0a xg0b xg0c xg0d
  replace bx_g0 := bx_g0.below hb lt_g0
  replace lt_g0 := Nat.lt_of_lt_of_le lt_g0 hb.size
  obtain ⟨xg0a, xg0b, xg0c, xg0d⟩ := svc_head bx_g0
  simp only at xg0a xg0b xg0c xg0d
  replace acc := acc.trans (hb.mono acc.size)
  clear hb
  have t5 := OwP.new ho
  clear ho
  go_wp2_with fail
  refine (eqs_pth _ _ _ zs0 _ _ _ _ t3.ints t5.ints (by omega) (by omega)).mono ?_
  rintro e w9 ⟨rfl, hb⟩
  replace t3 := t3.below hb
  replace t4 := t4.below hb
  replace t5 := t5.below hb
  clear xs0a xs0b xs0c xs0d
  replace bx_s0 := bx_s0.below hb lt_s0
  replace lt_s0 := Nat.lt_of_lt_of_le lt_s0 hb.size
  obtain ⟨xs0a, xs0b, xs0c, xs0d⟩ := svc_head bx_s0
  simp only at xs0a xs0b xs0c xs0d
  clear xg0a xg0b xg0c xg0d
  replace bx_g0 := bx_g0.below hb lt_g0
  replace lt_g0 := Nat.lt_of_lt_of_le lt_g0 hb.size
  obtain ⟨xg0a, xg0b, xg0c, xg0d⟩ := svc_head bx_g0
  simp only at xg0a xg0b xg0c xg0d
  replace acc := acc.trans (hb.mono acc.size)
  clear hb
  clear t5
  go_wp2_with fail
  refine (to_prt A1 n1 c1 W.heap.size zs1 _ (hi1.keep acc) acc.size (by omega) (hsm1.at n1 _ HLZ1.out (by decide))).mono ?_
  rintro e w10 ⟨rfl, ⟨us_t6, ho⟩, hb⟩
  have lo_t6 := by
    have e_lo := acc.size
    try simp only [heap_size_allocF] at e_lo
    exact Lib.hid e_lo
  try simp only [heap_size_allocF] at ho
  have e_top := t3.top
  try simp only [heap_size_allocF] at e_top
  have d_t3_t6 := Lib.hid e_top
  clear e_top
  have e_top := t4.top
  try simp only [heap_size_allocF] at e_top
  have d_t4_t6 := Lib.hid e_top
  clear e_top
  replace t3 := t3.below hb
  replace t4 := t4.below hb
  clear xs0a xs0b xs0c xs0d
  replace bx_s0 := bx_s0.below hb lt_s0
  replace lt_s0 := Nat.lt_of_lt_of_le lt_s0 hb.size
  obtain ⟨xs0a, xs0b, xs0c, xs0d⟩ := svc_head bx_s0
  simp only at xs0a xs0b xs0c xs0d
  clear xg0a xg0b xg0c xg0d
  replace bx_g0 := bx_g0.below hb lt_g0
  replace lt_g0 := Nat.lt_of_lt_of_le lt_g0 hb.size
  obtain ⟨xg0a, xg0b, xg0c, xg0d⟩ := svc_head bx_g0
  simp only at xg0a xg0b xg0c xg0d
  replace acc := acc.trans (hb.mono acc.size)
  clear hb
  have ap_t6 := Lib.hid ho.apart
  have t6 := OwQ.new ho.pe
  clear ho
  go_wp2_with fail
  refine (eqs_prt _ _ _ zs1 _ _ _ _ t4.ints t6.ints (by omega) (by omega) (hsm1.at _ _ HLZ1.out (by decide)) ).mono ?_
  rintro e w11 ⟨rfl, hb⟩
  replace t3 := t3.below hb
  replace t4 := t4.below hb
  replace t6 := t6.below hb
  clear xs0a xs0b xs0c xs0d
  replace bx_s0 := bx_s0.below hb lt_s0
  replace lt_s0 := Nat.lt_of_lt_of_le lt_s0 hb.size
  obtain ⟨xs0a, xs0b, xs0c, xs0d⟩ := svc_head bx_s0
  simp only at xs0a xs0b xs0c xs0d
  clear xg0a xg0b xg0c xg0d
  replace bx_g0 := bx_g0.below hb lt_g0
  replace lt_g0 := Nat.lt_of_lt_of_le lt_g0 hb.size
  obtain ⟨xg0a, xg0b, xg0c, xg0d⟩ := svc_head bx_g0
  simp only at xg0a xg0b xg0c xg0d
  replace acc := acc.trans (hb.mono acc.size)
  clear hb
  clear t6
  go_wp2
  go_ret
  exact ⟨rfl, acc⟩
end Go.Proofs.YtlpkafhapmkkfaaDoor
