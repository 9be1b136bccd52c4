/- The walk of 'FnExactIsPrio'. -/
import Derived.Test.YtnlffefekpjbcabLawPriI
namespace Go.Proofs.Ytnlffefekpjbcab
open Go.RowKit
set_option linter.unusedVariables false

set_option maxHeartbeats 4000000 in
set_option maxRecDepth 100000 in
theorem walk_FnExactIsPrio (W : World) (A0 : Option Addr) (n0 c0 : Nat) (zs0 : List Pth) (ha0 : PthsAt W W.heap.size A0 n0 zs0 ∧ (∀ z ∈ zs0, z.wf) ∧ n0 ≤ c0 ∧ c0 ≤ maxLen) (p1 : Pri) (wp1 : p1.wf) :
    Calls Try.prog 12 #[.slice A0 n0 c0, p1.val] W fun e w' => e = .returned (.bool true) ∧ Below W.heap.size W w' := by
  have hm0 := Nat.le_trans ha0.2.2.1 ha0.2.2.2
  unfold maxLen at hm0
  obtain ⟨hi0, hw0, -, -⟩ := ha0
  obtain ⟨r0, hr⟩ : ∃ r0, isPri zs0 p1 = r0 := ⟨_, rfl⟩
  have HR := Lib.hid hr
  clear hr
  have acc := Below.refl W.heap.size W
  obtain ⟨p1a, p1b⟩ := p1
  simp only [Pri.val] at *
  have hb : Below W.heap.size W (W.alloc (.cells #[.int .i64 p1a, .int .i64 p1b] 68)) := (Below.refl _ _).alloc (Nat.le_refl _) _
  have bx_p1 : PriAt (W.alloc (.cells #[.int .i64 p1a, .int .i64 p1b] 68)) ⟨W.heap.size, 0, none⟩ ⟨p1a, p1b⟩ := pri_of_block (heap_alloc_new W _)
  have lt_p1 : W.heap.size < (W.alloc (.cells #[.int .i64 p1a, .int .i64 p1b] 68)).heap.size := by simp
  replace acc := acc.trans (hb.mono acc.size)
  clear hb
  obtain ⟨wB, hwB⟩ : ∃ wB, wB = (W.alloc (.cells #[.int .i64 p1a, .int .i64 p1b] 68)) := ⟨_, rfl⟩
  rw [← hwB] at acc bx_p1 lt_p1
  obtain ⟨xp1a, xp1b⟩ := pri_head bx_p1
  simp only at xp1a xp1b
  go_enter Try.func12, Try.ntmps12
  go_wp2_with fail
  rw [← hwB]
  clear hwB
  refine (sz_pth _ n0 _ 1048576 _ (by omega) (by omega)).mono ?_
  rintro e w' ⟨rfl, rfl⟩
  by_cases hz0 : (n0 : Int) ≤ 1048576
  rotate_left
  · rw [if_neg hz0]
    go_wp2
    go_ret
    exact ⟨rfl, acc⟩
  rw [if_pos hz0]
  have hb0 : n0 ≤ 1048576 := by omega
  go_wp2
  go_region_held3 (fun W' => W'.cell? ⟨W.heap.size, 0, none⟩ = some (.int .i64 p1a) ∧ W'.cell? ⟨W.heap.size, 1, none⟩ = some (.int .i64 p1b)) (first | exact ⟨xp1a, xp1b⟩ | fail "keep")
    (first
      | (go_at_call 53; refine (to_pth A0 n0 c0 W.heap.size zs0 _ (by exact hi0.keep fun _ hp => acc.cell hp) (by exact acc.size) (by omega)).mono ?_; rintro e w1 ⟨rfl, ho, hb⟩; (try simp only [heap_drew] at ho); (first | replace hb := below_undrew hb | skip); clear xp1a xp1b; replace bx_p1 := bx_p1.below hb lt_p1; replace lt_p1 := Nat.lt_of_lt_of_le lt_p1 hb.size; obtain ⟨xp1a, xp1b⟩ := pri_head bx_p1; simp only at xp1a xp1b; replace acc := acc.trans (hb.mono acc.size); clear hb; have t1 := OwP.new ho; clear ho)
      | (go_at_call 49; refine (law_toPrio ⟨_, _⟩ _).mono ?_; rintro e w1 ⟨rfl, hb⟩; (first | replace hb := below_undrew hb | skip); replace t1 := t1.below hb; clear xp1a xp1b; replace bx_p1 := bx_p1.below hb lt_p1; replace lt_p1 := Nat.lt_of_lt_of_le lt_p1 hb.size; obtain ⟨xp1a, xp1b⟩ := pri_head bx_p1; simp only at xp1a xp1b; replace acc := acc.trans (hb.mono acc.size); clear hb)
      | (go_at_call 52; refine (sp_IsPrio _ n0 _ zs0 ⟨_, _⟩ _ (t1.sl (by omega) hw0) hb0 wp1 r0 HR.out).mono ?_; rintro e w1 ⟨rfl, hb⟩; (first | replace hb := below_undrew hb | skip); replace t1 := t1.below hb; clear xp1a xp1b; replace bx_p1 := bx_p1.below hb lt_p1; replace lt_p1 := Nat.lt_of_lt_of_le lt_p1 hb.size; obtain ⟨xp1a, xp1b⟩ := pri_head bx_p1; simp only at xp1a xp1b; replace acc := acc.trans (hb.mono acc.size); clear hb))
  clear t1
  go_wp2_with fail
  refine (to_pth A0 n0 c0 W.heap.size zs0 _ (hi0.keep fun _ hp => acc.cell hp) acc.size (by omega)).mono ?_
  rintro e w1 ⟨rfl, ho, hb⟩
  have lo_t2 := by
    have e_lo := acc.size
    try simp only [heap_size_allocF] at e_lo
    exact Lib.hid e_lo
  try simp only [heap_size_allocF] at ho
  clear xp1a xp1b
  replace bx_p1 := bx_p1.below hb lt_p1
  replace lt_p1 := Nat.lt_of_lt_of_le lt_p1 hb.size
  obtain ⟨xp1a, xp1b⟩ := pri_head bx_p1
  simp only at xp1a xp1b
  replace acc := acc.trans (hb.mono acc.size)
  clear hb
  have t2 := OwP.new ho
  clear ho
  go_wp2_with fail
  refine (law_toPrio ⟨p1a, p1b⟩ _).mono ?_
  rintro e w2 ⟨rfl, hb⟩
  replace t2 := t2.below hb
  clear xp1a xp1b
  replace bx_p1 := bx_p1.below hb lt_p1
  replace lt_p1 := Nat.lt_of_lt_of_le lt_p1 hb.size
  obtain ⟨xp1a, xp1b⟩ := pri_head bx_p1
  simp only at xp1a xp1b
  replace acc := acc.trans (hb.mono acc.size)
  clear hb
  go_wp2_with fail
  refine (im_IsPrio _ n0 _ zs0 ⟨p1a, p1b⟩ _ (t2.sl (by omega) hw0) hb0 wp1 r0 HR.out).mono ?_
  rintro e w3 ⟨rfl, hb⟩
  replace t2 := t2.below hb
  clear xp1a xp1b
  replace bx_p1 := bx_p1.below hb lt_p1
  replace lt_p1 := Nat.lt_of_lt_of_le lt_p1 hb.size
  obtain ⟨xp1a, xp1b⟩ := pri_head bx_p1
  simp only at xp1a xp1b
  replace acc := acc.trans (hb.mono acc.size)
  clear hb
  go_wp2_with fail
  refine (to_pth A0 n0 c0 W.heap.size zs0 _ (hi0.keep fun _ hp => acc.cell hp) acc.size (by omega)).mono ?_
  rintro e w4 ⟨rfl, ho, hb⟩
  have lo_t3 := by
    have e_lo := acc.size
    try simp only [heap_size_allocF] at e_lo
    exact Lib.hid e_lo
  try simp only [heap_size_allocF] at ho
  have e_top := t2.top
  try simp only [heap_size_allocF] at e_top
  have d_t2_t3 := Lib.hid e_top
  clear e_top
  replace t2 := t2.below hb
  clear xp1a xp1b
  replace bx_p1 := bx_p1.below hb lt_p1
  replace lt_p1 := Nat.lt_of_lt_of_le lt_p1 hb.size
  obtain ⟨xp1a, xp1b⟩ := pri_head bx_p1
  simp only at xp1a xp1b
  replace acc := acc.trans (hb.mono acc.size)
  clear hb
  have t3 := OwP.new ho
  clear ho
  go_wp2_with fail
  refine (eqs_pth _ _ _ zs0 _ _ _ _ t2.ints t3.ints (by omega) (by omega)).mono ?_
  rintro e w5 ⟨rfl, hb⟩
  replace t2 := t2.below hb
  replace t3 := t3.below hb
  clear xp1a xp1b
  replace bx_p1 := bx_p1.below hb lt_p1
  replace lt_p1 := Nat.lt_of_lt_of_le lt_p1 hb.size
  obtain ⟨xp1a, xp1b⟩ := pri_head bx_p1
  simp only at xp1a xp1b
  replace acc := acc.trans (hb.mono acc.size)
  clear hb
  clear t3
  go_wp2
  go_ret
  exact ⟨rfl, acc⟩
end Go.Proofs.Ytnlffefekpjbcab
