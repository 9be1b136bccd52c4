/- The walk of 'FnExactHearAll'. -/
import Derived.Test.YtnlffefekpjbcaaLawLnk2
namespace Go.Proofs.Ytnlffefekpjbcaa
open Go.RowKit
set_option linter.unusedVariables false

set_option maxHeartbeats 4000000 in
set_option maxRecDepth 100000 in
theorem walk_FnExactHearAll (W : World) (p0 : Lnk) (wp0 : p0.wf) (A1 : Option Addr) (n1 c1 : Nat) (zs1 : List Int) (ha1 : IntsAt .i64 W W.heap.size A1 n1 zs1 ∧ (∀ z ∈ zs1, (Lit.int .i64 z).wf = true) ∧ n1 ≤ c1 ∧ c1 ≤ maxLen) (a2 : Int) (wa2 : (Lit.int .i64 a2).wf = true) (a3 : Int) (wa3 : (Lit.int .i64 a3).wf = true) :
    Calls Try.prog 6 #[p0.val, .slice A1 n1 c1, .int .i64 a2, .int .i64 a3] W fun e w' => e = .returned (.bool true) ∧ Below W.heap.size W w' := by
  have hm1 := Nat.le_trans ha1.2.2.1 ha1.2.2.2
  unfold maxLen at hm1
  by_cases hb1 : n1 ≤ 1048576
  rotate_left
  · go_enter Try.func6, Try.ntmps6
    go_wp2
    go_ret
    exact ⟨rfl, by first | exact Below.refl _ _ | exact (Below.refl _ _).alloc (Nat.le_refl _) _⟩
  obtain ⟨hi1, hw1, -, -⟩ := ha1
  obtain ⟨⟨r0a, r0b, r0c, r0d⟩, hr⟩ : ∃ r0, hearAll p0 zs1 a2 a3 = r0 := ⟨_, rfl⟩
  have HR := Lib.hid hr
  clear hr
  have acc := Below.refl W.heap.size W
  obtain ⟨p0a, p0b, p0c, p0d⟩ := p0
  simp only [Lnk.val] at *
  have hb : Below W.heap.size W (W.alloc (.cells #[.int .i64 p0a, .int .i64 p0b, .int .i64 p0c, .int .i64 p0d] 23)) := (Below.refl _ _).alloc (Nat.le_refl _) _
  have bx_p0 : LnkAt (W.alloc (.cells #[.int .i64 p0a, .int .i64 p0b, .int .i64 p0c, .int .i64 p0d] 23)) ⟨W.heap.size, 0, none⟩ ⟨p0a, p0b, p0c, p0d⟩ := lnk_of_block (heap_alloc_new W _)
  have lt_p0 : W.heap.size < (W.alloc (.cells #[.int .i64 p0a, .int .i64 p0b, .int .i64 p0c, .int .i64 p0d] 23)).heap.size := by simp
  replace acc := acc.trans (hb.mono acc.size)
  clear hb
  go_enter Try.func6, Try.ntmps6
  go_wp2_with fail
  refine (law_toLink ⟨p0a, p0b, p0c, p0d⟩ _).mono ?_
  rintro e w1 ⟨rfl, hb⟩
  replace bx_p0 := bx_p0.below hb lt_p0
  replace lt_p0 := Nat.lt_of_lt_of_le lt_p0 hb.size
  obtain ⟨xp0a, xp0b, xp0c, xp0d⟩ := lnk_head bx_p0
  simp only at xp0a xp0b xp0c xp0d
  replace acc := acc.trans (hb.mono acc.size)
  clear hb
  go_wp2_with fail
  refine (to_i64 A1 n1 c1 W.heap.size zs1 _ (hi1.keep fun _ hp => acc.cell hp) acc.size (by omega)).mono ?_
  rintro e w2 ⟨rfl, ho, hb⟩
  have lo_t1 := by
    have e_lo := acc.size
    try simp only [heap_size_allocF] at e_lo
    exact Lib.hid e_lo
  try simp only [heap_size_allocF] at ho
  clear xp0a xp0b xp0c xp0d
  replace bx_p0 := bx_p0.below hb lt_p0
  replace lt_p0 := Nat.lt_of_lt_of_le lt_p0 hb.size
  obtain ⟨xp0a, xp0b, xp0c, xp0d⟩ := lnk_head bx_p0
  simp only at xp0a xp0b xp0c xp0d
  replace acc := acc.trans (hb.mono acc.size)
  clear hb
  have t1 := Ow.new ho
  clear ho
  go_wp2_with fail
  refine (sp_HearAll ⟨p0a, p0b, p0c, p0d⟩ _ n1 _ zs1 a2 a3 _ wp0 (t1.sl (by omega) hw1) hb1 wa2 wa3 ⟨r0a, r0b, r0c, r0d⟩ HR.out).mono ?_
  rintro e w3 ⟨rfl, hb⟩
  replace t1 := t1.below hb
  clear xp0a xp0b xp0c xp0d
  replace bx_p0 := bx_p0.below hb lt_p0
  replace lt_p0 := Nat.lt_of_lt_of_le lt_p0 hb.size
  obtain ⟨xp0a, xp0b, xp0c, xp0d⟩ := lnk_head bx_p0
  simp only at xp0a xp0b xp0c xp0d
  replace acc := acc.trans (hb.mono acc.size)
  clear hb
  simp only [Lnk.val]
  have hb : Below w3.heap.size w3 (w3.alloc (.cells #[.int .i64 r0a, .int .i64 r0b, .int .i64 r0c, .int .i64 r0d] 25)) := (Below.refl _ _).alloc (Nat.le_refl _) _
  replace t1 := t1.below hb
  clear xp0a xp0b xp0c xp0d
  replace bx_p0 := bx_p0.below hb lt_p0
  replace lt_p0 := Nat.lt_of_lt_of_le lt_p0 hb.size
  obtain ⟨xp0a, xp0b, xp0c, xp0d⟩ := lnk_head bx_p0
  simp only at xp0a xp0b xp0c xp0d
  replace acc := acc.trans (hb.mono acc.size)
  clear hb
  have bx_s0 : LnkAt (w3.alloc (.cells #[.int .i64 r0a, .int .i64 r0b, .int .i64 r0c, .int .i64 r0d] 25)) ⟨w3.heap.size, 0, none⟩ ⟨r0a, r0b, r0c, r0d⟩ := lnk_of_block (heap_alloc_new w3 _)
  have lt_s0 : w3.heap.size < (w3.alloc (.cells #[.int .i64 r0a, .int .i64 r0b, .int .i64 r0c, .int .i64 r0d] 25)).heap.size := by simp
  clear t1
  go_wp2_with fail
  refine (to_i64 A1 n1 c1 W.heap.size zs1 _ (hi1.keep fun _ hp => acc.cell hp) acc.size (by omega)).mono ?_
  rintro e w4 ⟨rfl, ho, hb⟩
  have lo_t2 := by
    have e_lo := acc.size
    try simp only [heap_size_allocF] at e_lo
    exact Lib.hid e_lo
  try simp only [heap_size_allocF] at ho
  clear xp0a xp0b xp0c xp0d
  replace bx_p0 := bx_p0.below hb lt_p0
  replace lt_p0 := Nat.lt_of_lt_of_le lt_p0 hb.size
  obtain ⟨xp0a, xp0b, xp0c, xp0d⟩ := lnk_head bx_p0
  simp only at xp0a xp0b xp0c xp0d
  replace bx_s0 := bx_s0.below hb lt_s0
  replace lt_s0 := Nat.lt_of_lt_of_le lt_s0 hb.size
  obtain ⟨xs0a, xs0b, xs0c, xs0d⟩ := lnk_head bx_s0
  simp only at xs0a xs0b xs0c xs0d
  replace acc := acc.trans (hb.mono acc.size)
  clear hb
  have t2 := Ow.new ho
  clear ho
  go_wp2_with fail
  refine (law_toLink ⟨p0a, p0b, p0c, p0d⟩ _).mono ?_
  rintro e w5 ⟨rfl, hb⟩
  replace t2 := t2.below hb
  clear xp0a xp0b xp0c xp0d
  replace bx_p0 := bx_p0.below hb lt_p0
  replace lt_p0 := Nat.lt_of_lt_of_le lt_p0 hb.size
  obtain ⟨xp0a, xp0b, xp0c, xp0d⟩ := lnk_head bx_p0
  simp only at xp0a xp0b xp0c xp0d
  clear xs0a xs0b xs0c xs0d
  replace bx_s0 := bx_s0.below hb lt_s0
  replace lt_s0 := Nat.lt_of_lt_of_le lt_s0 hb.size
  obtain ⟨xs0a, xs0b, xs0c, xs0d⟩ := lnk_head bx_s0
  simp only at xs0a xs0b xs0c xs0d
  replace acc := acc.trans (hb.mono acc.size)
  clear hb
  go_wp2_with fail
  refine (im_HearAll ⟨p0a, p0b, p0c, p0d⟩ _ n1 _ zs1 a2 a3 _ wp0 (t2.sl (by omega) hw1) hb1 wa2 wa3 ⟨r0a, r0b, r0c, r0d⟩ HR.out).mono ?_
  rintro e w6 ⟨rfl, hb⟩
  replace t2 := t2.below hb
  clear xp0a xp0b xp0c xp0d
  replace bx_p0 := bx_p0.below hb lt_p0
  replace lt_p0 := Nat.lt_of_lt_of_le lt_p0 hb.size
  obtain ⟨xp0a, xp0b, xp0c, xp0d⟩ := lnk_head bx_p0
  simp only at xp0a xp0b xp0c xp0d
  clear xs0a xs0b xs0c xs0d
  replace bx_s0 := bx_s0.below hb lt_s0
  replace lt_s0 := Nat.lt_of_lt_of_le lt_s0 hb.size
  obtain ⟨xs0a, xs0b, xs0c, xs0d⟩ := lnk_head bx_s0
  simp only at xs0a xs0b xs0c xs0d
  replace acc := acc.trans (hb.mono acc.size)
  clear hb
  simp only [Lnk.val]
  have hb : Below w6.heap.size w6 (w6.alloc (.cells #[.int .i64 r0a, .int .i64 r0b, .int .i64 r0c, .int .i64 r0d] 25)) := (Below.refl _ _).alloc (Nat.le_refl _) _
  replace t2 := t2.below hb
  clear xp0a xp0b xp0c xp0d
  replace bx_p0 := bx_p0.below hb lt_p0
  replace lt_p0 := Nat.lt_of_lt_of_le lt_p0 hb.size
  obtain ⟨xp0a, xp0b, xp0c, xp0d⟩ := lnk_head bx_p0
  simp only at xp0a xp0b xp0c xp0d
  clear xs0a xs0b xs0c xs0d
  replace bx_s0 := bx_s0.below hb lt_s0
  replace lt_s0 := Nat.lt_of_lt_of_le lt_s0 hb.size
  obtain ⟨xs0a, xs0b, xs0c, xs0d⟩ := lnk_head bx_s0
  simp only at xs0a xs0b xs0c xs0d
  replace acc := acc.trans (hb.mono acc.size)
  clear hb
  have bx_g0 : LnkAt (w6.alloc (.cells #[.int .i64 r0a, .int .i64 r0b, .int .i64 r0c, .int .i64 r0d] 25)) ⟨w6.heap.size, 0, none⟩ ⟨r0a, r0b, r0c, r0d⟩ := lnk_of_block (heap_alloc_new w6 _)
  have lt_g0 : w6.heap.size < (w6.alloc (.cells #[.int .i64 r0a, .int .i64 r0b, .int .i64 r0c, .int .i64 r0d] 25)).heap.size := by simp
  go_wp2_with fail
  refine (same_lnk ⟨r0a, r0b, r0c, r0d⟩ _).mono ?_
  rintro e w7 ⟨rfl, hb⟩
  replace t2 := t2.below hb
  clear xp0a xp0b xp0c xp0d
  replace bx_p0 := bx_p0.below hb lt_p0
  replace lt_p0 := Nat.lt_of_lt_of_le lt_p0 hb.size
  obtain ⟨xp0a, xp0b, xp0c, xp0d⟩ := lnk_head bx_p0
  simp only at xp0a xp0b xp0c xp0d
  clear xs0a xs0b xs0c xs0d
  replace bx_s0 := bx_s0.below hb lt_s0
  replace lt_s0 := Nat.lt_of_lt_of_le lt_s0 hb.size
  obtain ⟨xs0a, xs0b, xs0c, xs0d⟩ := lnk_head bx_s0
  simp only at xs0a xs0b xs0c xs0d
  replace bx_g0 := bx_g0.below hb lt_g0
  replace lt_g0 := Nat.lt_of_lt_of_le lt_g0 hb.size
  obtain ⟨xg0a, xg0b, xg0c, xg0d⟩ := lnk_head bx_g0
  simp only at xg0a xg0b xg0c xg0d
  replace acc := acc.trans (hb.mono acc.size)
  clear hb
  go_wp2_with fail
  refine (to_i64 A1 n1 c1 W.heap.size zs1 _ (hi1.keep fun _ hp => acc.cell hp) acc.size (by omega)).mono ?_
  rintro e w8 ⟨rfl, ho, hb⟩
  have lo_t3 := by
    have e_lo := acc.size
    try simp only [heap_size_allocF] at e_lo
    exact Lib.hid e_lo
  try simp only [heap_size_allocF] at ho
  have e_top := t2.top
  try simp only [heap_size_allocF] at e_top
  have d_t2_t3 := Lib.hid e_top
  clear e_top
  replace t2 := t2.below hb
  clear xp0a xp0b xp0c xp0d
  replace bx_p0 := bx_p0.below hb lt_p0
  replace lt_p0 := Nat.lt_of_lt_of_le lt_p0 hb.size
  obtain ⟨xp0a, xp0b, xp0c, xp0d⟩ := lnk_head bx_p0
  simp only at xp0a xp0b xp0c xp0d
  clear xs0a xs0b xs0c xs0d
  replace bx_s0 := bx_s0.below hb lt_s0
  replace lt_s0 := Nat.lt_of_lt_of_le lt_s0 hb.size
  obtain ⟨xs0a, xs0b, xs0c, xs0d⟩ := lnk_head bx_s0
  simp only at xs0a xs0b xs0c xs0d
  clear xg0a xg0b xg0c xg0d
  replace bx_g0 := bx_g0.below hb lt_g0
  replace lt_g0 := Nat.lt_of_lt_of_le lt_g0 hb.size
  obtain ⟨xg0a, xg0b, xg0c, xg0d⟩ := lnk_head bx_g0
  simp only at xg0a xg0b xg0c xg0d
  replace acc := acc.trans (hb.mono acc.size)
  clear hb
  have t3 := Ow.new ho
  clear ho
  go_wp2_with fail
  refine (eqs_i64 _ _ _ zs1 _ _ _ _ t2.ints t3.ints (by omega) (by omega)).mono ?_
  rintro e w9 ⟨rfl, hb⟩
  replace t2 := t2.below hb
  replace t3 := t3.below hb
  clear xp0a xp0b xp0c xp0d
  replace bx_p0 := bx_p0.below hb lt_p0
  replace lt_p0 := Nat.lt_of_lt_of_le lt_p0 hb.size
  obtain ⟨xp0a, xp0b, xp0c, xp0d⟩ := lnk_head bx_p0
  simp only at xp0a xp0b xp0c xp0d
  clear xs0a xs0b xs0c xs0d
  replace bx_s0 := bx_s0.below hb lt_s0
  replace lt_s0 := Nat.lt_of_lt_of_le lt_s0 hb.size
  obtain ⟨xs0a, xs0b, xs0c, xs0d⟩ := lnk_head bx_s0
  simp only at xs0a xs0b xs0c xs0d
  clear xg0a xg0b xg0c xg0d
  replace bx_g0 := bx_g0.below hb lt_g0
  replace lt_g0 := Nat.lt_of_lt_of_le lt_g0 hb.size
  obtain ⟨xg0a, xg0b, xg0c, xg0d⟩ := lnk_head bx_g0
  simp only at xg0a xg0b xg0c xg0d
  replace acc := acc.trans (hb.mono acc.size)
  clear hb
  clear t3
  go_wp2
  go_ret
  exact ⟨rfl, acc⟩
end Go.Proofs.Ytnlffefekpjbcaa
