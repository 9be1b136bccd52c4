/- The walk of 'FnExactCountIn'. -/
import Derived.Test.YtnlffefekpjbcaaLawTly1
namespace Go.Proofs.Ytnlffefekpjbcaa
open Go.RowKit
set_option linter.unusedVariables false

set_option maxHeartbeats 4000000 in
set_option maxRecDepth 100000 in
theorem walk_FnExactCountIn (W : World) (p0 : Tly) (wp0 : p0.wf) (a1 : Int) (wa1 : (Lit.int .i64 a1).wf = true) :
    Calls Try.prog 12 #[p0.val, .int .i64 a1] W fun e w' => e = .returned (.bool true) ∧ Below W.heap.size W w' := by
  obtain ⟨⟨r0a, r0b, r0c⟩, r1, hr⟩ : ∃ r0 r1, cntIn p0 a1 = (r0, r1) := ⟨_, _, rfl⟩
  have HR := Lib.hid hr
  clear hr
  have acc := Below.refl W.heap.size W
  obtain ⟨p0a, p0b, p0c⟩ := p0
  simp only [Tly.val] at *
  have hb : Below W.heap.size W (W.alloc (.cells #[.int .i64 p0a, .int .i64 p0b, .int .i64 p0c] 59)) := (Below.refl _ _).alloc (Nat.le_refl _) _
  have bx_p0 : TlyAt (W.alloc (.cells #[.int .i64 p0a, .int .i64 p0b, .int .i64 p0c] 59)) ⟨W.heap.size, 0, none⟩ ⟨p0a, p0b, p0c⟩ := tly_of_block (heap_alloc_new W _)
  have lt_p0 : W.heap.size < (W.alloc (.cells #[.int .i64 p0a, .int .i64 p0b, .int .i64 p0c] 59)).heap.size := by simp
  replace acc := acc.trans (hb.mono acc.size)
  clear hb
  go_enter Try.func12, Try.ntmps12
  go_wp2_with fail
  refine (law_toTally ⟨p0a, p0b, p0c⟩ _).mono ?_
  rintro e w1 ⟨rfl, hb⟩
  replace bx_p0 := bx_p0.below hb lt_p0
  replace lt_p0 := Nat.lt_of_lt_of_le lt_p0 hb.size
  obtain ⟨xp0a, xp0b, xp0c⟩ := tly_head bx_p0
  simp only at xp0a xp0b xp0c
  replace acc := acc.trans (hb.mono acc.size)
  clear hb
  go_wp2_with fail
  refine (sp_CountIn ⟨p0a, p0b, p0c⟩ a1 _ wp0 wa1 ⟨r0a, r0b, r0c⟩ r1 HR.out).mono ?_
  rintro e w2 ⟨rfl, hb⟩
  clear xp0a xp0b xp0c
  replace bx_p0 := bx_p0.below hb lt_p0
  replace lt_p0 := Nat.lt_of_lt_of_le lt_p0 hb.size
  obtain ⟨xp0a, xp0b, xp0c⟩ := tly_head bx_p0
  simp only at xp0a xp0b xp0c
  replace acc := acc.trans (hb.mono acc.size)
  clear hb
  simp only [Tly.val]
  have hb : Below w2.heap.size w2 (w2.alloc (.cells #[.int .i64 r0a, .int .i64 r0b, .int .i64 r0c] 61)) := (Below.refl _ _).alloc (Nat.le_refl _) _
  clear xp0a xp0b xp0c
  replace bx_p0 := bx_p0.below hb lt_p0
  replace lt_p0 := Nat.lt_of_lt_of_le lt_p0 hb.size
  obtain ⟨xp0a, xp0b, xp0c⟩ := tly_head bx_p0
  simp only at xp0a xp0b xp0c
  replace acc := acc.trans (hb.mono acc.size)
  clear hb
  have bx_s0 : TlyAt (w2.alloc (.cells #[.int .i64 r0a, .int .i64 r0b, .int .i64 r0c] 61)) ⟨w2.heap.size, 0, none⟩ ⟨r0a, r0b, r0c⟩ := tly_of_block (heap_alloc_new w2 _)
  have lt_s0 : w2.heap.size < (w2.alloc (.cells #[.int .i64 r0a, .int .i64 r0b, .int .i64 r0c] 61)).heap.size := by simp
  go_wp2_with fail
  refine (law_toTally ⟨p0a, p0b, p0c⟩ _).mono ?_
  rintro e w3 ⟨rfl, hb⟩
  clear xp0a xp0b xp0c
  replace bx_p0 := bx_p0.below hb lt_p0
  replace lt_p0 := Nat.lt_of_lt_of_le lt_p0 hb.size
  obtain ⟨xp0a, xp0b, xp0c⟩ := tly_head bx_p0
  simp only at xp0a xp0b xp0c
  replace bx_s0 := bx_s0.below hb lt_s0
  replace lt_s0 := Nat.lt_of_lt_of_le lt_s0 hb.size
  obtain ⟨xs0a, xs0b, xs0c⟩ := tly_head bx_s0
  simp only at xs0a xs0b xs0c
  replace acc := acc.trans (hb.mono acc.size)
  clear hb
  go_wp2_with fail
  refine (im_CountIn ⟨p0a, p0b, p0c⟩ a1 _ wp0 wa1 ⟨r0a, r0b, r0c⟩ r1 HR.out).mono ?_
  rintro e w4 ⟨rfl, hb⟩
  clear xp0a xp0b xp0c
  replace bx_p0 := bx_p0.below hb lt_p0
  replace lt_p0 := Nat.lt_of_lt_of_le lt_p0 hb.size
  obtain ⟨xp0a, xp0b, xp0c⟩ := tly_head bx_p0
  simp only at xp0a xp0b xp0c
  clear xs0a xs0b xs0c
  replace bx_s0 := bx_s0.below hb lt_s0
  replace lt_s0 := Nat.lt_of_lt_of_le lt_s0 hb.size
  obtain ⟨xs0a, xs0b, xs0c⟩ := tly_head bx_s0
  simp only at xs0a xs0b xs0c
  replace acc := acc.trans (hb.mono acc.size)
  clear hb
  simp only [Tly.val]
  have hb : Below w4.heap.size w4 (w4.alloc (.cells #[.int .i64 r0a, .int .i64 r0b, .int .i64 r0c] 61)) := (Below.refl _ _).alloc (Nat.le_refl _) _
  clear xp0a xp0b xp0c
  replace bx_p0 := bx_p0.below hb lt_p0
  replace lt_p0 := Nat.lt_of_lt_of_le lt_p0 hb.size
  obtain ⟨xp0a, xp0b, xp0c⟩ := tly_head bx_p0
  simp only at xp0a xp0b xp0c
  clear xs0a xs0b xs0c
  replace bx_s0 := bx_s0.below hb lt_s0
  replace lt_s0 := Nat.lt_of_lt_of_le lt_s0 hb.size
  obtain ⟨xs0a, xs0b, xs0c⟩ := tly_head bx_s0
  simp only at xs0a xs0b xs0c
  replace acc := acc.trans (hb.mono acc.size)
  clear hb
  have bx_g0 : TlyAt (w4.alloc (.cells #[.int .i64 r0a, .int .i64 r0b, .int .i64 r0c] 61)) ⟨w4.heap.size, 0, none⟩ ⟨r0a, r0b, r0c⟩ := tly_of_block (heap_alloc_new w4 _)
  have lt_g0 : w4.heap.size < (w4.alloc (.cells #[.int .i64 r0a, .int .i64 r0b, .int .i64 r0c] 61)).heap.size := by simp
  go_wp2_with fail
  refine (same_tly ⟨r0a, r0b, r0c⟩ _).mono ?_
  rintro e w5 ⟨rfl, hb⟩
  clear xp0a xp0b xp0c
  replace bx_p0 := bx_p0.below hb lt_p0
  replace lt_p0 := Nat.lt_of_lt_of_le lt_p0 hb.size
  obtain ⟨xp0a, xp0b, xp0c⟩ := tly_head bx_p0
  simp only at xp0a xp0b xp0c
  clear xs0a xs0b xs0c
  replace bx_s0 := bx_s0.below hb lt_s0
  replace lt_s0 := Nat.lt_of_lt_of_le lt_s0 hb.size
  obtain ⟨xs0a, xs0b, xs0c⟩ := tly_head bx_s0
  simp only at xs0a xs0b xs0c
  replace bx_g0 := bx_g0.below hb lt_g0
  replace lt_g0 := Nat.lt_of_lt_of_le lt_g0 hb.size
  obtain ⟨xg0a, xg0b, xg0c⟩ := tly_head bx_g0
  simp only at xg0a xg0b xg0c
  replace acc := acc.trans (hb.mono acc.size)
  clear hb
  go_wp2
  go_ret
  exact ⟨rfl, acc⟩
end Go.Proofs.Ytnlffefekpjbcaa
