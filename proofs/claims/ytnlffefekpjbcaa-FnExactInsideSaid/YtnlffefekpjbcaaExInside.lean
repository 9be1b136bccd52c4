/- The walk of 'FnExactInside'. -/
import Derived.Test.YtnlffefekpjbcaaLawTly1
namespace Go.Proofs.Ytnlffefekpjbcaa
open Go.RowKit
set_option linter.unusedVariables false

set_option maxHeartbeats 4000000 in
set_option maxRecDepth 100000 in
theorem walk_FnExactInside (W : World) (p0 : Tly) (wp0 : p0.wf) :
    Calls Try.prog 11 #[p0.val] W fun e w' => e = .returned (.bool true) ∧ Below W.heap.size W w' := by
  obtain ⟨r0, hr⟩ : ∃ r0, insideT p0 = r0 := ⟨_, rfl⟩
  have HR := Lib.hid hr
  clear hr
  have acc := Below.refl W.heap.size W
  obtain ⟨p0a, p0b, p0c⟩ := p0
  simp only [Tly.val] at *
  have hb : Below W.heap.size W (W.alloc (.cells #[.int .i64 p0a, .int .i64 p0b, .int .i64 p0c] 59)) := (Below.refl _ _).alloc (Nat.le_refl _) _
  have bx_p0 : TlyAt (W.alloc (.cells #[.int .i64 p0a, .int .i64 p0b, .int .i64 p0c] 59)) ⟨W.heap.size, 0, none⟩ ⟨p0a, p0b, p0c⟩ := tly_of_block (heap_alloc_new W _)
  have lt_p0 : W.heap.size < (W.alloc (.cells #[.int .i64 p0a, .int .i64 p0b, .int .i64 p0c] 59)).heap.size := by simp
  replace acc := acc.trans (hb.mono acc.size)
  clear hb
  go_enter Try.func11, Try.ntmps11
  go_wp2_with fail
  refine (law_toTally ⟨p0a, p0b, p0c⟩ _).mono ?_
  rintro e w1 ⟨rfl, hb⟩
  replace bx_p0 := bx_p0.below hb lt_p0
  replace lt_p0 := Nat.lt_of_lt_of_le lt_p0 hb.size
  obtain ⟨xp0a, xp0b, xp0c⟩ := tly_head bx_p0
  simp only at xp0a xp0b xp0c
  replace acc := acc.trans (hb.mono acc.size)
  clear hb
  go_wp2_with fail
  refine (sp_Inside ⟨p0a, p0b, p0c⟩ _ wp0 r0 HR.out).mono ?_
  rintro e w2 ⟨rfl, hb⟩
  clear xp0a xp0b xp0c
  replace bx_p0 := bx_p0.below hb lt_p0
  replace lt_p0 := Nat.lt_of_lt_of_le lt_p0 hb.size
  obtain ⟨xp0a, xp0b, xp0c⟩ := tly_head bx_p0
  simp only at xp0a xp0b xp0c
  replace acc := acc.trans (hb.mono acc.size)
  clear hb
  go_wp2_with fail
  refine (law_toTally ⟨p0a, p0b, p0c⟩ _).mono ?_
  rintro e w3 ⟨rfl, hb⟩
  clear xp0a xp0b xp0c
  replace bx_p0 := bx_p0.below hb lt_p0
  replace lt_p0 := Nat.lt_of_lt_of_le lt_p0 hb.size
  obtain ⟨xp0a, xp0b, xp0c⟩ := tly_head bx_p0
  simp only at xp0a xp0b xp0c
  replace acc := acc.trans (hb.mono acc.size)
  clear hb
  go_wp2_with fail
  refine (im_Inside ⟨p0a, p0b, p0c⟩ _ wp0 r0 HR.out).mono ?_
  rintro e w4 ⟨rfl, hb⟩
  clear xp0a xp0b xp0c
  replace bx_p0 := bx_p0.below hb lt_p0
  replace lt_p0 := Nat.lt_of_lt_of_le lt_p0 hb.size
  obtain ⟨xp0a, xp0b, xp0c⟩ := tly_head bx_p0
  simp only at xp0a xp0b xp0c
  replace acc := acc.trans (hb.mono acc.size)
  clear hb
  go_wp2
  go_ret
  exact ⟨rfl, acc⟩
end Go.Proofs.Ytnlffefekpjbcaa
