/- The walk of 'FnExactPrioEnds'. -/
import Derived.Test.YtnlffefekpjbcabLawSmall
namespace Go.Proofs.Ytnlffefekpjbcab
open Go.RowKit
set_option linter.unusedVariables false

set_option maxHeartbeats 4000000 in
set_option maxRecDepth 100000 in
theorem walk_FnExactPrioEnds (W : World) (p0 : Pri) (wp0 : p0.wf) :
    Calls Try.prog 11 #[p0.val] W fun e w' => e = .returned (.bool true) ∧ Below W.heap.size W w' := by
  obtain ⟨r0, hr⟩ : ∃ r0, prioEnds p0 = r0 := ⟨_, rfl⟩
  have HR := Lib.hid hr
  clear hr
  have acc := Below.refl W.heap.size W
  obtain ⟨p0a, p0b⟩ := p0
  simp only [Pri.val] at *
  have hb : Below W.heap.size W (W.alloc (.cells #[.int .i64 p0a, .int .i64 p0b] 68)) := (Below.refl _ _).alloc (Nat.le_refl _) _
  have bx_p0 : PriAt (W.alloc (.cells #[.int .i64 p0a, .int .i64 p0b] 68)) ⟨W.heap.size, 0, none⟩ ⟨p0a, p0b⟩ := pri_of_block (heap_alloc_new W _)
  have lt_p0 : W.heap.size < (W.alloc (.cells #[.int .i64 p0a, .int .i64 p0b] 68)).heap.size := by simp
  replace acc := acc.trans (hb.mono acc.size)
  clear hb
  go_enter Try.func11, Try.ntmps11
  go_wp2_with fail
  refine (law_toPrio ⟨p0a, p0b⟩ _).mono ?_
  rintro e w1 ⟨rfl, hb⟩
  replace bx_p0 := bx_p0.below hb lt_p0
  replace lt_p0 := Nat.lt_of_lt_of_le lt_p0 hb.size
  obtain ⟨xp0a, xp0b⟩ := pri_head bx_p0
  simp only at xp0a xp0b
  replace acc := acc.trans (hb.mono acc.size)
  clear hb
  go_wp2_with fail
  refine (sp_PrioEnds ⟨p0a, p0b⟩ _ wp0 r0 HR.out).mono ?_
  rintro e w2 ⟨rfl, hb⟩
  clear xp0a xp0b
  replace bx_p0 := bx_p0.below hb lt_p0
  replace lt_p0 := Nat.lt_of_lt_of_le lt_p0 hb.size
  obtain ⟨xp0a, xp0b⟩ := pri_head bx_p0
  simp only at xp0a xp0b
  replace acc := acc.trans (hb.mono acc.size)
  clear hb
  go_wp2_with fail
  refine (law_toPrio ⟨p0a, p0b⟩ _).mono ?_
  rintro e w3 ⟨rfl, hb⟩
  clear xp0a xp0b
  replace bx_p0 := bx_p0.below hb lt_p0
  replace lt_p0 := Nat.lt_of_lt_of_le lt_p0 hb.size
  obtain ⟨xp0a, xp0b⟩ := pri_head bx_p0
  simp only at xp0a xp0b
  replace acc := acc.trans (hb.mono acc.size)
  clear hb
  go_wp2_with fail
  refine (im_PrioEnds ⟨p0a, p0b⟩ _ wp0 r0 HR.out).mono ?_
  rintro e w4 ⟨rfl, hb⟩
  clear xp0a xp0b
  replace bx_p0 := bx_p0.below hb lt_p0
  replace lt_p0 := Nat.lt_of_lt_of_le lt_p0 hb.size
  obtain ⟨xp0a, xp0b⟩ := pri_head bx_p0
  simp only at xp0a xp0b
  replace acc := acc.trans (hb.mono acc.size)
  clear hb
  go_wp2
  go_ret
  exact ⟨rfl, acc⟩
end Go.Proofs.Ytnlffefekpjbcab
