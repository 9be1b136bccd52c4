/- The walk of 'FnExactLinkState'. -/
import Derived.Test.YtnlffefekpjbcaaLawLnk1
namespace Go.Proofs.Ytnlffefekpjbcaa
open Go.RowKit
set_option linter.unusedVariables false

set_option maxHeartbeats 4000000 in
set_option maxRecDepth 100000 in
theorem walk_FnExactLinkState (W : World) (p0 : Lnk) (wp0 : p0.wf) (a1 : Int) (wa1 : (Lit.int .i64 a1).wf = true) :
    Calls Try.prog 5 #[p0.val, .int .i64 a1] W fun e w' => e = .returned (.bool true) ∧ Below W.heap.size W w' := by
  obtain ⟨r0, hr⟩ : ∃ r0, lkS p0 a1 = r0 := ⟨_, rfl⟩
  have HR := Lib.hid hr
  clear hr
  have acc := Below.refl W.heap.size W
  obtain ⟨p0a, p0b, p0c, p0d⟩ := p0
  simp only [Lnk.val] at *
  have hb : Below W.heap.size W (W.alloc (.cells #[.int .i64 p0a, .int .i64 p0b, .int .i64 p0c, .int .i64 p0d] 23)) := (Below.refl _ _).alloc (Nat.le_refl _) _
  have bx_p0 : LnkAt (W.alloc (.cells #[.int .i64 p0a, .int .i64 p0b, .int .i64 p0c, .int .i64 p0d] 23)) ⟨W.heap.size, 0, none⟩ ⟨p0a, p0b, p0c, p0d⟩ := lnk_of_block (heap_alloc_new W _)
  have lt_p0 : W.heap.size < (W.alloc (.cells #[.int .i64 p0a, .int .i64 p0b, .int .i64 p0c, .int .i64 p0d] 23)).heap.size := by simp
  replace acc := acc.trans (hb.mono acc.size)
  clear hb
  go_enter Try.func5, Try.ntmps5
  go_wp2_with fail
  refine (law_toLink ⟨p0a, p0b, p0c, p0d⟩ _).mono ?_
  rintro e w1 ⟨rfl, hb⟩
  replace bx_p0 := bx_p0.below hb lt_p0
  replace lt_p0 := Nat.lt_of_lt_of_le lt_p0 hb.size
  obtain ⟨xp0a, xp0b, xp0c, xp0d⟩ := lnk_head bx_p0
  simp only at xp0a xp0b xp0c xp0d
  replace acc := acc.trans (hb.mono acc.size)
  clear hb
  go_wp2_with fail
  refine (sp_LinkState ⟨p0a, p0b, p0c, p0d⟩ a1 _ wp0 wa1 r0 HR.out).mono ?_
  rintro e w2 ⟨rfl, hb⟩
  clear xp0a xp0b xp0c xp0d
  replace bx_p0 := bx_p0.below hb lt_p0
  replace lt_p0 := Nat.lt_of_lt_of_le lt_p0 hb.size
  obtain ⟨xp0a, xp0b, xp0c, xp0d⟩ := lnk_head bx_p0
  simp only at xp0a xp0b xp0c xp0d
  replace acc := acc.trans (hb.mono acc.size)
  clear hb
  go_wp2_with fail
  refine (law_toLink ⟨p0a, p0b, p0c, p0d⟩ _).mono ?_
  rintro e w3 ⟨rfl, hb⟩
  clear xp0a xp0b xp0c xp0d
  replace bx_p0 := bx_p0.below hb lt_p0
  replace lt_p0 := Nat.lt_of_lt_of_le lt_p0 hb.size
  obtain ⟨xp0a, xp0b, xp0c, xp0d⟩ := lnk_head bx_p0
  simp only at xp0a xp0b xp0c xp0d
  replace acc := acc.trans (hb.mono acc.size)
  clear hb
  go_wp2_with fail
  refine (im_LinkState ⟨p0a, p0b, p0c, p0d⟩ a1 _ wp0 wa1 r0 HR.out).mono ?_
  rintro e w4 ⟨rfl, hb⟩
  clear xp0a xp0b xp0c xp0d
  replace bx_p0 := bx_p0.below hb lt_p0
  replace lt_p0 := Nat.lt_of_lt_of_le lt_p0 hb.size
  obtain ⟨xp0a, xp0b, xp0c, xp0d⟩ := lnk_head bx_p0
  simp only at xp0a xp0b xp0c xp0d
  replace acc := acc.trans (hb.mono acc.size)
  clear hb
  go_wp2
  go_ret
  exact ⟨rfl, acc⟩
end Go.Proofs.Ytnlffefekpjbcaa
