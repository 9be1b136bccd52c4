/- The walk of 'FnExactInWindow'. -/
import Derived.Test.YtdgpodopkfnpeabLawInWin
namespace Go.Proofs.Ytdgpodopkfnpeab
open Go.RowKit
set_option linter.unusedVariables false

set_option maxHeartbeats 4000000 in
set_option maxRecDepth 100000 in
theorem walk_FnExactInWindow (W : World) (p0 : Wdw) (wp0 : p0.wf) (a1 : Int) (wa1 : (Lit.int .i64 a1).wf = true) (a2 : Int) (wa2 : (Lit.int .i64 a2).wf = true) (a3 : Int) (wa3 : (Lit.int .i64 a3).wf = true) :
    Calls Try.prog 3 #[p0.val, .int .i64 a1, .int .i64 a2, .int .i64 a3] W fun e w' => e = .returned (.bool true) ∧ Below W.heap.size W w' := by
  obtain ⟨r0, hr⟩ : ∃ r0, inWin p0 a1 a2 a3 = r0 := ⟨_, rfl⟩
  have HR := Lib.hid hr
  clear hr
  have acc := Below.refl W.heap.size W
  obtain ⟨p0a, p0b⟩ := p0
  simp only [Wdw.val] at *
  have hb : Below W.heap.size W (W.alloc (.cells #[.int .i64 p0a, .int .i64 p0b] 23)) := (Below.refl _ _).alloc (Nat.le_refl _) _
  have bx_p0 : WdwAt (W.alloc (.cells #[.int .i64 p0a, .int .i64 p0b] 23)) ⟨W.heap.size, 0, none⟩ ⟨p0a, p0b⟩ := wdw_of_block (heap_alloc_new W _)
  have lt_p0 : W.heap.size < (W.alloc (.cells #[.int .i64 p0a, .int .i64 p0b] 23)).heap.size := by simp
  replace acc := acc.trans (hb.mono acc.size)
  clear hb
  go_enter Try.func3, Try.ntmps3
  go_wp2_with fail
  refine (law_toWindow ⟨p0a, p0b⟩ _).mono ?_
  rintro e w1 ⟨rfl, hb⟩
  replace bx_p0 := bx_p0.below hb lt_p0
  replace lt_p0 := Nat.lt_of_lt_of_le lt_p0 hb.size
  obtain ⟨xp0a, xp0b⟩ := wdw_head bx_p0
  simp only at xp0a xp0b
  replace acc := acc.trans (hb.mono acc.size)
  clear hb
  go_wp2_with fail
  refine (sp_InWindow ⟨p0a, p0b⟩ a1 a2 a3 _ wp0 wa1 wa2 wa3 r0 HR.out).mono ?_
  rintro e w2 ⟨rfl, hb⟩
  clear xp0a xp0b
  replace bx_p0 := bx_p0.below hb lt_p0
  replace lt_p0 := Nat.lt_of_lt_of_le lt_p0 hb.size
  obtain ⟨xp0a, xp0b⟩ := wdw_head bx_p0
  simp only at xp0a xp0b
  replace acc := acc.trans (hb.mono acc.size)
  clear hb
  go_wp2_with fail
  refine (law_toWindow ⟨p0a, p0b⟩ _).mono ?_
  rintro e w3 ⟨rfl, hb⟩
  clear xp0a xp0b
  replace bx_p0 := bx_p0.below hb lt_p0
  replace lt_p0 := Nat.lt_of_lt_of_le lt_p0 hb.size
  obtain ⟨xp0a, xp0b⟩ := wdw_head bx_p0
  simp only at xp0a xp0b
  replace acc := acc.trans (hb.mono acc.size)
  clear hb
  go_wp2_with fail
  refine (im_InWindow ⟨p0a, p0b⟩ a1 a2 a3 _ wp0 wa1 wa2 wa3 r0 HR.out).mono ?_
  rintro e w4 ⟨rfl, hb⟩
  clear xp0a xp0b
  replace bx_p0 := bx_p0.below hb lt_p0
  replace lt_p0 := Nat.lt_of_lt_of_le lt_p0 hb.size
  obtain ⟨xp0a, xp0b⟩ := wdw_head bx_p0
  simp only at xp0a xp0b
  replace acc := acc.trans (hb.mono acc.size)
  clear hb
  go_wp2
  go_ret
  exact ⟨rfl, acc⟩
end Go.Proofs.Ytdgpodopkfnpeab
