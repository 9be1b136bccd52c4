/- The walk of 'FnExactClearOf'. -/
import Derived.Test.YtgdficjihkglpaaDoorLawClr2
namespace Go.Proofs.YtgdficjihkglpaaDoor
open Go.RowKit
set_option linter.unusedVariables false

set_option maxHeartbeats 4000000 in
set_option maxRecDepth 100000 in
theorem walk_FnExactClearOf (W : World) (p0 : Pth) (wp0 : p0.wf) (hv0 : Clrs W) :
    Calls Tryd.prog 3 #[p0.val] W fun e w' => e = .returned (.bool true) ∧ Below W.heap.size W w' := by
  obtain ⟨r0, hr⟩ : ∃ r0, clearN p0 = r0 := ⟨_, rfl⟩
  have HR := Lib.hid hr
  clear hr
  have HV0 := Lib.hid hv0
  clear hv0
  have acc := (Below.refl W.heap.size W).alloc (Nat.le_refl _) (.cells #[.int .i64 p0.id, .int .i64 p0.kind, .int .i64 p0.frm, .int .i64 p0.to] 23)
  have bx : PthAt (W.alloc (.cells #[.int .i64 p0.id, .int .i64 p0.kind, .int .i64 p0.frm, .int .i64 p0.to] 23)) ⟨W.heap.size, 0, none⟩ p0 := pth_of_block (heap_alloc_new W _)
  have ltb : W.heap.size < (W.alloc (.cells #[.int .i64 p0.id, .int .i64 p0.kind, .int .i64 p0.frm, .int .i64 p0.to] 23)).heap.size := by simp
  obtain ⟨pa, pb, pc, pd⟩ := p0
  simp only [Pth.val] at *
  go_enter Tryd.func3, Tryd.ntmps3
  go_wp2_with fail
  refine (law_toPath ⟨pa, pb, pc, pd⟩ _).mono ?_
  rintro e w1 ⟨rfl, hb⟩
  replace bx := bx.below hb ltb
  replace ltb := Nat.lt_of_lt_of_le ltb hb.size
  obtain ⟨x0, x1, x2, x3⟩ := pth_head bx
  simp only at x0 x1 x2 x3
  replace acc := acc.trans (hb.mono acc.size)
  clear hb
  go_wp2_with fail
  refine (sp_ClearOf ⟨pa, pb, pc, pd⟩ _ wp0 r0 HR.out).mono ?_
  rintro e w2 ⟨rfl, hb⟩
  clear x0 x1 x2 x3
  replace bx := bx.below hb ltb
  replace ltb := Nat.lt_of_lt_of_le ltb hb.size
  obtain ⟨x0, x1, x2, x3⟩ := pth_head bx
  simp only at x0 x1 x2 x3
  replace acc := acc.trans (hb.mono acc.size)
  clear hb
  go_wp2_with fail
  refine (law_toPath ⟨pa, pb, pc, pd⟩ _).mono ?_
  rintro e w3 ⟨rfl, hb⟩
  clear x0 x1 x2 x3
  replace bx := bx.below hb ltb
  replace ltb := Nat.lt_of_lt_of_le ltb hb.size
  obtain ⟨x0, x1, x2, x3⟩ := pth_head bx
  simp only at x0 x1 x2 x3
  replace acc := acc.trans (hb.mono acc.size)
  clear hb
  go_wp2_with fail
  refine (im_ClearOf ⟨pa, pb, pc, pd⟩ _ wp0 (HV0.out.below acc (Nat.le_refl _)) r0 HR.out).mono ?_
  rintro e w4 ⟨rfl, hb⟩
  clear x0 x1 x2 x3
  replace bx := bx.below hb ltb
  replace ltb := Nat.lt_of_lt_of_le ltb hb.size
  obtain ⟨x0, x1, x2, x3⟩ := pth_head bx
  simp only at x0 x1 x2 x3
  replace acc := acc.trans (hb.mono acc.size)
  clear hb
  go_wp2
  go_ret
  exact ⟨rfl, acc⟩
end Go.Proofs.YtgdficjihkglpaaDoor
