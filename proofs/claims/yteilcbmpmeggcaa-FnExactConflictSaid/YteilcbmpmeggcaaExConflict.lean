/- The walk of 'FnExactConflict'. -/
import Derived.Test.YteilcbmpmeggcaaLaw4
namespace Go.Proofs.Yteilcbmpmeggcaa
open Go.RowKit
set_option linter.unusedVariables false

set_option maxHeartbeats 1000000 in
set_option maxRecDepth 100000 in
theorem walk_FnExactConflict (W : World) (p0 : Pth) (wp0 : p0.wf) (p1 : Pth) (wp1 : p1.wf) :
    Calls Try.prog 8 #[p0.val, p1.val] W fun e w' => e = .returned (.bool true) ∧ Below W.heap.size W w' := by
  obtain ⟨r0, hr⟩ : ∃ r0, conf p0 p1 = r0 := ⟨_, rfl⟩
  have HR := Lib.hid hr
  clear hr
  obtain ⟨a, b, c, d⟩ := p0
  obtain ⟨a', b', c', d'⟩ := p1
  have ht1 := fun x => law_toPath ⟨a, b, c, d⟩ x
  have ht2 := fun x => law_toPath ⟨a', b', c', d'⟩ x
  have hs := fun x => sp_Conflict ⟨a, b, c, d⟩ ⟨a', b', c', d'⟩ x wp0 wp1 r0 HR.out
  have hi := fun x => im_Conflict ⟨a, b, c, d⟩ ⟨a', b', c', d'⟩ x wp0 wp1 r0 HR.out
  simp only [Pth.val] at *
  go_enter Try.func8, Try.ntmps8
  go_wp2
  have hz := Lib.hid (fun x : GW ((W.alloc (.cells #[.int .i64 a, .int .i64 b, .int .i64 c, .int .i64 d] 23)).alloc (.cells #[.int .i64 a', .int .i64 b', .int .i64 c', .int .i64 d'] 23)) => boxed_two (p := ⟨a, b, c, d⟩) (q := ⟨a', b', c', d'⟩) x.ok)
  have x0 := fun x => (pth_head (hz.out x).1).1
  have x1 := fun x => (pth_head (hz.out x).1).2.1
  have x2 := fun x => (pth_head (hz.out x).1).2.2.1
  have x3 := fun x => (pth_head (hz.out x).1).2.2.2
  have y0 := fun x => (pth_head (hz.out x).2.1).1
  have y1 := fun x => (pth_head (hz.out x).2.1).2.1
  have y2 := fun x => (pth_head (hz.out x).2.1).2.2.1
  have y3 := fun x => (pth_head (hz.out x).2.1).2.2.2
  simp only at x0 x1 x2 x3 y0 y1 y2 y3
  refine wp_region_grow (by kernel_rfl) (by kernel_rfl) ?_
  repeat (go_big_quiet_step (first
    | (go_at_call 10; (first | with_reducible exact calls_gw _ (ht1 _) | with_reducible exact calls_gw _ (ht2 _)))
    | (go_at_call 23; with_reducible exact calls_gw _ (hs _))))
  refine wpQuiet_nil ?_
  intro x5
  have HB := Lib.hid (hz.out x5).2.2.2
  have hz2 := Lib.hid (fun z : GW x5.val => boxed_two (p := ⟨a, b, c, d⟩) (q := ⟨a', b', c', d'⟩) (x5.ok.trans (z.ok.mono x5.ok.size)))
  clear hz x0 x1 x2 x3 y0 y1 y2 y3
  generalize x5.val = w3 at *
  have x0 := fun x => (pth_head (hz2.out x).1).1
  have x1 := fun x => (pth_head (hz2.out x).1).2.1
  have x2 := fun x => (pth_head (hz2.out x).1).2.2.1
  have x3 := fun x => (pth_head (hz2.out x).1).2.2.2
  have y0 := fun x => (pth_head (hz2.out x).2.1).1
  have y1 := fun x => (pth_head (hz2.out x).2.1).2.1
  have y2 := fun x => (pth_head (hz2.out x).2.1).2.2.1
  have y3 := fun x => (pth_head (hz2.out x).2.1).2.2.2
  simp only at x0 x1 x2 x3 y0 y1 y2 y3
  go_wp2
  refine wp_region_grow (by kernel_rfl) (by kernel_rfl) ?_
  repeat (go_big_quiet_step (first
    | (go_at_call 10; (first | with_reducible exact calls_gw _ (ht1 _) | with_reducible exact calls_gw _ (ht2 _)))
    | (go_at_call 24; with_reducible exact calls_gw _ (hi _))))
  refine wpQuiet_nil ?_
  intro x6
  have HB2 := Lib.hid (hz2.out x6).2.2.2
  clear hz2 x0 x1 x2 x3 y0 y1 y2 y3 ht1 ht2 hs hi
  generalize x6.val = w4 at *
  go_wp2
  go_ret
  exact ⟨rfl, HB2.out⟩
end Go.Proofs.Yteilcbmpmeggcaa
