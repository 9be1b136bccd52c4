/- Chapter 21: InWindow of the model: a region of 25 operations that draws its order, guarded; its callees make new memory alone. -/
import Derived.Test.YtdgpodopkfnpeabSmall
import Derived.Test.YtdgpodopkfnpeabGrow
namespace Go.Proofs.Ytdgpodopkfnpeab
open Go.RowKit
set_option linter.unusedVariables false

set_option maxHeartbeats 2000000 in
theorem spec_InWindow (x : Wdw) (c o s : Int) (w : World) : Calls Try.prog 13 #[x.val, .int .i64 c, .int .i64 o, .int .i64 s] w fun e w' => e = .returned (.bool (inWin x c o s)) ∧ Below w.heap.size w w' := by
  obtain ⟨wA, hwA⟩ : ∃ wA, wA = w.alloc (.cells #[.int .i64 x.frm, .int .i64 x.long] 25) := ⟨_, rfl⟩
  obtain ⟨hk, hsz, hB⟩ := one_block hwA
  have bx : WdwAt wA ⟨w.heap.size, 0, none⟩ x := wdw_of_block hk
  have lt0 : w.heap.size < wA.heap.size := by omega
  have y0 := fun y : GW wA => (wdw_head (bx.below y.ok lt0)).1
  have y1 := fun y : GW wA => (wdw_head (bx.below y.ok lt0)).2
  have hcc := fun y : GW wA => spec_IsWindow x c y.val
  have hl1 := fun y : GW wA => spec_l1In o (-1000000) 1000000 y.val
  have hl2 := fun y : GW wA => spec_l1In s (-1000000) 1000000 y.val
  have hfa := @isWin_facts x c
  have HR : Hid (inWin x c o s = (isWin x c && inB o (-1000000) 1000000 && inB s (-1000000) 1000000 && decide (modI (s - o - x.frm) c < x.long))) := Lib.hid rfl
  have HB := Lib.hid hB
  obtain ⟨a, b⟩ := x
  simp only [Wdw.val] at *
  clear hk hsz hB bx
  cases h0 : isWin ⟨a, b⟩ c
  · rw [h0] at hcc HR
    have HV : Hid (inWin ⟨a, b⟩ c o s = false) := Lib.hid (by rw [HR.out]; rfl)
    clear h0 hfa HR
    go_enter Try.func13, Try.ntmps13
    go_wp2
    rw [← hwA]
    clear hwA
    refine wp_region_grow (by kernel_rfl) (by kernel_rfl) ?_
    repeat (go_big_quiet_step (first | (go_at_call 59; exact calls_gw _ (hcc _))))
    refine wpQuiet_nil ?_
    intro x3
    have hb3 := x3.ok
    generalize x3.val = w3 at *
    go_wp2
    go_ret
    exact ⟨by rw [HV.out]; rfl, HB.out.trans (hb3.mono HB.out.size)⟩
  obtain ⟨⟨f1, f2⟩, ⟨f3, f4⟩, f5, f6⟩ := hfa h0
  rw [h0] at hcc HR
  clear h0 hfa
  cases h1 : inB o (-1000000) 1000000
  · have HV : Hid (inWin ⟨a, b⟩ c o s = false) := Lib.hid (by rw [HR.out, h1]; rfl)
    rw [h1] at hl1
    clear h1 HR hl2
    go_enter Try.func13, Try.ntmps13
    go_wp2
    rw [← hwA]
    clear hwA
    refine wp_region_grow (by kernel_rfl) (by kernel_rfl) ?_
    repeat (go_big_quiet_step (first | (go_at_call 59; exact calls_gw _ (hcc _)) | (go_at_call 60; exact calls_gw_same _ (hl1 _))))
    refine wpQuiet_nil ?_
    intro x3
    have hb3 := x3.ok
    generalize x3.val = w3 at *
    go_wp2
    go_ret
    exact ⟨by rw [HV.out]; rfl, HB.out.trans (hb3.mono HB.out.size)⟩
  cases h2 : inB s (-1000000) 1000000
  · have HV : Hid (inWin ⟨a, b⟩ c o s = false) := Lib.hid (by rw [HR.out, h1, h2]; rfl)
    rw [h1] at hl1
    rw [h2] at hl2
    clear h1 h2 HR
    go_enter Try.func13, Try.ntmps13
    go_wp2
    rw [← hwA]
    clear hwA
    refine wp_region_grow (by kernel_rfl) (by kernel_rfl) ?_
    repeat (go_big_quiet_step (first | (go_at_call 59; exact calls_gw _ (hcc _)) | (go_at_call 60; first | with_reducible exact calls_gw_same _ (hl1 _) | with_reducible exact calls_gw_same _ (hl2 _))))
    refine wpQuiet_nil ?_
    intro x3
    have hb3 := x3.ok
    generalize x3.val = w3 at *
    go_wp2
    go_ret
    exact ⟨by rw [HV.out]; rfl, HB.out.trans (hb3.mono HB.out.size)⟩
  · obtain ⟨g1, g2⟩ := inB_t h1
    obtain ⟨g3, g4⟩ := inB_t h2
    have HV : Hid (inWin ⟨a, b⟩ c o s = decide (modI (s - o - a) c < b)) := Lib.hid (by rw [HR.out, h1, h2]; rfl)
    rw [h1] at hl1
    rw [h2] at hl2
    have hw1 : IntKind.i64.wrap (s - o) = s - o := by rw [IntKind.wrap_i64]; omega
    have hw2 : IntKind.i64.wrap (s - o - a) = s - o - a := by rw [IntKind.wrap_i64]; omega
    have hm := fun y : GW wA => spec_Mod (s - o - a) c y.val
    clear h1 h2 HR
    go_enter Try.func13, Try.ntmps13
    go_wp2
    rw [← hwA]
    clear hwA
    refine wp_region_grow (by kernel_rfl) (by kernel_rfl) ?_
    repeat (go_big_quiet_step (first | (go_at_call 59; exact calls_gw _ (hcc _)) | (go_at_call 60; first | with_reducible exact calls_gw_same _ (hl1 _) | with_reducible exact calls_gw_same _ (hl2 _)) | (go_at_call 61; exact calls_gw_same _ (hm _))))
    refine wpQuiet_nil ?_
    intro x3
    have hb3 := x3.ok
    generalize x3.val = w3 at *
    go_wp2
    go_ret
    exact ⟨by rw [HV.out]; rfl, HB.out.trans (hb3.mono HB.out.size)⟩
end Go.Proofs.Ytdgpodopkfnpeab
