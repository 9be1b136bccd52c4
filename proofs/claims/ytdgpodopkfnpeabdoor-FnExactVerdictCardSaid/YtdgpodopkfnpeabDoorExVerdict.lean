/- The walk of 'FnExactVerdict'. -/
import Derived.Test.YtdgpodopkfnpeabDoorLawVerd
namespace Go.Proofs.YtdgpodopkfnpeabDoor
open Go.RowKit
set_option linter.unusedVariables false

set_option maxHeartbeats 4000000 in
set_option maxRecDepth 100000 in
theorem walk_FnExactVerdict (W : World) (p0 : Rep) (wp0 : p0.wf) (p1 : Rep) (wp1 : p1.wf) (hv0 : Verds W) :
    Calls Tryd.prog 3 #[p0.val, p1.val] W fun e w' => e = .returned (.bool true) ∧ Below W.heap.size W w' := by
  obtain ⟨r0, hr⟩ : ∃ r0, verdB p0 p1 = r0 := ⟨_, rfl⟩
  have HR := Lib.hid hr
  clear hr
  have HV0 := Lib.hid hv0
  clear hv0
  obtain ⟨p0a, p0b, p0c, p0d, p0e⟩ := p0
  obtain ⟨p1a, p1b, p1c, p1d, p1e⟩ := p1
  simp only [Rep.val] at *
  obtain ⟨wB, hwB⟩ : ∃ wB, wB = (W.alloc (.cells #[.int .i64 p0a, .int .i64 p0b, .int .i64 p0c, .int .i64 p0d, .int .i64 p0e] 23)).alloc (.cells #[.int .i64 p1a, .int .i64 p1b, .int .i64 p1c, .int .i64 p1d, .int .i64 p1e] 23) := ⟨_, rfl⟩
  obtain ⟨hk0, hk1, hsz, acc⟩ := two_blocks hwB
  have bx0 : RepAt wB ⟨W.heap.size, 0, none⟩ ⟨p0a, p0b, p0c, p0d, p0e⟩ := rep_of_block hk0
  have lt0 : W.heap.size < wB.heap.size := by omega
  obtain ⟨x0a, x0b, x0c, x0d, x0e⟩ := rep_head bx0
  simp only at x0a x0b x0c x0d x0e
  have bx1 : RepAt wB ⟨W.heap.size + 1, 0, none⟩ ⟨p1a, p1b, p1c, p1d, p1e⟩ := rep_of_block hk1
  have lt1 : W.heap.size + 1 < wB.heap.size := by omega
  obtain ⟨x1a, x1b, x1c, x1d, x1e⟩ := rep_head bx1
  simp only at x1a x1b x1c x1d x1e
  clear hk0 hk1 hsz
  go_enter Tryd.func3, Tryd.ntmps3
  go_wp2
  rw [← hwB]
  clear hwB
  go_region_held3 (fun W' => W'.cell? ⟨W.heap.size, 0, none⟩ = some (.int .i64 p0a) ∧ W'.cell? ⟨W.heap.size, 1, none⟩ = some (.int .i64 p0b) ∧ W'.cell? ⟨W.heap.size, 2, none⟩ = some (.int .i64 p0c) ∧ W'.cell? ⟨W.heap.size, 3, none⟩ = some (.int .i64 p0d) ∧ W'.cell? ⟨W.heap.size, 4, none⟩ = some (.int .i64 p0e) ∧ W'.cell? ⟨W.heap.size + 1, 0, none⟩ = some (.int .i64 p1a) ∧ W'.cell? ⟨W.heap.size + 1, 1, none⟩ = some (.int .i64 p1b) ∧ W'.cell? ⟨W.heap.size + 1, 2, none⟩ = some (.int .i64 p1c) ∧ W'.cell? ⟨W.heap.size + 1, 3, none⟩ = some (.int .i64 p1d) ∧ W'.cell? ⟨W.heap.size + 1, 4, none⟩ = some (.int .i64 p1e)) (first | exact ⟨x0a, x0b, x0c, x0d, x0e, x1a, x1b, x1c, x1d, x1e⟩ | fail "keep")
    (first
      | (go_at_call 6; refine (law_toReport ⟨_, _, _, _, _⟩ _).mono ?_; rintro e w1 ⟨rfl, hb⟩; (first | replace hb := below_undrew hb | skip); clear x0a x0b x0c x0d x0e x1a x1b x1c x1d x1e; replace bx0 := bx0.below hb lt0; replace bx1 := bx1.below hb lt1; replace lt0 := Nat.lt_of_lt_of_le lt0 hb.size; replace lt1 := Nat.lt_of_lt_of_le lt1 hb.size; obtain ⟨x0a, x0b, x0c, x0d, x0e⟩ := rep_head bx0; simp only at x0a x0b x0c x0d x0e; obtain ⟨x1a, x1b, x1c, x1d, x1e⟩ := rep_head bx1; simp only at x1a x1b x1c x1d x1e; replace acc := acc.trans (hb.mono acc.size); clear hb)
      | (go_at_call 5; refine (sp_Verdict ⟨_, _, _, _, _⟩ ⟨_, _, _, _, _⟩ _ wp0 wp1 r0 HR.out).mono ?_; rintro e w1 ⟨rfl, hb⟩; (first | replace hb := below_undrew hb | skip); clear x0a x0b x0c x0d x0e x1a x1b x1c x1d x1e; replace bx0 := bx0.below hb lt0; replace bx1 := bx1.below hb lt1; replace lt0 := Nat.lt_of_lt_of_le lt0 hb.size; replace lt1 := Nat.lt_of_lt_of_le lt1 hb.size; obtain ⟨x0a, x0b, x0c, x0d, x0e⟩ := rep_head bx0; simp only at x0a x0b x0c x0d x0e; obtain ⟨x1a, x1b, x1c, x1d, x1e⟩ := rep_head bx1; simp only at x1a x1b x1c x1d x1e; replace acc := acc.trans (hb.mono acc.size); clear hb))
  go_wp2
  go_region_held3 (fun W' => W'.cell? ⟨W.heap.size, 0, none⟩ = some (.int .i64 p0a) ∧ W'.cell? ⟨W.heap.size, 1, none⟩ = some (.int .i64 p0b) ∧ W'.cell? ⟨W.heap.size, 2, none⟩ = some (.int .i64 p0c) ∧ W'.cell? ⟨W.heap.size, 3, none⟩ = some (.int .i64 p0d) ∧ W'.cell? ⟨W.heap.size, 4, none⟩ = some (.int .i64 p0e) ∧ W'.cell? ⟨W.heap.size + 1, 0, none⟩ = some (.int .i64 p1a) ∧ W'.cell? ⟨W.heap.size + 1, 1, none⟩ = some (.int .i64 p1b) ∧ W'.cell? ⟨W.heap.size + 1, 2, none⟩ = some (.int .i64 p1c) ∧ W'.cell? ⟨W.heap.size + 1, 3, none⟩ = some (.int .i64 p1d) ∧ W'.cell? ⟨W.heap.size + 1, 4, none⟩ = some (.int .i64 p1e)) (first | exact ⟨x0a, x0b, x0c, x0d, x0e, x1a, x1b, x1c, x1d, x1e⟩ | fail "keep")
    (first
      | (go_at_call 6; refine (law_toReport ⟨_, _, _, _, _⟩ _).mono ?_; rintro e w1 ⟨rfl, hb⟩; (first | replace hb := below_undrew hb | skip); clear x0a x0b x0c x0d x0e x1a x1b x1c x1d x1e; replace bx0 := bx0.below hb lt0; replace bx1 := bx1.below hb lt1; replace lt0 := Nat.lt_of_lt_of_le lt0 hb.size; replace lt1 := Nat.lt_of_lt_of_le lt1 hb.size; obtain ⟨x0a, x0b, x0c, x0d, x0e⟩ := rep_head bx0; simp only at x0a x0b x0c x0d x0e; obtain ⟨x1a, x1b, x1c, x1d, x1e⟩ := rep_head bx1; simp only at x1a x1b x1c x1d x1e; replace acc := acc.trans (hb.mono acc.size); clear hb)
      | (go_at_call 7; refine (im_Verdict ⟨_, _, _, _, _⟩ ⟨_, _, _, _, _⟩ _ wp0 wp1 (HV0.out.below acc (Nat.le_refl _)) r0 HR.out).mono ?_; rintro e w1 ⟨rfl, hb⟩; (first | replace hb := below_undrew hb | skip); clear x0a x0b x0c x0d x0e x1a x1b x1c x1d x1e; replace bx0 := bx0.below hb lt0; replace bx1 := bx1.below hb lt1; replace lt0 := Nat.lt_of_lt_of_le lt0 hb.size; replace lt1 := Nat.lt_of_lt_of_le lt1 hb.size; obtain ⟨x0a, x0b, x0c, x0d, x0e⟩ := rep_head bx0; simp only at x0a x0b x0c x0d x0e; obtain ⟨x1a, x1b, x1c, x1d, x1e⟩ := rep_head bx1; simp only at x1a x1b x1c x1d x1e; replace acc := acc.trans (hb.mono acc.size); clear hb))
  go_wp2
  go_ret
  exact ⟨rfl, acc⟩
end Go.Proofs.YtdgpodopkfnpeabDoor
