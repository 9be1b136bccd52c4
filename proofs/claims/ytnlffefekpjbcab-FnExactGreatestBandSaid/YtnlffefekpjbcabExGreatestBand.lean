/- The walk of 'FnExactGreatestBand'. -/
import Derived.Test.YtnlffefekpjbcabLawSmall
namespace Go.Proofs.Ytnlffefekpjbcab
open Go.RowKit
set_option linter.unusedVariables false

set_option maxHeartbeats 4000000 in
set_option maxRecDepth 100000 in
theorem walk_FnExactGreatestBand (W : World) (p0 : Wdw) (wp0 : p0.wf) (p1 : Wdw) (wp1 : p1.wf) (a2 : Int) (wa2 : (Lit.int .i64 a2).wf = true) :
    Calls Try.prog 8 #[p0.val, p1.val, .int .i64 a2] W fun e w' => e = .returned (.bool true) ∧ Below W.heap.size W w' := by
  obtain ⟨r0, hr⟩ : ∃ r0, greatB p0 p1 a2 = r0 := ⟨_, rfl⟩
  have HR := Lib.hid hr
  clear hr
  obtain ⟨p0a, p0b⟩ := p0
  obtain ⟨p1a, p1b⟩ := p1
  simp only [Wdw.val] at *
  obtain ⟨wB, hwB⟩ : ∃ wB, wB = (W.alloc (.cells #[.int .i64 p0a, .int .i64 p0b] 45)).alloc (.cells #[.int .i64 p1a, .int .i64 p1b] 45) := ⟨_, rfl⟩
  obtain ⟨hk0, hk1, hsz, acc⟩ := two_blocks hwB
  have bx0 : WdwAt wB ⟨W.heap.size, 0, none⟩ ⟨p0a, p0b⟩ := wdw_of_block hk0
  have lt0 : W.heap.size < wB.heap.size := by omega
  obtain ⟨x0a, x0b⟩ := wdw_head bx0
  simp only at x0a x0b
  have bx1 : WdwAt wB ⟨W.heap.size + 1, 0, none⟩ ⟨p1a, p1b⟩ := wdw_of_block hk1
  have lt1 : W.heap.size + 1 < wB.heap.size := by omega
  obtain ⟨x1a, x1b⟩ := wdw_head bx1
  simp only at x1a x1b
  clear hk0 hk1 hsz
  go_enter Try.func8, Try.ntmps8
  go_wp2
  rw [← hwB]
  clear hwB
  go_region_held3 (fun W' => W'.cell? ⟨W.heap.size, 0, none⟩ = some (.int .i64 p0a) ∧ W'.cell? ⟨W.heap.size, 1, none⟩ = some (.int .i64 p0b) ∧ W'.cell? ⟨W.heap.size + 1, 0, none⟩ = some (.int .i64 p1a) ∧ W'.cell? ⟨W.heap.size + 1, 1, none⟩ = some (.int .i64 p1b)) (first | exact ⟨x0a, x0b, x1a, x1b⟩ | fail "keep")
    (first
      | (go_at_call 31; refine (law_toWindow ⟨_, _⟩ _).mono ?_; rintro e w1 ⟨rfl, hb⟩; (first | replace hb := below_undrew hb | skip); clear x0a x0b x1a x1b; replace bx0 := bx0.below hb lt0; replace bx1 := bx1.below hb lt1; replace lt0 := Nat.lt_of_lt_of_le lt0 hb.size; replace lt1 := Nat.lt_of_lt_of_le lt1 hb.size; obtain ⟨x0a, x0b⟩ := wdw_head bx0; simp only at x0a x0b; obtain ⟨x1a, x1b⟩ := wdw_head bx1; simp only at x1a x1b; replace acc := acc.trans (hb.mono acc.size); clear hb)
      | (go_at_call 35; refine (sp_GreatestBand ⟨_, _⟩ ⟨_, _⟩ a2 _ wp0 wp1 wa2 r0 HR.out).mono ?_; rintro e w1 ⟨rfl, hb⟩; (first | replace hb := below_undrew hb | skip); clear x0a x0b x1a x1b; replace bx0 := bx0.below hb lt0; replace bx1 := bx1.below hb lt1; replace lt0 := Nat.lt_of_lt_of_le lt0 hb.size; replace lt1 := Nat.lt_of_lt_of_le lt1 hb.size; obtain ⟨x0a, x0b⟩ := wdw_head bx0; simp only at x0a x0b; obtain ⟨x1a, x1b⟩ := wdw_head bx1; simp only at x1a x1b; replace acc := acc.trans (hb.mono acc.size); clear hb))
  go_wp2
  go_region_held3 (fun W' => W'.cell? ⟨W.heap.size, 0, none⟩ = some (.int .i64 p0a) ∧ W'.cell? ⟨W.heap.size, 1, none⟩ = some (.int .i64 p0b) ∧ W'.cell? ⟨W.heap.size + 1, 0, none⟩ = some (.int .i64 p1a) ∧ W'.cell? ⟨W.heap.size + 1, 1, none⟩ = some (.int .i64 p1b)) (first | exact ⟨x0a, x0b, x1a, x1b⟩ | fail "keep")
    (first
      | (go_at_call 31; refine (law_toWindow ⟨_, _⟩ _).mono ?_; rintro e w1 ⟨rfl, hb⟩; (first | replace hb := below_undrew hb | skip); clear x0a x0b x1a x1b; replace bx0 := bx0.below hb lt0; replace bx1 := bx1.below hb lt1; replace lt0 := Nat.lt_of_lt_of_le lt0 hb.size; replace lt1 := Nat.lt_of_lt_of_le lt1 hb.size; obtain ⟨x0a, x0b⟩ := wdw_head bx0; simp only at x0a x0b; obtain ⟨x1a, x1b⟩ := wdw_head bx1; simp only at x1a x1b; replace acc := acc.trans (hb.mono acc.size); clear hb)
      | (go_at_call 36; refine (im_GreatestBand ⟨_, _⟩ ⟨_, _⟩ a2 _ wp0 wp1 wa2 r0 HR.out).mono ?_; rintro e w1 ⟨rfl, hb⟩; (first | replace hb := below_undrew hb | skip); clear x0a x0b x1a x1b; replace bx0 := bx0.below hb lt0; replace bx1 := bx1.below hb lt1; replace lt0 := Nat.lt_of_lt_of_le lt0 hb.size; replace lt1 := Nat.lt_of_lt_of_le lt1 hb.size; obtain ⟨x0a, x0b⟩ := wdw_head bx0; simp only at x0a x0b; obtain ⟨x1a, x1b⟩ := wdw_head bx1; simp only at x1a x1b; replace acc := acc.trans (hb.mono acc.size); clear hb))
  go_wp2
  go_ret
  exact ⟨rfl, acc⟩
end Go.Proofs.Ytnlffefekpjbcab
