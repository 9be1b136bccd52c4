/- The walk of 'FnExactIsTrusted'. -/
import Derived.Test.YtgdficjihkglpaaDemM
import Derived.Test.YtgdficjihkglpaaDemI
import Derived.Test.YtgdficjihkglpaaDet
namespace Go.Proofs.Ytgdficjihkglpaa
open Go.RowKit
set_option linter.unusedVariables false

set_option maxHeartbeats 1000000 in
set_option maxRecDepth 100000 in
theorem walk_FnExactIsTrusted (W : World) (p0 : Det) (wp0 : p0.wf) :
    Calls Try.prog 7 #[p0.val] W fun e w' => e = .returned (.bool true) ∧ Below W.heap.size W w' := by
  obtain ⟨r0, hr⟩ : ∃ r0, trust p0 = r0 := ⟨_, rfl⟩
  have HR := Lib.hid hr
  clear hr
  have ht := fun x => law_toDetector p0 x
  have hs := fun x => spec_IsTrusted p0 x
  have hi := fun x => impl_IsTrusted p0 x
  rw [HR.out] at hs hi
  obtain ⟨a, b, c, d⟩ := p0
  simp only [Det.val] at *
  have HB0 := Lib.hid ((Below.refl W.heap.size W).alloc (Nat.le_refl _) (.cells #[.int .i64 a, .int .i64 b, .int .i64 c, .bool d] 42))
  go_enter Try.func7, Try.ntmps7
  go_wp2_with fail
  refine (ht _).mono ?_
  rintro e w1 ⟨rfl, hb1⟩
  have HB1 := Lib.hid (HB0.out.trans (hb1.mono HB0.out.size))
  have x0 : w1.cell? ⟨W.heap.size, 0, none⟩ = some (.int .i64 a) := (hb1.cell (p := ⟨W.heap.size, 0, none⟩) (by simp)).trans (by go_simp)
  have x1 : w1.cell? ⟨W.heap.size, 1, none⟩ = some (.int .i64 b) := (hb1.cell (p := ⟨W.heap.size, 1, none⟩) (by simp)).trans (by go_simp)
  have x2 : w1.cell? ⟨W.heap.size, 2, none⟩ = some (.int .i64 c) := (hb1.cell (p := ⟨W.heap.size, 2, none⟩) (by simp)).trans (by go_simp)
  have x3 : w1.cell? ⟨W.heap.size, 3, none⟩ = some (.bool d) := (hb1.cell (p := ⟨W.heap.size, 3, none⟩) (by simp)).trans (by go_simp)
  have hlt : W.heap.size < w1.heap.size := by have := hb1.size; simp at this; omega
  clear hb1
  go_wp2_with fail
  refine (hs _).mono ?_
  rintro e w2 ⟨rfl, hb2⟩
  have HB2 := Lib.hid (HB1.out.trans (hb2.mono HB1.out.size))
  have y0 := (hb2.cell (p := ⟨W.heap.size, 0, none⟩) hlt).trans x0
  have y1 := (hb2.cell (p := ⟨W.heap.size, 1, none⟩) hlt).trans x1
  have y2 := (hb2.cell (p := ⟨W.heap.size, 2, none⟩) hlt).trans x2
  have y3 := (hb2.cell (p := ⟨W.heap.size, 3, none⟩) hlt).trans x3
  clear hb2 x0 x1 x2 x3
  go_wp2_with fail
  refine (ht _).mono ?_
  rintro e w3 ⟨rfl, hb3⟩
  have HB3 := Lib.hid (HB2.out.trans (hb3.mono HB2.out.size))
  clear hb3 y0 y1 y2 y3
  go_wp2_with fail
  refine (hi _).mono ?_
  rintro e w4 ⟨rfl, hb4⟩
  have HB4 := Lib.hid (HB3.out.trans (hb4.mono HB3.out.size))
  clear hb4
  cases r0
  all_goals
    go_wp2
    go_ret
    exact ⟨rfl, HB4.out⟩
end Go.Proofs.Ytgdficjihkglpaa
