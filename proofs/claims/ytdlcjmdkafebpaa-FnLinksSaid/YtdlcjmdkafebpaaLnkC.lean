/- Chapter 23: IsLink, HearLink, LinkState: program and model. -/
import Derived.Test.YtdlcjmdkafebpaaLnkP
import Derived.Laws.StructEq
import Derived.Handy
namespace Go.Proofs.Ytdlcjmdkafebpaa
open Go.RowKit
set_option linter.unusedVariables false

theorem impl_isCrossing (n : Int) (w : World) : Calls Try.prog 130 #[.int .i64 n] w fun e w' => e = .returned (.bool (inB n 1 8)) ∧ w = w' := by
  go_enter Try.func130, Try.ntmps130
  go_wp2_with fail
  refine (impl_InRange _ _ _ _).mono ?_
  rintro e w1 ⟨rfl, rfl⟩
  go_wp2
  go_ret
  exact ⟨rfl, rfl⟩
theorem impl_isSecond (n : Int) (w : World) : Calls Try.prog 129 #[.int .i64 n] w fun e w' => e = .returned (.bool (inB n 0 1000000)) ∧ w = w' := by
  go_enter Try.func129, Try.ntmps129
  go_wp2_with fail
  refine (impl_InRange _ _ _ _).mono ?_
  rintro e w1 ⟨rfl, rfl⟩
  go_wp2
  go_ret
  exact ⟨rfl, rfl⟩
theorem impl_isValidL (k : Lnk) (w : World) : Calls Try.prog 113 #[k.val] w fun e w' => e = .returned (.bool (isLnk k)) ∧ Below w.heap.size w w' := by
  obtain ⟨a, b, c, d⟩ := k
  simp only [Lnk.val]
  have HB := Lib.hid ((Below.refl w.heap.size w).alloc (Nat.le_refl _) (.cells #[.int .i64 a, .int .i64 b, .int .i64 c, .int .i64 d] 74))
  have HR : Hid (isLnk ⟨a, b, c, d⟩ = (inB a 1 8 && inB b 0 1000000 && inB c 0 1000000 && inB d 0 200)) := Lib.hid rfl
  cases h1 : inB a 1 8
  rotate_left
  cases h2 : inB b 0 1000000
  rotate_left
  cases h3 : inB c 0 1000000
  rotate_left
  cases h4 : inB d 0 200
  all_goals
    rw [h1] at HR
    try rw [h2] at HR
    try rw [h3] at HR
    try rw [h4] at HR
    try have H1 := Lib.hid h1
    try have H2 := Lib.hid h2
    try have H3 := Lib.hid h3
    try have H4 := Lib.hid h4
    try clear h1
    try clear h2
    try clear h3
    try clear h4
    go_enter Try.func113, Try.ntmps113
    go_wp2_with ((first | (go_at_call 130; refine (impl_isCrossing _ _).mono ?_) | (go_at_call 129; refine (impl_isSecond _ _).mono ?_) | (go_at_call 122; refine (impl_InRange _ _ _ _).mono ?_)); rintro e w' ⟨rfl, rfl⟩; first | rw [H1.out] | rw [H2.out] | rw [H3.out] | rw [H4.out])
    go_ret
    exact ⟨by rw [HR.out]; rfl, HB.out⟩
theorem impl_IsLink (k : Lnk) (w : World) : Calls Try.prog 63 #[k.val] w fun e w' => e = .returned (.bool (isLnk k)) ∧ Below w.heap.size w w' := by
  have hcc := fun x => impl_isValidL k x
  obtain ⟨a, b, c, d⟩ := k
  simp only [Lnk.val] at *
  have HB := Lib.hid ((Below.refl w.heap.size w).alloc (Nat.le_refl _) (.cells #[.int .i64 a, .int .i64 b, .int .i64 c, .int .i64 d] 74))
  go_enter Try.func63, Try.ntmps63
  go_wp2_with fail
  refine (hcc _).mono ?_
  rintro e w1 ⟨rfl, hb1⟩
  go_wp2
  go_ret
  exact ⟨rfl, HB.out.trans (hb1.mono HB.out.size)⟩
end Go.Proofs.Ytdlcjmdkafebpaa
