/- Chapter 4's functions of the program: valid paths, places, packed paths. -/
import Derived.Test.YtdlcjmdkafebpaaPath
import Derived.Test.YtdlcjmdkafebpaaBit
namespace Go.Proofs.Ytdlcjmdkafebpaa
open Go.RowKit
set_option linter.unusedVariables false

theorem impl_isArm (a : Int) (w : World) : Calls Try.prog 149 #[.int .i64 a] w fun e w' => e = .returned (.bool (inB a 0 3)) ∧ w = w' := by
  go_enter Try.func149, Try.ntmps149
  go_wp2_with fail
  refine (impl_InRange _ _ _ _).mono ?_
  rintro e w1 ⟨rfl, rfl⟩
  go_wp2
  go_ret
  exact ⟨rfl, rfl⟩
theorem impl_IsPath (p : Pth) (w : World) : Calls Try.prog 134 #[p.val] w fun e w' => e = .returned (.bool (isP p)) ∧ Below w.heap.size w w' := by
  obtain ⟨a, b, c, d⟩ := p
  simp only [Pth.val]
  have HI : Hid (isP ⟨a, b, c, d⟩ = (inB a 1 20 && inB b 1 3 && inB c 0 3 && inB d 0 3 && (decide (c = d) == decide (b = 2)))) := Lib.hid rfl
  go_enter Try.func134, Try.ntmps134
  go_wp2_with fail
  refine (impl_InRange _ _ _ _).mono ?_
  rintro e w1 ⟨rfl, rfl⟩
  cases h0 : inB a 1 20
  · rw [h0] at HI
    go_wp2
    go_ret
    exact ⟨by rw [HI.out]; simp, (Below.refl _ _).alloc (Nat.le_refl _) _⟩
  · rw [h0] at HI
    go_wp2_with fail
    refine (impl_InRange _ _ _ _).mono ?_
    rintro e w1 ⟨rfl, rfl⟩
    cases h1 : inB b 1 3
    · rw [h1] at HI
      go_wp2
      go_ret
      exact ⟨by rw [HI.out]; simp, (Below.refl _ _).alloc (Nat.le_refl _) _⟩
    · rw [h1] at HI
      go_wp2_with fail
      refine (impl_isArm _ _).mono ?_
      rintro e w1 ⟨rfl, rfl⟩
      cases h2 : inB c 0 3
      · rw [h2] at HI
        go_wp2
        go_ret
        exact ⟨by rw [HI.out]; simp, (Below.refl _ _).alloc (Nat.le_refl _) _⟩
      · rw [h2] at HI
        go_wp2_with fail
        refine (impl_isArm _ _).mono ?_
        rintro e w1 ⟨rfl, rfl⟩
        cases h3 : inB d 0 3
        · rw [h3] at HI
          go_wp2
          go_ret
          exact ⟨by rw [HI.out]; first | (simp; done) | (simp; rfl), (Below.refl _ _).alloc (Nat.le_refl _) _⟩
        · rw [h3] at HI
          go_wp2
          go_ret
          exact ⟨by rw [HI.out]; first | (simp; done) | (simp; rfl), (Below.refl _ _).alloc (Nat.le_refl _) _⟩
end Go.Proofs.Ytdlcjmdkafebpaa
