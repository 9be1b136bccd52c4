/- PathText: the model; its exact law's contracts. -/
import Derived.Test.YteilcbmpmeggcaaDoorTextSc
import Derived.Test.YteilcbmpmeggcaaDoorTextSw
import Derived.Test.YteilcbmpmeggcaaDoorTextSb
namespace Go.Proofs.YteilcbmpmeggcaaDoor
open Go.RowKit
set_option linter.unusedVariables false
theorem spec_PathText (p : Pth) (w : World) : Calls Tryd.prog 41 #[p.val] w fun e w' => e = .returned (.string (pathT p)) ∧ Below w.heap.size w w' := by
  cases hp : isP p
  · have HR := Lib.hid (pathT_no hp)
    have hcc := fun x => spec_IsPath p x
    generalize pathT p = r at *
    rw [hp] at hcc
    obtain ⟨a, b, c, d⟩ := p
    simp only [Pth.val] at *
    clear hp
    go_enter Tryd.func41, Tryd.ntmps41
    go_wp2_with fail
    refine (hcc _).mono ?_
    rintro e w1 ⟨rfl, hb⟩
    have HB := Lib.hid (((Below.refl w.heap.size w).alloc (Nat.le_refl _) (.cells #[.int .i64 a, .int .i64 b, .int .i64 c, .int .i64 d] 25)).trans (hb.mono (by simp)))
    clear hb hcc
    go_wp2
    go_ret
    exact ⟨by rw [HR.out]; rfl, HB.out⟩
  · obtain ⟨a, b, c, d⟩ := p
    have hk := (isP_facts _ hp).2.1
    simp only at hk
    have h3 : b = 1 ∨ b = 2 ∨ b = 3 := by omega
    rcases h3 with rfl | rfl | rfl
    · exact spec_PathTextc a c d hp w
    · exact spec_PathTextw a c d hp w
    · exact spec_PathTextb a c d hp w
theorem sp_PathText (p0 : Pth) (w : World) (wp0 : p0.wf) (r : ByteArray) (hr : pathT p0 = r) :
    Calls Tryd.prog 41 #[p0.val] w fun e w' => e = .returned (.string r) ∧ Below w.heap.size w w' := by
  subst hr
  exact spec_PathText p0 w
end Go.Proofs.YteilcbmpmeggcaaDoor
