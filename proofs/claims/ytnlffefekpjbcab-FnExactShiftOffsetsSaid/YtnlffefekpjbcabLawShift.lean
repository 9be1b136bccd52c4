/- ShiftOffsets as its exact law meets it. -/
import Derived.Test.YtnlffefekpjbcabShift
namespace Go.Proofs.Ytnlffefekpjbcab
open Go.RowKit
set_option linter.unusedVariables false

theorem shiftO_length (zs : List Int) (m c : Int) : (shiftO zs m c).length = zs.length := by unfold shiftO; split <;> simp
theorem sp_ShiftOffsets (A0 : Option Addr) (n0 c0 : Nat) (zs0 : List Int) (a1 a2 : Int) (w : World) (h0 : Sl .i64 w A0 n0 c0 zs0) (hs0 : n0 ≤ 1048576) (wa1 : (Lit.int .i64 a1).wf = true) (wa2 : (Lit.int .i64 a2).wf = true) (r : List Int) (hr : shiftO zs0 a1 a2 = r) :
    Calls Try.prog 42 #[.slice A0 n0 c0, .int .i64 a1, .int .i64 a2] w fun e w' => ∃ v, e = .returned v ∧ Own .i64 3 w' w.heap.size v r ∧ Below w.heap.size w w' ∧ r.length ≤ 1048576 := by
  subst hr
  exact (spec_ShiftOffsets A0 n0 c0 _ zs0 a1 a2 w h0.ints (Nat.le_refl _) h0.bare hs0).mono fun e w' ⟨v, h1, h2, h3⟩ => ⟨v, h1, h2, h3, by rw [shiftO_length, h0.ints.1]; exact hs0⟩
theorem im_ShiftOffsets (A0 : Option Addr) (n0 c0 : Nat) (zs0 : List Int) (a1 a2 : Int) (w : World) (h0 : Sl .i64 w A0 n0 c0 zs0) (hs0 : n0 ≤ 1048576) (wa1 : (Lit.int .i64 a1).wf = true) (wa2 : (Lit.int .i64 a2).wf = true) (r : List Int) (hr : shiftO zs0 a1 a2 = r) :
    Calls Try.prog 44 #[.slice A0 n0 c0, .int .i64 a1, .int .i64 a2] w fun e w' => ∃ v, e = .returned v ∧ Own .i64 3 w' w.heap.size v r ∧ Below w.heap.size w w' ∧ r.length ≤ 1048576 := by
  subst hr
  exact (impl_ShiftOffsets A0 n0 c0 _ zs0 a1 a2 w h0.ints (Nat.le_refl _) h0.bare hs0).mono fun e w' ⟨v, h1, h2, h3⟩ => ⟨v, h1, h2, h3, by rw [shiftO_length, h0.ints.1]; exact hs0⟩
end Go.Proofs.Ytnlffefekpjbcab
