/- CallAll as exact laws meet them. -/
import Derived.Test.YtdgpodopkfnpeaaCallA
import Derived.Test.YtdgpodopkfnpeaaPthM
namespace Go.Proofs.Ytdgpodopkfnpeaa
open Go.RowKit
set_option linter.unusedVariables false

theorem sp_CallAll (A0 : Option Addr) (n0 c0 : Nat) (zs0 : List Pth) (w : World) (h0 : SlP w A0 n0 c0 zs0) (hs0 : n0 ≤ 1048576) (r : List Evt) (hr : callL zs0 = r) :
    Calls Try.prog 56 #[.slice A0 n0 c0] w fun e w' => ∃ v, e = .returned v ∧ w'.ownsRow w.heap.size 100 4 v r.length (evtcells r) ∧ Below w.heap.size w w' ∧ r.length ≤ 1048576 := by
  subst hr
  refine (spec_CallAll A0 n0 c0 _ zs0 w h0.pths (Nat.le_refl _) hs0).mono fun e w' ⟨v, h1, h2, h3⟩ => ⟨v, h1, ?_, h3, ?_⟩
  · rw [callL_length, h0.pths.1]
    exact h2
  · rw [callL_length, h0.pths.1]
    exact hs0
theorem im_CallAll (A0 : Option Addr) (n0 c0 : Nat) (zs0 : List Pth) (w : World) (h0 : SlP w A0 n0 c0 zs0) (hs0 : n0 ≤ 1048576) (r : List Evt) (hr : callL zs0 = r) :
    Calls Try.prog 57 #[.slice A0 n0 c0] w fun e w' => ∃ v, e = .returned v ∧ w'.ownsRow w.heap.size 100 4 v r.length (evtcells r) ∧ Below w.heap.size w w' ∧ r.length ≤ 1048576 := by
  subst hr
  refine (impl_CallAll A0 n0 c0 _ zs0 w h0.pths (Nat.le_refl _) hs0).mono fun e w' ⟨v, h1, h2, h3⟩ => ⟨v, h1, ?_, h3, ?_⟩
  · rw [callL_length, h0.pths.1]
    exact h2
  · rw [callL_length, h0.pths.1]
    exact hs0
end Go.Proofs.Ytdgpodopkfnpeaa
