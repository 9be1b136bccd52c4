/- StreetsFrom as exact laws meet it. -/
import Derived.Test.YtmcoeafkbpeelaaStf
import Derived.Test.YtmcoeafkbpeelaaMem
namespace Go.Proofs.Ytmcoeafkbpeelaa
open Go.RowKit
set_option linter.unusedVariables false

theorem sp_StreetsFrom (A0 : Option Addr) (n0 c0 : Nat) (zs0 : List Stt) (a1 : Int) (w : World) (h0 : SlStt w A0 n0 c0 zs0) (hs0 : n0 ≤ 1048576) (wa1 : (Lit.int .i64 a1).wf = true) (r : List Int) (hr : stF zs0 a1 = r) :
    Calls Try.prog 31 #[.slice A0 n0 c0, .int .i64 a1] w fun e w' => ∃ v, e = .returned v ∧ Own .i64 3 w' w.heap.size v r ∧ Below w.heap.size w w' ∧ r.length ≤ 1048576 := by
  subst hr
  have hl := h0.len
  have := stF_len zs0 a1
  exact (spec_StreetsFrom A0 n0 c0 _ zs0 a1 w h0.pths (Nat.le_refl _) hs0).mono fun e w' ⟨v, h1, h2, h3⟩ => ⟨v, h1, h2, h3, by omega⟩
theorem im_StreetsFrom (A0 : Option Addr) (n0 c0 : Nat) (zs0 : List Stt) (a1 : Int) (w : World) (h0 : SlStt w A0 n0 c0 zs0) (hs0 : n0 ≤ 1048576) (wa1 : (Lit.int .i64 a1).wf = true) (r : List Int) (hr : stF zs0 a1 = r) :
    Calls Try.prog 33 #[.slice A0 n0 c0, .int .i64 a1] w fun e w' => ∃ v, e = .returned v ∧ Own .i64 3 w' w.heap.size v r ∧ Below w.heap.size w w' ∧ r.length ≤ 1048576 := by
  subst hr
  have hl := h0.len
  have := stF_len zs0 a1
  exact (impl_StreetsFrom A0 n0 c0 _ zs0 a1 w h0.pths (Nat.le_refl _) hs0).mono fun e w' ⟨v, h1, h2, h3⟩ => ⟨v, h1, h2, h3, by omega⟩
end Go.Proofs.Ytmcoeafkbpeelaa
