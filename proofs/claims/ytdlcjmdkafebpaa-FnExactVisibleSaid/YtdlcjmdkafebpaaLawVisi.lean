/- Visible as exact laws meet them. -/
import Derived.Test.YtdlcjmdkafebpaaVisi
import Derived.Test.YtdlcjmdkafebpaaPthM
namespace Go.Proofs.Ytdlcjmdkafebpaa
open Go.RowKit
set_option linter.unusedVariables false

theorem sp_Visible (A0 : Option Addr) (n0 c0 : Nat) (zs0 : List Pth) (A1 : Option Addr) (n1 c1 : Nat) (zs1 : List Lmp) (A2 : Option Addr) (n2 c2 : Nat) (zs2 : List Int) (w : World) (h0 : SlP w A0 n0 c0 zs0) (hs0 : n0 ≤ 1048576) (h1 : SlLmp w A1 n1 c1 zs1) (hs1 : n1 ≤ 1048576) (h2 : Sl .i64 w A2 n2 c2 zs2) (hs2 : n2 ≤ 1048576) (r : List Int) (hr : visL zs0 zs1 zs2 = r) :
    Calls Try.prog 34 #[.slice A0 n0 c0, .slice A1 n1 c1, .slice A2 n2 c2] w fun e w' => ∃ v, e = .returned v ∧ Own .i64 3 w' w.heap.size v r ∧ Below w.heap.size w w' ∧ r.length ≤ 1048576 := by
  subst hr
  refine (spec_Visible A0 n0 c0 _ zs0 A1 n1 c1 _ zs1 A2 n2 c2 _ zs2 w h0.pths h1.pths h2.ints (Nat.le_refl _) (Nat.le_refl _) (Nat.le_refl _) (by omega) (by omega) (by omega)).mono fun e w' ⟨v, h1, h2, h3⟩ => ⟨v, h1, h2, h3, ?_⟩
  have := visL_length zs0 zs1 zs2
  have := h0.pths.1
  omega
theorem im_Visible (A0 : Option Addr) (n0 c0 : Nat) (zs0 : List Pth) (A1 : Option Addr) (n1 c1 : Nat) (zs1 : List Lmp) (A2 : Option Addr) (n2 c2 : Nat) (zs2 : List Int) (w : World) (h0 : SlP w A0 n0 c0 zs0) (hs0 : n0 ≤ 1048576) (h1 : SlLmp w A1 n1 c1 zs1) (hs1 : n1 ≤ 1048576) (h2 : Sl .i64 w A2 n2 c2 zs2) (hs2 : n2 ≤ 1048576) (r : List Int) (hr : visL zs0 zs1 zs2 = r) :
    Calls Try.prog 36 #[.slice A0 n0 c0, .slice A1 n1 c1, .slice A2 n2 c2] w fun e w' => ∃ v, e = .returned v ∧ Own .i64 3 w' w.heap.size v r ∧ Below w.heap.size w w' ∧ r.length ≤ 1048576 := by
  subst hr
  refine (impl_Visible A0 n0 c0 _ zs0 A1 n1 c1 _ zs1 A2 n2 c2 _ zs2 w h0.pths h1.pths h2.ints (Nat.le_refl _) (Nat.le_refl _) (Nat.le_refl _) (by omega) (by omega) (by omega) h0.wf h1.wf h2.wf).mono fun e w' ⟨v, h1, h2, h3⟩ => ⟨v, h1, h2, h3, ?_⟩
  have := visL_length zs0 zs1 zs2
  have := h0.pths.1
  omega
end Go.Proofs.Ytdlcjmdkafebpaa
