/- MendLamp as exact laws meet them. -/
import Derived.Test.YtdlcjmdkafebpaaMend
import Derived.Test.YtdlcjmdkafebpaaLmpM
namespace Go.Proofs.Ytdlcjmdkafebpaa
open Go.RowKit
set_option linter.unusedVariables false

theorem sp_MendLamp (A0 : Option Addr) (n0 c0 : Nat) (zs0 : List Lmp) (a1 : Int) (a2 : Int) (w : World) (h0 : SlLmp w A0 n0 c0 zs0) (hs0 : n0 ≤ 1048576) (wa1 : (Lit.int .i64 a1).wf = true) (wa2 : (Lit.int .i64 a2).wf = true) (r : List Lmp) (hr : mendL zs0 a1 a2 = r) :
    Calls Try.prog 42 #[.slice A0 n0 c0, .int .i64 a1, .int .i64 a2] w fun e w' => ∃ v, e = .returned v ∧ w'.ownsRow w.heap.size 108 3 v r.length (lmpcells r) ∧ Below w.heap.size w w' ∧ r.length ≤ 1048576 := by
  subst hr
  refine (spec_MendLamp A0 n0 c0 _ zs0 a1 a2 w h0.pths (Nat.le_refl _) h0.bare h0.small).mono fun e w' ⟨v, h1, h2, h3⟩ => ⟨v, h1, ?_, h3, ?_⟩
  · rw [show (mendL zs0 a1 a2).length = n0 by unfold mendL; rw [List.length_map, h0.pths.1]]
    exact h2
  · rw [show (mendL zs0 a1 a2).length = n0 by unfold mendL; rw [List.length_map, h0.pths.1]]
    exact hs0
theorem im_MendLamp (A0 : Option Addr) (n0 c0 : Nat) (zs0 : List Lmp) (a1 : Int) (a2 : Int) (w : World) (h0 : SlLmp w A0 n0 c0 zs0) (hs0 : n0 ≤ 1048576) (wa1 : (Lit.int .i64 a1).wf = true) (wa2 : (Lit.int .i64 a2).wf = true) (r : List Lmp) (hr : mendL zs0 a1 a2 = r) :
    Calls Try.prog 43 #[.slice A0 n0 c0, .int .i64 a1, .int .i64 a2] w fun e w' => ∃ v, e = .returned v ∧ w'.ownsRow w.heap.size 108 3 v r.length (lmpcells r) ∧ Below w.heap.size w w' ∧ r.length ≤ 1048576 := by
  subst hr
  refine (impl_MendLamp A0 n0 c0 _ zs0 a1 a2 w h0.pths (Nat.le_refl _) h0.bare h0.small).mono fun e w' ⟨v, h1, h2, h3⟩ => ⟨v, h1, ?_, h3, ?_⟩
  · rw [show (mendL zs0 a1 a2).length = n0 by unfold mendL; rw [List.length_map, h0.pths.1]]
    exact h2
  · rw [show (mendL zs0 a1 a2).length = n0 by unfold mendL; rw [List.length_map, h0.pths.1]]
    exact hs0
end Go.Proofs.Ytdlcjmdkafebpaa
