/- Chapters 4 and 5 as their exact laws meet them. -/
import Derived.Test.YteilcbmpmeggcabConf2
import Derived.Test.YteilcbmpmeggcabConfI
import Derived.Test.YteilcbmpmeggcabFindI
import Derived.Test.YteilcbmpmeggcabPthM
namespace Go.Proofs.Yteilcbmpmeggcab
open Go.RowKit
set_option linter.unusedVariables false

def findX (ps : List Pth) (id : Int) : Int := findI id ps
theorem sp_InPlace (a0 : Int) (w : World) (wa0 : (Lit.int .i64 a0).wf = true) (r : Int) (hr : inPl a0 = r) :
    Calls Try.prog 22 #[.int .i64 a0] w fun e w' => e = .returned (.int .i64 r) ∧ Below w.heap.size w w' := by
  subst hr
  exact (spec_InPlace a0 w).mono fun e w' ⟨h1, h2⟩ => ⟨h1, h2 ▸ Below.refl _ _⟩
theorem im_InPlace (a0 : Int) (w : World) (wa0 : (Lit.int .i64 a0).wf = true) (r : Int) (hr : inPl a0 = r) :
    Calls Try.prog 39 #[.int .i64 a0] w fun e w' => e = .returned (.int .i64 r) ∧ Below w.heap.size w w' := by
  subst hr
  exact (impl_InPlace a0 w).mono fun e w' ⟨h1, h2⟩ => ⟨h1, h2 ▸ Below.refl _ _⟩
theorem sp_OutPlace (a0 : Int) (w : World) (wa0 : (Lit.int .i64 a0).wf = true) (r : Int) (hr : outPl a0 = r) :
    Calls Try.prog 23 #[.int .i64 a0] w fun e w' => e = .returned (.int .i64 r) ∧ Below w.heap.size w w' := by
  subst hr
  exact (spec_OutPlace a0 w).mono fun e w' ⟨h1, h2⟩ => ⟨h1, h2 ▸ Below.refl _ _⟩
theorem im_OutPlace (a0 : Int) (w : World) (wa0 : (Lit.int .i64 a0).wf = true) (r : Int) (hr : outPl a0 = r) :
    Calls Try.prog 40 #[.int .i64 a0] w fun e w' => e = .returned (.int .i64 r) ∧ Below w.heap.size w w' := by
  subst hr
  exact (impl_OutPlace a0 w).mono fun e w' ⟨h1, h2⟩ => ⟨h1, h2 ▸ Below.refl _ _⟩
theorem sp_IsPath (p0 : Pth) (w : World) (wp0 : p0.wf) (r : Bool) (hr : isP p0 = r) :
    Calls Try.prog 20 #[p0.val] w fun e w' => e = .returned (.bool r) ∧ Below w.heap.size w w' := by
  subst hr
  exact (spec_IsPath p0 w)
theorem im_IsPath (p0 : Pth) (w : World) (wp0 : p0.wf) (r : Bool) (hr : isP p0 = r) :
    Calls Try.prog 29 #[p0.val] w fun e w' => e = .returned (.bool r) ∧ Below w.heap.size w w' := by
  subst hr
  exact (impl_IsPath p0 w)
theorem sp_Interleave (a0 : Int) (a1 : Int) (a2 : Int) (a3 : Int) (w : World) (wa0 : (Lit.int .i64 a0).wf = true) (wa1 : (Lit.int .i64 a1).wf = true) (wa2 : (Lit.int .i64 a2).wf = true) (wa3 : (Lit.int .i64 a3).wf = true) (r : Bool) (hr : inter a0 a1 a2 a3 = r) :
    Calls Try.prog 21 #[.int .i64 a0, .int .i64 a1, .int .i64 a2, .int .i64 a3] w fun e w' => e = .returned (.bool r) ∧ Below w.heap.size w w' := by
  subst hr
  exact (spec_Interleave a0 a1 a2 a3 w)
theorem im_Interleave (a0 : Int) (a1 : Int) (a2 : Int) (a3 : Int) (w : World) (wa0 : (Lit.int .i64 a0).wf = true) (wa1 : (Lit.int .i64 a1).wf = true) (wa2 : (Lit.int .i64 a2).wf = true) (wa3 : (Lit.int .i64 a3).wf = true) (r : Bool) (hr : inter a0 a1 a2 a3 = r) :
    Calls Try.prog 38 #[.int .i64 a0, .int .i64 a1, .int .i64 a2, .int .i64 a3] w fun e w' => e = .returned (.bool r) ∧ Below w.heap.size w w' := by
  subst hr
  exact (impl_Interleave a0 a1 a2 a3 w)
theorem sp_Conflict (p0 : Pth) (p1 : Pth) (w : World) (wp0 : p0.wf) (wp1 : p1.wf) (r : Bool) (hr : conf p0 p1 = r) :
    Calls Try.prog 13 #[p0.val, p1.val] w fun e w' => e = .returned (.bool r) ∧ Below w.heap.size w w' := by
  subst hr
  exact (spec_Conflict p0 p1 w)
theorem im_Conflict (p0 : Pth) (p1 : Pth) (w : World) (wp0 : p0.wf) (wp1 : p1.wf) (r : Bool) (hr : conf p0 p1 = r) :
    Calls Try.prog 25 #[p0.val, p1.val] w fun e w' => e = .returned (.bool r) ∧ Below w.heap.size w w' := by
  subst hr
  exact (impl_Conflict p0 p1 w)
theorem sp_ArePaths (A0 : Option Addr) (n0 c0 : Nat) (zs0 : List Pth) (w : World) (h0 : SlP w A0 n0 c0 zs0) (hs0 : n0 ≤ 1048576) (r : Bool) (hr : arePs zs0 = r) :
    Calls Try.prog 12 #[.slice A0 n0 c0] w fun e w' => e = .returned (.bool r) ∧ Below w.heap.size w w' := by
  subst hr
  exact (spec_ArePaths A0 n0 c0 _ zs0 w h0.pths (Nat.le_refl _) h0.small)
theorem im_ArePaths (A0 : Option Addr) (n0 c0 : Nat) (zs0 : List Pth) (w : World) (h0 : SlP w A0 n0 c0 zs0) (hs0 : n0 ≤ 1048576) (r : Bool) (hr : arePs zs0 = r) :
    Calls Try.prog 24 #[.slice A0 n0 c0] w fun e w' => e = .returned (.bool r) ∧ Below w.heap.size w w' := by
  subst hr
  exact (impl_ArePaths A0 n0 c0 _ zs0 w h0.pths (Nat.le_refl _) h0.small)
theorem sp_FindPath (A0 : Option Addr) (n0 c0 : Nat) (zs0 : List Pth) (a1 : Int) (w : World) (h0 : SlP w A0 n0 c0 zs0) (hs0 : n0 ≤ 1048576) (wa1 : (Lit.int .i64 a1).wf = true) (r : Int) (hr : findX zs0 a1 = r) :
    Calls Try.prog 10 #[.slice A0 n0 c0, .int .i64 a1] w fun e w' => e = .returned (.int .i64 r) ∧ Below w.heap.size w w' := by
  subst hr
  exact (spec_FindPath A0 n0 c0 _ zs0 a1 w h0.pths h0.small).mono fun e w' ⟨h1, h2⟩ => ⟨h1, h2 ▸ Below.refl _ _⟩
theorem im_FindPath (A0 : Option Addr) (n0 c0 : Nat) (zs0 : List Pth) (a1 : Int) (w : World) (h0 : SlP w A0 n0 c0 zs0) (hs0 : n0 ≤ 1048576) (wa1 : (Lit.int .i64 a1).wf = true) (r : Int) (hr : findX zs0 a1 = r) :
    Calls Try.prog 11 #[.slice A0 n0 c0, .int .i64 a1] w fun e w' => e = .returned (.int .i64 r) ∧ Below w.heap.size w w' := by
  subst hr
  exact (impl_FindPath A0 n0 c0 _ zs0 a1 w h0.pths (Nat.le_refl _) h0.small)
end Go.Proofs.Yteilcbmpmeggcab
